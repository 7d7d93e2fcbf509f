/- What Go functions answer: generated. -/
import Derived.Test.YtedncipemdpljaaF1
namespace Go.Proofs.Ytedncipemdpljaa
open Go.RowKit
set_option linter.unusedVariables false

noncomputable def fn_law16_RelateNeeds (xa : (List (Int × Bool))) (xb : (List (Int × Bool))) (xc : Int) (xd : Int) (xe : Int) (xf : Bool) : Option Bool :=
  (fn_ref15_Few xa 20).bind fun t260 => (cond (!t260) (some (true)) ((fn_ref15_Few xb 20).bind fun t276 => some (!t276))).bind fun t271 => cond (t271 || (decide (1099511627776 < xe))) ((fn_law16_awake).bind fun t286 => some (t286)) ((fn_relate_Flow xa xb xd xe).bind fun (l292, i293) => (fn_ref16_Flow xa xb xd xe).bind fun (l303, i304) => (fn_relate_Loan xa xb xc xf).bind fun (l314, i315) => (fn_ref16_Loan xa xb xc xf).bind fun (l325, i326) => (fn_relate_Again xa xb xc xf).bind fun (l336, i337) => (fn_ref16_Again xa xb xc xf).bind fun (l347, i348) => (fn_law16_Doc l292).bind fun l361 => (fn_ref16_Same l361 l303).bind fun t377 => cond (t377 && (decide (i293 = i304))) ((fn_law16_Doc l314).bind fun l416 => (fn_ref16_Same l416 l325).bind fun t432 => cond (t432 && (decide (i315 = i326))) ((fn_law16_Doc l336).bind fun l471 => (fn_ref16_Same l471 l347).bind fun t487 => (cond (t487 && (decide (i337 = i348))) ((fn_law16_awake).bind fun t506 => some (t506)) (some (false))).bind fun t501 => some (t501)) (some (false))) (some (false)))
set_option maxRecDepth 100000 in
set_option maxHeartbeats 4000000 in
theorem law16_RelateNeeds_ok {K : Hp} {xa : (List (Int × Bool))} {xb : (List (Int × Bool))} {xc : Int} {xd : Int} {xe : Int} {xf : Bool} {adxa_0 : Option Addr} {cpxa_0 : Nat} {adxb_0 : Option Addr} {cpxb_0 : Nat} (fxa_0 : Is K (.sl (.cons (.int .i64) (.one .bool))) [.slice adxa_0 xa.length cpxa_0] xa) (fxb_0 : Is K (.sl (.cons (.int .i64) (.one .bool))) [.slice adxb_0 xb.length cpxb_0] xb) {r : Bool} (h : fn_law16_RelateNeeds xa xb xc xd xe xf = some r) :
    Tr Try.prog 3 #[.agg #[.slice adxa_0 xa.length cpxa_0], .agg #[.slice adxb_0 xb.length cpxb_0], .int .i64 xc, .int .i64 xd, .int .i64 xe, .bool xf] K [] (fun v K' L' => (∃ (t255 : Bool), t255 = r ∧ v = .bool t255 ∧ L' = []) ∧ K = K') := by
  refine Tr.k ?_
  refine Tr.of Try.func3 rfl Try.ntmps3 rfl (fun E F => ?_)
  unfold fn_law16_RelateNeeds at h
  refine CJ.seq ?_
  refine CJ.region ?_
  refine J.op rfl (A.box (v := .agg #[.slice adxa_0 xa.length cpxa_0]) (cs := [.slice adxa_0 xa.length cpxa_0]) rfl rfl) ?_
  rintro _ _ _ ⟨b256, rfl, rfl, rfl⟩
  refine J.op rfl (A.box (v := .agg #[.slice adxb_0 xb.length cpxb_0]) (cs := [.slice adxb_0 xb.length cpxb_0]) rfl rfl) ?_
  rintro _ _ _ ⟨b257, rfl, rfl, rfl⟩
  refine J.val (v := .bool false) rfl rfl (V.as rfl) ?_
  refine J.nil ?_
  refine CJ.seq ?_
  refine CJ.seq ?_
  refine CJ.region ?_
  refine J.val (v := .agg #[.slice adxa_0 xa.length cpxa_0]) rfl rfl (V.ld rfl (Ld.agg (cs := [.slice adxa_0 xa.length cpxa_0]) Try.underlying24 sz24 rfl (Rd.cls 1 0 rfl rfl))) ?_
  obtain ⟨r258, hr259, h⟩ := ob h
  refine J.op rfl (A.call (L1 := []) Try.call6 rfl (ref15_Few_ok fxa_0 hr259) rfl rfl) ?_
  rintro _ _ _ ⟨v261, _, rfl, ⟨⟨t260, rfl, rfl, rfl⟩, rfl⟩, _, rfl⟩
  refine J.val (v := .bool (!t260)) rfl rfl (V.not rfl) ?_
  refine J.val (v := .bool (!t260)) rfl rfl (V.mv rfl) ?_
  refine J.cut 4 ?_
  obtain ⟨t271, ht272, h⟩ := ob h
  refine @J.meet _ _ _ _ _ _ _ _ _ _ (fun ρ K' L' => Fits [(32, .bool t271), (2, .int .i64 xc), (3, .int .i64 xd), (4, .int .i64 xe), (5, .bool xf), (6, .pointer (some ⟨b256, 0, none⟩)), (7, .pointer (some ⟨b257, 0, none⟩))] ρ ∧ K = K' ∧ L' = Cl b257 24 [.slice adxb_0 xb.length cpxb_0] :: Cl b256 24 [.slice adxa_0 xa.length cpxa_0] :: F) ?_ ?_
  · skip
    rcases bt (!t260) with hc273 | hc273
    · have ht272 := ct hc273 ht272
      refine J.skip rfl rfl rfl rfl hc273 ?_
      refine J.skip rfl rfl rfl rfl hc273 ?_
      refine J.skip rfl rfl rfl rfl hc273 ?_
      refine J.val (v := .bool true) rfl rfl (V.pickT rfl hc273 rfl) ?_
      refine J.nil ?_
      have e := Option.some.inj ht272
      subst e
      exact ⟨rfl, ⟨rfl, rfl, rfl, rfl, rfl, rfl, rfl, trivial⟩, rfl, rfl⟩
    · have ht272 := cf hc273 ht272
      refine J.run rfl rfl rfl hc273 ?_
      refine J.val (v := .agg #[.slice adxb_0 xb.length cpxb_0]) rfl rfl (V.ld rfl (Ld.agg (cs := [.slice adxb_0 xb.length cpxb_0]) Try.underlying24 sz24 rfl (Rd.cls 0 0 rfl rfl))) ?_
      refine J.run rfl rfl rfl hc273 ?_
      obtain ⟨r274, hr275, ht272⟩ := ob ht272
      refine J.op rfl (A.call (L1 := []) Try.call6 rfl (ref15_Few_ok fxb_0 hr275) rfl rfl) ?_
      rintro _ _ _ ⟨v277, _, rfl, ⟨⟨t276, rfl, rfl, rfl⟩, rfl⟩, _, rfl⟩
      refine J.run rfl rfl rfl hc273 ?_
      refine J.val (v := .bool (!t276)) rfl rfl (V.not rfl) ?_
      refine J.val (v := .bool (!t276)) rfl rfl (V.pickF rfl hc273 rfl) ?_
      refine J.nil ?_
      have e := Option.some.inj ht272
      subst e
      exact ⟨rfl, ⟨rfl, rfl, rfl, rfl, rfl, rfl, rfl, trivial⟩, rfl, rfl⟩
  · rintro ρ _ _ ⟨hf, rfl, rfl⟩
    obtain ⟨ρ, rfl⟩ := hf.ex
    refine J.val (v := .bool t271) rfl rfl (V.mv rfl) ?_
    refine J.cut 3 ?_
    refine @J.meet _ _ _ _ _ _ _ _ _ _ (fun ρ K' L' => Fits [(36, .bool (t271 || (decide (1099511627776 < xe)))), (2, .int .i64 xc), (3, .int .i64 xd), (4, .int .i64 xe), (5, .bool xf), (6, .pointer (some ⟨b256, 0, none⟩)), (7, .pointer (some ⟨b257, 0, none⟩))] ρ ∧ K = K' ∧ L' = Cl b257 24 [.slice adxb_0 xb.length cpxb_0] :: Cl b256 24 [.slice adxa_0 xa.length cpxa_0] :: F) ?_ ?_
    · skip
      rcases bt (t271) with hc282 | hc282
      · skip
        refine J.skip rfl rfl rfl rfl hc282 ?_
        refine J.skip rfl rfl rfl rfl hc282 ?_
        refine J.val (v := .bool true) rfl rfl (V.pickT rfl hc282 rfl) ?_
        refine J.nil ?_
        exact ⟨rfl, ⟨(by simp only [hc282]; rfl), rfl, rfl, rfl, rfl, rfl, rfl, trivial⟩, rfl, rfl⟩
      · skip
        refine J.run rfl rfl rfl hc282 ?_
        refine J.val (v := .int .i64 xe) rfl rfl (V.mv rfl) ?_
        refine J.run rfl rfl rfl hc282 ?_
        refine J.val (v := .bool (decide (1099511627776 < xe))) rfl rfl (V.gtr rfl rfl) ?_
        refine J.val (v := .bool (decide (1099511627776 < xe))) rfl rfl (V.pickF rfl hc282 rfl) ?_
        refine J.nil ?_
        exact ⟨rfl, ⟨(by simp only [hc282]; rfl), rfl, rfl, rfl, rfl, rfl, rfl, trivial⟩, rfl, rfl⟩
    · rintro ρ _ _ ⟨hf, rfl, rfl⟩
      obtain ⟨ρ, rfl⟩ := hf.ex
      refine J.nil ?_
      refine CJ.cond rfl (fun hc283 => ?_) (fun hc283 => ?_)
      · have h := ct hc283 h
        refine CJ.seq ?_
        refine CJ.region ?_
        obtain ⟨r284, hr285, h⟩ := ob h
        refine J.op rfl (A.call (L1 := []) Try.call7 rfl (law16_awake_ok hr285) rfl rfl) ?_
        rintro _ _ _ ⟨v287, _, rfl, ⟨⟨t286, rfl, rfl, rfl⟩, rfl⟩, _, rfl⟩
        refine J.val (v := .bool t286) rfl rfl (V.as rfl) ?_
        refine J.nil ?_
        refine CJ.ret ?_
        have e := Option.some.inj h
        subst e
        exact ⟨_, [], Res.one rfl rfl, ⟨t286, rfl, rfl, rfl⟩, (Hp.le_refl _), fun w hs => (Sep.dropAt 0 rfl (Sep.dropAt 0 rfl hs))⟩
      · have h := cf hc283 h
        refine CJ.skip ?_
        refine CJ.seq ?_
        refine CJ.region ?_
        refine J.val (v := .agg #[.slice adxa_0 xa.length cpxa_0]) rfl rfl (V.ld rfl (Ld.agg (cs := [.slice adxa_0 xa.length cpxa_0]) Try.underlying24 sz24 rfl (Rd.cls 1 0 rfl rfl))) ?_
        refine J.val (v := .agg #[.slice adxb_0 xb.length cpxb_0]) rfl rfl (V.ld rfl (Ld.agg (cs := [.slice adxb_0 xb.length cpxb_0]) Try.underlying24 sz24 rfl (Rd.cls 0 0 rfl rfl))) ?_
        refine J.val (v := .int .i64 xd) rfl rfl (V.mv rfl) ?_
        refine J.val (v := .int .i64 xe) rfl rfl (V.mv rfl) ?_
        obtain ⟨r290, hr291, h⟩ := ob h
        refine J.op rfl (A.call (L1 := []) Try.call8 rfl (relate_Flow_ok fxa_0 fxb_0 hr291) rfl rfl) ?_
        rintro _ _ _ ⟨v297, _, rfl, ⟨⟨l292, i293, ad294, cp295, rfl, rfl, rfl⟩, rfl⟩, _, rfl⟩
        refine J.wit Row.hn (fun hn296 => ?_)
        refine J.val (v := .tuple #[.slice ad294 l292.length cp295, .int .i64 i293]) rfl rfl (V.mv rfl) ?_
        refine J.val (v := .slice ad294 l292.length cp295) rfl rfl (V.ext rfl rfl) ?_
        refine J.val (v := .int .i64 i293) rfl rfl (V.ext rfl rfl) ?_
        refine J.val (v := .slice ad294 l292.length cp295) rfl rfl (V.as rfl) ?_
        refine J.val (v := .int .i64 i293) rfl rfl (V.as rfl) ?_
        refine J.nil ?_
        refine CJ.seq ?_
        refine CJ.region ?_
        refine J.val (v := .agg #[.slice adxa_0 xa.length cpxa_0]) rfl rfl (V.ld rfl (Ld.agg (cs := [.slice adxa_0 xa.length cpxa_0]) Try.underlying24 sz24 rfl (Rd.cls 2 0 rfl rfl))) ?_
        refine J.val (v := .agg #[.slice adxb_0 xb.length cpxb_0]) rfl rfl (V.ld rfl (Ld.agg (cs := [.slice adxb_0 xb.length cpxb_0]) Try.underlying24 sz24 rfl (Rd.cls 1 0 rfl rfl))) ?_
        refine J.val (v := .int .i64 xd) rfl rfl (V.mv rfl) ?_
        refine J.val (v := .int .i64 xe) rfl rfl (V.mv rfl) ?_
        obtain ⟨r301, hr302, h⟩ := ob h
        refine J.op rfl (A.call (L1 := []) Try.call9 rfl (ref16_Flow_ok fxa_0 fxb_0 hr302) rfl rfl) ?_
        rintro _ _ _ ⟨v308, _, rfl, ⟨⟨l303, i304, ad305, cp306, rfl, rfl, rfl⟩, rfl⟩, _, rfl⟩
        refine J.wit Row.hn (fun hn307 => ?_)
        refine J.val (v := .tuple #[.slice ad305 l303.length cp306, .int .i64 i304]) rfl rfl (V.mv rfl) ?_
        refine J.val (v := .slice ad305 l303.length cp306) rfl rfl (V.ext rfl rfl) ?_
        refine J.val (v := .int .i64 i304) rfl rfl (V.ext rfl rfl) ?_
        refine J.val (v := .slice ad305 l303.length cp306) rfl rfl (V.as rfl) ?_
        refine J.val (v := .int .i64 i304) rfl rfl (V.as rfl) ?_
        refine J.nil ?_
        refine CJ.seq ?_
        refine CJ.region ?_
        refine J.val (v := .agg #[.slice adxa_0 xa.length cpxa_0]) rfl rfl (V.ld rfl (Ld.agg (cs := [.slice adxa_0 xa.length cpxa_0]) Try.underlying24 sz24 rfl (Rd.cls 3 0 rfl rfl))) ?_
        refine J.val (v := .agg #[.slice adxb_0 xb.length cpxb_0]) rfl rfl (V.ld rfl (Ld.agg (cs := [.slice adxb_0 xb.length cpxb_0]) Try.underlying24 sz24 rfl (Rd.cls 2 0 rfl rfl))) ?_
        refine J.val (v := .int .i64 xc) rfl rfl (V.mv rfl) ?_
        refine J.val (v := .bool xf) rfl rfl (V.mv rfl) ?_
        obtain ⟨r312, hr313, h⟩ := ob h
        refine J.op rfl (A.call (L1 := []) Try.call10 rfl (relate_Loan_ok fxa_0 fxb_0 hr313) rfl rfl) ?_
        rintro _ _ _ ⟨v319, _, rfl, ⟨⟨l314, i315, ad316, cp317, rfl, rfl, rfl⟩, rfl⟩, _, rfl⟩
        refine J.wit Row.hn (fun hn318 => ?_)
        refine J.val (v := .tuple #[.slice ad316 l314.length cp317, .int .i64 i315]) rfl rfl (V.mv rfl) ?_
        refine J.val (v := .slice ad316 l314.length cp317) rfl rfl (V.ext rfl rfl) ?_
        refine J.val (v := .int .i64 i315) rfl rfl (V.ext rfl rfl) ?_
        refine J.val (v := .slice ad316 l314.length cp317) rfl rfl (V.as rfl) ?_
        refine J.val (v := .int .i64 i315) rfl rfl (V.as rfl) ?_
        refine J.nil ?_
        refine CJ.seq ?_
        refine CJ.region ?_
        refine J.val (v := .agg #[.slice adxa_0 xa.length cpxa_0]) rfl rfl (V.ld rfl (Ld.agg (cs := [.slice adxa_0 xa.length cpxa_0]) Try.underlying24 sz24 rfl (Rd.cls 4 0 rfl rfl))) ?_
        refine J.val (v := .agg #[.slice adxb_0 xb.length cpxb_0]) rfl rfl (V.ld rfl (Ld.agg (cs := [.slice adxb_0 xb.length cpxb_0]) Try.underlying24 sz24 rfl (Rd.cls 3 0 rfl rfl))) ?_
        refine J.val (v := .int .i64 xc) rfl rfl (V.mv rfl) ?_
        refine J.val (v := .bool xf) rfl rfl (V.mv rfl) ?_
        obtain ⟨r323, hr324, h⟩ := ob h
        refine J.op rfl (A.call (L1 := []) Try.call11 rfl (ref16_Loan_ok fxa_0 fxb_0 hr324) rfl rfl) ?_
        rintro _ _ _ ⟨v330, _, rfl, ⟨⟨l325, i326, ad327, cp328, rfl, rfl, rfl⟩, rfl⟩, _, rfl⟩
        refine J.wit Row.hn (fun hn329 => ?_)
        refine J.val (v := .tuple #[.slice ad327 l325.length cp328, .int .i64 i326]) rfl rfl (V.mv rfl) ?_
        refine J.val (v := .slice ad327 l325.length cp328) rfl rfl (V.ext rfl rfl) ?_
        refine J.val (v := .int .i64 i326) rfl rfl (V.ext rfl rfl) ?_
        refine J.val (v := .slice ad327 l325.length cp328) rfl rfl (V.as rfl) ?_
        refine J.val (v := .int .i64 i326) rfl rfl (V.as rfl) ?_
        refine J.nil ?_
        refine CJ.seq ?_
        refine CJ.region ?_
        refine J.val (v := .agg #[.slice adxa_0 xa.length cpxa_0]) rfl rfl (V.ld rfl (Ld.agg (cs := [.slice adxa_0 xa.length cpxa_0]) Try.underlying24 sz24 rfl (Rd.cls 5 0 rfl rfl))) ?_
        refine J.val (v := .agg #[.slice adxb_0 xb.length cpxb_0]) rfl rfl (V.ld rfl (Ld.agg (cs := [.slice adxb_0 xb.length cpxb_0]) Try.underlying24 sz24 rfl (Rd.cls 4 0 rfl rfl))) ?_
        refine J.val (v := .int .i64 xc) rfl rfl (V.mv rfl) ?_
        refine J.val (v := .bool xf) rfl rfl (V.mv rfl) ?_
        obtain ⟨r334, hr335, h⟩ := ob h
        refine J.op rfl (A.call (L1 := []) Try.call12 rfl (relate_Again_ok fxa_0 fxb_0 hr335) rfl rfl) ?_
        rintro _ _ _ ⟨v341, _, rfl, ⟨⟨l336, i337, ad338, cp339, rfl, rfl, rfl⟩, rfl⟩, _, rfl⟩
        refine J.wit Row.hn (fun hn340 => ?_)
        refine J.val (v := .tuple #[.slice ad338 l336.length cp339, .int .i64 i337]) rfl rfl (V.mv rfl) ?_
        refine J.val (v := .slice ad338 l336.length cp339) rfl rfl (V.ext rfl rfl) ?_
        refine J.val (v := .int .i64 i337) rfl rfl (V.ext rfl rfl) ?_
        refine J.val (v := .slice ad338 l336.length cp339) rfl rfl (V.as rfl) ?_
        refine J.val (v := .int .i64 i337) rfl rfl (V.as rfl) ?_
        refine J.nil ?_
        refine CJ.seq ?_
        refine CJ.region ?_
        refine J.val (v := .agg #[.slice adxa_0 xa.length cpxa_0]) rfl rfl (V.ld rfl (Ld.agg (cs := [.slice adxa_0 xa.length cpxa_0]) Try.underlying24 sz24 rfl (Rd.cls 6 0 rfl rfl))) ?_
        refine J.val (v := .agg #[.slice adxb_0 xb.length cpxb_0]) rfl rfl (V.ld rfl (Ld.agg (cs := [.slice adxb_0 xb.length cpxb_0]) Try.underlying24 sz24 rfl (Rd.cls 5 0 rfl rfl))) ?_
        refine J.val (v := .int .i64 xc) rfl rfl (V.mv rfl) ?_
        refine J.val (v := .bool xf) rfl rfl (V.mv rfl) ?_
        obtain ⟨r345, hr346, h⟩ := ob h
        refine J.op rfl (A.call (L1 := []) Try.call13 rfl (ref16_Again_ok fxa_0 fxb_0 hr346) rfl rfl) ?_
        rintro _ _ _ ⟨v352, _, rfl, ⟨⟨l347, i348, ad349, cp350, rfl, rfl, rfl⟩, rfl⟩, _, rfl⟩
        refine J.wit Row.hn (fun hn351 => ?_)
        refine J.val (v := .tuple #[.slice ad349 l347.length cp350, .int .i64 i348]) rfl rfl (V.mv rfl) ?_
        refine J.val (v := .slice ad349 l347.length cp350) rfl rfl (V.ext rfl rfl) ?_
        refine J.val (v := .int .i64 i348) rfl rfl (V.ext rfl rfl) ?_
        refine J.val (v := .slice ad349 l347.length cp350) rfl rfl (V.as rfl) ?_
        refine J.val (v := .int .i64 i348) rfl rfl (V.as rfl) ?_
        refine J.nil ?_
        refine CJ.seq ?_
        refine CJ.region ?_
        refine J.val (v := .slice ad294 l292.length cp295) rfl rfl (V.mv rfl) ?_
        refine J.front 5 rfl ?_
        refine J.persist (Hp.nil_le _) (by decide) (fun K356 hK357 f358 => ?_)
        obtain ⟨r359, hr360, h⟩ := ob h
        refine J.op rfl (A.call (L1 := []) Try.call15 rfl (law16_Doc_ok f358 hr360) rfl rfl) ?_
        rintro _ _ _ ⟨v365, _, rfl, ⟨⟨l361, ad362, cp363, rfl, rfl, rfl⟩, rfl⟩, _, rfl⟩
        refine J.wit Row.hn (fun hn364 => ?_)
        refine J.val (v := .slice ad305 l303.length cp306) rfl rfl (V.mv rfl) ?_
        obtain ⟨r369, hr370, h⟩ := ob h
        refine J.front 5 rfl ?_
        refine J.front 1 rfl ?_
        refine J.op rfl (A.call (L1 := [Row Hp.nil 48 (.cons (.int .i64) (.cons (.int .i64) (.cons (.int .i64) (.cons (.int .i64) (.one .bool))))) (.slice ad362 l361.length cp363) l361, Row Hp.nil 48 (.cons (.int .i64) (.cons (.int .i64) (.cons (.int .i64) (.cons (.int .i64) (.one .bool))))) (.slice ad305 l303.length cp306) l303]) Try.call14 rfl (Tr.lend (Hp.nil_le _) (by decide) (fun K371 hK372 f373 => Tr.lend (Hp.nil_le _) (by decide) (fun K374 hK375 f376 => ref16_Same_ok (f373.mono hK375) f376 hr370))) rfl rfl) ?_
        rintro _ _ _ ⟨v378, _, rfl, ⟨⟨_, ⟨_, ⟨t377, rfl, rfl, rfl⟩, rfl⟩, rfl⟩, rfl⟩, _, rfl⟩
        refine J.val (v := .bool t377) rfl rfl (V.mv rfl) ?_
        refine J.cut 4 ?_
        refine @J.meet _ _ _ _ _ _ _ _ _ _ (fun ρ K' L' => Fits [(94, .bool (t377 && (decide (i293 = i304)))), (17, .slice ad316 l314.length cp317), (18, .int .i64 i315), (19, .slice ad327 l325.length cp328), (20, .int .i64 i326), (21, .slice ad338 l336.length cp339), (22, .int .i64 i337), (23, .slice ad349 l347.length cp350), (24, .int .i64 i348)] ρ ∧ K356 = K' ∧ L' = Row Hp.nil 48 (.cons (.int .i64) (.cons (.int .i64) (.cons (.int .i64) (.cons (.int .i64) (.one .bool))))) (.slice ad362 l361.length cp363) l361 :: Row Hp.nil 48 (.cons (.int .i64) (.cons (.int .i64) (.cons (.int .i64) (.cons (.int .i64) (.one .bool))))) (.slice ad305 l303.length cp306) l303 :: Row Hp.nil 48 (.cons (.int .i64) (.cons (.int .i64) (.cons (.int .i64) (.cons (.int .i64) (.one .bool))))) (.slice ad349 l347.length cp350) l347 :: Row Hp.nil 40 (.cons (.int .i64) (.cons (.int .i64) (.cons (.int .i64) (.cons (.int .i64) (.one .bool))))) (.slice ad338 l336.length cp339) l336 :: Row Hp.nil 48 (.cons (.int .i64) (.cons (.int .i64) (.cons (.int .i64) (.cons (.int .i64) (.one .bool))))) (.slice ad327 l325.length cp328) l325 :: Row Hp.nil 40 (.cons (.int .i64) (.cons (.int .i64) (.cons (.int .i64) (.cons (.int .i64) (.one .bool))))) (.slice ad316 l314.length cp317) l314 :: Cl b257 24 [.slice adxb_0 xb.length cpxb_0] :: Cl b256 24 [.slice adxa_0 xa.length cpxa_0] :: F) ?_ ?_
        · skip
          rcases bt (t377) with hc383 | hc383
          · skip
            refine J.run rfl rfl rfl hc383 ?_
            refine J.val (v := .int .i64 i293) rfl rfl (V.mv rfl) ?_
            refine J.run rfl rfl rfl hc383 ?_
            refine J.val (v := .int .i64 i304) rfl rfl (V.mv rfl) ?_
            refine J.run rfl rfl rfl hc383 ?_
            refine J.val (v := .bool (decide (i293 = i304))) rfl rfl (V.eql rfl rfl) ?_
            refine J.val (v := .bool (decide (i293 = i304))) rfl rfl (V.pickT rfl hc383 rfl) ?_
            refine J.nil ?_
            exact ⟨rfl, ⟨(by simp only [hc383]; rfl), rfl, rfl, rfl, rfl, rfl, rfl, rfl, rfl, trivial⟩, rfl, rfl⟩
          · skip
            refine J.skip rfl rfl rfl rfl hc383 ?_
            refine J.skip rfl rfl rfl rfl hc383 ?_
            refine J.skip rfl rfl rfl rfl hc383 ?_
            refine J.val (v := .bool false) rfl rfl (V.pickF rfl hc383 rfl) ?_
            refine J.nil ?_
            exact ⟨rfl, ⟨(by simp only [hc383]; rfl), rfl, rfl, rfl, rfl, rfl, rfl, rfl, rfl, trivial⟩, rfl, rfl⟩
        · rintro ρ _ _ ⟨hf, rfl, rfl⟩
          obtain ⟨ρ, rfl⟩ := hf.ex
          refine J.val (v := .bool (t377 && (decide (i293 = i304)))) rfl rfl (V.mv rfl) ?_
          rcases bt (t377 && (decide (i293 = i304))) with hc410 | hc410
          · have h := ct hc410 h
            refine J.run rfl rfl rfl hc410 ?_
            refine J.val (v := .slice ad316 l314.length cp317) rfl rfl (V.mv rfl) ?_
            refine J.run rfl rfl rfl hc410 ?_
            refine J.front 5 rfl ?_
            refine J.persist (Hp.nil_le _) (by decide) (fun K411 hK412 f413 => ?_)
            obtain ⟨r414, hr415, h⟩ := ob h
            refine J.op rfl (A.call (L1 := []) Try.call15 rfl (law16_Doc_ok f413 hr415) rfl rfl) ?_
            rintro _ _ _ ⟨v420, _, rfl, ⟨⟨l416, ad417, cp418, rfl, rfl, rfl⟩, rfl⟩, _, rfl⟩
            refine J.wit Row.hn (fun hn419 => ?_)
            refine J.run rfl rfl rfl hc410 ?_
            refine J.val (v := .slice ad327 l325.length cp328) rfl rfl (V.mv rfl) ?_
            refine J.run rfl rfl rfl hc410 ?_
            obtain ⟨r424, hr425, h⟩ := ob h
            refine J.front 5 rfl ?_
            refine J.front 1 rfl ?_
            refine J.op rfl (A.call (L1 := [Row Hp.nil 48 (.cons (.int .i64) (.cons (.int .i64) (.cons (.int .i64) (.cons (.int .i64) (.one .bool))))) (.slice ad417 l416.length cp418) l416, Row Hp.nil 48 (.cons (.int .i64) (.cons (.int .i64) (.cons (.int .i64) (.cons (.int .i64) (.one .bool))))) (.slice ad327 l325.length cp328) l325]) Try.call14 rfl (Tr.lend (Hp.nil_le _) (by decide) (fun K426 hK427 f428 => Tr.lend (Hp.nil_le _) (by decide) (fun K429 hK430 f431 => ref16_Same_ok (f428.mono hK430) f431 hr425))) rfl rfl) ?_
            rintro _ _ _ ⟨v433, _, rfl, ⟨⟨_, ⟨_, ⟨t432, rfl, rfl, rfl⟩, rfl⟩, rfl⟩, rfl⟩, _, rfl⟩
            refine J.val (v := .bool t432) rfl rfl (V.pickT rfl hc410 rfl) ?_
            refine J.val (v := .bool t432) rfl rfl (V.mv rfl) ?_
            refine J.cut 4 ?_
            refine @J.meet _ _ _ _ _ _ _ _ _ _ (fun ρ K' L' => Fits [(105, .bool (t432 && (decide (i315 = i326)))), (21, .slice ad338 l336.length cp339), (22, .int .i64 i337), (23, .slice ad349 l347.length cp350), (24, .int .i64 i348)] ρ ∧ K411 = K' ∧ L' = Row Hp.nil 48 (.cons (.int .i64) (.cons (.int .i64) (.cons (.int .i64) (.cons (.int .i64) (.one .bool))))) (.slice ad417 l416.length cp418) l416 :: Row Hp.nil 48 (.cons (.int .i64) (.cons (.int .i64) (.cons (.int .i64) (.cons (.int .i64) (.one .bool))))) (.slice ad327 l325.length cp328) l325 :: Row Hp.nil 48 (.cons (.int .i64) (.cons (.int .i64) (.cons (.int .i64) (.cons (.int .i64) (.one .bool))))) (.slice ad362 l361.length cp363) l361 :: Row Hp.nil 48 (.cons (.int .i64) (.cons (.int .i64) (.cons (.int .i64) (.cons (.int .i64) (.one .bool))))) (.slice ad305 l303.length cp306) l303 :: Row Hp.nil 48 (.cons (.int .i64) (.cons (.int .i64) (.cons (.int .i64) (.cons (.int .i64) (.one .bool))))) (.slice ad349 l347.length cp350) l347 :: Row Hp.nil 40 (.cons (.int .i64) (.cons (.int .i64) (.cons (.int .i64) (.cons (.int .i64) (.one .bool))))) (.slice ad338 l336.length cp339) l336 :: Cl b257 24 [.slice adxb_0 xb.length cpxb_0] :: Cl b256 24 [.slice adxa_0 xa.length cpxa_0] :: F) ?_ ?_
            · skip
              rcases bt (t432) with hc438 | hc438
              · skip
                refine J.run rfl rfl rfl hc438 ?_
                refine J.val (v := .int .i64 i315) rfl rfl (V.mv rfl) ?_
                refine J.run rfl rfl rfl hc438 ?_
                refine J.val (v := .int .i64 i326) rfl rfl (V.mv rfl) ?_
                refine J.run rfl rfl rfl hc438 ?_
                refine J.val (v := .bool (decide (i315 = i326))) rfl rfl (V.eql rfl rfl) ?_
                refine J.val (v := .bool (decide (i315 = i326))) rfl rfl (V.pickT rfl hc438 rfl) ?_
                refine J.nil ?_
                exact ⟨rfl, ⟨(by simp only [hc438]; rfl), rfl, rfl, rfl, rfl, trivial⟩, rfl, rfl⟩
              · skip
                refine J.skip rfl rfl rfl rfl hc438 ?_
                refine J.skip rfl rfl rfl rfl hc438 ?_
                refine J.skip rfl rfl rfl rfl hc438 ?_
                refine J.val (v := .bool false) rfl rfl (V.pickF rfl hc438 rfl) ?_
                refine J.nil ?_
                exact ⟨rfl, ⟨(by simp only [hc438]; rfl), rfl, rfl, rfl, rfl, trivial⟩, rfl, rfl⟩
            · rintro ρ _ _ ⟨hf, rfl, rfl⟩
              obtain ⟨ρ, rfl⟩ := hf.ex
              refine J.val (v := .bool (t432 && (decide (i315 = i326)))) rfl rfl (V.mv rfl) ?_
              rcases bt (t432 && (decide (i315 = i326))) with hc465 | hc465
              · have h := ct hc465 h
                refine J.run rfl rfl rfl hc465 ?_
                refine J.val (v := .slice ad338 l336.length cp339) rfl rfl (V.mv rfl) ?_
                refine J.run rfl rfl rfl hc465 ?_
                refine J.front 5 rfl ?_
                refine J.persist (Hp.nil_le _) (by decide) (fun K466 hK467 f468 => ?_)
                obtain ⟨r469, hr470, h⟩ := ob h
                refine J.op rfl (A.call (L1 := []) Try.call15 rfl (law16_Doc_ok f468 hr470) rfl rfl) ?_
                rintro _ _ _ ⟨v475, _, rfl, ⟨⟨l471, ad472, cp473, rfl, rfl, rfl⟩, rfl⟩, _, rfl⟩
                refine J.wit Row.hn (fun hn474 => ?_)
                refine J.run rfl rfl rfl hc465 ?_
                refine J.val (v := .slice ad349 l347.length cp350) rfl rfl (V.mv rfl) ?_
                refine J.run rfl rfl rfl hc465 ?_
                obtain ⟨r479, hr480, h⟩ := ob h
                refine J.front 5 rfl ?_
                refine J.front 1 rfl ?_
                refine J.op rfl (A.call (L1 := [Row Hp.nil 48 (.cons (.int .i64) (.cons (.int .i64) (.cons (.int .i64) (.cons (.int .i64) (.one .bool))))) (.slice ad472 l471.length cp473) l471, Row Hp.nil 48 (.cons (.int .i64) (.cons (.int .i64) (.cons (.int .i64) (.cons (.int .i64) (.one .bool))))) (.slice ad349 l347.length cp350) l347]) Try.call14 rfl (Tr.lend (Hp.nil_le _) (by decide) (fun K481 hK482 f483 => Tr.lend (Hp.nil_le _) (by decide) (fun K484 hK485 f486 => ref16_Same_ok (f483.mono hK485) f486 hr480))) rfl rfl) ?_
                rintro _ _ _ ⟨v488, _, rfl, ⟨⟨_, ⟨_, ⟨t487, rfl, rfl, rfl⟩, rfl⟩, rfl⟩, rfl⟩, _, rfl⟩
                refine J.val (v := .bool t487) rfl rfl (V.pickT rfl hc465 rfl) ?_
                refine J.val (v := .bool t487) rfl rfl (V.mv rfl) ?_
                refine J.cut 4 ?_
                refine @J.meet _ _ _ _ _ _ _ _ _ _ (fun ρ K' L' => Fits [(116, .bool (t487 && (decide (i337 = i348))))] ρ ∧ K466 = K' ∧ L' = Row Hp.nil 48 (.cons (.int .i64) (.cons (.int .i64) (.cons (.int .i64) (.cons (.int .i64) (.one .bool))))) (.slice ad472 l471.length cp473) l471 :: Row Hp.nil 48 (.cons (.int .i64) (.cons (.int .i64) (.cons (.int .i64) (.cons (.int .i64) (.one .bool))))) (.slice ad349 l347.length cp350) l347 :: Row Hp.nil 48 (.cons (.int .i64) (.cons (.int .i64) (.cons (.int .i64) (.cons (.int .i64) (.one .bool))))) (.slice ad417 l416.length cp418) l416 :: Row Hp.nil 48 (.cons (.int .i64) (.cons (.int .i64) (.cons (.int .i64) (.cons (.int .i64) (.one .bool))))) (.slice ad327 l325.length cp328) l325 :: Row Hp.nil 48 (.cons (.int .i64) (.cons (.int .i64) (.cons (.int .i64) (.cons (.int .i64) (.one .bool))))) (.slice ad362 l361.length cp363) l361 :: Row Hp.nil 48 (.cons (.int .i64) (.cons (.int .i64) (.cons (.int .i64) (.cons (.int .i64) (.one .bool))))) (.slice ad305 l303.length cp306) l303 :: Cl b257 24 [.slice adxb_0 xb.length cpxb_0] :: Cl b256 24 [.slice adxa_0 xa.length cpxa_0] :: F) ?_ ?_
                · skip
                  rcases bt (t487) with hc493 | hc493
                  · skip
                    refine J.run rfl rfl rfl hc493 ?_
                    refine J.val (v := .int .i64 i337) rfl rfl (V.mv rfl) ?_
                    refine J.run rfl rfl rfl hc493 ?_
                    refine J.val (v := .int .i64 i348) rfl rfl (V.mv rfl) ?_
                    refine J.run rfl rfl rfl hc493 ?_
                    refine J.val (v := .bool (decide (i337 = i348))) rfl rfl (V.eql rfl rfl) ?_
                    refine J.val (v := .bool (decide (i337 = i348))) rfl rfl (V.pickT rfl hc493 rfl) ?_
                    refine J.nil ?_
                    exact ⟨rfl, ⟨(by simp only [hc493]; rfl), trivial⟩, rfl, rfl⟩
                  · skip
                    refine J.skip rfl rfl rfl rfl hc493 ?_
                    refine J.skip rfl rfl rfl rfl hc493 ?_
                    refine J.skip rfl rfl rfl rfl hc493 ?_
                    refine J.val (v := .bool false) rfl rfl (V.pickF rfl hc493 rfl) ?_
                    refine J.nil ?_
                    exact ⟨rfl, ⟨(by simp only [hc493]; rfl), trivial⟩, rfl, rfl⟩
                · rintro ρ _ _ ⟨hf, rfl, rfl⟩
                  obtain ⟨ρ, rfl⟩ := hf.ex
                  refine J.val (v := .bool (t487 && (decide (i337 = i348)))) rfl rfl (V.mv rfl) ?_
                  refine J.cut 2 ?_
                  obtain ⟨t501, ht502, h⟩ := ob h
                  refine @J.meet _ _ _ _ _ _ _ _ _ _ (fun ρ K' L' => Fits [(119, .bool t501)] ρ ∧ K466 = K' ∧ L' = Row Hp.nil 48 (.cons (.int .i64) (.cons (.int .i64) (.cons (.int .i64) (.cons (.int .i64) (.one .bool))))) (.slice ad472 l471.length cp473) l471 :: Row Hp.nil 48 (.cons (.int .i64) (.cons (.int .i64) (.cons (.int .i64) (.cons (.int .i64) (.one .bool))))) (.slice ad349 l347.length cp350) l347 :: Row Hp.nil 48 (.cons (.int .i64) (.cons (.int .i64) (.cons (.int .i64) (.cons (.int .i64) (.one .bool))))) (.slice ad417 l416.length cp418) l416 :: Row Hp.nil 48 (.cons (.int .i64) (.cons (.int .i64) (.cons (.int .i64) (.cons (.int .i64) (.one .bool))))) (.slice ad327 l325.length cp328) l325 :: Row Hp.nil 48 (.cons (.int .i64) (.cons (.int .i64) (.cons (.int .i64) (.cons (.int .i64) (.one .bool))))) (.slice ad362 l361.length cp363) l361 :: Row Hp.nil 48 (.cons (.int .i64) (.cons (.int .i64) (.cons (.int .i64) (.cons (.int .i64) (.one .bool))))) (.slice ad305 l303.length cp306) l303 :: Cl b257 24 [.slice adxb_0 xb.length cpxb_0] :: Cl b256 24 [.slice adxa_0 xa.length cpxa_0] :: F) ?_ ?_
                  · skip
                    rcases bt (t487 && (decide (i337 = i348))) with hc503 | hc503
                    · have ht502 := ct hc503 ht502
                      refine J.run rfl rfl rfl hc503 ?_
                      obtain ⟨r504, hr505, ht502⟩ := ob ht502
                      refine J.op rfl (A.call (L1 := []) Try.call7 rfl (law16_awake_ok hr505) rfl rfl) ?_
                      rintro _ _ _ ⟨v507, _, rfl, ⟨⟨t506, rfl, rfl, rfl⟩, rfl⟩, _, rfl⟩
                      refine J.val (v := .bool t506) rfl rfl (V.pickT rfl hc503 rfl) ?_
                      refine J.nil ?_
                      have e := Option.some.inj ht502
                      subst e
                      exact ⟨rfl, ⟨rfl, trivial⟩, rfl, rfl⟩
                    · have ht502 := cf hc503 ht502
                      refine J.skip rfl rfl rfl rfl hc503 ?_
                      refine J.val (v := .bool false) rfl rfl (V.pickF rfl hc503 rfl) ?_
                      refine J.nil ?_
                      have e := Option.some.inj ht502
                      subst e
                      exact ⟨rfl, ⟨rfl, trivial⟩, rfl, rfl⟩
                  · rintro ρ _ _ ⟨hf, rfl, rfl⟩
                    obtain ⟨ρ, rfl⟩ := hf.ex
                    refine J.val (v := .bool t501) rfl rfl (V.as rfl) ?_
                    refine J.nil ?_
                    refine CJ.ret ?_
                    have e := Option.some.inj h
                    subst e
                    exact ⟨_, [], Res.one rfl rfl, ⟨t501, rfl, rfl, rfl⟩, ((hK357.trans hK412).trans hK467), fun w hs => (Sep.dropAt 0 rfl (Sep.dropAt 0 rfl (Sep.dropAt 0 rfl (Sep.dropAt 0 rfl (Sep.dropAt 0 rfl (Sep.dropAt 0 rfl (Sep.dropAt 0 rfl (Sep.dropAt 0 rfl hs))))))))⟩
              · have h := cf hc465 h
                refine J.skip rfl rfl rfl rfl hc465 ?_
                refine J.skip rfl rfl rfl rfl hc465 ?_
                refine J.skip rfl rfl rfl rfl hc465 ?_
                refine J.skip rfl rfl rfl rfl hc465 ?_
                refine J.val (v := .bool false) rfl rfl (V.pickF rfl hc465 rfl) ?_
                refine J.val (v := .bool false) rfl rfl (V.mv rfl) ?_
                refine J.skip rfl rfl rfl rfl rfl ?_
                refine J.skip rfl rfl rfl rfl rfl ?_
                refine J.skip rfl rfl rfl rfl rfl ?_
                refine J.val (v := .bool false) rfl rfl (V.pickF rfl rfl rfl) ?_
                refine J.val (v := .bool false) rfl rfl (V.mv rfl) ?_
                refine J.skip rfl rfl rfl rfl rfl ?_
                refine J.val (v := .bool false) rfl rfl (V.pickF rfl rfl rfl) ?_
                refine J.val (v := .bool false) rfl rfl (V.as rfl) ?_
                refine J.nil ?_
                refine CJ.ret ?_
                have e := Option.some.inj h
                subst e
                exact ⟨_, [], Res.one rfl rfl, ⟨false, rfl, rfl, rfl⟩, (hK357.trans hK412), fun w hs => (Sep.dropAt 0 rfl (Sep.dropAt 0 rfl (Sep.dropAt 0 rfl (Sep.dropAt 0 rfl (Sep.dropAt 0 rfl (Sep.dropAt 0 rfl (Sep.dropAt 0 rfl (Sep.dropAt 0 rfl hs))))))))⟩
          · have h := cf hc410 h
            refine J.skip rfl rfl rfl rfl hc410 ?_
            refine J.skip rfl rfl rfl rfl hc410 ?_
            refine J.skip rfl rfl rfl rfl hc410 ?_
            refine J.skip rfl rfl rfl rfl hc410 ?_
            refine J.val (v := .bool false) rfl rfl (V.pickF rfl hc410 rfl) ?_
            refine J.val (v := .bool false) rfl rfl (V.mv rfl) ?_
            refine J.skip rfl rfl rfl rfl rfl ?_
            refine J.skip rfl rfl rfl rfl rfl ?_
            refine J.skip rfl rfl rfl rfl rfl ?_
            refine J.val (v := .bool false) rfl rfl (V.pickF rfl rfl rfl) ?_
            refine J.val (v := .bool false) rfl rfl (V.mv rfl) ?_
            refine J.skip rfl rfl rfl rfl rfl ?_
            refine J.skip rfl rfl rfl rfl rfl ?_
            refine J.skip rfl rfl rfl rfl rfl ?_
            refine J.skip rfl rfl rfl rfl rfl ?_
            refine J.val (v := .bool false) rfl rfl (V.pickF rfl rfl rfl) ?_
            refine J.val (v := .bool false) rfl rfl (V.mv rfl) ?_
            refine J.skip rfl rfl rfl rfl rfl ?_
            refine J.skip rfl rfl rfl rfl rfl ?_
            refine J.skip rfl rfl rfl rfl rfl ?_
            refine J.val (v := .bool false) rfl rfl (V.pickF rfl rfl rfl) ?_
            refine J.val (v := .bool false) rfl rfl (V.mv rfl) ?_
            refine J.skip rfl rfl rfl rfl rfl ?_
            refine J.val (v := .bool false) rfl rfl (V.pickF rfl rfl rfl) ?_
            refine J.val (v := .bool false) rfl rfl (V.as rfl) ?_
            refine J.nil ?_
            refine CJ.ret ?_
            have e := Option.some.inj h
            subst e
            exact ⟨_, [], Res.one rfl rfl, ⟨false, rfl, rfl, rfl⟩, hK357, fun w hs => (Sep.dropAt 0 rfl (Sep.dropAt 0 rfl (Sep.dropAt 0 rfl (Sep.dropAt 0 rfl (Sep.dropAt 0 rfl (Sep.dropAt 0 rfl (Sep.dropAt 0 rfl (Sep.dropAt 0 rfl hs))))))))⟩

noncomputable def fn_law16_alike (xa : Int) (xb : Int) : Option Bool :=
  some (decide (xa = xb))
set_option maxRecDepth 100000 in
set_option maxHeartbeats 4000000 in
theorem law16_alike_ok {K : Hp} {xa : Int} {xb : Int}   {r : Bool} (h : fn_law16_alike xa xb = some r) :
    Tr Try.prog 17 #[.int .i64 xa, .int .i64 xb] K [] (fun v K' L' => (∃ (t1 : Bool), t1 = r ∧ v = .bool t1 ∧ L' = []) ∧ K = K') := by
  refine Tr.k ?_
  refine Tr.of Try.func17 rfl Try.ntmps17 rfl (fun E F => ?_)
  unfold fn_law16_alike at h
  refine CJ.seq ?_
  refine CJ.region ?_
  refine J.val (v := .bool false) rfl rfl (V.as rfl) ?_
  refine J.nil ?_
  refine CJ.seq ?_
  refine CJ.region ?_
  refine J.val (v := .int .i64 xa) rfl rfl (V.mv rfl) ?_
  refine J.val (v := .int .i64 xb) rfl rfl (V.mv rfl) ?_
  refine J.val (v := .bool (decide (xa = xb))) rfl rfl (V.eql rfl rfl) ?_
  refine J.val (v := .bool (decide (xa = xb))) rfl rfl (V.as rfl) ?_
  refine J.nil ?_
  refine CJ.ret ?_
  have e := Option.some.inj h
  subst e
  exact ⟨_, [], Res.one rfl rfl, ⟨decide (xa = xb), rfl, rfl, rfl⟩, (Hp.le_refl _), fun w hs => hs⟩

noncomputable def fn_relate_Holds_1_ap0__law16_alike (xa : (Int × Int × Int × Int × Bool)) : Option Bool :=
  (fn_law16_alike xa.1 xa.2.1).bind fun t12 => some (!t12)
set_option maxRecDepth 100000 in
set_option maxHeartbeats 4000000 in
theorem relate_Holds_1_ap0__law16_alike_ok {K : Hp} {xa : (Int × Int × Int × Int × Bool)} {pba : Nat}  {r : Bool} (h : fn_relate_Holds_1_ap0__law16_alike xa = some r) :
    Tr Try.prog 29 #[.agg #[.int .i64 xa.1, .int .i64 xa.2.1, .int .i64 xa.2.2.1, .int .i64 xa.2.2.2.1, .bool xa.2.2.2.2], .pointer (some ⟨pba, 0, none⟩)] K [Cl pba 42 [.func (.func 17) #[] #[]]] (fun v K' L' => (∃ (t8 : Bool), t8 = r ∧ v = .bool t8 ∧ L' = [Cl pba 42 [.func (.func 17) #[] #[]]]) ∧ K = K') := by
  refine Tr.k ?_
  refine Tr.of Try.func29 rfl Try.ntmps29 rfl (fun E F => ?_)
  unfold fn_relate_Holds_1_ap0__law16_alike at h
  refine CJ.seq ?_
  refine CJ.region ?_
  refine J.op rfl (A.box (v := .agg #[.int .i64 xa.1, .int .i64 xa.2.1, .int .i64 xa.2.2.1, .int .i64 xa.2.2.2.1, .bool xa.2.2.2.2]) (cs := [.int .i64 xa.1, .int .i64 xa.2.1, .int .i64 xa.2.2.1, .int .i64 xa.2.2.2.1, .bool xa.2.2.2.2]) rfl rfl) ?_
  rintro _ _ _ ⟨b9, rfl, rfl, rfl⟩
  refine J.val (v := .bool false) rfl rfl (V.as rfl) ?_
  refine J.nil ?_
  refine CJ.seq ?_
  refine CJ.region ?_
  refine J.val (v := .func (.func 17) #[] #[]) rfl rfl (V.ld rfl (Ld.sc sc42 (Rd.cl 1 rfl rfl))) ?_
  refine J.val (v := .bool false) rfl rfl (V.fn_eql Try.underlying42 rfl rfl) ?_
  refine J.val (v := .bool false) rfl rfl (V.mv rfl) ?_
  refine J.run rfl rfl rfl rfl ?_
  refine J.val (v := .func (.func 17) #[] #[]) rfl rfl (V.ld rfl (Ld.sc sc42 (Rd.cl 1 rfl rfl))) ?_
  refine J.run rfl rfl rfl rfl ?_
  refine J.val rfl rfl (V.fad Try.underlying40 rfl nz3 rfl) ?_
  refine J.run rfl rfl rfl rfl ?_
  refine J.val (v := .int .i64 xa.1) rfl rfl (V.ld rfl (Ld.sc sc3 (Rd.cl 0 rfl rfl))) ?_
  refine J.run rfl rfl rfl rfl ?_
  refine J.val rfl rfl (V.fad Try.underlying40 rfl nz3 rfl) ?_
  refine J.run rfl rfl rfl rfl ?_
  refine J.val (v := .int .i64 xa.2.1) rfl rfl (V.ld rfl (Ld.sc sc3 (Rd.cl 0 rfl rfl))) ?_
  refine J.run rfl rfl rfl rfl ?_
  obtain ⟨r10, hr11, h⟩ := ob h
  refine J.op rfl (A.call (L1 := []) Try.call17 rfl (law16_alike_ok hr11) rfl rfl) ?_
  rintro _ _ _ ⟨v13, _, rfl, ⟨⟨t12, rfl, rfl, rfl⟩, rfl⟩, _, rfl⟩
  refine J.run rfl rfl rfl rfl ?_
  refine J.val (v := .bool (!t12)) rfl rfl (V.not rfl) ?_
  refine J.val (v := .bool (!t12)) rfl rfl (V.pickF rfl rfl rfl) ?_
  refine J.val (v := .bool (!t12)) rfl rfl (V.as rfl) ?_
  refine J.nil ?_
  refine CJ.ret ?_
  have e := Option.some.inj h
  subst e
  exact ⟨_, [Cl pba 42 [.func (.func 17) #[] #[]]], Res.one rfl rfl, ⟨!t12, rfl, rfl, rfl⟩, (Hp.le_refl _), fun w hs => (Sep.dropAt 0 rfl hs)⟩
noncomputable def fn_slices_IndexFunc_relate_Need_relate_Need_k_relate_Holds_1_p0__law16_alike_l1 (xa : (List (Int × Int × Int × Int × Bool))) : Int → Option (Int ⊕ (Unit ⊕ Int)) := fun (i201 : Int) => cond (decide (i201 < (((xa.length : Nat) : Int)))) ((getI xa i201).bind fun x225 => (fn_relate_Holds_1_ap0__law16_alike (x225.1, x225.2.1, x225.2.2.1, x225.2.2.2.1, x225.2.2.2.2)).bind fun t236 => cond (t236) (some (.inr ((.inr (i201))))) (some (.inl (IntKind.wrap .i64 (i201 + 1))))) (some (.inr ((.inl ()))))
noncomputable def fn_slices_IndexFunc_relate_Need_relate_Need_k_relate_Holds_1_p0__law16_alike (xa : (List (Int × Int × Int × Int × Bool))) : Option Int :=
  (loop (fn_slices_IndexFunc_relate_Need_relate_Need_k_relate_Holds_1_p0__law16_alike_l1 xa) 0 : Option (Unit ⊕ Int)).bind fun o => match o with | .inr r => some r | .inl () => some ((-1))
set_option maxRecDepth 100000 in
set_option maxHeartbeats 4000000 in
theorem slices_IndexFunc_relate_Need_relate_Need_k_relate_Holds_1_p0__law16_alike_ok {K : Hp} {xa : (List (Int × Int × Int × Int × Bool))} {pba : Nat} {adxa_0 : Option Addr} {cpxa_0 : Nat} (fxa_0 : Is K (.sl (.cons (.int .i64) (.cons (.int .i64) (.cons (.int .i64) (.cons (.int .i64) (.one .bool)))))) [.slice adxa_0 xa.length cpxa_0] xa) {r : Int} (h : fn_slices_IndexFunc_relate_Need_relate_Need_k_relate_Holds_1_p0__law16_alike xa = some r) :
    Tr Try.prog 34 #[.slice adxa_0 xa.length cpxa_0, .func (.func 29) #[] #[.pointer (some ⟨pba, 0, none⟩)]] K [Cl pba 42 [.func (.func 17) #[] #[]]] (fun v K' L' => (∃ (i122 : Int), i122 = r ∧ v = .int .i64 i122 ∧ L' = [Cl pba 42 [.func (.func 17) #[] #[]]]) ∧ K = K') := by
  refine Tr.k ?_
  refine Tr.of Try.func34 rfl Try.ntmps34 rfl (fun E F => ?_)
  unfold fn_slices_IndexFunc_relate_Need_relate_Need_k_relate_Holds_1_p0__law16_alike at h
  refine CJ.seq ?_
  refine CJ.region ?_
  refine J.val (v := .int .i64 0) rfl rfl (V.as rfl) ?_
  refine J.nil ?_
  refine CJ.seq ?_
  refine CJ.seq ?_
  refine CJ.region ?_
  refine J.val (v := .slice adxa_0 xa.length cpxa_0) rfl rfl (V.mv rfl) ?_
  refine J.val (v := .int .i64 (((xa.length : Nat) : Int))) rfl rfl (V.len Try.underlying27 rfl) ?_
  refine J.val (v := .int .i64 0) rfl rfl (V.mv rfl) ?_
  refine J.nil ?_
  obtain ⟨o181, ho182, h⟩ := ob h
  refine CJ.joinN (o := o181) (fun s ρ K' L' => () = s ∧ Fits [] ρ ∧ K = K' ∧ L' = Cl pba 42 [.func (.func 17) #[] #[]] :: F) ?_ ?_
  · skip
    refine CJ.block ?_
    refine CJ.loop (fun s ρ K' L' => ∃ (i201 : Int), i201 = s ∧ Fits [(0, .slice adxa_0 xa.length cpxa_0), (1, .func (.func 29) #[] #[.pointer (some ⟨pba, 0, none⟩)]), (7, .int .i64 (((xa.length : Nat) : Int))), (8, .int .i64 i201)] ρ ∧ K = K' ∧ L' = Cl pba 42 [.func (.func 17) #[] #[]] :: F) ho182 ⟨0, rfl, ⟨rfl, rfl, rfl, rfl, trivial⟩, rfl, rfl⟩ ?_
    rintro s ρ _ _ r223 ⟨i201, rfl, hf221, rfl, rfl⟩ h220
    obtain ⟨ρ, rfl⟩ := hf221.ex
    refine CJ.seq ?_
    refine CJ.region ?_
    refine J.val (v := .bool (decide (i201 < (((xa.length : Nat) : Int))))) rfl rfl (V.lss rfl rfl) ?_
    refine J.nil ?_
    refine CJ.seq ?_
    refine CJ.cond rfl (fun hc224 => ?_) (fun hc224 => ?_)
    · have h220 := ct hc224 h220
      refine CJ.skip ?_
      refine CJ.seq ?_
      refine CJ.block ?_
      refine CJ.seq ?_
      refine CJ.region ?_
      refine J.val (v := .int .i64 i201) rfl rfl (V.mv rfl) ?_
      refine J.val (v := .int .i64 i201) rfl rfl (V.as rfl) ?_
      refine J.nil ?_
      refine CJ.seq ?_
      refine CJ.region ?_
      refine J.val (v := .func (.func 29) #[] #[.pointer (some ⟨pba, 0, none⟩)]) rfl rfl (V.mv rfl) ?_
      refine J.val (v := .slice adxa_0 xa.length cpxa_0) rfl rfl (V.mv rfl) ?_
      refine J.val (v := .int .i64 i201) rfl rfl (V.mv rfl) ?_
      obtain ⟨x225, hx226, h220⟩ := ob h220
      obtain ⟨p227, p228, p229⟩ := getI_some hx226
      obtain ⟨b230, o231, e232, a233⟩ := (fxa_0).at p228
      refine J.val rfl rfl (V.iad Try.underlying27 sz40 rfl e232 rfl p227 p229) ?_
      refine J.val (v := .agg #[.int .i64 x225.1, .int .i64 x225.2.1, .int .i64 x225.2.2.1, .int .i64 x225.2.2.2.1, .bool x225.2.2.2.2]) rfl rfl (V.ld rfl (Ld.aggK (cs := [.int .i64 x225.1, .int .i64 x225.2.1, .int .i64 x225.2.2.1, .int .i64 x225.2.2.2.1, .bool x225.2.2.2.2]) Try.underlying40 sz40 rfl ⟨((a233).fst).int, (((a233).snd).fst).int, ((((a233).snd).snd).fst).int, (((((a233).snd).snd).snd).fst).int, ((((((a233).snd).snd).snd).snd).one).bool, trivial⟩ (Hp.le_refl _))) ?_
      obtain ⟨r234, hr235, h220⟩ := ob h220
      refine J.op rfl (A.call (L1 := [Cl pba 42 [.func (.func 17) #[] #[]]]) Try.call29 rfl (relate_Holds_1_ap0__law16_alike_ok hr235) rfl rfl) ?_
      rintro _ _ _ ⟨v237, _, rfl, ⟨⟨t236, rfl, rfl, rfl⟩, rfl⟩, _, rfl⟩
      refine J.nil ?_
      refine CJ.cond rfl (fun hc240 => ?_) (fun hc240 => ?_)
      · have h220 := ct hc240 h220
        refine CJ.seq ?_
        refine CJ.region ?_
        refine J.val (v := .int .i64 i201) rfl rfl (V.mv rfl) ?_
        refine J.val (v := .int .i64 i201) rfl rfl (V.as rfl) ?_
        refine J.nil ?_
        refine CJ.ret ?_
        have e := Option.some.inj h220
        subst e
        refine ⟨nofun, fun e => ?_⟩
        subst e
        refine .inr ⟨nofun, ?_⟩
        have e := Option.some.inj h
        subst e
        exact ⟨_, [Cl pba 42 [.func (.func 17) #[] #[]]], Res.one rfl rfl, ⟨i201, rfl, rfl, rfl⟩, (Hp.le_refl _), fun w hs => hs⟩
      · have h220 := cf hc240 h220
        refine CJ.skip ?_
        refine CJ.region ?_
        refine J.val (v := .int .i64 (IntKind.wrap .i64 (i201 + 1))) rfl rfl (V.add rfl rfl) ?_
        refine J.val (v := .int .i64 (IntKind.wrap .i64 (i201 + 1))) rfl rfl (V.mv rfl) ?_
        refine J.nil ?_
        have e := Option.some.inj h220
        subst e
        exact ⟨rfl, ⟨IntKind.wrap .i64 (i201 + 1), rfl, ⟨rfl, rfl, rfl, rfl, trivial⟩, rfl, rfl⟩⟩
    · have h220 := cf hc224 h220
      refine CJ.exit ?_
      have e := Option.some.inj h220
      subst e
      refine ⟨nofun, fun e => ?_⟩
      subst e
      exact .inl ⟨rfl, _, rfl, ⟨rfl, trivial, rfl, rfl⟩⟩
  · rintro s ρ _ _ ho241 ⟨rfl, hf242, rfl, rfl⟩
    subst ho241
    obtain ⟨ρ, rfl⟩ := hf242.ex
    refine PJ.done ?_
    refine CJ.seq ?_
    refine CJ.region ?_
    refine J.val (v := .int .i64 (-1)) rfl rfl (V.as rfl) ?_
    refine J.nil ?_
    refine CJ.ret ?_
    have e := Option.some.inj h
    subst e
    exact ⟨_, [Cl pba 42 [.func (.func 17) #[] #[]]], Res.one rfl rfl, ⟨(-1), rfl, rfl, rfl⟩, (Hp.le_refl _), fun w hs => hs⟩

noncomputable def fn_slices_ContainsFunc_relate_Need_relate_Need_k_relate_Holds_1_p0__law16_alike (xa : (List (Int × Int × Int × Int × Bool))) : Option Bool :=
  (fn_slices_IndexFunc_relate_Need_relate_Need_k_relate_Holds_1_p0__law16_alike xa).bind fun i10 => some (decide (0 ≤ i10))
set_option maxRecDepth 100000 in
set_option maxHeartbeats 4000000 in
theorem slices_ContainsFunc_relate_Need_relate_Need_k_relate_Holds_1_p0__law16_alike_ok {K : Hp} {xa : (List (Int × Int × Int × Int × Bool))} {pba : Nat} {adxa_0 : Option Addr} {cpxa_0 : Nat} (fxa_0 : Is K (.sl (.cons (.int .i64) (.cons (.int .i64) (.cons (.int .i64) (.cons (.int .i64) (.one .bool)))))) [.slice adxa_0 xa.length cpxa_0] xa) {r : Bool} (h : fn_slices_ContainsFunc_relate_Need_relate_Need_k_relate_Holds_1_p0__law16_alike xa = some r) :
    Tr Try.prog 28 #[.slice adxa_0 xa.length cpxa_0, .func (.func 29) #[] #[.pointer (some ⟨pba, 0, none⟩)]] K [Cl pba 42 [.func (.func 17) #[] #[]]] (fun v K' L' => (∃ (t7 : Bool), t7 = r ∧ v = .bool t7 ∧ L' = [Cl pba 42 [.func (.func 17) #[] #[]]]) ∧ K = K') := by
  refine Tr.k ?_
  refine Tr.of Try.func28 rfl Try.ntmps28 rfl (fun E F => ?_)
  unfold fn_slices_ContainsFunc_relate_Need_relate_Need_k_relate_Holds_1_p0__law16_alike at h
  refine CJ.seq ?_
  refine CJ.region ?_
  refine J.val (v := .bool false) rfl rfl (V.as rfl) ?_
  refine J.nil ?_
  refine CJ.seq ?_
  refine CJ.region ?_
  refine J.val (v := .slice adxa_0 xa.length cpxa_0) rfl rfl (V.mv rfl) ?_
  refine J.val (v := .func (.func 29) #[] #[.pointer (some ⟨pba, 0, none⟩)]) rfl rfl (V.mv rfl) ?_
  obtain ⟨r8, hr9, h⟩ := ob h
  refine J.op rfl (A.call (L1 := [Cl pba 42 [.func (.func 17) #[] #[]]]) Try.call34 rfl (slices_IndexFunc_relate_Need_relate_Need_k_relate_Holds_1_p0__law16_alike_ok fxa_0 hr9) rfl rfl) ?_
  rintro _ _ _ ⟨v11, _, rfl, ⟨⟨i10, rfl, rfl, rfl⟩, rfl⟩, _, rfl⟩
  refine J.val (v := .bool (decide (0 ≤ i10))) rfl rfl (V.geq rfl rfl) ?_
  refine J.val (v := .bool (decide (0 ≤ i10))) rfl rfl (V.as rfl) ?_
  refine J.nil ?_
  refine CJ.ret ?_
  have e := Option.some.inj h
  subst e
  exact ⟨_, [Cl pba 42 [.func (.func 17) #[] #[]]], Res.one rfl rfl, ⟨decide (0 ≤ i10), rfl, rfl, rfl⟩, (Hp.le_refl _), fun w hs => hs⟩

noncomputable def fn_relate_Holds_k_law16_alike (xa : (List (Int × Int × Int × Int × Bool))) : Option Bool :=
  (fn_slices_ContainsFunc_relate_Need_relate_Need_k_relate_Holds_1_p0__law16_alike xa).bind fun t12 => some (!t12)
set_option maxRecDepth 100000 in
set_option maxHeartbeats 4000000 in
theorem relate_Holds_k_law16_alike_ok {K : Hp} {xa : (List (Int × Int × Int × Int × Bool))} {adxa_0 : Option Addr} {cpxa_0 : Nat} (fxa_0 : Is K (.sl (.cons (.int .i64) (.cons (.int .i64) (.cons (.int .i64) (.cons (.int .i64) (.one .bool)))))) [.slice adxa_0 xa.length cpxa_0] xa) {r : Bool} (h : fn_relate_Holds_k_law16_alike xa = some r) :
    Tr Try.prog 16 #[.slice adxa_0 xa.length cpxa_0, .func (.func 17) #[] #[]] K [] (fun v K' L' => (∃ (t8 : Bool), t8 = r ∧ v = .bool t8 ∧ L' = []) ∧ K = K') := by
  refine Tr.k ?_
  refine Tr.of Try.func16 rfl Try.ntmps16 rfl (fun E F => ?_)
  unfold fn_relate_Holds_k_law16_alike at h
  refine CJ.seq ?_
  refine CJ.region ?_
  refine J.op rfl (A.box (v := .func (.func 17) #[] #[]) (cs := [.func (.func 17) #[] #[]]) rfl rfl) ?_
  rintro _ _ _ ⟨b9, rfl, rfl, rfl⟩
  refine J.val (v := .bool false) rfl rfl (V.as rfl) ?_
  refine J.nil ?_
  refine CJ.seq ?_
  refine CJ.region ?_
  refine J.val (v := .slice adxa_0 xa.length cpxa_0) rfl rfl (V.mv rfl) ?_
  refine J.val (v := .func (.func 29) #[] #[.pointer (some ⟨b9, 0, none⟩)]) rfl rfl (V.mkf rfl) ?_
  obtain ⟨r10, hr11, h⟩ := ob h
  refine J.op rfl (A.call (L1 := [Cl b9 42 [.func (.func 17) #[] #[]]]) Try.call28 rfl (slices_ContainsFunc_relate_Need_relate_Need_k_relate_Holds_1_p0__law16_alike_ok fxa_0 hr11) rfl rfl) ?_
  rintro _ _ _ ⟨v13, _, rfl, ⟨⟨t12, rfl, rfl, rfl⟩, rfl⟩, _, rfl⟩
  refine J.val (v := .bool (!t12)) rfl rfl (V.not rfl) ?_
  refine J.val (v := .bool (!t12)) rfl rfl (V.as rfl) ?_
  refine J.nil ?_
  refine CJ.ret ?_
  have e := Option.some.inj h
  subst e
  exact ⟨_, [], Res.one rfl rfl, ⟨!t12, rfl, rfl, rfl⟩, (Hp.le_refl _), fun w hs => (Sep.dropAt 0 rfl hs)⟩

noncomputable def fn_law16_always (xa : Int) (xb : Int) : Option Bool :=
  some (true)
set_option maxRecDepth 100000 in
set_option maxHeartbeats 4000000 in
theorem law16_always_ok {K : Hp} {xa : Int} {xb : Int}   {r : Bool} (h : fn_law16_always xa xb = some r) :
    Tr Try.prog 18 #[.int .i64 xa, .int .i64 xb] K [] (fun v K' L' => (∃ (t1 : Bool), t1 = r ∧ v = .bool t1 ∧ L' = []) ∧ K = K') := by
  refine Tr.k ?_
  refine Tr.of Try.func18 rfl Try.ntmps18 rfl (fun E F => ?_)
  unfold fn_law16_always at h
  refine CJ.seq ?_
  refine CJ.region ?_
  refine J.val (v := .bool false) rfl rfl (V.as rfl) ?_
  refine J.nil ?_
  refine CJ.seq ?_
  refine CJ.region ?_
  refine J.val (v := .bool true) rfl rfl (V.as rfl) ?_
  refine J.nil ?_
  refine CJ.ret ?_
  have e := Option.some.inj h
  subst e
  exact ⟨_, [], Res.one rfl rfl, ⟨true, rfl, rfl, rfl⟩, (Hp.le_refl _), fun w hs => hs⟩

noncomputable def fn_relate_Holds_1_ap0__law16_always (xa : (Int × Int × Int × Int × Bool)) : Option Bool :=
  (fn_law16_always xa.1 xa.2.1).bind fun t12 => some (!t12)
set_option maxRecDepth 100000 in
set_option maxHeartbeats 4000000 in
theorem relate_Holds_1_ap0__law16_always_ok {K : Hp} {xa : (Int × Int × Int × Int × Bool)} {pba : Nat}  {r : Bool} (h : fn_relate_Holds_1_ap0__law16_always xa = some r) :
    Tr Try.prog 29 #[.agg #[.int .i64 xa.1, .int .i64 xa.2.1, .int .i64 xa.2.2.1, .int .i64 xa.2.2.2.1, .bool xa.2.2.2.2], .pointer (some ⟨pba, 0, none⟩)] K [Cl pba 42 [.func (.func 18) #[] #[]]] (fun v K' L' => (∃ (t8 : Bool), t8 = r ∧ v = .bool t8 ∧ L' = [Cl pba 42 [.func (.func 18) #[] #[]]]) ∧ K = K') := by
  refine Tr.k ?_
  refine Tr.of Try.func29 rfl Try.ntmps29 rfl (fun E F => ?_)
  unfold fn_relate_Holds_1_ap0__law16_always at h
  refine CJ.seq ?_
  refine CJ.region ?_
  refine J.op rfl (A.box (v := .agg #[.int .i64 xa.1, .int .i64 xa.2.1, .int .i64 xa.2.2.1, .int .i64 xa.2.2.2.1, .bool xa.2.2.2.2]) (cs := [.int .i64 xa.1, .int .i64 xa.2.1, .int .i64 xa.2.2.1, .int .i64 xa.2.2.2.1, .bool xa.2.2.2.2]) rfl rfl) ?_
  rintro _ _ _ ⟨b9, rfl, rfl, rfl⟩
  refine J.val (v := .bool false) rfl rfl (V.as rfl) ?_
  refine J.nil ?_
  refine CJ.seq ?_
  refine CJ.region ?_
  refine J.val (v := .func (.func 18) #[] #[]) rfl rfl (V.ld rfl (Ld.sc sc42 (Rd.cl 1 rfl rfl))) ?_
  refine J.val (v := .bool false) rfl rfl (V.fn_eql Try.underlying42 rfl rfl) ?_
  refine J.val (v := .bool false) rfl rfl (V.mv rfl) ?_
  refine J.run rfl rfl rfl rfl ?_
  refine J.val (v := .func (.func 18) #[] #[]) rfl rfl (V.ld rfl (Ld.sc sc42 (Rd.cl 1 rfl rfl))) ?_
  refine J.run rfl rfl rfl rfl ?_
  refine J.val rfl rfl (V.fad Try.underlying40 rfl nz3 rfl) ?_
  refine J.run rfl rfl rfl rfl ?_
  refine J.val (v := .int .i64 xa.1) rfl rfl (V.ld rfl (Ld.sc sc3 (Rd.cl 0 rfl rfl))) ?_
  refine J.run rfl rfl rfl rfl ?_
  refine J.val rfl rfl (V.fad Try.underlying40 rfl nz3 rfl) ?_
  refine J.run rfl rfl rfl rfl ?_
  refine J.val (v := .int .i64 xa.2.1) rfl rfl (V.ld rfl (Ld.sc sc3 (Rd.cl 0 rfl rfl))) ?_
  refine J.run rfl rfl rfl rfl ?_
  obtain ⟨r10, hr11, h⟩ := ob h
  refine J.op rfl (A.call (L1 := []) Try.call18 rfl (law16_always_ok hr11) rfl rfl) ?_
  rintro _ _ _ ⟨v13, _, rfl, ⟨⟨t12, rfl, rfl, rfl⟩, rfl⟩, _, rfl⟩
  refine J.run rfl rfl rfl rfl ?_
  refine J.val (v := .bool (!t12)) rfl rfl (V.not rfl) ?_
  refine J.val (v := .bool (!t12)) rfl rfl (V.pickF rfl rfl rfl) ?_
  refine J.val (v := .bool (!t12)) rfl rfl (V.as rfl) ?_
  refine J.nil ?_
  refine CJ.ret ?_
  have e := Option.some.inj h
  subst e
  exact ⟨_, [Cl pba 42 [.func (.func 18) #[] #[]]], Res.one rfl rfl, ⟨!t12, rfl, rfl, rfl⟩, (Hp.le_refl _), fun w hs => (Sep.dropAt 0 rfl hs)⟩
noncomputable def fn_slices_IndexFunc_relate_Need_relate_Need_k_relate_Holds_1_p0__law16_always_l1 (xa : (List (Int × Int × Int × Int × Bool))) : Int → Option (Int ⊕ (Unit ⊕ Int)) := fun (i201 : Int) => cond (decide (i201 < (((xa.length : Nat) : Int)))) ((getI xa i201).bind fun x225 => (fn_relate_Holds_1_ap0__law16_always (x225.1, x225.2.1, x225.2.2.1, x225.2.2.2.1, x225.2.2.2.2)).bind fun t236 => cond (t236) (some (.inr ((.inr (i201))))) (some (.inl (IntKind.wrap .i64 (i201 + 1))))) (some (.inr ((.inl ()))))
noncomputable def fn_slices_IndexFunc_relate_Need_relate_Need_k_relate_Holds_1_p0__law16_always (xa : (List (Int × Int × Int × Int × Bool))) : Option Int :=
  (loop (fn_slices_IndexFunc_relate_Need_relate_Need_k_relate_Holds_1_p0__law16_always_l1 xa) 0 : Option (Unit ⊕ Int)).bind fun o => match o with | .inr r => some r | .inl () => some ((-1))
set_option maxRecDepth 100000 in
set_option maxHeartbeats 4000000 in
theorem slices_IndexFunc_relate_Need_relate_Need_k_relate_Holds_1_p0__law16_always_ok {K : Hp} {xa : (List (Int × Int × Int × Int × Bool))} {pba : Nat} {adxa_0 : Option Addr} {cpxa_0 : Nat} (fxa_0 : Is K (.sl (.cons (.int .i64) (.cons (.int .i64) (.cons (.int .i64) (.cons (.int .i64) (.one .bool)))))) [.slice adxa_0 xa.length cpxa_0] xa) {r : Int} (h : fn_slices_IndexFunc_relate_Need_relate_Need_k_relate_Holds_1_p0__law16_always xa = some r) :
    Tr Try.prog 34 #[.slice adxa_0 xa.length cpxa_0, .func (.func 29) #[] #[.pointer (some ⟨pba, 0, none⟩)]] K [Cl pba 42 [.func (.func 18) #[] #[]]] (fun v K' L' => (∃ (i122 : Int), i122 = r ∧ v = .int .i64 i122 ∧ L' = [Cl pba 42 [.func (.func 18) #[] #[]]]) ∧ K = K') := by
  refine Tr.k ?_
  refine Tr.of Try.func34 rfl Try.ntmps34 rfl (fun E F => ?_)
  unfold fn_slices_IndexFunc_relate_Need_relate_Need_k_relate_Holds_1_p0__law16_always at h
  refine CJ.seq ?_
  refine CJ.region ?_
  refine J.val (v := .int .i64 0) rfl rfl (V.as rfl) ?_
  refine J.nil ?_
  refine CJ.seq ?_
  refine CJ.seq ?_
  refine CJ.region ?_
  refine J.val (v := .slice adxa_0 xa.length cpxa_0) rfl rfl (V.mv rfl) ?_
  refine J.val (v := .int .i64 (((xa.length : Nat) : Int))) rfl rfl (V.len Try.underlying27 rfl) ?_
  refine J.val (v := .int .i64 0) rfl rfl (V.mv rfl) ?_
  refine J.nil ?_
  obtain ⟨o181, ho182, h⟩ := ob h
  refine CJ.joinN (o := o181) (fun s ρ K' L' => () = s ∧ Fits [] ρ ∧ K = K' ∧ L' = Cl pba 42 [.func (.func 18) #[] #[]] :: F) ?_ ?_
  · skip
    refine CJ.block ?_
    refine CJ.loop (fun s ρ K' L' => ∃ (i201 : Int), i201 = s ∧ Fits [(0, .slice adxa_0 xa.length cpxa_0), (1, .func (.func 29) #[] #[.pointer (some ⟨pba, 0, none⟩)]), (7, .int .i64 (((xa.length : Nat) : Int))), (8, .int .i64 i201)] ρ ∧ K = K' ∧ L' = Cl pba 42 [.func (.func 18) #[] #[]] :: F) ho182 ⟨0, rfl, ⟨rfl, rfl, rfl, rfl, trivial⟩, rfl, rfl⟩ ?_
    rintro s ρ _ _ r223 ⟨i201, rfl, hf221, rfl, rfl⟩ h220
    obtain ⟨ρ, rfl⟩ := hf221.ex
    refine CJ.seq ?_
    refine CJ.region ?_
    refine J.val (v := .bool (decide (i201 < (((xa.length : Nat) : Int))))) rfl rfl (V.lss rfl rfl) ?_
    refine J.nil ?_
    refine CJ.seq ?_
    refine CJ.cond rfl (fun hc224 => ?_) (fun hc224 => ?_)
    · have h220 := ct hc224 h220
      refine CJ.skip ?_
      refine CJ.seq ?_
      refine CJ.block ?_
      refine CJ.seq ?_
      refine CJ.region ?_
      refine J.val (v := .int .i64 i201) rfl rfl (V.mv rfl) ?_
      refine J.val (v := .int .i64 i201) rfl rfl (V.as rfl) ?_
      refine J.nil ?_
      refine CJ.seq ?_
      refine CJ.region ?_
      refine J.val (v := .func (.func 29) #[] #[.pointer (some ⟨pba, 0, none⟩)]) rfl rfl (V.mv rfl) ?_
      refine J.val (v := .slice adxa_0 xa.length cpxa_0) rfl rfl (V.mv rfl) ?_
      refine J.val (v := .int .i64 i201) rfl rfl (V.mv rfl) ?_
      obtain ⟨x225, hx226, h220⟩ := ob h220
      obtain ⟨p227, p228, p229⟩ := getI_some hx226
      obtain ⟨b230, o231, e232, a233⟩ := (fxa_0).at p228
      refine J.val rfl rfl (V.iad Try.underlying27 sz40 rfl e232 rfl p227 p229) ?_
      refine J.val (v := .agg #[.int .i64 x225.1, .int .i64 x225.2.1, .int .i64 x225.2.2.1, .int .i64 x225.2.2.2.1, .bool x225.2.2.2.2]) rfl rfl (V.ld rfl (Ld.aggK (cs := [.int .i64 x225.1, .int .i64 x225.2.1, .int .i64 x225.2.2.1, .int .i64 x225.2.2.2.1, .bool x225.2.2.2.2]) Try.underlying40 sz40 rfl ⟨((a233).fst).int, (((a233).snd).fst).int, ((((a233).snd).snd).fst).int, (((((a233).snd).snd).snd).fst).int, ((((((a233).snd).snd).snd).snd).one).bool, trivial⟩ (Hp.le_refl _))) ?_
      obtain ⟨r234, hr235, h220⟩ := ob h220
      refine J.op rfl (A.call (L1 := [Cl pba 42 [.func (.func 18) #[] #[]]]) Try.call29 rfl (relate_Holds_1_ap0__law16_always_ok hr235) rfl rfl) ?_
      rintro _ _ _ ⟨v237, _, rfl, ⟨⟨t236, rfl, rfl, rfl⟩, rfl⟩, _, rfl⟩
      refine J.nil ?_
      refine CJ.cond rfl (fun hc240 => ?_) (fun hc240 => ?_)
      · have h220 := ct hc240 h220
        refine CJ.seq ?_
        refine CJ.region ?_
        refine J.val (v := .int .i64 i201) rfl rfl (V.mv rfl) ?_
        refine J.val (v := .int .i64 i201) rfl rfl (V.as rfl) ?_
        refine J.nil ?_
        refine CJ.ret ?_
        have e := Option.some.inj h220
        subst e
        refine ⟨nofun, fun e => ?_⟩
        subst e
        refine .inr ⟨nofun, ?_⟩
        have e := Option.some.inj h
        subst e
        exact ⟨_, [Cl pba 42 [.func (.func 18) #[] #[]]], Res.one rfl rfl, ⟨i201, rfl, rfl, rfl⟩, (Hp.le_refl _), fun w hs => hs⟩
      · have h220 := cf hc240 h220
        refine CJ.skip ?_
        refine CJ.region ?_
        refine J.val (v := .int .i64 (IntKind.wrap .i64 (i201 + 1))) rfl rfl (V.add rfl rfl) ?_
        refine J.val (v := .int .i64 (IntKind.wrap .i64 (i201 + 1))) rfl rfl (V.mv rfl) ?_
        refine J.nil ?_
        have e := Option.some.inj h220
        subst e
        exact ⟨rfl, ⟨IntKind.wrap .i64 (i201 + 1), rfl, ⟨rfl, rfl, rfl, rfl, trivial⟩, rfl, rfl⟩⟩
    · have h220 := cf hc224 h220
      refine CJ.exit ?_
      have e := Option.some.inj h220
      subst e
      refine ⟨nofun, fun e => ?_⟩
      subst e
      exact .inl ⟨rfl, _, rfl, ⟨rfl, trivial, rfl, rfl⟩⟩
  · rintro s ρ _ _ ho241 ⟨rfl, hf242, rfl, rfl⟩
    subst ho241
    obtain ⟨ρ, rfl⟩ := hf242.ex
    refine PJ.done ?_
    refine CJ.seq ?_
    refine CJ.region ?_
    refine J.val (v := .int .i64 (-1)) rfl rfl (V.as rfl) ?_
    refine J.nil ?_
    refine CJ.ret ?_
    have e := Option.some.inj h
    subst e
    exact ⟨_, [Cl pba 42 [.func (.func 18) #[] #[]]], Res.one rfl rfl, ⟨(-1), rfl, rfl, rfl⟩, (Hp.le_refl _), fun w hs => hs⟩

noncomputable def fn_slices_ContainsFunc_relate_Need_relate_Need_k_relate_Holds_1_p0__law16_always (xa : (List (Int × Int × Int × Int × Bool))) : Option Bool :=
  (fn_slices_IndexFunc_relate_Need_relate_Need_k_relate_Holds_1_p0__law16_always xa).bind fun i10 => some (decide (0 ≤ i10))
set_option maxRecDepth 100000 in
set_option maxHeartbeats 4000000 in
theorem slices_ContainsFunc_relate_Need_relate_Need_k_relate_Holds_1_p0__law16_always_ok {K : Hp} {xa : (List (Int × Int × Int × Int × Bool))} {pba : Nat} {adxa_0 : Option Addr} {cpxa_0 : Nat} (fxa_0 : Is K (.sl (.cons (.int .i64) (.cons (.int .i64) (.cons (.int .i64) (.cons (.int .i64) (.one .bool)))))) [.slice adxa_0 xa.length cpxa_0] xa) {r : Bool} (h : fn_slices_ContainsFunc_relate_Need_relate_Need_k_relate_Holds_1_p0__law16_always xa = some r) :
    Tr Try.prog 28 #[.slice adxa_0 xa.length cpxa_0, .func (.func 29) #[] #[.pointer (some ⟨pba, 0, none⟩)]] K [Cl pba 42 [.func (.func 18) #[] #[]]] (fun v K' L' => (∃ (t7 : Bool), t7 = r ∧ v = .bool t7 ∧ L' = [Cl pba 42 [.func (.func 18) #[] #[]]]) ∧ K = K') := by
  refine Tr.k ?_
  refine Tr.of Try.func28 rfl Try.ntmps28 rfl (fun E F => ?_)
  unfold fn_slices_ContainsFunc_relate_Need_relate_Need_k_relate_Holds_1_p0__law16_always at h
  refine CJ.seq ?_
  refine CJ.region ?_
  refine J.val (v := .bool false) rfl rfl (V.as rfl) ?_
  refine J.nil ?_
  refine CJ.seq ?_
  refine CJ.region ?_
  refine J.val (v := .slice adxa_0 xa.length cpxa_0) rfl rfl (V.mv rfl) ?_
  refine J.val (v := .func (.func 29) #[] #[.pointer (some ⟨pba, 0, none⟩)]) rfl rfl (V.mv rfl) ?_
  obtain ⟨r8, hr9, h⟩ := ob h
  refine J.op rfl (A.call (L1 := [Cl pba 42 [.func (.func 18) #[] #[]]]) Try.call34 rfl (slices_IndexFunc_relate_Need_relate_Need_k_relate_Holds_1_p0__law16_always_ok fxa_0 hr9) rfl rfl) ?_
  rintro _ _ _ ⟨v11, _, rfl, ⟨⟨i10, rfl, rfl, rfl⟩, rfl⟩, _, rfl⟩
  refine J.val (v := .bool (decide (0 ≤ i10))) rfl rfl (V.geq rfl rfl) ?_
  refine J.val (v := .bool (decide (0 ≤ i10))) rfl rfl (V.as rfl) ?_
  refine J.nil ?_
  refine CJ.ret ?_
  have e := Option.some.inj h
  subst e
  exact ⟨_, [Cl pba 42 [.func (.func 18) #[] #[]]], Res.one rfl rfl, ⟨decide (0 ≤ i10), rfl, rfl, rfl⟩, (Hp.le_refl _), fun w hs => hs⟩

noncomputable def fn_relate_Holds_k_law16_always (xa : (List (Int × Int × Int × Int × Bool))) : Option Bool :=
  (fn_slices_ContainsFunc_relate_Need_relate_Need_k_relate_Holds_1_p0__law16_always xa).bind fun t12 => some (!t12)
set_option maxRecDepth 100000 in
set_option maxHeartbeats 4000000 in
theorem relate_Holds_k_law16_always_ok {K : Hp} {xa : (List (Int × Int × Int × Int × Bool))} {adxa_0 : Option Addr} {cpxa_0 : Nat} (fxa_0 : Is K (.sl (.cons (.int .i64) (.cons (.int .i64) (.cons (.int .i64) (.cons (.int .i64) (.one .bool)))))) [.slice adxa_0 xa.length cpxa_0] xa) {r : Bool} (h : fn_relate_Holds_k_law16_always xa = some r) :
    Tr Try.prog 16 #[.slice adxa_0 xa.length cpxa_0, .func (.func 18) #[] #[]] K [] (fun v K' L' => (∃ (t8 : Bool), t8 = r ∧ v = .bool t8 ∧ L' = []) ∧ K = K') := by
  refine Tr.k ?_
  refine Tr.of Try.func16 rfl Try.ntmps16 rfl (fun E F => ?_)
  unfold fn_relate_Holds_k_law16_always at h
  refine CJ.seq ?_
  refine CJ.region ?_
  refine J.op rfl (A.box (v := .func (.func 18) #[] #[]) (cs := [.func (.func 18) #[] #[]]) rfl rfl) ?_
  rintro _ _ _ ⟨b9, rfl, rfl, rfl⟩
  refine J.val (v := .bool false) rfl rfl (V.as rfl) ?_
  refine J.nil ?_
  refine CJ.seq ?_
  refine CJ.region ?_
  refine J.val (v := .slice adxa_0 xa.length cpxa_0) rfl rfl (V.mv rfl) ?_
  refine J.val (v := .func (.func 29) #[] #[.pointer (some ⟨b9, 0, none⟩)]) rfl rfl (V.mkf rfl) ?_
  obtain ⟨r10, hr11, h⟩ := ob h
  refine J.op rfl (A.call (L1 := [Cl b9 42 [.func (.func 18) #[] #[]]]) Try.call28 rfl (slices_ContainsFunc_relate_Need_relate_Need_k_relate_Holds_1_p0__law16_always_ok fxa_0 hr11) rfl rfl) ?_
  rintro _ _ _ ⟨v13, _, rfl, ⟨⟨t12, rfl, rfl, rfl⟩, rfl⟩, _, rfl⟩
  refine J.val (v := .bool (!t12)) rfl rfl (V.not rfl) ?_
  refine J.val (v := .bool (!t12)) rfl rfl (V.as rfl) ?_
  refine J.nil ?_
  refine CJ.ret ?_
  have e := Option.some.inj h
  subst e
  exact ⟨_, [], Res.one rfl rfl, ⟨!t12, rfl, rfl, rfl⟩, (Hp.le_refl _), fun w hs => (Sep.dropAt 0 rfl hs)⟩

noncomputable def fn_law16_above (xa : Int) (xb : Int) : Option Bool :=
  some (decide (xb ≤ xa))
set_option maxRecDepth 100000 in
set_option maxHeartbeats 4000000 in
theorem law16_above_ok {K : Hp} {xa : Int} {xb : Int}   {r : Bool} (h : fn_law16_above xa xb = some r) :
    Tr Try.prog 19 #[.int .i64 xa, .int .i64 xb] K [] (fun v K' L' => (∃ (t1 : Bool), t1 = r ∧ v = .bool t1 ∧ L' = []) ∧ K = K') := by
  refine Tr.k ?_
  refine Tr.of Try.func19 rfl Try.ntmps19 rfl (fun E F => ?_)
  unfold fn_law16_above at h
  refine CJ.seq ?_
  refine CJ.region ?_
  refine J.val (v := .bool false) rfl rfl (V.as rfl) ?_
  refine J.nil ?_
  refine CJ.seq ?_
  refine CJ.region ?_
  refine J.val (v := .int .i64 xa) rfl rfl (V.mv rfl) ?_
  refine J.val (v := .int .i64 xb) rfl rfl (V.mv rfl) ?_
  refine J.val (v := .bool (decide (xb ≤ xa))) rfl rfl (V.geq rfl rfl) ?_
  refine J.val (v := .bool (decide (xb ≤ xa))) rfl rfl (V.as rfl) ?_
  refine J.nil ?_
  refine CJ.ret ?_
  have e := Option.some.inj h
  subst e
  exact ⟨_, [], Res.one rfl rfl, ⟨decide (xb ≤ xa), rfl, rfl, rfl⟩, (Hp.le_refl _), fun w hs => hs⟩

noncomputable def fn_relate_Holds_1_ap0__law16_above (xa : (Int × Int × Int × Int × Bool)) : Option Bool :=
  (fn_law16_above xa.1 xa.2.1).bind fun t12 => some (!t12)
set_option maxRecDepth 100000 in
set_option maxHeartbeats 4000000 in
theorem relate_Holds_1_ap0__law16_above_ok {K : Hp} {xa : (Int × Int × Int × Int × Bool)} {pba : Nat}  {r : Bool} (h : fn_relate_Holds_1_ap0__law16_above xa = some r) :
    Tr Try.prog 29 #[.agg #[.int .i64 xa.1, .int .i64 xa.2.1, .int .i64 xa.2.2.1, .int .i64 xa.2.2.2.1, .bool xa.2.2.2.2], .pointer (some ⟨pba, 0, none⟩)] K [Cl pba 42 [.func (.func 19) #[] #[]]] (fun v K' L' => (∃ (t8 : Bool), t8 = r ∧ v = .bool t8 ∧ L' = [Cl pba 42 [.func (.func 19) #[] #[]]]) ∧ K = K') := by
  refine Tr.k ?_
  refine Tr.of Try.func29 rfl Try.ntmps29 rfl (fun E F => ?_)
  unfold fn_relate_Holds_1_ap0__law16_above at h
  refine CJ.seq ?_
  refine CJ.region ?_
  refine J.op rfl (A.box (v := .agg #[.int .i64 xa.1, .int .i64 xa.2.1, .int .i64 xa.2.2.1, .int .i64 xa.2.2.2.1, .bool xa.2.2.2.2]) (cs := [.int .i64 xa.1, .int .i64 xa.2.1, .int .i64 xa.2.2.1, .int .i64 xa.2.2.2.1, .bool xa.2.2.2.2]) rfl rfl) ?_
  rintro _ _ _ ⟨b9, rfl, rfl, rfl⟩
  refine J.val (v := .bool false) rfl rfl (V.as rfl) ?_
  refine J.nil ?_
  refine CJ.seq ?_
  refine CJ.region ?_
  refine J.val (v := .func (.func 19) #[] #[]) rfl rfl (V.ld rfl (Ld.sc sc42 (Rd.cl 1 rfl rfl))) ?_
  refine J.val (v := .bool false) rfl rfl (V.fn_eql Try.underlying42 rfl rfl) ?_
  refine J.val (v := .bool false) rfl rfl (V.mv rfl) ?_
  refine J.run rfl rfl rfl rfl ?_
  refine J.val (v := .func (.func 19) #[] #[]) rfl rfl (V.ld rfl (Ld.sc sc42 (Rd.cl 1 rfl rfl))) ?_
  refine J.run rfl rfl rfl rfl ?_
  refine J.val rfl rfl (V.fad Try.underlying40 rfl nz3 rfl) ?_
  refine J.run rfl rfl rfl rfl ?_
  refine J.val (v := .int .i64 xa.1) rfl rfl (V.ld rfl (Ld.sc sc3 (Rd.cl 0 rfl rfl))) ?_
  refine J.run rfl rfl rfl rfl ?_
  refine J.val rfl rfl (V.fad Try.underlying40 rfl nz3 rfl) ?_
  refine J.run rfl rfl rfl rfl ?_
  refine J.val (v := .int .i64 xa.2.1) rfl rfl (V.ld rfl (Ld.sc sc3 (Rd.cl 0 rfl rfl))) ?_
  refine J.run rfl rfl rfl rfl ?_
  obtain ⟨r10, hr11, h⟩ := ob h
  refine J.op rfl (A.call (L1 := []) Try.call19 rfl (law16_above_ok hr11) rfl rfl) ?_
  rintro _ _ _ ⟨v13, _, rfl, ⟨⟨t12, rfl, rfl, rfl⟩, rfl⟩, _, rfl⟩
  refine J.run rfl rfl rfl rfl ?_
  refine J.val (v := .bool (!t12)) rfl rfl (V.not rfl) ?_
  refine J.val (v := .bool (!t12)) rfl rfl (V.pickF rfl rfl rfl) ?_
  refine J.val (v := .bool (!t12)) rfl rfl (V.as rfl) ?_
  refine J.nil ?_
  refine CJ.ret ?_
  have e := Option.some.inj h
  subst e
  exact ⟨_, [Cl pba 42 [.func (.func 19) #[] #[]]], Res.one rfl rfl, ⟨!t12, rfl, rfl, rfl⟩, (Hp.le_refl _), fun w hs => (Sep.dropAt 0 rfl hs)⟩
noncomputable def fn_slices_IndexFunc_relate_Need_relate_Need_k_relate_Holds_1_p0__law16_above_l1 (xa : (List (Int × Int × Int × Int × Bool))) : Int → Option (Int ⊕ (Unit ⊕ Int)) := fun (i201 : Int) => cond (decide (i201 < (((xa.length : Nat) : Int)))) ((getI xa i201).bind fun x225 => (fn_relate_Holds_1_ap0__law16_above (x225.1, x225.2.1, x225.2.2.1, x225.2.2.2.1, x225.2.2.2.2)).bind fun t236 => cond (t236) (some (.inr ((.inr (i201))))) (some (.inl (IntKind.wrap .i64 (i201 + 1))))) (some (.inr ((.inl ()))))
noncomputable def fn_slices_IndexFunc_relate_Need_relate_Need_k_relate_Holds_1_p0__law16_above (xa : (List (Int × Int × Int × Int × Bool))) : Option Int :=
  (loop (fn_slices_IndexFunc_relate_Need_relate_Need_k_relate_Holds_1_p0__law16_above_l1 xa) 0 : Option (Unit ⊕ Int)).bind fun o => match o with | .inr r => some r | .inl () => some ((-1))
set_option maxRecDepth 100000 in
set_option maxHeartbeats 4000000 in
theorem slices_IndexFunc_relate_Need_relate_Need_k_relate_Holds_1_p0__law16_above_ok {K : Hp} {xa : (List (Int × Int × Int × Int × Bool))} {pba : Nat} {adxa_0 : Option Addr} {cpxa_0 : Nat} (fxa_0 : Is K (.sl (.cons (.int .i64) (.cons (.int .i64) (.cons (.int .i64) (.cons (.int .i64) (.one .bool)))))) [.slice adxa_0 xa.length cpxa_0] xa) {r : Int} (h : fn_slices_IndexFunc_relate_Need_relate_Need_k_relate_Holds_1_p0__law16_above xa = some r) :
    Tr Try.prog 34 #[.slice adxa_0 xa.length cpxa_0, .func (.func 29) #[] #[.pointer (some ⟨pba, 0, none⟩)]] K [Cl pba 42 [.func (.func 19) #[] #[]]] (fun v K' L' => (∃ (i122 : Int), i122 = r ∧ v = .int .i64 i122 ∧ L' = [Cl pba 42 [.func (.func 19) #[] #[]]]) ∧ K = K') := by
  refine Tr.k ?_
  refine Tr.of Try.func34 rfl Try.ntmps34 rfl (fun E F => ?_)
  unfold fn_slices_IndexFunc_relate_Need_relate_Need_k_relate_Holds_1_p0__law16_above at h
  refine CJ.seq ?_
  refine CJ.region ?_
  refine J.val (v := .int .i64 0) rfl rfl (V.as rfl) ?_
  refine J.nil ?_
  refine CJ.seq ?_
  refine CJ.seq ?_
  refine CJ.region ?_
  refine J.val (v := .slice adxa_0 xa.length cpxa_0) rfl rfl (V.mv rfl) ?_
  refine J.val (v := .int .i64 (((xa.length : Nat) : Int))) rfl rfl (V.len Try.underlying27 rfl) ?_
  refine J.val (v := .int .i64 0) rfl rfl (V.mv rfl) ?_
  refine J.nil ?_
  obtain ⟨o181, ho182, h⟩ := ob h
  refine CJ.joinN (o := o181) (fun s ρ K' L' => () = s ∧ Fits [] ρ ∧ K = K' ∧ L' = Cl pba 42 [.func (.func 19) #[] #[]] :: F) ?_ ?_
  · skip
    refine CJ.block ?_
    refine CJ.loop (fun s ρ K' L' => ∃ (i201 : Int), i201 = s ∧ Fits [(0, .slice adxa_0 xa.length cpxa_0), (1, .func (.func 29) #[] #[.pointer (some ⟨pba, 0, none⟩)]), (7, .int .i64 (((xa.length : Nat) : Int))), (8, .int .i64 i201)] ρ ∧ K = K' ∧ L' = Cl pba 42 [.func (.func 19) #[] #[]] :: F) ho182 ⟨0, rfl, ⟨rfl, rfl, rfl, rfl, trivial⟩, rfl, rfl⟩ ?_
    rintro s ρ _ _ r223 ⟨i201, rfl, hf221, rfl, rfl⟩ h220
    obtain ⟨ρ, rfl⟩ := hf221.ex
    refine CJ.seq ?_
    refine CJ.region ?_
    refine J.val (v := .bool (decide (i201 < (((xa.length : Nat) : Int))))) rfl rfl (V.lss rfl rfl) ?_
    refine J.nil ?_
    refine CJ.seq ?_
    refine CJ.cond rfl (fun hc224 => ?_) (fun hc224 => ?_)
    · have h220 := ct hc224 h220
      refine CJ.skip ?_
      refine CJ.seq ?_
      refine CJ.block ?_
      refine CJ.seq ?_
      refine CJ.region ?_
      refine J.val (v := .int .i64 i201) rfl rfl (V.mv rfl) ?_
      refine J.val (v := .int .i64 i201) rfl rfl (V.as rfl) ?_
      refine J.nil ?_
      refine CJ.seq ?_
      refine CJ.region ?_
      refine J.val (v := .func (.func 29) #[] #[.pointer (some ⟨pba, 0, none⟩)]) rfl rfl (V.mv rfl) ?_
      refine J.val (v := .slice adxa_0 xa.length cpxa_0) rfl rfl (V.mv rfl) ?_
      refine J.val (v := .int .i64 i201) rfl rfl (V.mv rfl) ?_
      obtain ⟨x225, hx226, h220⟩ := ob h220
      obtain ⟨p227, p228, p229⟩ := getI_some hx226
      obtain ⟨b230, o231, e232, a233⟩ := (fxa_0).at p228
      refine J.val rfl rfl (V.iad Try.underlying27 sz40 rfl e232 rfl p227 p229) ?_
      refine J.val (v := .agg #[.int .i64 x225.1, .int .i64 x225.2.1, .int .i64 x225.2.2.1, .int .i64 x225.2.2.2.1, .bool x225.2.2.2.2]) rfl rfl (V.ld rfl (Ld.aggK (cs := [.int .i64 x225.1, .int .i64 x225.2.1, .int .i64 x225.2.2.1, .int .i64 x225.2.2.2.1, .bool x225.2.2.2.2]) Try.underlying40 sz40 rfl ⟨((a233).fst).int, (((a233).snd).fst).int, ((((a233).snd).snd).fst).int, (((((a233).snd).snd).snd).fst).int, ((((((a233).snd).snd).snd).snd).one).bool, trivial⟩ (Hp.le_refl _))) ?_
      obtain ⟨r234, hr235, h220⟩ := ob h220
      refine J.op rfl (A.call (L1 := [Cl pba 42 [.func (.func 19) #[] #[]]]) Try.call29 rfl (relate_Holds_1_ap0__law16_above_ok hr235) rfl rfl) ?_
      rintro _ _ _ ⟨v237, _, rfl, ⟨⟨t236, rfl, rfl, rfl⟩, rfl⟩, _, rfl⟩
      refine J.nil ?_
      refine CJ.cond rfl (fun hc240 => ?_) (fun hc240 => ?_)
      · have h220 := ct hc240 h220
        refine CJ.seq ?_
        refine CJ.region ?_
        refine J.val (v := .int .i64 i201) rfl rfl (V.mv rfl) ?_
        refine J.val (v := .int .i64 i201) rfl rfl (V.as rfl) ?_
        refine J.nil ?_
        refine CJ.ret ?_
        have e := Option.some.inj h220
        subst e
        refine ⟨nofun, fun e => ?_⟩
        subst e
        refine .inr ⟨nofun, ?_⟩
        have e := Option.some.inj h
        subst e
        exact ⟨_, [Cl pba 42 [.func (.func 19) #[] #[]]], Res.one rfl rfl, ⟨i201, rfl, rfl, rfl⟩, (Hp.le_refl _), fun w hs => hs⟩
      · have h220 := cf hc240 h220
        refine CJ.skip ?_
        refine CJ.region ?_
        refine J.val (v := .int .i64 (IntKind.wrap .i64 (i201 + 1))) rfl rfl (V.add rfl rfl) ?_
        refine J.val (v := .int .i64 (IntKind.wrap .i64 (i201 + 1))) rfl rfl (V.mv rfl) ?_
        refine J.nil ?_
        have e := Option.some.inj h220
        subst e
        exact ⟨rfl, ⟨IntKind.wrap .i64 (i201 + 1), rfl, ⟨rfl, rfl, rfl, rfl, trivial⟩, rfl, rfl⟩⟩
    · have h220 := cf hc224 h220
      refine CJ.exit ?_
      have e := Option.some.inj h220
      subst e
      refine ⟨nofun, fun e => ?_⟩
      subst e
      exact .inl ⟨rfl, _, rfl, ⟨rfl, trivial, rfl, rfl⟩⟩
  · rintro s ρ _ _ ho241 ⟨rfl, hf242, rfl, rfl⟩
    subst ho241
    obtain ⟨ρ, rfl⟩ := hf242.ex
    refine PJ.done ?_
    refine CJ.seq ?_
    refine CJ.region ?_
    refine J.val (v := .int .i64 (-1)) rfl rfl (V.as rfl) ?_
    refine J.nil ?_
    refine CJ.ret ?_
    have e := Option.some.inj h
    subst e
    exact ⟨_, [Cl pba 42 [.func (.func 19) #[] #[]]], Res.one rfl rfl, ⟨(-1), rfl, rfl, rfl⟩, (Hp.le_refl _), fun w hs => hs⟩

noncomputable def fn_slices_ContainsFunc_relate_Need_relate_Need_k_relate_Holds_1_p0__law16_above (xa : (List (Int × Int × Int × Int × Bool))) : Option Bool :=
  (fn_slices_IndexFunc_relate_Need_relate_Need_k_relate_Holds_1_p0__law16_above xa).bind fun i10 => some (decide (0 ≤ i10))
set_option maxRecDepth 100000 in
set_option maxHeartbeats 4000000 in
theorem slices_ContainsFunc_relate_Need_relate_Need_k_relate_Holds_1_p0__law16_above_ok {K : Hp} {xa : (List (Int × Int × Int × Int × Bool))} {pba : Nat} {adxa_0 : Option Addr} {cpxa_0 : Nat} (fxa_0 : Is K (.sl (.cons (.int .i64) (.cons (.int .i64) (.cons (.int .i64) (.cons (.int .i64) (.one .bool)))))) [.slice adxa_0 xa.length cpxa_0] xa) {r : Bool} (h : fn_slices_ContainsFunc_relate_Need_relate_Need_k_relate_Holds_1_p0__law16_above xa = some r) :
    Tr Try.prog 28 #[.slice adxa_0 xa.length cpxa_0, .func (.func 29) #[] #[.pointer (some ⟨pba, 0, none⟩)]] K [Cl pba 42 [.func (.func 19) #[] #[]]] (fun v K' L' => (∃ (t7 : Bool), t7 = r ∧ v = .bool t7 ∧ L' = [Cl pba 42 [.func (.func 19) #[] #[]]]) ∧ K = K') := by
  refine Tr.k ?_
  refine Tr.of Try.func28 rfl Try.ntmps28 rfl (fun E F => ?_)
  unfold fn_slices_ContainsFunc_relate_Need_relate_Need_k_relate_Holds_1_p0__law16_above at h
  refine CJ.seq ?_
  refine CJ.region ?_
  refine J.val (v := .bool false) rfl rfl (V.as rfl) ?_
  refine J.nil ?_
  refine CJ.seq ?_
  refine CJ.region ?_
  refine J.val (v := .slice adxa_0 xa.length cpxa_0) rfl rfl (V.mv rfl) ?_
  refine J.val (v := .func (.func 29) #[] #[.pointer (some ⟨pba, 0, none⟩)]) rfl rfl (V.mv rfl) ?_
  obtain ⟨r8, hr9, h⟩ := ob h
  refine J.op rfl (A.call (L1 := [Cl pba 42 [.func (.func 19) #[] #[]]]) Try.call34 rfl (slices_IndexFunc_relate_Need_relate_Need_k_relate_Holds_1_p0__law16_above_ok fxa_0 hr9) rfl rfl) ?_
  rintro _ _ _ ⟨v11, _, rfl, ⟨⟨i10, rfl, rfl, rfl⟩, rfl⟩, _, rfl⟩
  refine J.val (v := .bool (decide (0 ≤ i10))) rfl rfl (V.geq rfl rfl) ?_
  refine J.val (v := .bool (decide (0 ≤ i10))) rfl rfl (V.as rfl) ?_
  refine J.nil ?_
  refine CJ.ret ?_
  have e := Option.some.inj h
  subst e
  exact ⟨_, [Cl pba 42 [.func (.func 19) #[] #[]]], Res.one rfl rfl, ⟨decide (0 ≤ i10), rfl, rfl, rfl⟩, (Hp.le_refl _), fun w hs => hs⟩

noncomputable def fn_relate_Holds_k_law16_above (xa : (List (Int × Int × Int × Int × Bool))) : Option Bool :=
  (fn_slices_ContainsFunc_relate_Need_relate_Need_k_relate_Holds_1_p0__law16_above xa).bind fun t12 => some (!t12)
set_option maxRecDepth 100000 in
set_option maxHeartbeats 4000000 in
theorem relate_Holds_k_law16_above_ok {K : Hp} {xa : (List (Int × Int × Int × Int × Bool))} {adxa_0 : Option Addr} {cpxa_0 : Nat} (fxa_0 : Is K (.sl (.cons (.int .i64) (.cons (.int .i64) (.cons (.int .i64) (.cons (.int .i64) (.one .bool)))))) [.slice adxa_0 xa.length cpxa_0] xa) {r : Bool} (h : fn_relate_Holds_k_law16_above xa = some r) :
    Tr Try.prog 16 #[.slice adxa_0 xa.length cpxa_0, .func (.func 19) #[] #[]] K [] (fun v K' L' => (∃ (t8 : Bool), t8 = r ∧ v = .bool t8 ∧ L' = []) ∧ K = K') := by
  refine Tr.k ?_
  refine Tr.of Try.func16 rfl Try.ntmps16 rfl (fun E F => ?_)
  unfold fn_relate_Holds_k_law16_above at h
  refine CJ.seq ?_
  refine CJ.region ?_
  refine J.op rfl (A.box (v := .func (.func 19) #[] #[]) (cs := [.func (.func 19) #[] #[]]) rfl rfl) ?_
  rintro _ _ _ ⟨b9, rfl, rfl, rfl⟩
  refine J.val (v := .bool false) rfl rfl (V.as rfl) ?_
  refine J.nil ?_
  refine CJ.seq ?_
  refine CJ.region ?_
  refine J.val (v := .slice adxa_0 xa.length cpxa_0) rfl rfl (V.mv rfl) ?_
  refine J.val (v := .func (.func 29) #[] #[.pointer (some ⟨b9, 0, none⟩)]) rfl rfl (V.mkf rfl) ?_
  obtain ⟨r10, hr11, h⟩ := ob h
  refine J.op rfl (A.call (L1 := [Cl b9 42 [.func (.func 19) #[] #[]]]) Try.call28 rfl (slices_ContainsFunc_relate_Need_relate_Need_k_relate_Holds_1_p0__law16_above_ok fxa_0 hr11) rfl rfl) ?_
  rintro _ _ _ ⟨v13, _, rfl, ⟨⟨t12, rfl, rfl, rfl⟩, rfl⟩, _, rfl⟩
  refine J.val (v := .bool (!t12)) rfl rfl (V.not rfl) ?_
  refine J.val (v := .bool (!t12)) rfl rfl (V.as rfl) ?_
  refine J.nil ?_
  refine CJ.ret ?_
  have e := Option.some.inj h
  subst e
  exact ⟨_, [], Res.one rfl rfl, ⟨!t12, rfl, rfl, rfl⟩, (Hp.le_refl _), fun w hs => (Sep.dropAt 0 rfl hs)⟩
noncomputable def fn_law16_RelateHolds_l1  : ((List (Int × Int × Int × Int × Bool)) × (List (Int × Int × Int × Int × Bool)) × Bool × Bool × Int) → Option (((List (Int × Int × Int × Int × Bool)) × (List (Int × Int × Int × Int × Bool)) × Bool × Bool × Int) ⊕ ((List (Int × Int × Int × Int × Bool)) × (List (Int × Int × Int × Int × Bool)) × Bool × Bool)) := fun ((l1471, l1476, t1481, t1482, i1483) : ((List (Int × Int × Int × Int × Bool)) × (List (Int × Int × Int × Int × Bool)) × Bool × Bool × Int)) => cond (decide (i1483 < (((l1476.length : Nat) : Int)))) ((cond (t1481) ((getI l1476 i1483).bind fun x1667 => (getI l1476 i1483).bind fun x1674 => some ((l1471, l1476, decide (x1667.1 = x1674.2.1)))) (some ((l1471, l1476, false)))).bind fun (l1638, l1643, t1648) => cond (t1482) ((getI l1643 i1483).bind fun x1699 => (getI l1643 i1483).bind fun x1706 => some (.inl ((l1638, l1643, t1648, decide (x1706.2.1 ≤ x1699.1), IntKind.wrap .i64 (i1483 + 1))))) (some (.inl ((l1638, l1643, t1648, false, IntKind.wrap .i64 (i1483 + 1)))))) (some (.inr (((l1471, l1476, t1481, t1482)))))
noncomputable def fn_law16_RelateHolds (xa : (List (Int × Bool))) (xb : (List (Int × Bool))) : Option Bool :=
  (fn_ref15_Few xa 20).bind fun t920 => (cond (!t920) (some (true)) ((fn_ref15_Few xb 20).bind fun t936 => some (!t936))).bind fun t931 => cond (t931) ((fn_law16_awake).bind fun t943 => some (t943)) ((fn_relate_Flow xa xa 1 0).bind fun (l949, i950) => (fn_relate_Flow xa xb 1 0).bind fun (l960, i961) => (loop (fn_law16_RelateHolds_l1) (l949, l960, true, true, 0)).bind fun (l1334, l1339, t1344, t1345) => (cond (decide (i950 = 0)) ((fn_relate_Holds_k_law16_alike l1334).bind fun t1733 => some (t1733)) (some (false))).bind fun t1725 => (cond (t1725 && ((decide (i961 = 0)) || (decide ((((l1339.length : Nat) : Int)) = 0)))) ((fn_relate_Holds_k_law16_always l1339).bind fun t1764 => some (t1764)) (some (false))).bind fun t1756 => (cond (t1756) ((fn_relate_Holds_k_law16_alike l1339).bind fun t1786 => some (t1786 == t1344)) (some (false))).bind fun t1778 => (cond (t1778) ((fn_relate_Holds_k_law16_above l1339).bind fun t1808 => some (t1808 == t1345)) (some (false))).bind fun t1800 => (cond (t1800) ((fn_law16_awake).bind fun t1824 => some (t1824)) (some (false))).bind fun t1819 => some (t1819))
set_option maxRecDepth 100000 in
set_option maxHeartbeats 4000000 in
theorem law16_RelateHolds_ok {K : Hp} {xa : (List (Int × Bool))} {xb : (List (Int × Bool))} {adxa_0 : Option Addr} {cpxa_0 : Nat} {adxb_0 : Option Addr} {cpxb_0 : Nat} (fxa_0 : Is K (.sl (.cons (.int .i64) (.one .bool))) [.slice adxa_0 xa.length cpxa_0] xa) (fxb_0 : Is K (.sl (.cons (.int .i64) (.one .bool))) [.slice adxb_0 xb.length cpxb_0] xb) {r : Bool} (h : fn_law16_RelateHolds xa xb = some r) :
    Tr Try.prog 4 #[.agg #[.slice adxa_0 xa.length cpxa_0], .agg #[.slice adxb_0 xb.length cpxb_0]] K [] (fun v K' L' => (∃ (t915 : Bool), t915 = r ∧ v = .bool t915 ∧ L' = []) ∧ K = K') := by
  refine Tr.k ?_
  refine Tr.of Try.func4 rfl Try.ntmps4 rfl (fun E F => ?_)
  unfold fn_law16_RelateHolds at h
  refine CJ.seq ?_
  refine CJ.region ?_
  refine J.op rfl (A.box (v := .agg #[.slice adxa_0 xa.length cpxa_0]) (cs := [.slice adxa_0 xa.length cpxa_0]) rfl rfl) ?_
  rintro _ _ _ ⟨b916, rfl, rfl, rfl⟩
  refine J.op rfl (A.box (v := .agg #[.slice adxb_0 xb.length cpxb_0]) (cs := [.slice adxb_0 xb.length cpxb_0]) rfl rfl) ?_
  rintro _ _ _ ⟨b917, rfl, rfl, rfl⟩
  refine J.val (v := .bool false) rfl rfl (V.as rfl) ?_
  refine J.nil ?_
  refine CJ.seq ?_
  refine CJ.seq ?_
  refine CJ.region ?_
  refine J.val (v := .agg #[.slice adxa_0 xa.length cpxa_0]) rfl rfl (V.ld rfl (Ld.agg (cs := [.slice adxa_0 xa.length cpxa_0]) Try.underlying24 sz24 rfl (Rd.cls 1 0 rfl rfl))) ?_
  obtain ⟨r918, hr919, h⟩ := ob h
  refine J.op rfl (A.call (L1 := []) Try.call6 rfl (ref15_Few_ok fxa_0 hr919) rfl rfl) ?_
  rintro _ _ _ ⟨v921, _, rfl, ⟨⟨t920, rfl, rfl, rfl⟩, rfl⟩, _, rfl⟩
  refine J.val (v := .bool (!t920)) rfl rfl (V.not rfl) ?_
  refine J.val (v := .bool (!t920)) rfl rfl (V.mv rfl) ?_
  refine J.cut 4 ?_
  obtain ⟨t931, ht932, h⟩ := ob h
  refine @J.meet _ _ _ _ _ _ _ _ _ _ (fun ρ K' L' => Fits [(19, .bool t931), (2, .pointer (some ⟨b916, 0, none⟩)), (3, .pointer (some ⟨b917, 0, none⟩))] ρ ∧ K = K' ∧ L' = Cl b917 24 [.slice adxb_0 xb.length cpxb_0] :: Cl b916 24 [.slice adxa_0 xa.length cpxa_0] :: F) ?_ ?_
  · skip
    rcases bt (!t920) with hc933 | hc933
    · have ht932 := ct hc933 ht932
      refine J.skip rfl rfl rfl rfl hc933 ?_
      refine J.skip rfl rfl rfl rfl hc933 ?_
      refine J.skip rfl rfl rfl rfl hc933 ?_
      refine J.val (v := .bool true) rfl rfl (V.pickT rfl hc933 rfl) ?_
      refine J.nil ?_
      have e := Option.some.inj ht932
      subst e
      exact ⟨rfl, ⟨rfl, rfl, rfl, trivial⟩, rfl, rfl⟩
    · have ht932 := cf hc933 ht932
      refine J.run rfl rfl rfl hc933 ?_
      refine J.val (v := .agg #[.slice adxb_0 xb.length cpxb_0]) rfl rfl (V.ld rfl (Ld.agg (cs := [.slice adxb_0 xb.length cpxb_0]) Try.underlying24 sz24 rfl (Rd.cls 0 0 rfl rfl))) ?_
      refine J.run rfl rfl rfl hc933 ?_
      obtain ⟨r934, hr935, ht932⟩ := ob ht932
      refine J.op rfl (A.call (L1 := []) Try.call6 rfl (ref15_Few_ok fxb_0 hr935) rfl rfl) ?_
      rintro _ _ _ ⟨v937, _, rfl, ⟨⟨t936, rfl, rfl, rfl⟩, rfl⟩, _, rfl⟩
      refine J.run rfl rfl rfl hc933 ?_
      refine J.val (v := .bool (!t936)) rfl rfl (V.not rfl) ?_
      refine J.val (v := .bool (!t936)) rfl rfl (V.pickF rfl hc933 rfl) ?_
      refine J.nil ?_
      have e := Option.some.inj ht932
      subst e
      exact ⟨rfl, ⟨rfl, rfl, rfl, trivial⟩, rfl, rfl⟩
  · rintro ρ _ _ ⟨hf, rfl, rfl⟩
    obtain ⟨ρ, rfl⟩ := hf.ex
    refine J.nil ?_
    refine CJ.cond rfl (fun hc940 => ?_) (fun hc940 => ?_)
    · have h := ct hc940 h
      refine CJ.seq ?_
      refine CJ.region ?_
      obtain ⟨r941, hr942, h⟩ := ob h
      refine J.op rfl (A.call (L1 := []) Try.call7 rfl (law16_awake_ok hr942) rfl rfl) ?_
      rintro _ _ _ ⟨v944, _, rfl, ⟨⟨t943, rfl, rfl, rfl⟩, rfl⟩, _, rfl⟩
      refine J.val (v := .bool t943) rfl rfl (V.as rfl) ?_
      refine J.nil ?_
      refine CJ.ret ?_
      have e := Option.some.inj h
      subst e
      exact ⟨_, [], Res.one rfl rfl, ⟨t943, rfl, rfl, rfl⟩, (Hp.le_refl _), fun w hs => (Sep.dropAt 0 rfl (Sep.dropAt 0 rfl hs))⟩
    · have h := cf hc940 h
      refine CJ.skip ?_
      refine CJ.seq ?_
      refine CJ.region ?_
      refine J.val (v := .agg #[.slice adxa_0 xa.length cpxa_0]) rfl rfl (V.ld rfl (Ld.agg (cs := [.slice adxa_0 xa.length cpxa_0]) Try.underlying24 sz24 rfl (Rd.cls 1 0 rfl rfl))) ?_
      refine J.val (v := .agg #[.slice adxa_0 xa.length cpxa_0]) rfl rfl (V.ld rfl (Ld.agg (cs := [.slice adxa_0 xa.length cpxa_0]) Try.underlying24 sz24 rfl (Rd.cls 1 0 rfl rfl))) ?_
      obtain ⟨r947, hr948, h⟩ := ob h
      refine J.op rfl (A.call (L1 := []) Try.call8 rfl (relate_Flow_ok fxa_0 fxa_0 hr948) rfl rfl) ?_
      rintro _ _ _ ⟨v954, _, rfl, ⟨⟨l949, i950, ad951, cp952, rfl, rfl, rfl⟩, rfl⟩, _, rfl⟩
      refine J.wit Row.hn (fun hn953 => ?_)
      refine J.val (v := .tuple #[.slice ad951 l949.length cp952, .int .i64 i950]) rfl rfl (V.mv rfl) ?_
      refine J.val (v := .slice ad951 l949.length cp952) rfl rfl (V.ext rfl rfl) ?_
      refine J.val (v := .int .i64 i950) rfl rfl (V.ext rfl rfl) ?_
      refine J.val (v := .slice ad951 l949.length cp952) rfl rfl (V.as rfl) ?_
      refine J.val (v := .int .i64 i950) rfl rfl (V.as rfl) ?_
      refine J.nil ?_
      refine CJ.seq ?_
      refine CJ.region ?_
      refine J.val (v := .agg #[.slice adxa_0 xa.length cpxa_0]) rfl rfl (V.ld rfl (Ld.agg (cs := [.slice adxa_0 xa.length cpxa_0]) Try.underlying24 sz24 rfl (Rd.cls 2 0 rfl rfl))) ?_
      refine J.val (v := .agg #[.slice adxb_0 xb.length cpxb_0]) rfl rfl (V.ld rfl (Ld.agg (cs := [.slice adxb_0 xb.length cpxb_0]) Try.underlying24 sz24 rfl (Rd.cls 1 0 rfl rfl))) ?_
      obtain ⟨r958, hr959, h⟩ := ob h
      refine J.op rfl (A.call (L1 := []) Try.call8 rfl (relate_Flow_ok fxa_0 fxb_0 hr959) rfl rfl) ?_
      rintro _ _ _ ⟨v965, _, rfl, ⟨⟨l960, i961, ad962, cp963, rfl, rfl, rfl⟩, rfl⟩, _, rfl⟩
      refine J.wit Row.hn (fun hn964 => ?_)
      refine J.val (v := .tuple #[.slice ad962 l960.length cp963, .int .i64 i961]) rfl rfl (V.mv rfl) ?_
      refine J.val (v := .slice ad962 l960.length cp963) rfl rfl (V.ext rfl rfl) ?_
      refine J.val (v := .int .i64 i961) rfl rfl (V.ext rfl rfl) ?_
      refine J.val (v := .slice ad962 l960.length cp963) rfl rfl (V.as rfl) ?_
      refine J.val (v := .int .i64 i961) rfl rfl (V.as rfl) ?_
      refine J.nil ?_
      refine CJ.seq ?_
      refine CJ.region ?_
      refine J.val (v := .bool true) rfl rfl (V.as rfl) ?_
      refine J.val (v := .bool true) rfl rfl (V.as rfl) ?_
      refine J.nil ?_
      refine CJ.seq ?_
      refine CJ.seq ?_
      refine CJ.region ?_
      refine J.val (v := .int .i64 0) rfl rfl (V.as rfl) ?_
      refine J.nil ?_
      obtain ⟨o1346, ho1347, h⟩ := ob h
      refine CJ.meetN (fun ρ K' L' => ∃ (l1334 : (List (Int × Int × Int × Int × Bool))) (l1339 : (List (Int × Int × Int × Int × Bool))) (t1344 : Bool) (t1345 : Bool) (ad1335 : Option Addr) (cp1336 : Nat) (ad1340 : Option Addr) (cp1341 : Nat), (l1334, l1339, t1344, t1345) = o1346 ∧ Fits [(5, .slice ad1335 l1334.length cp1336), (6, .int .i64 i950), (7, .slice ad1340 l1339.length cp1341), (8, .int .i64 i961), (9, .bool t1344), (10, .bool t1345)] ρ ∧ K = K' ∧ L' = Row Hp.nil 40 (.cons (.int .i64) (.cons (.int .i64) (.cons (.int .i64) (.cons (.int .i64) (.one .bool))))) (.slice ad1335 l1334.length cp1336) l1334 :: Row Hp.nil 40 (.cons (.int .i64) (.cons (.int .i64) (.cons (.int .i64) (.cons (.int .i64) (.one .bool))))) (.slice ad1340 l1339.length cp1341) l1339 :: F) ?_ ?_
      · skip
        refine CJ.block ?_
        refine CJ.dropAt 2 rfl ?_
        refine CJ.dropAt 2 rfl ?_
        refine CJ.front 1 rfl ?_
        refine CJ.loop (fun s ρ K' L' => ∃ (l1471 : (List (Int × Int × Int × Int × Bool))) (l1476 : (List (Int × Int × Int × Int × Bool))) (t1481 : Bool) (t1482 : Bool) (i1483 : Int) (ad1472 : Option Addr) (cp1473 : Nat) (ad1477 : Option Addr) (cp1478 : Nat), (l1471, l1476, t1481, t1482, i1483) = s ∧ Fits [(5, .slice ad1472 l1471.length cp1473), (6, .int .i64 i950), (7, .slice ad1477 l1476.length cp1478), (8, .int .i64 i961), (9, .bool t1481), (10, .bool t1482), (11, .int .i64 i1483)] ρ ∧ K = K' ∧ L' = Row Hp.nil 40 (.cons (.int .i64) (.cons (.int .i64) (.cons (.int .i64) (.cons (.int .i64) (.one .bool))))) (.slice ad1472 l1471.length cp1473) l1471 :: Row Hp.nil 40 (.cons (.int .i64) (.cons (.int .i64) (.cons (.int .i64) (.cons (.int .i64) (.one .bool))))) (.slice ad1477 l1476.length cp1478) l1476 :: F) ho1347 ⟨l949, l960, true, true, 0, ad951, cp952, ad962, cp963, rfl, ⟨rfl, rfl, rfl, rfl, rfl, rfl, rfl, trivial⟩, rfl, rfl⟩ ?_
        rintro s ρ _ _ r1606 ⟨l1471, l1476, t1481, t1482, i1483, ad1472, cp1473, ad1477, cp1478, rfl, hf1604, rfl, rfl⟩ h1603
        obtain ⟨ρ, rfl⟩ := hf1604.ex
        refine CJ.wit Row.hn (fun hn1475 => ?_)
        refine CJ.front 1 rfl ?_
        refine CJ.wit Row.hn (fun hn1480 => ?_)
        refine CJ.seq ?_
        refine CJ.seq ?_
        refine CJ.region ?_
        refine J.val (v := .int .i64 i1483) rfl rfl (V.mv rfl) ?_
        refine J.val (v := .slice ad1477 l1476.length cp1478) rfl rfl (V.mv rfl) ?_
        refine J.val (v := .int .i64 (((l1476.length : Nat) : Int))) rfl rfl (V.len Try.underlying27 rfl) ?_
        refine J.val (v := .bool (decide (i1483 < (((l1476.length : Nat) : Int))))) rfl rfl (V.lss rfl rfl) ?_
        refine J.nil ?_
        refine CJ.cond rfl (fun hc1607 => ?_) (fun hc1607 => ?_)
        · have h1603 := ct hc1607 h1603
          refine CJ.skip ?_
          refine CJ.seq ?_
          refine CJ.block ?_
          refine CJ.seq ?_
          obtain ⟨o1649, ho1650, h1603⟩ := ob h1603
          refine CJ.meetN (fun ρ K' L' => ∃ (l1638 : (List (Int × Int × Int × Int × Bool))) (l1643 : (List (Int × Int × Int × Int × Bool))) (t1648 : Bool) (ad1639 : Option Addr) (cp1640 : Nat) (ad1644 : Option Addr) (cp1645 : Nat), (l1638, l1643, t1648) = o1649 ∧ Fits [(5, .slice ad1639 l1638.length cp1640), (6, .int .i64 i950), (7, .slice ad1644 l1643.length cp1645), (8, .int .i64 i961), (9, .bool t1648), (10, .bool t1482), (11, .int .i64 i1483)] ρ ∧ K = K' ∧ L' = Row Hp.nil 40 (.cons (.int .i64) (.cons (.int .i64) (.cons (.int .i64) (.cons (.int .i64) (.one .bool))))) (.slice ad1639 l1638.length cp1640) l1638 :: Row Hp.nil 40 (.cons (.int .i64) (.cons (.int .i64) (.cons (.int .i64) (.cons (.int .i64) (.one .bool))))) (.slice ad1644 l1643.length cp1645) l1643 :: F) ?_ ?_
          · skip
            refine CJ.mix [Row Hp.nil 40 (.cons (.int .i64) (.cons (.int .i64) (.cons (.int .i64) (.cons (.int .i64) (.one .bool))))) (.slice ad1477 l1476.length cp1478) l1476, Row Hp.nil 40 (.cons (.int .i64) (.cons (.int .i64) (.cons (.int .i64) (.cons (.int .i64) (.one .bool))))) (.slice ad1472 l1471.length cp1473) l1471] [] [0, 1, 2, 3, 4, 5, 6, 7, 8, 9, 10, 11, 12, 13, 14] [] mixO (by decide +kernel) ⟨0, rfl, 0, rfl, trivial⟩ rfl rfl rfl ?_
            refine JM.nil ?_
            refine JQ.val (v := .bool t1481) rfl rfl (V.mv rfl) ?_
            refine JQ.val (v := .bool t1481) rfl rfl (V.mv rfl) ?_
            rcases bt (t1481) with hc1666 | hc1666
            · have ho1650 := ct hc1666 ho1650
              refine JQ.run rfl rfl rfl hc1666 ?_
              refine JQ.val (v := .slice ad1477 l1476.length cp1478) rfl rfl (V.mv rfl) ?_
              refine JQ.run rfl rfl rfl hc1666 ?_
              refine JQ.val (v := .int .i64 i1483) rfl rfl (V.mv rfl) ?_
              refine JQ.run rfl rfl rfl hc1666 ?_
              obtain ⟨x1667, hx1668, ho1650⟩ := ob ho1650
              obtain ⟨p1669, p1670, p1671⟩ := getI_some hx1668
              obtain ⟨g1672, e1673⟩ := hn1480 (fun e => by rw [e] at p1670; simp at p1670)
              refine JQ.val rfl rfl (V.iad Try.underlying27 sz40 rfl e1673 rfl p1669 p1671) ?_
              refine JQ.run rfl rfl rfl hc1666 ?_
              refine JQ.val rfl rfl (V.fad Try.underlying40 rfl nz3 rfl) ?_
              refine JQ.run rfl rfl rfl hc1666 ?_
              refine JQ.val (v := .int .i64 x1667.1) rfl rfl (V.ld rfl (Ld.sc sc3 (Rd.row 0 rfl e1673 p1670 (q := 0) (by simp [Tp.size]) (by decide) (by rintro _ ⟨_, _, rfl, _, rfl, ⟨_, _, rfl, _, rfl, ⟨_, _, rfl, _, rfl, ⟨_, _, rfl, _, rfl, rfl⟩⟩⟩⟩; rfl)))) ?_
              refine JQ.run rfl rfl rfl hc1666 ?_
              refine JQ.val (v := .slice ad1477 l1476.length cp1478) rfl rfl (V.mv rfl) ?_
              refine JQ.run rfl rfl rfl hc1666 ?_
              refine JQ.val (v := .int .i64 i1483) rfl rfl (V.mv rfl) ?_
              refine JQ.run rfl rfl rfl hc1666 ?_
              obtain ⟨x1674, hx1675, ho1650⟩ := ob ho1650
              obtain ⟨p1676, p1677, p1678⟩ := getI_some hx1675
              obtain ⟨g1679, e1680⟩ := hn1480 (fun e => by rw [e] at p1677; simp at p1677)
              refine JQ.val rfl rfl (V.iad Try.underlying27 sz40 rfl e1680 rfl p1676 p1678) ?_
              refine JQ.run rfl rfl rfl hc1666 ?_
              refine JQ.val rfl rfl (V.fad Try.underlying40 rfl nz3 rfl) ?_
              refine JQ.run rfl rfl rfl hc1666 ?_
              refine JQ.val (v := .int .i64 x1674.2.1) rfl rfl (V.ld rfl (Ld.sc sc3 (Rd.row 0 rfl e1680 p1677 (q := 1) (by simp [Tp.size]) (by decide) (by rintro _ ⟨_, _, rfl, _, rfl, ⟨_, _, rfl, _, rfl, ⟨_, _, rfl, _, rfl, ⟨_, _, rfl, _, rfl, rfl⟩⟩⟩⟩; rfl)))) ?_
              refine JQ.run rfl rfl rfl hc1666 ?_
              refine JQ.val (v := .bool (decide (x1667.1 = x1674.2.1))) rfl rfl (V.eql rfl rfl) ?_
              refine JQ.val (v := .bool (decide (x1667.1 = x1674.2.1))) rfl rfl (V.pickT rfl hc1666 rfl) ?_
              refine JQ.val (v := .bool (decide (x1667.1 = x1674.2.1))) rfl rfl (V.as rfl) ?_
              refine JQ.nil ?_
              refine J.front 1 rfl ?_
              refine J.nil ?_
              have e := Option.some.inj ho1650
              subst e
              exact ⟨rfl, ⟨l1471, l1476, decide (x1667.1 = x1674.2.1), ad1472, cp1473, ad1477, cp1478, rfl, ⟨rfl, rfl, rfl, rfl, rfl, rfl, rfl, trivial⟩, rfl, rfl⟩⟩
            · have ho1650 := cf hc1666 ho1650
              refine JQ.skip rfl rfl rfl rfl hc1666 ?_
              refine JQ.skip rfl rfl rfl rfl hc1666 ?_
              refine JQ.skip rfl rfl rfl rfl hc1666 ?_
              refine JQ.skip rfl rfl rfl rfl hc1666 ?_
              refine JQ.skip rfl rfl rfl rfl hc1666 ?_
              refine JQ.skip rfl rfl rfl rfl hc1666 ?_
              refine JQ.skip rfl rfl rfl rfl hc1666 ?_
              refine JQ.skip rfl rfl rfl rfl hc1666 ?_
              refine JQ.skip rfl rfl rfl rfl hc1666 ?_
              refine JQ.skip rfl rfl rfl rfl hc1666 ?_
              refine JQ.skip rfl rfl rfl rfl hc1666 ?_
              refine JQ.val (v := .bool false) rfl rfl (V.pickF rfl hc1666 rfl) ?_
              refine JQ.val (v := .bool false) rfl rfl (V.as rfl) ?_
              refine JQ.nil ?_
              refine J.front 1 rfl ?_
              refine J.nil ?_
              have e := Option.some.inj ho1650
              subst e
              exact ⟨rfl, ⟨l1471, l1476, false, ad1472, cp1473, ad1477, cp1478, rfl, ⟨rfl, rfl, rfl, rfl, rfl, rfl, rfl, trivial⟩, rfl, rfl⟩⟩
          · rintro ρ _ _ ⟨l1638, l1643, t1648, ad1639, cp1640, ad1644, cp1645, rfl, hf1681, rfl, rfl⟩
            obtain ⟨ρ, rfl⟩ := hf1681.ex
            refine PJ.wit Row.hn (fun hn1642 => ?_)
            refine PJ.front 1 rfl ?_
            refine PJ.wit Row.hn (fun hn1647 => ?_)
            refine PJ.done ?_
            refine CJ.mix [Row Hp.nil 40 (.cons (.int .i64) (.cons (.int .i64) (.cons (.int .i64) (.cons (.int .i64) (.one .bool))))) (.slice ad1644 l1643.length cp1645) l1643, Row Hp.nil 40 (.cons (.int .i64) (.cons (.int .i64) (.cons (.int .i64) (.cons (.int .i64) (.one .bool))))) (.slice ad1639 l1638.length cp1640) l1638] [] [0, 1, 2, 3, 4, 5, 6, 7, 8, 9, 10, 11, 12, 13, 14] [] mixO (by decide +kernel) ⟨0, rfl, 0, rfl, trivial⟩ rfl rfl rfl ?_
            refine JM.nil ?_
            refine JQ.val (v := .bool t1482) rfl rfl (V.mv rfl) ?_
            refine JQ.val (v := .bool t1482) rfl rfl (V.mv rfl) ?_
            rcases bt (t1482) with hc1698 | hc1698
            · have h1603 := ct hc1698 h1603
              refine JQ.run rfl rfl rfl hc1698 ?_
              refine JQ.val (v := .slice ad1644 l1643.length cp1645) rfl rfl (V.mv rfl) ?_
              refine JQ.run rfl rfl rfl hc1698 ?_
              refine JQ.val (v := .int .i64 i1483) rfl rfl (V.mv rfl) ?_
              refine JQ.run rfl rfl rfl hc1698 ?_
              obtain ⟨x1699, hx1700, h1603⟩ := ob h1603
              obtain ⟨p1701, p1702, p1703⟩ := getI_some hx1700
              obtain ⟨g1704, e1705⟩ := hn1647 (fun e => by rw [e] at p1702; simp at p1702)
              refine JQ.val rfl rfl (V.iad Try.underlying27 sz40 rfl e1705 rfl p1701 p1703) ?_
              refine JQ.run rfl rfl rfl hc1698 ?_
              refine JQ.val rfl rfl (V.fad Try.underlying40 rfl nz3 rfl) ?_
              refine JQ.run rfl rfl rfl hc1698 ?_
              refine JQ.val (v := .int .i64 x1699.1) rfl rfl (V.ld rfl (Ld.sc sc3 (Rd.row 0 rfl e1705 p1702 (q := 0) (by simp [Tp.size]) (by decide) (by rintro _ ⟨_, _, rfl, _, rfl, ⟨_, _, rfl, _, rfl, ⟨_, _, rfl, _, rfl, ⟨_, _, rfl, _, rfl, rfl⟩⟩⟩⟩; rfl)))) ?_
              refine JQ.run rfl rfl rfl hc1698 ?_
              refine JQ.val (v := .slice ad1644 l1643.length cp1645) rfl rfl (V.mv rfl) ?_
              refine JQ.run rfl rfl rfl hc1698 ?_
              refine JQ.val (v := .int .i64 i1483) rfl rfl (V.mv rfl) ?_
              refine JQ.run rfl rfl rfl hc1698 ?_
              obtain ⟨x1706, hx1707, h1603⟩ := ob h1603
              obtain ⟨p1708, p1709, p1710⟩ := getI_some hx1707
              obtain ⟨g1711, e1712⟩ := hn1647 (fun e => by rw [e] at p1709; simp at p1709)
              refine JQ.val rfl rfl (V.iad Try.underlying27 sz40 rfl e1712 rfl p1708 p1710) ?_
              refine JQ.run rfl rfl rfl hc1698 ?_
              refine JQ.val rfl rfl (V.fad Try.underlying40 rfl nz3 rfl) ?_
              refine JQ.run rfl rfl rfl hc1698 ?_
              refine JQ.val (v := .int .i64 x1706.2.1) rfl rfl (V.ld rfl (Ld.sc sc3 (Rd.row 0 rfl e1712 p1709 (q := 1) (by simp [Tp.size]) (by decide) (by rintro _ ⟨_, _, rfl, _, rfl, ⟨_, _, rfl, _, rfl, ⟨_, _, rfl, _, rfl, ⟨_, _, rfl, _, rfl, rfl⟩⟩⟩⟩; rfl)))) ?_
              refine JQ.run rfl rfl rfl hc1698 ?_
              refine JQ.val (v := .bool (decide (x1706.2.1 ≤ x1699.1))) rfl rfl (V.geq rfl rfl) ?_
              refine JQ.val (v := .bool (decide (x1706.2.1 ≤ x1699.1))) rfl rfl (V.pickT rfl hc1698 rfl) ?_
              refine JQ.val (v := .bool (decide (x1706.2.1 ≤ x1699.1))) rfl rfl (V.as rfl) ?_
              refine JQ.nil ?_
              refine J.nil ?_
              refine CJ.region ?_
              refine J.val (v := .int .i64 i1483) rfl rfl (V.mv rfl) ?_
              refine J.val (v := .int .i64 (IntKind.wrap .i64 (i1483 + 1))) rfl rfl (V.add rfl rfl) ?_
              refine J.val (v := .int .i64 (IntKind.wrap .i64 (i1483 + 1))) rfl rfl (V.as rfl) ?_
              refine J.front 1 rfl ?_
              refine J.nil ?_
              have e := Option.some.inj h1603
              subst e
              exact ⟨rfl, ⟨l1638, l1643, t1648, decide (x1706.2.1 ≤ x1699.1), IntKind.wrap .i64 (i1483 + 1), ad1639, cp1640, ad1644, cp1645, rfl, ⟨rfl, rfl, rfl, rfl, rfl, rfl, rfl, trivial⟩, rfl, rfl⟩⟩
            · have h1603 := cf hc1698 h1603
              refine JQ.skip rfl rfl rfl rfl hc1698 ?_
              refine JQ.skip rfl rfl rfl rfl hc1698 ?_
              refine JQ.skip rfl rfl rfl rfl hc1698 ?_
              refine JQ.skip rfl rfl rfl rfl hc1698 ?_
              refine JQ.skip rfl rfl rfl rfl hc1698 ?_
              refine JQ.skip rfl rfl rfl rfl hc1698 ?_
              refine JQ.skip rfl rfl rfl rfl hc1698 ?_
              refine JQ.skip rfl rfl rfl rfl hc1698 ?_
              refine JQ.skip rfl rfl rfl rfl hc1698 ?_
              refine JQ.skip rfl rfl rfl rfl hc1698 ?_
              refine JQ.skip rfl rfl rfl rfl hc1698 ?_
              refine JQ.val (v := .bool false) rfl rfl (V.pickF rfl hc1698 rfl) ?_
              refine JQ.val (v := .bool false) rfl rfl (V.as rfl) ?_
              refine JQ.nil ?_
              refine J.nil ?_
              refine CJ.region ?_
              refine J.val (v := .int .i64 i1483) rfl rfl (V.mv rfl) ?_
              refine J.val (v := .int .i64 (IntKind.wrap .i64 (i1483 + 1))) rfl rfl (V.add rfl rfl) ?_
              refine J.val (v := .int .i64 (IntKind.wrap .i64 (i1483 + 1))) rfl rfl (V.as rfl) ?_
              refine J.front 1 rfl ?_
              refine J.nil ?_
              have e := Option.some.inj h1603
              subst e
              exact ⟨rfl, ⟨l1638, l1643, t1648, false, IntKind.wrap .i64 (i1483 + 1), ad1639, cp1640, ad1644, cp1645, rfl, ⟨rfl, rfl, rfl, rfl, rfl, rfl, rfl, trivial⟩, rfl, rfl⟩⟩
        · have h1603 := cf hc1607 h1603
          refine CJ.front 1 rfl ?_
          refine CJ.exit ?_
          have e := Option.some.inj h1603
          subst e
          refine ⟨nofun, fun e => ?_⟩
          subst e
          exact ⟨rfl, ⟨l1471, l1476, t1481, t1482, ad1472, cp1473, ad1477, cp1478, rfl, ⟨rfl, rfl, rfl, rfl, rfl, rfl, trivial⟩, rfl, rfl⟩⟩
      · rintro ρ _ _ ⟨l1334, l1339, t1344, t1345, ad1335, cp1336, ad1340, cp1341, rfl, hf1713, rfl, rfl⟩
        obtain ⟨ρ, rfl⟩ := hf1713.ex
        refine PJ.wit Row.hn (fun hn1338 => ?_)
        refine PJ.front 1 rfl ?_
        refine PJ.wit Row.hn (fun hn1343 => ?_)
        refine PJ.done ?_
        refine CJ.seq ?_
        refine CJ.region ?_
        refine J.val (v := .int .i64 i950) rfl rfl (V.mv rfl) ?_
        refine J.val (v := .bool (decide (i950 = 0))) rfl rfl (V.eql rfl rfl) ?_
        refine J.val (v := .bool (decide (i950 = 0))) rfl rfl (V.mv rfl) ?_
        refine J.cut 3 ?_
        obtain ⟨t1725, ht1726, h⟩ := ob h
        refine @J.meet _ _ _ _ _ _ _ _ _ _ (fun ρ K' L' => Fits [(72, .bool t1725), (7, .slice ad1340 l1339.length cp1341), (8, .int .i64 i961), (9, .bool t1344), (10, .bool t1345)] ρ ∧ K = K' ∧ L' = Row Hp.nil 40 (.cons (.int .i64) (.cons (.int .i64) (.cons (.int .i64) (.cons (.int .i64) (.one .bool))))) (.slice ad1340 l1339.length cp1341) l1339 :: Row Hp.nil 40 (.cons (.int .i64) (.cons (.int .i64) (.cons (.int .i64) (.cons (.int .i64) (.one .bool))))) (.slice ad1335 l1334.length cp1336) l1334 :: F) ?_ ?_
        · skip
          rcases bt (decide (i950 = 0)) with hc1727 | hc1727
          · have ht1726 := ct hc1727 ht1726
            refine J.run rfl rfl rfl hc1727 ?_
            refine J.val (v := .slice ad1335 l1334.length cp1336) rfl rfl (V.mv rfl) ?_
            refine J.run rfl rfl rfl hc1727 ?_
            obtain ⟨r1728, hr1729, ht1726⟩ := ob ht1726
            refine J.front 1 rfl ?_
            refine J.op rfl (A.call (L1 := [Row Hp.nil 40 (.cons (.int .i64) (.cons (.int .i64) (.cons (.int .i64) (.cons (.int .i64) (.one .bool))))) (.slice ad1335 l1334.length cp1336) l1334]) Try.call16 rfl (Tr.lend (Hp.nil_le _) (by decide) (fun K1730 hK1731 f1732 => relate_Holds_k_law16_alike_ok f1732 hr1729)) rfl rfl) ?_
            rintro _ _ _ ⟨v1734, _, rfl, ⟨⟨_, ⟨t1733, rfl, rfl, rfl⟩, rfl⟩, rfl⟩, _, rfl⟩
            refine J.val (v := .bool t1733) rfl rfl (V.pickT rfl hc1727 rfl) ?_
            refine J.front 1 rfl ?_
            refine J.nil ?_
            have e := Option.some.inj ht1726
            subst e
            exact ⟨rfl, ⟨rfl, rfl, rfl, rfl, rfl, trivial⟩, rfl, rfl⟩
          · have ht1726 := cf hc1727 ht1726
            refine J.skip rfl rfl rfl rfl hc1727 ?_
            refine J.skip rfl rfl rfl rfl hc1727 ?_
            refine J.val (v := .bool false) rfl rfl (V.pickF rfl hc1727 rfl) ?_
            refine J.nil ?_
            have e := Option.some.inj ht1726
            subst e
            exact ⟨rfl, ⟨rfl, rfl, rfl, rfl, rfl, trivial⟩, rfl, rfl⟩
        · rintro ρ _ _ ⟨hf, rfl, rfl⟩
          obtain ⟨ρ, rfl⟩ := hf.ex
          refine J.val (v := .bool t1725) rfl rfl (V.mv rfl) ?_
          refine J.cut 8 ?_
          refine @J.meet _ _ _ _ _ _ _ _ _ _ (fun ρ K' L' => Fits [(81, .bool (t1725 && ((decide (i961 = 0)) || (decide ((((l1339.length : Nat) : Int)) = 0))))), (7, .slice ad1340 l1339.length cp1341), (9, .bool t1344), (10, .bool t1345)] ρ ∧ K = K' ∧ L' = Row Hp.nil 40 (.cons (.int .i64) (.cons (.int .i64) (.cons (.int .i64) (.cons (.int .i64) (.one .bool))))) (.slice ad1340 l1339.length cp1341) l1339 :: Row Hp.nil 40 (.cons (.int .i64) (.cons (.int .i64) (.cons (.int .i64) (.cons (.int .i64) (.one .bool))))) (.slice ad1335 l1334.length cp1336) l1334 :: F) ?_ ?_
          · skip
            rcases bt (t1725) with hc1742 | hc1742
            · skip
              refine J.run rfl rfl rfl hc1742 ?_
              refine J.val (v := .int .i64 i961) rfl rfl (V.mv rfl) ?_
              refine J.run rfl rfl rfl hc1742 ?_
              refine J.val (v := .bool (decide (i961 = 0))) rfl rfl (V.eql rfl rfl) ?_
              refine J.run rfl rfl rfl hc1742 ?_
              refine J.val (v := .bool (decide (i961 = 0))) rfl rfl (V.mv rfl) ?_
              refine J.cut 4 ?_
              refine @J.meet _ _ _ _ _ _ _ _ _ _ (fun ρ K' L' => Fits [(80, .bool ((decide (i961 = 0)) || (decide ((((l1339.length : Nat) : Int)) = 0)))), (7, .slice ad1340 l1339.length cp1341), (9, .bool t1344), (10, .bool t1345), (73, .bool t1725)] ρ ∧ K = K' ∧ L' = Row Hp.nil 40 (.cons (.int .i64) (.cons (.int .i64) (.cons (.int .i64) (.cons (.int .i64) (.one .bool))))) (.slice ad1340 l1339.length cp1341) l1339 :: Row Hp.nil 40 (.cons (.int .i64) (.cons (.int .i64) (.cons (.int .i64) (.cons (.int .i64) (.one .bool))))) (.slice ad1335 l1334.length cp1336) l1334 :: F) ?_ ?_
              · skip
                rcases bt (decide (i961 = 0)) with hc1745 | hc1745
                · skip
                  refine J.skip rfl rfl rfl rfl hc1745 ?_
                  refine J.skip rfl rfl rfl rfl hc1745 ?_
                  refine J.skip rfl rfl rfl rfl hc1745 ?_
                  refine J.run rfl rfl rfl hc1742 ?_
                  refine J.val (v := .bool true) rfl rfl (V.pickT rfl hc1745 rfl) ?_
                  refine J.nil ?_
                  exact ⟨rfl, ⟨(by simp only [hc1745]; rfl), rfl, rfl, rfl, rfl, trivial⟩, rfl, rfl⟩
                · skip
                  refine J.run rfl rfl rfl hc1745 ?_
                  refine J.val (v := .slice ad1340 l1339.length cp1341) rfl rfl (V.mv rfl) ?_
                  refine J.run rfl rfl rfl hc1745 ?_
                  refine J.val (v := .int .i64 (((l1339.length : Nat) : Int))) rfl rfl (V.len Try.underlying27 rfl) ?_
                  refine J.run rfl rfl rfl hc1745 ?_
                  refine J.val (v := .bool (decide ((((l1339.length : Nat) : Int)) = 0))) rfl rfl (V.eql rfl rfl) ?_
                  refine J.run rfl rfl rfl hc1742 ?_
                  refine J.val (v := .bool (decide ((((l1339.length : Nat) : Int)) = 0))) rfl rfl (V.pickF rfl hc1745 rfl) ?_
                  refine J.nil ?_
                  exact ⟨rfl, ⟨(by simp only [hc1745]; rfl), rfl, rfl, rfl, rfl, trivial⟩, rfl, rfl⟩
              · rintro ρ _ _ ⟨hf, rfl, rfl⟩
                obtain ⟨ρ, rfl⟩ := hf.ex
                refine J.val (v := .bool ((decide (i961 = 0)) || (decide ((((l1339.length : Nat) : Int)) = 0)))) rfl rfl (V.pickT rfl hc1742 rfl) ?_
                refine J.nil ?_
                exact ⟨rfl, ⟨(by simp only [hc1742]; rfl), rfl, rfl, rfl, trivial⟩, rfl, rfl⟩
            · skip
              refine J.skip rfl rfl rfl rfl hc1742 ?_
              refine J.skip rfl rfl rfl rfl hc1742 ?_
              refine J.skip rfl rfl rfl rfl hc1742 ?_
              refine J.skipu rfl rfl rfl rfl ?_
              refine J.skipu rfl rfl rfl rfl ?_
              refine J.skipu rfl rfl rfl rfl ?_
              refine J.skip rfl rfl rfl rfl hc1742 ?_
              refine J.val (v := .bool false) rfl rfl (V.pickF rfl hc1742 rfl) ?_
              refine J.nil ?_
              exact ⟨rfl, ⟨(by simp only [hc1742]; rfl), rfl, rfl, rfl, trivial⟩, rfl, rfl⟩
          · rintro ρ _ _ ⟨hf, rfl, rfl⟩
            obtain ⟨ρ, rfl⟩ := hf.ex
            refine J.val (v := .bool (t1725 && ((decide (i961 = 0)) || (decide ((((l1339.length : Nat) : Int)) = 0))))) rfl rfl (V.mv rfl) ?_
            refine J.cut 3 ?_
            obtain ⟨t1756, ht1757, h⟩ := ob h
            refine @J.meet _ _ _ _ _ _ _ _ _ _ (fun ρ K' L' => Fits [(85, .bool t1756), (7, .slice ad1340 l1339.length cp1341), (9, .bool t1344), (10, .bool t1345)] ρ ∧ K = K' ∧ L' = Row Hp.nil 40 (.cons (.int .i64) (.cons (.int .i64) (.cons (.int .i64) (.cons (.int .i64) (.one .bool))))) (.slice ad1340 l1339.length cp1341) l1339 :: Row Hp.nil 40 (.cons (.int .i64) (.cons (.int .i64) (.cons (.int .i64) (.cons (.int .i64) (.one .bool))))) (.slice ad1335 l1334.length cp1336) l1334 :: F) ?_ ?_
            · skip
              rcases bt (t1725 && ((decide (i961 = 0)) || (decide ((((l1339.length : Nat) : Int)) = 0)))) with hc1758 | hc1758
              · have ht1757 := ct hc1758 ht1757
                refine J.run rfl rfl rfl hc1758 ?_
                refine J.val (v := .slice ad1340 l1339.length cp1341) rfl rfl (V.mv rfl) ?_
                refine J.run rfl rfl rfl hc1758 ?_
                obtain ⟨r1759, hr1760, ht1757⟩ := ob ht1757
                refine J.op rfl (A.call (L1 := [Row Hp.nil 40 (.cons (.int .i64) (.cons (.int .i64) (.cons (.int .i64) (.cons (.int .i64) (.one .bool))))) (.slice ad1340 l1339.length cp1341) l1339]) Try.call16 rfl (Tr.lend (Hp.nil_le _) (by decide) (fun K1761 hK1762 f1763 => relate_Holds_k_law16_always_ok f1763 hr1760)) rfl rfl) ?_
                rintro _ _ _ ⟨v1765, _, rfl, ⟨⟨_, ⟨t1764, rfl, rfl, rfl⟩, rfl⟩, rfl⟩, _, rfl⟩
                refine J.val (v := .bool t1764) rfl rfl (V.pickT rfl hc1758 rfl) ?_
                refine J.nil ?_
                have e := Option.some.inj ht1757
                subst e
                exact ⟨rfl, ⟨rfl, rfl, rfl, rfl, trivial⟩, rfl, rfl⟩
              · have ht1757 := cf hc1758 ht1757
                refine J.skip rfl rfl rfl rfl hc1758 ?_
                refine J.skip rfl rfl rfl rfl hc1758 ?_
                refine J.val (v := .bool false) rfl rfl (V.pickF rfl hc1758 rfl) ?_
                refine J.nil ?_
                have e := Option.some.inj ht1757
                subst e
                exact ⟨rfl, ⟨rfl, rfl, rfl, rfl, trivial⟩, rfl, rfl⟩
            · rintro ρ _ _ ⟨hf, rfl, rfl⟩
              obtain ⟨ρ, rfl⟩ := hf.ex
              refine J.val (v := .bool t1756) rfl rfl (V.mv rfl) ?_
              refine J.cut 5 ?_
              obtain ⟨t1778, ht1779, h⟩ := ob h
              refine @J.meet _ _ _ _ _ _ _ _ _ _ (fun ρ K' L' => Fits [(91, .bool t1778), (7, .slice ad1340 l1339.length cp1341), (10, .bool t1345)] ρ ∧ K = K' ∧ L' = Row Hp.nil 40 (.cons (.int .i64) (.cons (.int .i64) (.cons (.int .i64) (.cons (.int .i64) (.one .bool))))) (.slice ad1340 l1339.length cp1341) l1339 :: Row Hp.nil 40 (.cons (.int .i64) (.cons (.int .i64) (.cons (.int .i64) (.cons (.int .i64) (.one .bool))))) (.slice ad1335 l1334.length cp1336) l1334 :: F) ?_ ?_
              · skip
                rcases bt (t1756) with hc1780 | hc1780
                · have ht1779 := ct hc1780 ht1779
                  refine J.run rfl rfl rfl hc1780 ?_
                  refine J.val (v := .slice ad1340 l1339.length cp1341) rfl rfl (V.mv rfl) ?_
                  refine J.run rfl rfl rfl hc1780 ?_
                  obtain ⟨r1781, hr1782, ht1779⟩ := ob ht1779
                  refine J.op rfl (A.call (L1 := [Row Hp.nil 40 (.cons (.int .i64) (.cons (.int .i64) (.cons (.int .i64) (.cons (.int .i64) (.one .bool))))) (.slice ad1340 l1339.length cp1341) l1339]) Try.call16 rfl (Tr.lend (Hp.nil_le _) (by decide) (fun K1783 hK1784 f1785 => relate_Holds_k_law16_alike_ok f1785 hr1782)) rfl rfl) ?_
                  rintro _ _ _ ⟨v1787, _, rfl, ⟨⟨_, ⟨t1786, rfl, rfl, rfl⟩, rfl⟩, rfl⟩, _, rfl⟩
                  refine J.run rfl rfl rfl hc1780 ?_
                  refine J.val (v := .bool t1344) rfl rfl (V.mv rfl) ?_
                  refine J.run rfl rfl rfl hc1780 ?_
                  refine J.val (v := .bool (t1786 == t1344)) rfl rfl (V.eqb Try.underlying4 rfl rfl) ?_
                  refine J.val (v := .bool (t1786 == t1344)) rfl rfl (V.pickT rfl hc1780 rfl) ?_
                  refine J.nil ?_
                  have e := Option.some.inj ht1779
                  subst e
                  exact ⟨rfl, ⟨rfl, rfl, rfl, trivial⟩, rfl, rfl⟩
                · have ht1779 := cf hc1780 ht1779
                  refine J.skip rfl rfl rfl rfl hc1780 ?_
                  refine J.skip rfl rfl rfl rfl hc1780 ?_
                  refine J.skip rfl rfl rfl rfl hc1780 ?_
                  refine J.skip rfl rfl rfl rfl hc1780 ?_
                  refine J.val (v := .bool false) rfl rfl (V.pickF rfl hc1780 rfl) ?_
                  refine J.nil ?_
                  have e := Option.some.inj ht1779
                  subst e
                  exact ⟨rfl, ⟨rfl, rfl, rfl, trivial⟩, rfl, rfl⟩
              · rintro ρ _ _ ⟨hf, rfl, rfl⟩
                obtain ⟨ρ, rfl⟩ := hf.ex
                refine J.val (v := .bool t1778) rfl rfl (V.mv rfl) ?_
                refine J.cut 5 ?_
                obtain ⟨t1800, ht1801, h⟩ := ob h
                refine @J.meet _ _ _ _ _ _ _ _ _ _ (fun ρ K' L' => Fits [(97, .bool t1800)] ρ ∧ K = K' ∧ L' = Row Hp.nil 40 (.cons (.int .i64) (.cons (.int .i64) (.cons (.int .i64) (.cons (.int .i64) (.one .bool))))) (.slice ad1340 l1339.length cp1341) l1339 :: Row Hp.nil 40 (.cons (.int .i64) (.cons (.int .i64) (.cons (.int .i64) (.cons (.int .i64) (.one .bool))))) (.slice ad1335 l1334.length cp1336) l1334 :: F) ?_ ?_
                · skip
                  rcases bt (t1778) with hc1802 | hc1802
                  · have ht1801 := ct hc1802 ht1801
                    refine J.run rfl rfl rfl hc1802 ?_
                    refine J.val (v := .slice ad1340 l1339.length cp1341) rfl rfl (V.mv rfl) ?_
                    refine J.run rfl rfl rfl hc1802 ?_
                    obtain ⟨r1803, hr1804, ht1801⟩ := ob ht1801
                    refine J.op rfl (A.call (L1 := [Row Hp.nil 40 (.cons (.int .i64) (.cons (.int .i64) (.cons (.int .i64) (.cons (.int .i64) (.one .bool))))) (.slice ad1340 l1339.length cp1341) l1339]) Try.call16 rfl (Tr.lend (Hp.nil_le _) (by decide) (fun K1805 hK1806 f1807 => relate_Holds_k_law16_above_ok f1807 hr1804)) rfl rfl) ?_
                    rintro _ _ _ ⟨v1809, _, rfl, ⟨⟨_, ⟨t1808, rfl, rfl, rfl⟩, rfl⟩, rfl⟩, _, rfl⟩
                    refine J.run rfl rfl rfl hc1802 ?_
                    refine J.val (v := .bool t1345) rfl rfl (V.mv rfl) ?_
                    refine J.run rfl rfl rfl hc1802 ?_
                    refine J.val (v := .bool (t1808 == t1345)) rfl rfl (V.eqb Try.underlying4 rfl rfl) ?_
                    refine J.val (v := .bool (t1808 == t1345)) rfl rfl (V.pickT rfl hc1802 rfl) ?_
                    refine J.nil ?_
                    have e := Option.some.inj ht1801
                    subst e
                    exact ⟨rfl, ⟨rfl, trivial⟩, rfl, rfl⟩
                  · have ht1801 := cf hc1802 ht1801
                    refine J.skip rfl rfl rfl rfl hc1802 ?_
                    refine J.skip rfl rfl rfl rfl hc1802 ?_
                    refine J.skip rfl rfl rfl rfl hc1802 ?_
                    refine J.skip rfl rfl rfl rfl hc1802 ?_
                    refine J.val (v := .bool false) rfl rfl (V.pickF rfl hc1802 rfl) ?_
                    refine J.nil ?_
                    have e := Option.some.inj ht1801
                    subst e
                    exact ⟨rfl, ⟨rfl, trivial⟩, rfl, rfl⟩
                · rintro ρ _ _ ⟨hf, rfl, rfl⟩
                  obtain ⟨ρ, rfl⟩ := hf.ex
                  refine J.val (v := .bool t1800) rfl rfl (V.mv rfl) ?_
                  refine J.cut 2 ?_
                  obtain ⟨t1819, ht1820, h⟩ := ob h
                  refine @J.meet _ _ _ _ _ _ _ _ _ _ (fun ρ K' L' => Fits [(100, .bool t1819)] ρ ∧ K = K' ∧ L' = Row Hp.nil 40 (.cons (.int .i64) (.cons (.int .i64) (.cons (.int .i64) (.cons (.int .i64) (.one .bool))))) (.slice ad1340 l1339.length cp1341) l1339 :: Row Hp.nil 40 (.cons (.int .i64) (.cons (.int .i64) (.cons (.int .i64) (.cons (.int .i64) (.one .bool))))) (.slice ad1335 l1334.length cp1336) l1334 :: F) ?_ ?_
                  · skip
                    rcases bt (t1800) with hc1821 | hc1821
                    · have ht1820 := ct hc1821 ht1820
                      refine J.run rfl rfl rfl hc1821 ?_
                      obtain ⟨r1822, hr1823, ht1820⟩ := ob ht1820
                      refine J.op rfl (A.call (L1 := []) Try.call7 rfl (law16_awake_ok hr1823) rfl rfl) ?_
                      rintro _ _ _ ⟨v1825, _, rfl, ⟨⟨t1824, rfl, rfl, rfl⟩, rfl⟩, _, rfl⟩
                      refine J.val (v := .bool t1824) rfl rfl (V.pickT rfl hc1821 rfl) ?_
                      refine J.nil ?_
                      have e := Option.some.inj ht1820
                      subst e
                      exact ⟨rfl, ⟨rfl, trivial⟩, rfl, rfl⟩
                    · have ht1820 := cf hc1821 ht1820
                      refine J.skip rfl rfl rfl rfl hc1821 ?_
                      refine J.val (v := .bool false) rfl rfl (V.pickF rfl hc1821 rfl) ?_
                      refine J.nil ?_
                      have e := Option.some.inj ht1820
                      subst e
                      exact ⟨rfl, ⟨rfl, trivial⟩, rfl, rfl⟩
                  · rintro ρ _ _ ⟨hf, rfl, rfl⟩
                    obtain ⟨ρ, rfl⟩ := hf.ex
                    refine J.val (v := .bool t1819) rfl rfl (V.as rfl) ?_
                    refine J.nil ?_
                    refine CJ.ret ?_
                    have e := Option.some.inj h
                    subst e
                    exact ⟨_, [], Res.one rfl rfl, ⟨t1819, rfl, rfl, rfl⟩, (Hp.le_refl _), fun w hs => (Sep.dropAt 0 rfl (Sep.dropAt 0 rfl hs))⟩
noncomputable def fn_ref16_Leads_l1 (xa : (List (Int × Int × Int × Int × Bool))) (i54718 : Int) : ((List Int) × Bool × Bool × Int) → Option (((List Int) × Bool × Bool × Int) ⊕ ((List Int) × Bool × Bool)) := fun ((l55992, t55997, t55998, i55999) : ((List Int) × Bool × Bool × Int)) => cond (decide (i55999 < (((l55992.length : Nat) : Int)))) ((cond (t55997) (some ((l55992, true))) ((getI l55992 i55999).bind fun x56186 => (getI xa i54718).bind fun x56193 => some ((l55992, decide (x56186 = x56193.1))))).bind fun (l56160, t56165) => cond (t55998) (some (.inl ((l56160, t56165, true, IntKind.wrap .i64 (i55999 + 1))))) ((getI l56160 i55999).bind fun x56222 => (getI xa i54718).bind fun x56229 => some (.inl ((l56160, t56165, decide (x56222 = x56229.2.1), IntKind.wrap .i64 (i55999 + 1)))))) (some (.inr (((l55992, t55997, t55998)))))
noncomputable def fn_ref16_Leads_l2 (xa : (List (Int × Int × Int × Int × Bool))) : ((List Int) × Bool × Int) → Option (((List Int) × Bool × Int) ⊕ ((List Int) × Bool)) := fun ((l54712, t54717, i54718) : ((List Int) × Bool × Int)) => cond (decide (i54718 < (((xa.length : Nat) : Int)))) ((loop (fn_ref16_Leads_l1 xa i54718) (l54712, false, false, 0)).bind fun (l55863, t55868, t55869) => cond (t55868 && (!t55869)) ((getI xa i54718).bind fun x56244 => (app l55863 ([x56244.2.1] : List Int)).bind fun z56256 => some (.inl ((z56256, true, IntKind.wrap .i64 (i54718 + 1))))) (some (.inl ((l55863, t54717, IntKind.wrap .i64 (i54718 + 1)))))) (some (.inr (((l54712, t54717)))))
noncomputable def fn_ref16_Leads_l3 (xa : (List (Int × Int × Int × Int × Bool))) : ((List Int) × Bool) → Option (((List Int) × Bool) ⊕ (List Int)) := fun ((l46914, t46919) : ((List Int) × Bool)) => cond (t46919) ((loop (fn_ref16_Leads_l2 xa) (l46914, false, 0)).bind fun (l53926, t53931) => some (.inl (l53926, t53931))) (some (.inr (l46914)))
noncomputable def fn_ref16_Leads_l4 (xc : Int) : ((List Int) × Int) → Option (((List Int) × Int) ⊕ (Unit ⊕ Bool)) := fun ((l56342, i56347) : ((List Int) × Int)) => cond (decide (i56347 < (((l56342.length : Nat) : Int)))) ((getI l56342 i56347).bind fun x56368 => cond (decide (x56368 = xc)) (some (.inr ((.inr (true))))) (some (.inl ((l56342, IntKind.wrap .i64 (i56347 + 1)))))) (some (.inr ((.inl ()))))
noncomputable def fn_ref16_Leads (xa : (List (Int × Int × Int × Int × Bool))) (xb : Int) (xc : Int) : Option Bool :=
  (loop (fn_ref16_Leads_l3 xa) ((([xb] : List Int), true))).bind fun l42230 => (loop (fn_ref16_Leads_l4 xc) (l42230, 0) : Option (Unit ⊕ Bool)).bind fun o => match o with | .inr r => some r | .inl () => some (false)
set_option maxRecDepth 100000 in
set_option maxHeartbeats 4000000 in
theorem ref16_Leads_ok {K : Hp} {xa : (List (Int × Int × Int × Int × Bool))} {xb : Int} {xc : Int} {adxa_0 : Option Addr} {cpxa_0 : Nat} (fxa_0 : Is K (.sl (.cons (.int .i64) (.cons (.int .i64) (.cons (.int .i64) (.cons (.int .i64) (.one .bool)))))) [.slice adxa_0 xa.length cpxa_0] xa) {r : Bool} (h : fn_ref16_Leads xa xb xc = some r) :
    Tr Try.prog 20 #[.slice adxa_0 xa.length cpxa_0, .int .i64 xb, .int .i64 xc] K [] (fun v K' L' => (∃ (t28199 : Bool), t28199 = r ∧ v = .bool t28199 ∧ L' = []) ∧ K = K') := by
  refine Tr.k ?_
  refine Tr.of Try.func20 rfl Try.ntmps20 rfl (fun E F => ?_)
  unfold fn_ref16_Leads at h
  refine CJ.seq ?_
  refine CJ.region ?_
  refine J.val (v := .bool false) rfl rfl (V.as rfl) ?_
  refine J.nil ?_
  refine CJ.seq ?_
  refine CJ.region ?_
  refine J.val (v := .int .i64 xb) rfl rfl (V.mv rfl) ?_
  refine J.op rfl (A.lit (K0 := Hp.nil) (ty := (.int .i64)) (xs := ([xb] : List Int)) Try.underlying55 inf3 rfl (by decide) rfl rfl rfl ⟨_, _, rfl, rfl, rfl⟩ rfl (by decide)) ?_
  rintro _ _ _ ⟨b28200, rfl, rfl, rfl⟩
  have hn28201 : ([xb] : List Int) ≠ [] → ∃ g, (some ⟨b28200, 0, none⟩ : Option Addr) = some ⟨g, 0, none⟩ := fun _ => ⟨b28200, rfl⟩
  refine J.val (v := .slice (some ⟨b28200, 0, none⟩) (([xb] : List Int).length) 1) rfl rfl (V.as rfl) ?_
  refine J.nil ?_
  refine CJ.seq ?_
  refine CJ.seq ?_
  refine CJ.region ?_
  refine J.val (v := .bool true) rfl rfl (V.as rfl) ?_
  refine J.nil ?_
  obtain ⟨o42235, ho42236, h⟩ := ob h
  refine CJ.meetN (fun ρ K' L' => ∃ (l42230 : (List Int)) (ad42231 : Option Addr) (cp42232 : Nat), l42230 = o42235 ∧ Fits [(2, .int .i64 xc), (7, .slice ad42231 l42230.length cp42232)] ρ ∧ K = K' ∧ L' = Row Hp.nil 3 (.int .i64) (.slice ad42231 l42230.length cp42232) l42230 :: F) ?_ ?_
  · skip
    refine CJ.block ?_
    refine CJ.loop (fun s ρ K' L' => ∃ (l46914 : (List Int)) (t46919 : Bool) (ad46915 : Option Addr) (cp46916 : Nat), (l46914, t46919) = s ∧ Fits [(0, .slice adxa_0 xa.length cpxa_0), (2, .int .i64 xc), (7, .slice ad46915 l46914.length cp46916), (8, .bool t46919)] ρ ∧ K = K' ∧ L' = Row Hp.nil 3 (.int .i64) (.slice ad46915 l46914.length cp46916) l46914 :: F) ho42236 ⟨([xb] : List Int), true, (some ⟨b28200, 0, none⟩), 1, rfl, ⟨rfl, rfl, rfl, rfl, trivial⟩, rfl, rfl⟩ ?_
    rintro s ρ _ _ r51596 ⟨l46914, t46919, ad46915, cp46916, rfl, hf51594, rfl, rfl⟩ h51593
    obtain ⟨ρ, rfl⟩ := hf51594.ex
    refine CJ.wit Row.hn (fun hn46918 => ?_)
    refine CJ.seq ?_
    refine CJ.seq ?_
    refine CJ.region ?_
    refine J.val (v := .bool t46919) rfl rfl (V.mv rfl) ?_
    refine J.nil ?_
    refine CJ.cond rfl (fun hc51597 => ?_) (fun hc51597 => ?_)
    · have h51593 := ct hc51597 h51593
      refine CJ.skip ?_
      refine CJ.block ?_
      refine CJ.seq ?_
      refine CJ.region ?_
      refine J.val (v := .bool false) rfl rfl (V.as rfl) ?_
      refine J.nil ?_
      refine CJ.seq ?_
      refine CJ.region ?_
      refine J.val (v := .int .i64 0) rfl rfl (V.as rfl) ?_
      refine J.nil ?_
      obtain ⟨o53932, ho53933, h51593⟩ := ob h51593
      refine CJ.meetN (fun ρ K' L' => ∃ (l53926 : (List Int)) (t53931 : Bool) (ad53927 : Option Addr) (cp53928 : Nat), (l53926, t53931) = o53932 ∧ Fits [(0, .slice adxa_0 xa.length cpxa_0), (2, .int .i64 xc), (7, .slice ad53927 l53926.length cp53928), (8, .bool t53931)] ρ ∧ K = K' ∧ L' = Row Hp.nil 3 (.int .i64) (.slice ad53927 l53926.length cp53928) l53926 :: F) ?_ ?_
      · skip
        refine CJ.block ?_
        refine CJ.loop (fun s ρ K' L' => ∃ (l54712 : (List Int)) (t54717 : Bool) (i54718 : Int) (ad54713 : Option Addr) (cp54714 : Nat), (l54712, t54717, i54718) = s ∧ Fits [(0, .slice adxa_0 xa.length cpxa_0), (2, .int .i64 xc), (7, .slice ad54713 l54712.length cp54714), (8, .bool t54717), (9, .int .i64 i54718)] ρ ∧ K = K' ∧ L' = Row Hp.nil 3 (.int .i64) (.slice ad54713 l54712.length cp54714) l54712 :: F) ho53933 ⟨l46914, false, 0, ad46915, cp46916, rfl, ⟨rfl, rfl, rfl, rfl, rfl, trivial⟩, rfl, rfl⟩ ?_
        rintro s ρ _ _ r55495 ⟨l54712, t54717, i54718, ad54713, cp54714, rfl, hf55493, rfl, rfl⟩ h55492
        obtain ⟨ρ, rfl⟩ := hf55493.ex
        refine CJ.wit Row.hn (fun hn54716 => ?_)
        refine CJ.seq ?_
        refine CJ.seq ?_
        refine CJ.region ?_
        refine J.val (v := .int .i64 i54718) rfl rfl (V.mv rfl) ?_
        refine J.val (v := .slice adxa_0 xa.length cpxa_0) rfl rfl (V.mv rfl) ?_
        refine J.val (v := .int .i64 (((xa.length : Nat) : Int))) rfl rfl (V.len Try.underlying31 rfl) ?_
        refine J.val (v := .bool (decide (i54718 < (((xa.length : Nat) : Int))))) rfl rfl (V.lss rfl rfl) ?_
        refine J.nil ?_
        refine CJ.cond rfl (fun hc55496 => ?_) (fun hc55496 => ?_)
        · have h55492 := ct hc55496 h55492
          refine CJ.skip ?_
          refine CJ.seq ?_
          refine CJ.block ?_
          refine CJ.seq ?_
          refine CJ.region ?_
          refine J.val (v := .bool false) rfl rfl (V.as rfl) ?_
          refine J.val (v := .bool false) rfl rfl (V.as rfl) ?_
          refine J.nil ?_
          refine CJ.seq ?_
          refine CJ.seq ?_
          refine CJ.region ?_
          refine J.val (v := .int .i64 0) rfl rfl (V.as rfl) ?_
          refine J.nil ?_
          obtain ⟨o55870, ho55871, h55492⟩ := ob h55492
          refine CJ.meetN (fun ρ K' L' => ∃ (l55863 : (List Int)) (t55868 : Bool) (t55869 : Bool) (ad55864 : Option Addr) (cp55865 : Nat), (l55863, t55868, t55869) = o55870 ∧ Fits [(0, .slice adxa_0 xa.length cpxa_0), (2, .int .i64 xc), (7, .slice ad55864 l55863.length cp55865), (8, .bool t54717), (9, .int .i64 i54718), (10, .bool t55868), (11, .bool t55869)] ρ ∧ K = K' ∧ L' = Row Hp.nil 3 (.int .i64) (.slice ad55864 l55863.length cp55865) l55863 :: F) ?_ ?_
          · skip
            refine CJ.block ?_
            refine CJ.loop (fun s ρ K' L' => ∃ (l55992 : (List Int)) (t55997 : Bool) (t55998 : Bool) (i55999 : Int) (ad55993 : Option Addr) (cp55994 : Nat), (l55992, t55997, t55998, i55999) = s ∧ Fits [(0, .slice adxa_0 xa.length cpxa_0), (2, .int .i64 xc), (7, .slice ad55993 l55992.length cp55994), (8, .bool t54717), (9, .int .i64 i54718), (10, .bool t55997), (11, .bool t55998), (12, .int .i64 i55999)] ρ ∧ K = K' ∧ L' = Row Hp.nil 3 (.int .i64) (.slice ad55993 l55992.length cp55994) l55992 :: F) ho55871 ⟨l54712, false, false, 0, ad54713, cp54714, rfl, ⟨rfl, rfl, rfl, rfl, rfl, rfl, rfl, rfl, trivial⟩, rfl, rfl⟩ ?_
            rintro s ρ _ _ r56124 ⟨l55992, t55997, t55998, i55999, ad55993, cp55994, rfl, hf56122, rfl, rfl⟩ h56121
            obtain ⟨ρ, rfl⟩ := hf56122.ex
            refine CJ.wit Row.hn (fun hn55996 => ?_)
            refine CJ.seq ?_
            refine CJ.seq ?_
            refine CJ.region ?_
            refine J.val (v := .int .i64 i55999) rfl rfl (V.mv rfl) ?_
            refine J.val (v := .slice ad55993 l55992.length cp55994) rfl rfl (V.mv rfl) ?_
            refine J.val (v := .int .i64 (((l55992.length : Nat) : Int))) rfl rfl (V.len Try.underlying55 rfl) ?_
            refine J.val (v := .bool (decide (i55999 < (((l55992.length : Nat) : Int))))) rfl rfl (V.lss rfl rfl) ?_
            refine J.nil ?_
            refine CJ.cond rfl (fun hc56125 => ?_) (fun hc56125 => ?_)
            · have h56121 := ct hc56125 h56121
              refine CJ.skip ?_
              refine CJ.seq ?_
              refine CJ.block ?_
              refine CJ.seq ?_
              obtain ⟨o56166, ho56167, h56121⟩ := ob h56121
              refine CJ.meetN (fun ρ K' L' => ∃ (l56160 : (List Int)) (t56165 : Bool) (ad56161 : Option Addr) (cp56162 : Nat), (l56160, t56165) = o56166 ∧ Fits [(0, .slice adxa_0 xa.length cpxa_0), (2, .int .i64 xc), (7, .slice ad56161 l56160.length cp56162), (8, .bool t54717), (9, .int .i64 i54718), (10, .bool t56165), (11, .bool t55998), (12, .int .i64 i55999)] ρ ∧ K = K' ∧ L' = Row Hp.nil 3 (.int .i64) (.slice ad56161 l56160.length cp56162) l56160 :: F) ?_ ?_
              · skip
                refine CJ.mix [Row Hp.nil 3 (.int .i64) (.slice ad55993 l55992.length cp55994) l55992] [] [0, 1, 2, 3, 4, 5, 6, 7, 8, 9, 10, 11, 12, 13] [] mixO (by decide +kernel) ⟨0, rfl, trivial⟩ rfl rfl rfl ?_
                refine JM.nil ?_
                refine JQ.val (v := .bool t55997) rfl rfl (V.mv rfl) ?_
                refine JQ.val (v := .bool t55997) rfl rfl (V.mv rfl) ?_
                rcases bt (t55997) with hc56185 | hc56185
                · have ho56167 := ct hc56185 ho56167
                  refine JQ.skip rfl rfl rfl rfl hc56185 ?_
                  refine JQ.skip rfl rfl rfl rfl hc56185 ?_
                  refine JQ.skip rfl rfl rfl rfl hc56185 ?_
                  refine JQ.skip rfl rfl rfl rfl hc56185 ?_
                  refine JQ.skip rfl rfl rfl rfl hc56185 ?_
                  refine JQ.skip rfl rfl rfl rfl hc56185 ?_
                  refine JQ.skip rfl rfl rfl rfl hc56185 ?_
                  refine JQ.skip rfl rfl rfl rfl hc56185 ?_
                  refine JQ.skip rfl rfl rfl rfl hc56185 ?_
                  refine JQ.skip rfl rfl rfl rfl hc56185 ?_
                  refine JQ.val (v := .bool true) rfl rfl (V.pickT rfl hc56185 rfl) ?_
                  refine JQ.val (v := .bool true) rfl rfl (V.as rfl) ?_
                  refine JQ.nil ?_
                  refine J.nil ?_
                  have e := Option.some.inj ho56167
                  subst e
                  exact ⟨rfl, ⟨l55992, true, ad55993, cp55994, rfl, ⟨rfl, rfl, rfl, rfl, rfl, rfl, rfl, rfl, trivial⟩, rfl, rfl⟩⟩
                · have ho56167 := cf hc56185 ho56167
                  refine JQ.run rfl rfl rfl hc56185 ?_
                  refine JQ.val (v := .slice ad55993 l55992.length cp55994) rfl rfl (V.mv rfl) ?_
                  refine JQ.run rfl rfl rfl hc56185 ?_
                  refine JQ.val (v := .int .i64 i55999) rfl rfl (V.mv rfl) ?_
                  refine JQ.run rfl rfl rfl hc56185 ?_
                  obtain ⟨x56186, hx56187, ho56167⟩ := ob ho56167
                  obtain ⟨p56188, p56189, p56190⟩ := getI_some hx56187
                  obtain ⟨g56191, e56192⟩ := hn55996 (fun e => by rw [e] at p56189; simp at p56189)
                  refine JQ.val rfl rfl (V.iad Try.underlying55 sz3 rfl e56192 rfl p56188 p56190) ?_
                  refine JQ.run rfl rfl rfl hc56185 ?_
                  refine JQ.val (v := .int .i64 x56186) rfl rfl (V.ld rfl (Ld.sc sc3 (Rd.row 0 rfl e56192 p56189 (q := 0) (by simp [Tp.size]) (by decide) (by rintro _ rfl; rfl)))) ?_
                  refine JQ.run rfl rfl rfl hc56185 ?_
                  refine JQ.val (v := .slice adxa_0 xa.length cpxa_0) rfl rfl (V.mv rfl) ?_
                  refine JQ.run rfl rfl rfl hc56185 ?_
                  refine JQ.val (v := .int .i64 i54718) rfl rfl (V.mv rfl) ?_
                  refine JQ.run rfl rfl rfl hc56185 ?_
                  obtain ⟨x56193, hx56194, ho56167⟩ := ob ho56167
                  obtain ⟨p56195, p56196, p56197⟩ := getI_some hx56194
                  obtain ⟨b56198, o56199, e56200, a56201⟩ := (fxa_0).at p56196
                  refine JQ.val rfl rfl (V.iad Try.underlying31 sz48 rfl e56200 rfl p56195 p56197) ?_
                  refine JQ.run rfl rfl rfl hc56185 ?_
                  refine JQ.val rfl rfl (V.fad Try.underlying48 rfl nz3 rfl) ?_
                  refine JQ.run rfl rfl rfl hc56185 ?_
                  refine JQ.val (v := .int .i64 x56193.1) rfl rfl (V.ld rfl (Ld.sc sc3 (Rd.k ((a56201).fst).int (Hp.le_refl _)))) ?_
                  refine JQ.run rfl rfl rfl hc56185 ?_
                  refine JQ.val (v := .bool (decide (x56186 = x56193.1))) rfl rfl (V.eql rfl rfl) ?_
                  refine JQ.val (v := .bool (decide (x56186 = x56193.1))) rfl rfl (V.pickF rfl hc56185 rfl) ?_
                  refine JQ.val (v := .bool (decide (x56186 = x56193.1))) rfl rfl (V.as rfl) ?_
                  refine JQ.nil ?_
                  refine J.nil ?_
                  have e := Option.some.inj ho56167
                  subst e
                  exact ⟨rfl, ⟨l55992, decide (x56186 = x56193.1), ad55993, cp55994, rfl, ⟨rfl, rfl, rfl, rfl, rfl, rfl, rfl, rfl, trivial⟩, rfl, rfl⟩⟩
              · rintro ρ _ _ ⟨l56160, t56165, ad56161, cp56162, rfl, hf56202, rfl, rfl⟩
                obtain ⟨ρ, rfl⟩ := hf56202.ex
                refine PJ.wit Row.hn (fun hn56164 => ?_)
                refine PJ.done ?_
                refine CJ.mix [Row Hp.nil 3 (.int .i64) (.slice ad56161 l56160.length cp56162) l56160] [] [0, 1, 2, 3, 4, 5, 6, 7, 8, 9, 10, 11, 12, 13] [] mixO (by decide +kernel) ⟨0, rfl, trivial⟩ rfl rfl rfl ?_
                refine JM.nil ?_
                refine JQ.val (v := .bool t55998) rfl rfl (V.mv rfl) ?_
                refine JQ.val (v := .bool t55998) rfl rfl (V.mv rfl) ?_
                rcases bt (t55998) with hc56221 | hc56221
                · have h56121 := ct hc56221 h56121
                  refine JQ.skip rfl rfl rfl rfl hc56221 ?_
                  refine JQ.skip rfl rfl rfl rfl hc56221 ?_
                  refine JQ.skip rfl rfl rfl rfl hc56221 ?_
                  refine JQ.skip rfl rfl rfl rfl hc56221 ?_
                  refine JQ.skip rfl rfl rfl rfl hc56221 ?_
                  refine JQ.skip rfl rfl rfl rfl hc56221 ?_
                  refine JQ.skip rfl rfl rfl rfl hc56221 ?_
                  refine JQ.skip rfl rfl rfl rfl hc56221 ?_
                  refine JQ.skip rfl rfl rfl rfl hc56221 ?_
                  refine JQ.skip rfl rfl rfl rfl hc56221 ?_
                  refine JQ.val (v := .bool true) rfl rfl (V.pickT rfl hc56221 rfl) ?_
                  refine JQ.val (v := .bool true) rfl rfl (V.as rfl) ?_
                  refine JQ.nil ?_
                  refine J.nil ?_
                  refine CJ.region ?_
                  refine J.val (v := .int .i64 i55999) rfl rfl (V.mv rfl) ?_
                  refine J.val (v := .int .i64 (IntKind.wrap .i64 (i55999 + 1))) rfl rfl (V.add rfl rfl) ?_
                  refine J.val (v := .int .i64 (IntKind.wrap .i64 (i55999 + 1))) rfl rfl (V.as rfl) ?_
                  refine J.nil ?_
                  have e := Option.some.inj h56121
                  subst e
                  exact ⟨rfl, ⟨l56160, t56165, true, IntKind.wrap .i64 (i55999 + 1), ad56161, cp56162, rfl, ⟨rfl, rfl, rfl, rfl, rfl, rfl, rfl, rfl, trivial⟩, rfl, rfl⟩⟩
                · have h56121 := cf hc56221 h56121
                  refine JQ.run rfl rfl rfl hc56221 ?_
                  refine JQ.val (v := .slice ad56161 l56160.length cp56162) rfl rfl (V.mv rfl) ?_
                  refine JQ.run rfl rfl rfl hc56221 ?_
                  refine JQ.val (v := .int .i64 i55999) rfl rfl (V.mv rfl) ?_
                  refine JQ.run rfl rfl rfl hc56221 ?_
                  obtain ⟨x56222, hx56223, h56121⟩ := ob h56121
                  obtain ⟨p56224, p56225, p56226⟩ := getI_some hx56223
                  obtain ⟨g56227, e56228⟩ := hn56164 (fun e => by rw [e] at p56225; simp at p56225)
                  refine JQ.val rfl rfl (V.iad Try.underlying55 sz3 rfl e56228 rfl p56224 p56226) ?_
                  refine JQ.run rfl rfl rfl hc56221 ?_
                  refine JQ.val (v := .int .i64 x56222) rfl rfl (V.ld rfl (Ld.sc sc3 (Rd.row 0 rfl e56228 p56225 (q := 0) (by simp [Tp.size]) (by decide) (by rintro _ rfl; rfl)))) ?_
                  refine JQ.run rfl rfl rfl hc56221 ?_
                  refine JQ.val (v := .slice adxa_0 xa.length cpxa_0) rfl rfl (V.mv rfl) ?_
                  refine JQ.run rfl rfl rfl hc56221 ?_
                  refine JQ.val (v := .int .i64 i54718) rfl rfl (V.mv rfl) ?_
                  refine JQ.run rfl rfl rfl hc56221 ?_
                  obtain ⟨x56229, hx56230, h56121⟩ := ob h56121
                  obtain ⟨p56231, p56232, p56233⟩ := getI_some hx56230
                  obtain ⟨b56234, o56235, e56236, a56237⟩ := (fxa_0).at p56232
                  refine JQ.val rfl rfl (V.iad Try.underlying31 sz48 rfl e56236 rfl p56231 p56233) ?_
                  refine JQ.run rfl rfl rfl hc56221 ?_
                  refine JQ.val rfl rfl (V.fad Try.underlying48 rfl nz3 rfl) ?_
                  refine JQ.run rfl rfl rfl hc56221 ?_
                  refine JQ.val (v := .int .i64 x56229.2.1) rfl rfl (V.ld rfl (Ld.sc sc3 (Rd.k (((a56237).snd).fst).int (Hp.le_refl _)))) ?_
                  refine JQ.run rfl rfl rfl hc56221 ?_
                  refine JQ.val (v := .bool (decide (x56222 = x56229.2.1))) rfl rfl (V.eql rfl rfl) ?_
                  refine JQ.val (v := .bool (decide (x56222 = x56229.2.1))) rfl rfl (V.pickF rfl hc56221 rfl) ?_
                  refine JQ.val (v := .bool (decide (x56222 = x56229.2.1))) rfl rfl (V.as rfl) ?_
                  refine JQ.nil ?_
                  refine J.nil ?_
                  refine CJ.region ?_
                  refine J.val (v := .int .i64 i55999) rfl rfl (V.mv rfl) ?_
                  refine J.val (v := .int .i64 (IntKind.wrap .i64 (i55999 + 1))) rfl rfl (V.add rfl rfl) ?_
                  refine J.val (v := .int .i64 (IntKind.wrap .i64 (i55999 + 1))) rfl rfl (V.as rfl) ?_
                  refine J.nil ?_
                  have e := Option.some.inj h56121
                  subst e
                  exact ⟨rfl, ⟨l56160, t56165, decide (x56222 = x56229.2.1), IntKind.wrap .i64 (i55999 + 1), ad56161, cp56162, rfl, ⟨rfl, rfl, rfl, rfl, rfl, rfl, rfl, rfl, trivial⟩, rfl, rfl⟩⟩
            · have h56121 := cf hc56125 h56121
              refine CJ.exit ?_
              have e := Option.some.inj h56121
              subst e
              refine ⟨nofun, fun e => ?_⟩
              subst e
              exact ⟨rfl, ⟨l55992, t55997, t55998, ad55993, cp55994, rfl, ⟨rfl, rfl, rfl, rfl, rfl, rfl, rfl, trivial⟩, rfl, rfl⟩⟩
          · rintro ρ _ _ ⟨l55863, t55868, t55869, ad55864, cp55865, rfl, hf56238, rfl, rfl⟩
            obtain ⟨ρ, rfl⟩ := hf56238.ex
            refine PJ.wit Row.hn (fun hn55867 => ?_)
            refine PJ.done ?_
            refine CJ.seq ?_
            refine CJ.region ?_
            refine J.val (v := .bool t55868) rfl rfl (V.mv rfl) ?_
            refine J.val (v := .bool t55868) rfl rfl (V.mv rfl) ?_
            refine J.cut 3 ?_
            refine @J.meet _ _ _ _ _ _ _ _ _ _ (fun ρ K' L' => Fits [(59, .bool (t55868 && (!t55869))), (0, .slice adxa_0 xa.length cpxa_0), (2, .int .i64 xc), (7, .slice ad55864 l55863.length cp55865), (8, .bool t54717), (9, .int .i64 i54718)] ρ ∧ K = K' ∧ L' = Row Hp.nil 3 (.int .i64) (.slice ad55864 l55863.length cp55865) l55863 :: F) ?_ ?_
            · skip
              rcases bt (t55868) with hc56242 | hc56242
              · skip
                refine J.run rfl rfl rfl hc56242 ?_
                refine J.val (v := .bool t55869) rfl rfl (V.mv rfl) ?_
                refine J.run rfl rfl rfl hc56242 ?_
                refine J.val (v := .bool (!t55869)) rfl rfl (V.not rfl) ?_
                refine J.val (v := .bool (!t55869)) rfl rfl (V.pickT rfl hc56242 rfl) ?_
                refine J.nil ?_
                exact ⟨rfl, ⟨(by simp only [hc56242]; rfl), rfl, rfl, rfl, rfl, rfl, trivial⟩, rfl, rfl⟩
              · skip
                refine J.skip rfl rfl rfl rfl hc56242 ?_
                refine J.skip rfl rfl rfl rfl hc56242 ?_
                refine J.val (v := .bool false) rfl rfl (V.pickF rfl hc56242 rfl) ?_
                refine J.nil ?_
                exact ⟨rfl, ⟨(by simp only [hc56242]; rfl), rfl, rfl, rfl, rfl, rfl, trivial⟩, rfl, rfl⟩
            · rintro ρ _ _ ⟨hf, rfl, rfl⟩
              obtain ⟨ρ, rfl⟩ := hf.ex
              refine J.nil ?_
              refine CJ.cond rfl (fun hc56243 => ?_) (fun hc56243 => ?_)
              · have h55492 := ct hc56243 h55492
                refine CJ.seq ?_
                refine CJ.region ?_
                refine J.val (v := .slice ad55864 l55863.length cp55865) rfl rfl (V.mv rfl) ?_
                refine J.val (v := .slice adxa_0 xa.length cpxa_0) rfl rfl (V.mv rfl) ?_
                refine J.val (v := .int .i64 i54718) rfl rfl (V.mv rfl) ?_
                obtain ⟨x56244, hx56245, h55492⟩ := ob h55492
                obtain ⟨p56246, p56247, p56248⟩ := getI_some hx56245
                obtain ⟨b56249, o56250, e56251, a56252⟩ := (fxa_0).at p56247
                refine J.val rfl rfl (V.iad Try.underlying31 sz48 rfl e56251 rfl p56246 p56248) ?_
                refine J.val rfl rfl (V.fad Try.underlying48 rfl nz3 rfl) ?_
                refine J.val (v := .int .i64 x56244.2.1) rfl rfl (V.ld rfl (Ld.sc sc3 (Rd.k (((a56252).snd).fst).int (Hp.le_refl _)))) ?_
                refine J.op rfl (A.lit (K0 := Hp.nil) (ty := (.int .i64)) (xs := ([x56244.2.1] : List Int)) Try.underlying55 inf3 rfl (by decide) rfl rfl rfl ⟨_, _, rfl, rfl, rfl⟩ rfl (by decide)) ?_
                rintro _ _ _ ⟨b56253, rfl, rfl, rfl⟩
                have hn56254 : ([x56244.2.1] : List Int) ≠ [] → ∃ g, (some ⟨b56253, 0, none⟩ : Option Addr) = some ⟨g, 0, none⟩ := fun _ => ⟨b56253, rfl⟩
                obtain ⟨z56256, hz56257, h55492⟩ := ob h55492
                refine J.front 1 rfl ?_
                refine J.op rfl (A.appR (Kr := Hp.nil) Try.underlying55 inf3 rfl rfl (by decide) (by decide) rfl rfl (Els.flat rfl) (Els.flat rfl) hz56257) ?_
                rintro _ _ _ ⟨v56258, rfl, rfl, rfl⟩
                refine J.wit Row.form ?_
                rintro ⟨ad56259, cp56260, rfl, _, _, hn56261⟩
                refine J.val (v := .slice ad56259 z56256.length cp56260) rfl rfl (V.as rfl) ?_
                refine J.nil ?_
                refine CJ.region ?_
                refine J.val (v := .bool true) rfl rfl (V.as rfl) ?_
                refine J.nil ?_
                refine CJ.region ?_
                refine J.val (v := .int .i64 i54718) rfl rfl (V.mv rfl) ?_
                refine J.val (v := .int .i64 (IntKind.wrap .i64 (i54718 + 1))) rfl rfl (V.add rfl rfl) ?_
                refine J.val (v := .int .i64 (IntKind.wrap .i64 (i54718 + 1))) rfl rfl (V.as rfl) ?_
                refine J.nil ?_
                have e := Option.some.inj h55492
                subst e
                exact ⟨rfl, ⟨z56256, true, IntKind.wrap .i64 (i54718 + 1), ad56259, cp56260, rfl, ⟨rfl, rfl, rfl, rfl, rfl, trivial⟩, rfl, rfl⟩⟩
              · have h55492 := cf hc56243 h55492
                refine CJ.skip ?_
                refine CJ.region ?_
                refine J.val (v := .int .i64 i54718) rfl rfl (V.mv rfl) ?_
                refine J.val (v := .int .i64 (IntKind.wrap .i64 (i54718 + 1))) rfl rfl (V.add rfl rfl) ?_
                refine J.val (v := .int .i64 (IntKind.wrap .i64 (i54718 + 1))) rfl rfl (V.as rfl) ?_
                refine J.nil ?_
                have e := Option.some.inj h55492
                subst e
                exact ⟨rfl, ⟨l55863, t54717, IntKind.wrap .i64 (i54718 + 1), ad55864, cp55865, rfl, ⟨rfl, rfl, rfl, rfl, rfl, trivial⟩, rfl, rfl⟩⟩
        · have h55492 := cf hc55496 h55492
          refine CJ.exit ?_
          have e := Option.some.inj h55492
          subst e
          refine ⟨nofun, fun e => ?_⟩
          subst e
          exact ⟨rfl, ⟨l54712, t54717, ad54713, cp54714, rfl, ⟨rfl, rfl, rfl, rfl, trivial⟩, rfl, rfl⟩⟩
      · rintro ρ _ _ ⟨l53926, t53931, ad53927, cp53928, rfl, hf56262, rfl, rfl⟩
        obtain ⟨ρ, rfl⟩ := hf56262.ex
        refine PJ.wit Row.hn (fun hn53930 => ?_)
        refine PJ.done ?_
        have e := Option.some.inj h51593
        subst e
        exact ⟨rfl, ⟨l53926, t53931, ad53927, cp53928, rfl, ⟨rfl, rfl, rfl, rfl, trivial⟩, rfl, rfl⟩⟩
    · have h51593 := cf hc51597 h51593
      refine CJ.exit ?_
      have e := Option.some.inj h51593
      subst e
      refine ⟨nofun, fun e => ?_⟩
      subst e
      exact ⟨rfl, ⟨l46914, ad46915, cp46916, rfl, ⟨rfl, rfl, trivial⟩, rfl, rfl⟩⟩
  · rintro ρ _ _ ⟨l42230, ad42231, cp42232, rfl, hf56264, rfl, rfl⟩
    obtain ⟨ρ, rfl⟩ := hf56264.ex
    refine PJ.wit Row.hn (fun hn42234 => ?_)
    refine PJ.done ?_
    refine CJ.seq ?_
    refine CJ.seq ?_
    refine CJ.region ?_
    refine J.val (v := .int .i64 0) rfl rfl (V.as rfl) ?_
    refine J.nil ?_
    obtain ⟨o56320, ho56321, h⟩ := ob h
    refine CJ.joinN (o := o56320) (fun s ρ K' L' => () = s ∧ Fits [] ρ ∧ K = K' ∧ F = L') ?_ ?_
    · skip
      refine CJ.block ?_
      refine CJ.loop (fun s ρ K' L' => ∃ (l56342 : (List Int)) (i56347 : Int) (ad56343 : Option Addr) (cp56344 : Nat), (l56342, i56347) = s ∧ Fits [(2, .int .i64 xc), (7, .slice ad56343 l56342.length cp56344), (13, .int .i64 i56347)] ρ ∧ K = K' ∧ L' = Row Hp.nil 3 (.int .i64) (.slice ad56343 l56342.length cp56344) l56342 :: F) ho56321 ⟨l42230, 0, ad42231, cp42232, rfl, ⟨rfl, rfl, rfl, trivial⟩, rfl, rfl⟩ ?_
      rintro s ρ _ _ r56366 ⟨l56342, i56347, ad56343, cp56344, rfl, hf56364, rfl, rfl⟩ h56363
      obtain ⟨ρ, rfl⟩ := hf56364.ex
      refine CJ.wit Row.hn (fun hn56346 => ?_)
      refine CJ.seq ?_
      refine CJ.seq ?_
      refine CJ.region ?_
      refine J.val (v := .int .i64 i56347) rfl rfl (V.mv rfl) ?_
      refine J.val (v := .slice ad56343 l56342.length cp56344) rfl rfl (V.mv rfl) ?_
      refine J.val (v := .int .i64 (((l56342.length : Nat) : Int))) rfl rfl (V.len Try.underlying55 rfl) ?_
      refine J.val (v := .bool (decide (i56347 < (((l56342.length : Nat) : Int))))) rfl rfl (V.lss rfl rfl) ?_
      refine J.nil ?_
      refine CJ.cond rfl (fun hc56367 => ?_) (fun hc56367 => ?_)
      · have h56363 := ct hc56367 h56363
        refine CJ.skip ?_
        refine CJ.seq ?_
        refine CJ.block ?_
        refine CJ.seq ?_
        refine CJ.region ?_
        refine J.val (v := .slice ad56343 l56342.length cp56344) rfl rfl (V.mv rfl) ?_
        refine J.val (v := .int .i64 i56347) rfl rfl (V.mv rfl) ?_
        obtain ⟨x56368, hx56369, h56363⟩ := ob h56363
        obtain ⟨p56370, p56371, p56372⟩ := getI_some hx56369
        obtain ⟨g56373, e56374⟩ := hn56346 (fun e => by rw [e] at p56371; simp at p56371)
        refine J.val rfl rfl (V.iad Try.underlying55 sz3 rfl e56374 rfl p56370 p56372) ?_
        refine J.val (v := .int .i64 x56368) rfl rfl (V.ld rfl (Ld.sc sc3 (Rd.row 0 rfl e56374 p56371 (q := 0) (by simp [Tp.size]) (by decide) (by rintro _ rfl; rfl)))) ?_
        refine J.val (v := .int .i64 xc) rfl rfl (V.mv rfl) ?_
        refine J.val (v := .bool (decide (x56368 = xc))) rfl rfl (V.eql rfl rfl) ?_
        refine J.nil ?_
        refine CJ.cond rfl (fun hc56375 => ?_) (fun hc56375 => ?_)
        · have h56363 := ct hc56375 h56363
          refine CJ.seq ?_
          refine CJ.region ?_
          refine J.val (v := .bool true) rfl rfl (V.as rfl) ?_
          refine J.nil ?_
          refine CJ.ret ?_
          have e := Option.some.inj h56363
          subst e
          refine ⟨nofun, fun e => ?_⟩
          subst e
          refine .inr ⟨nofun, ?_⟩
          have e := Option.some.inj h
          subst e
          exact ⟨_, [], Res.one rfl rfl, ⟨true, rfl, rfl, rfl⟩, (Hp.le_refl _), fun w hs => (Sep.dropAt 0 rfl hs)⟩
        · have h56363 := cf hc56375 h56363
          refine CJ.skip ?_
          refine CJ.region ?_
          refine J.val (v := .int .i64 i56347) rfl rfl (V.mv rfl) ?_
          refine J.val (v := .int .i64 (IntKind.wrap .i64 (i56347 + 1))) rfl rfl (V.add rfl rfl) ?_
          refine J.val (v := .int .i64 (IntKind.wrap .i64 (i56347 + 1))) rfl rfl (V.as rfl) ?_
          refine J.nil ?_
          have e := Option.some.inj h56363
          subst e
          exact ⟨rfl, ⟨l56342, IntKind.wrap .i64 (i56347 + 1), ad56343, cp56344, rfl, ⟨rfl, rfl, rfl, trivial⟩, rfl, rfl⟩⟩
      · have h56363 := cf hc56367 h56363
        refine CJ.dropAt 0 rfl ?_
        refine CJ.exit ?_
        have e := Option.some.inj h56363
        subst e
        refine ⟨nofun, fun e => ?_⟩
        subst e
        exact .inl ⟨rfl, _, rfl, ⟨rfl, trivial, rfl, rfl⟩⟩
    · rintro s ρ _ _ ho56376 ⟨rfl, hf56377, rfl, rfl⟩
      subst ho56376
      obtain ⟨ρ, rfl⟩ := hf56377.ex
      refine PJ.done ?_
      refine CJ.seq ?_
      refine CJ.region ?_
      refine J.val (v := .bool false) rfl rfl (V.as rfl) ?_
      refine J.nil ?_
      refine CJ.ret ?_
      have e := Option.some.inj h
      subst e
      exact ⟨_, [], Res.one rfl rfl, ⟨false, rfl, rfl, rfl⟩, (Hp.le_refl _), fun w hs => hs⟩
noncomputable def fn_law16_RelateChains_l1  : ((List (Int × Int × Int × Int × Bool)) × (List (Int × Int × Int × Int × Bool)) × Int) → Option (((List (Int × Int × Int × Int × Bool)) × (List (Int × Int × Int × Int × Bool)) × Int) ⊕ (Unit ⊕ Bool)) := fun ((l939, l944, i949) : ((List (Int × Int × Int × Int × Bool)) × (List (Int × Int × Int × Int × Bool)) × Int)) => cond (decide (i949 < (((l939.length : Nat) : Int)))) ((getI l939 i949).bind fun x1037 => (getI l939 i949).bind fun x1044 => (fn_ref16_Leads l944 x1037.1 x1044.2.1).bind fun t1056 => cond (!t1056) (some (.inr ((.inr (false))))) (some (.inl ((l939, l944, IntKind.wrap .i64 (i949 + 1)))))) (some (.inr ((.inl ()))))
noncomputable def fn_law16_RelateChains (xa : (List (Int × Bool))) (xb : (List (Int × Bool))) (xc : (List (Int × Bool))) : Option Bool :=
  (fn_ref15_Few xa 8).bind fun t546 => (cond (!t546) (some (true)) ((fn_ref15_Few xb 8).bind fun t562 => some (!t562))).bind fun t557 => (cond (t557) (some (true)) ((fn_ref15_Few xc 8).bind fun t578 => some (!t578))).bind fun t573 => cond (t573) ((fn_law16_awake).bind fun t585 => some (t585)) ((fn_relate_Flow xa xb 1 0).bind fun (l591, i592) => (fn_relate_Flow xb xc 1 0).bind fun (l602, i603) => (fn_relate_Flow xa xc 1 0).bind fun (l613, i614) => cond ((!decide (i592 = 0)) || (!decide (i603 = 0))) ((cond ((decide (i614 = 0)) || (decide ((((l613.length : Nat) : Int)) = 0))) ((fn_law16_awake).bind fun t641 => some (t641)) (some (false))).bind fun t636 => some (t636)) ((fn_law16_Doc l591).bind fun l650 => (fn_law16_Doc l602).bind fun l663 => (app l650 l663).bind fun z671 => (loop (fn_law16_RelateChains_l1) (l613, z671, 0) : Option (Unit ⊕ Bool)).bind fun o => match o with | .inr r => some r | .inl () => (cond (decide (i614 = 0)) ((fn_law16_awake).bind fun t1076 => some (t1076)) (some (false))).bind fun t1071 => some (t1071)))
set_option maxRecDepth 100000 in
set_option maxHeartbeats 4000000 in
theorem law16_RelateChains_ok {K : Hp} {xa : (List (Int × Bool))} {xb : (List (Int × Bool))} {xc : (List (Int × Bool))} {adxa_0 : Option Addr} {cpxa_0 : Nat} {adxb_0 : Option Addr} {cpxb_0 : Nat} {adxc_0 : Option Addr} {cpxc_0 : Nat} (fxa_0 : Is K (.sl (.cons (.int .i64) (.one .bool))) [.slice adxa_0 xa.length cpxa_0] xa) (fxb_0 : Is K (.sl (.cons (.int .i64) (.one .bool))) [.slice adxb_0 xb.length cpxb_0] xb) (fxc_0 : Is K (.sl (.cons (.int .i64) (.one .bool))) [.slice adxc_0 xc.length cpxc_0] xc) {r : Bool} (h : fn_law16_RelateChains xa xb xc = some r) :
    Tr Try.prog 5 #[.agg #[.slice adxa_0 xa.length cpxa_0], .agg #[.slice adxb_0 xb.length cpxb_0], .agg #[.slice adxc_0 xc.length cpxc_0]] K [] (fun v K' L' => (∃ (t540 : Bool), t540 = r ∧ v = .bool t540 ∧ L' = []) ∧ K = K') := by
  refine Tr.k ?_
  refine Tr.of Try.func5 rfl Try.ntmps5 rfl (fun E F => ?_)
  unfold fn_law16_RelateChains at h
  refine CJ.seq ?_
  refine CJ.region ?_
  refine J.op rfl (A.box (v := .agg #[.slice adxa_0 xa.length cpxa_0]) (cs := [.slice adxa_0 xa.length cpxa_0]) rfl rfl) ?_
  rintro _ _ _ ⟨b541, rfl, rfl, rfl⟩
  refine J.op rfl (A.box (v := .agg #[.slice adxb_0 xb.length cpxb_0]) (cs := [.slice adxb_0 xb.length cpxb_0]) rfl rfl) ?_
  rintro _ _ _ ⟨b542, rfl, rfl, rfl⟩
  refine J.op rfl (A.box (v := .agg #[.slice adxc_0 xc.length cpxc_0]) (cs := [.slice adxc_0 xc.length cpxc_0]) rfl rfl) ?_
  rintro _ _ _ ⟨b543, rfl, rfl, rfl⟩
  refine J.val (v := .bool false) rfl rfl (V.as rfl) ?_
  refine J.nil ?_
  refine CJ.seq ?_
  refine CJ.seq ?_
  refine CJ.region ?_
  refine J.val (v := .agg #[.slice adxa_0 xa.length cpxa_0]) rfl rfl (V.ld rfl (Ld.agg (cs := [.slice adxa_0 xa.length cpxa_0]) Try.underlying24 sz24 rfl (Rd.cls 2 0 rfl rfl))) ?_
  obtain ⟨r544, hr545, h⟩ := ob h
  refine J.op rfl (A.call (L1 := []) Try.call6 rfl (ref15_Few_ok fxa_0 hr545) rfl rfl) ?_
  rintro _ _ _ ⟨v547, _, rfl, ⟨⟨t546, rfl, rfl, rfl⟩, rfl⟩, _, rfl⟩
  refine J.val (v := .bool (!t546)) rfl rfl (V.not rfl) ?_
  refine J.val (v := .bool (!t546)) rfl rfl (V.mv rfl) ?_
  refine J.cut 4 ?_
  obtain ⟨t557, ht558, h⟩ := ob h
  refine @J.meet _ _ _ _ _ _ _ _ _ _ (fun ρ K' L' => Fits [(22, .bool t557), (3, .pointer (some ⟨b541, 0, none⟩)), (4, .pointer (some ⟨b542, 0, none⟩)), (5, .pointer (some ⟨b543, 0, none⟩))] ρ ∧ K = K' ∧ L' = Cl b543 24 [.slice adxc_0 xc.length cpxc_0] :: Cl b542 24 [.slice adxb_0 xb.length cpxb_0] :: Cl b541 24 [.slice adxa_0 xa.length cpxa_0] :: F) ?_ ?_
  · skip
    rcases bt (!t546) with hc559 | hc559
    · have ht558 := ct hc559 ht558
      refine J.skip rfl rfl rfl rfl hc559 ?_
      refine J.skip rfl rfl rfl rfl hc559 ?_
      refine J.skip rfl rfl rfl rfl hc559 ?_
      refine J.val (v := .bool true) rfl rfl (V.pickT rfl hc559 rfl) ?_
      refine J.nil ?_
      have e := Option.some.inj ht558
      subst e
      exact ⟨rfl, ⟨rfl, rfl, rfl, rfl, trivial⟩, rfl, rfl⟩
    · have ht558 := cf hc559 ht558
      refine J.run rfl rfl rfl hc559 ?_
      refine J.val (v := .agg #[.slice adxb_0 xb.length cpxb_0]) rfl rfl (V.ld rfl (Ld.agg (cs := [.slice adxb_0 xb.length cpxb_0]) Try.underlying24 sz24 rfl (Rd.cls 1 0 rfl rfl))) ?_
      refine J.run rfl rfl rfl hc559 ?_
      obtain ⟨r560, hr561, ht558⟩ := ob ht558
      refine J.op rfl (A.call (L1 := []) Try.call6 rfl (ref15_Few_ok fxb_0 hr561) rfl rfl) ?_
      rintro _ _ _ ⟨v563, _, rfl, ⟨⟨t562, rfl, rfl, rfl⟩, rfl⟩, _, rfl⟩
      refine J.run rfl rfl rfl hc559 ?_
      refine J.val (v := .bool (!t562)) rfl rfl (V.not rfl) ?_
      refine J.val (v := .bool (!t562)) rfl rfl (V.pickF rfl hc559 rfl) ?_
      refine J.nil ?_
      have e := Option.some.inj ht558
      subst e
      exact ⟨rfl, ⟨rfl, rfl, rfl, rfl, trivial⟩, rfl, rfl⟩
  · rintro ρ _ _ ⟨hf, rfl, rfl⟩
    obtain ⟨ρ, rfl⟩ := hf.ex
    refine J.val (v := .bool t557) rfl rfl (V.mv rfl) ?_
    refine J.cut 4 ?_
    obtain ⟨t573, ht574, h⟩ := ob h
    refine @J.meet _ _ _ _ _ _ _ _ _ _ (fun ρ K' L' => Fits [(27, .bool t573), (3, .pointer (some ⟨b541, 0, none⟩)), (4, .pointer (some ⟨b542, 0, none⟩)), (5, .pointer (some ⟨b543, 0, none⟩))] ρ ∧ K = K' ∧ L' = Cl b543 24 [.slice adxc_0 xc.length cpxc_0] :: Cl b542 24 [.slice adxb_0 xb.length cpxb_0] :: Cl b541 24 [.slice adxa_0 xa.length cpxa_0] :: F) ?_ ?_
    · skip
      rcases bt (t557) with hc575 | hc575
      · have ht574 := ct hc575 ht574
        refine J.skip rfl rfl rfl rfl hc575 ?_
        refine J.skip rfl rfl rfl rfl hc575 ?_
        refine J.skip rfl rfl rfl rfl hc575 ?_
        refine J.val (v := .bool true) rfl rfl (V.pickT rfl hc575 rfl) ?_
        refine J.nil ?_
        have e := Option.some.inj ht574
        subst e
        exact ⟨rfl, ⟨rfl, rfl, rfl, rfl, trivial⟩, rfl, rfl⟩
      · have ht574 := cf hc575 ht574
        refine J.run rfl rfl rfl hc575 ?_
        refine J.val (v := .agg #[.slice adxc_0 xc.length cpxc_0]) rfl rfl (V.ld rfl (Ld.agg (cs := [.slice adxc_0 xc.length cpxc_0]) Try.underlying24 sz24 rfl (Rd.cls 0 0 rfl rfl))) ?_
        refine J.run rfl rfl rfl hc575 ?_
        obtain ⟨r576, hr577, ht574⟩ := ob ht574
        refine J.op rfl (A.call (L1 := []) Try.call6 rfl (ref15_Few_ok fxc_0 hr577) rfl rfl) ?_
        rintro _ _ _ ⟨v579, _, rfl, ⟨⟨t578, rfl, rfl, rfl⟩, rfl⟩, _, rfl⟩
        refine J.run rfl rfl rfl hc575 ?_
        refine J.val (v := .bool (!t578)) rfl rfl (V.not rfl) ?_
        refine J.val (v := .bool (!t578)) rfl rfl (V.pickF rfl hc575 rfl) ?_
        refine J.nil ?_
        have e := Option.some.inj ht574
        subst e
        exact ⟨rfl, ⟨rfl, rfl, rfl, rfl, trivial⟩, rfl, rfl⟩
    · rintro ρ _ _ ⟨hf, rfl, rfl⟩
      obtain ⟨ρ, rfl⟩ := hf.ex
      refine J.nil ?_
      refine CJ.cond rfl (fun hc582 => ?_) (fun hc582 => ?_)
      · have h := ct hc582 h
        refine CJ.seq ?_
        refine CJ.region ?_
        obtain ⟨r583, hr584, h⟩ := ob h
        refine J.op rfl (A.call (L1 := []) Try.call7 rfl (law16_awake_ok hr584) rfl rfl) ?_
        rintro _ _ _ ⟨v586, _, rfl, ⟨⟨t585, rfl, rfl, rfl⟩, rfl⟩, _, rfl⟩
        refine J.val (v := .bool t585) rfl rfl (V.as rfl) ?_
        refine J.nil ?_
        refine CJ.ret ?_
        have e := Option.some.inj h
        subst e
        exact ⟨_, [], Res.one rfl rfl, ⟨t585, rfl, rfl, rfl⟩, (Hp.le_refl _), fun w hs => (Sep.dropAt 0 rfl (Sep.dropAt 0 rfl (Sep.dropAt 0 rfl hs)))⟩
      · have h := cf hc582 h
        refine CJ.skip ?_
        refine CJ.seq ?_
        refine CJ.region ?_
        refine J.val (v := .agg #[.slice adxa_0 xa.length cpxa_0]) rfl rfl (V.ld rfl (Ld.agg (cs := [.slice adxa_0 xa.length cpxa_0]) Try.underlying24 sz24 rfl (Rd.cls 2 0 rfl rfl))) ?_
        refine J.val (v := .agg #[.slice adxb_0 xb.length cpxb_0]) rfl rfl (V.ld rfl (Ld.agg (cs := [.slice adxb_0 xb.length cpxb_0]) Try.underlying24 sz24 rfl (Rd.cls 1 0 rfl rfl))) ?_
        obtain ⟨r589, hr590, h⟩ := ob h
        refine J.op rfl (A.call (L1 := []) Try.call8 rfl (relate_Flow_ok fxa_0 fxb_0 hr590) rfl rfl) ?_
        rintro _ _ _ ⟨v596, _, rfl, ⟨⟨l591, i592, ad593, cp594, rfl, rfl, rfl⟩, rfl⟩, _, rfl⟩
        refine J.wit Row.hn (fun hn595 => ?_)
        refine J.val (v := .tuple #[.slice ad593 l591.length cp594, .int .i64 i592]) rfl rfl (V.mv rfl) ?_
        refine J.val (v := .slice ad593 l591.length cp594) rfl rfl (V.ext rfl rfl) ?_
        refine J.val (v := .int .i64 i592) rfl rfl (V.ext rfl rfl) ?_
        refine J.val (v := .slice ad593 l591.length cp594) rfl rfl (V.as rfl) ?_
        refine J.val (v := .int .i64 i592) rfl rfl (V.as rfl) ?_
        refine J.nil ?_
        refine CJ.seq ?_
        refine CJ.region ?_
        refine J.val (v := .agg #[.slice adxb_0 xb.length cpxb_0]) rfl rfl (V.ld rfl (Ld.agg (cs := [.slice adxb_0 xb.length cpxb_0]) Try.underlying24 sz24 rfl (Rd.cls 2 0 rfl rfl))) ?_
        refine J.val (v := .agg #[.slice adxc_0 xc.length cpxc_0]) rfl rfl (V.ld rfl (Ld.agg (cs := [.slice adxc_0 xc.length cpxc_0]) Try.underlying24 sz24 rfl (Rd.cls 1 0 rfl rfl))) ?_
        obtain ⟨r600, hr601, h⟩ := ob h
        refine J.op rfl (A.call (L1 := []) Try.call8 rfl (relate_Flow_ok fxb_0 fxc_0 hr601) rfl rfl) ?_
        rintro _ _ _ ⟨v607, _, rfl, ⟨⟨l602, i603, ad604, cp605, rfl, rfl, rfl⟩, rfl⟩, _, rfl⟩
        refine J.wit Row.hn (fun hn606 => ?_)
        refine J.val (v := .tuple #[.slice ad604 l602.length cp605, .int .i64 i603]) rfl rfl (V.mv rfl) ?_
        refine J.val (v := .slice ad604 l602.length cp605) rfl rfl (V.ext rfl rfl) ?_
        refine J.val (v := .int .i64 i603) rfl rfl (V.ext rfl rfl) ?_
        refine J.val (v := .slice ad604 l602.length cp605) rfl rfl (V.as rfl) ?_
        refine J.val (v := .int .i64 i603) rfl rfl (V.as rfl) ?_
        refine J.nil ?_
        refine CJ.seq ?_
        refine CJ.region ?_
        refine J.val (v := .agg #[.slice adxa_0 xa.length cpxa_0]) rfl rfl (V.ld rfl (Ld.agg (cs := [.slice adxa_0 xa.length cpxa_0]) Try.underlying24 sz24 rfl (Rd.cls 4 0 rfl rfl))) ?_
        refine J.val (v := .agg #[.slice adxc_0 xc.length cpxc_0]) rfl rfl (V.ld rfl (Ld.agg (cs := [.slice adxc_0 xc.length cpxc_0]) Try.underlying24 sz24 rfl (Rd.cls 2 0 rfl rfl))) ?_
        obtain ⟨r611, hr612, h⟩ := ob h
        refine J.op rfl (A.call (L1 := []) Try.call8 rfl (relate_Flow_ok fxa_0 fxc_0 hr612) rfl rfl) ?_
        rintro _ _ _ ⟨v618, _, rfl, ⟨⟨l613, i614, ad615, cp616, rfl, rfl, rfl⟩, rfl⟩, _, rfl⟩
        refine J.wit Row.hn (fun hn617 => ?_)
        refine J.val (v := .tuple #[.slice ad615 l613.length cp616, .int .i64 i614]) rfl rfl (V.mv rfl) ?_
        refine J.val (v := .slice ad615 l613.length cp616) rfl rfl (V.ext rfl rfl) ?_
        refine J.val (v := .int .i64 i614) rfl rfl (V.ext rfl rfl) ?_
        refine J.val (v := .slice ad615 l613.length cp616) rfl rfl (V.as rfl) ?_
        refine J.val (v := .int .i64 i614) rfl rfl (V.as rfl) ?_
        refine J.nil ?_
        refine CJ.seq ?_
        refine CJ.seq ?_
        refine CJ.region ?_
        refine J.val (v := .int .i64 i592) rfl rfl (V.mv rfl) ?_
        refine J.val (v := .bool (!decide (i592 = 0))) rfl rfl (V.neq rfl rfl) ?_
        refine J.val (v := .bool (!decide (i592 = 0))) rfl rfl (V.mv rfl) ?_
        refine J.cut 3 ?_
        refine @J.meet _ _ _ _ _ _ _ _ _ _ (fun ρ K' L' => Fits [(52, .bool ((!decide (i592 = 0)) || (!decide (i603 = 0)))), (7, .slice ad593 l591.length cp594), (9, .slice ad604 l602.length cp605), (11, .slice ad615 l613.length cp616), (12, .int .i64 i614)] ρ ∧ K = K' ∧ L' = Row Hp.nil 40 (.cons (.int .i64) (.cons (.int .i64) (.cons (.int .i64) (.cons (.int .i64) (.one .bool))))) (.slice ad615 l613.length cp616) l613 :: Row Hp.nil 40 (.cons (.int .i64) (.cons (.int .i64) (.cons (.int .i64) (.cons (.int .i64) (.one .bool))))) (.slice ad604 l602.length cp605) l602 :: Row Hp.nil 40 (.cons (.int .i64) (.cons (.int .i64) (.cons (.int .i64) (.cons (.int .i64) (.one .bool))))) (.slice ad593 l591.length cp594) l591 :: Cl b543 24 [.slice adxc_0 xc.length cpxc_0] :: Cl b542 24 [.slice adxb_0 xb.length cpxb_0] :: Cl b541 24 [.slice adxa_0 xa.length cpxa_0] :: F) ?_ ?_
        · skip
          rcases bt (!decide (i592 = 0)) with hc624 | hc624
          · skip
            refine J.skip rfl rfl rfl rfl hc624 ?_
            refine J.skip rfl rfl rfl rfl hc624 ?_
            refine J.val (v := .bool true) rfl rfl (V.pickT rfl hc624 rfl) ?_
            refine J.nil ?_
            exact ⟨rfl, ⟨(by simp only [hc624]; rfl), rfl, rfl, rfl, rfl, trivial⟩, rfl, rfl⟩
          · skip
            refine J.run rfl rfl rfl hc624 ?_
            refine J.val (v := .int .i64 i603) rfl rfl (V.mv rfl) ?_
            refine J.run rfl rfl rfl hc624 ?_
            refine J.val (v := .bool (!decide (i603 = 0))) rfl rfl (V.neq rfl rfl) ?_
            refine J.val (v := .bool (!decide (i603 = 0))) rfl rfl (V.pickF rfl hc624 rfl) ?_
            refine J.nil ?_
            exact ⟨rfl, ⟨(by simp only [hc624]; rfl), rfl, rfl, rfl, rfl, trivial⟩, rfl, rfl⟩
        · rintro ρ _ _ ⟨hf, rfl, rfl⟩
          obtain ⟨ρ, rfl⟩ := hf.ex
          refine J.nil ?_
          refine CJ.cond rfl (fun hc625 => ?_) (fun hc625 => ?_)
          · have h := ct hc625 h
            refine CJ.seq ?_
            refine CJ.region ?_
            refine J.val (v := .int .i64 i614) rfl rfl (V.mv rfl) ?_
            refine J.val (v := .bool (decide (i614 = 0))) rfl rfl (V.eql rfl rfl) ?_
            refine J.val (v := .bool (decide (i614 = 0))) rfl rfl (V.mv rfl) ?_
            refine J.cut 4 ?_
            refine @J.meet _ _ _ _ _ _ _ _ _ _ (fun ρ K' L' => Fits [(59, .bool ((decide (i614 = 0)) || (decide ((((l613.length : Nat) : Int)) = 0))))] ρ ∧ K = K' ∧ L' = Row Hp.nil 40 (.cons (.int .i64) (.cons (.int .i64) (.cons (.int .i64) (.cons (.int .i64) (.one .bool))))) (.slice ad615 l613.length cp616) l613 :: Row Hp.nil 40 (.cons (.int .i64) (.cons (.int .i64) (.cons (.int .i64) (.cons (.int .i64) (.one .bool))))) (.slice ad604 l602.length cp605) l602 :: Row Hp.nil 40 (.cons (.int .i64) (.cons (.int .i64) (.cons (.int .i64) (.cons (.int .i64) (.one .bool))))) (.slice ad593 l591.length cp594) l591 :: Cl b543 24 [.slice adxc_0 xc.length cpxc_0] :: Cl b542 24 [.slice adxb_0 xb.length cpxb_0] :: Cl b541 24 [.slice adxa_0 xa.length cpxa_0] :: F) ?_ ?_
            · skip
              rcases bt (decide (i614 = 0)) with hc628 | hc628
              · skip
                refine J.skip rfl rfl rfl rfl hc628 ?_
                refine J.skip rfl rfl rfl rfl hc628 ?_
                refine J.skip rfl rfl rfl rfl hc628 ?_
                refine J.val (v := .bool true) rfl rfl (V.pickT rfl hc628 rfl) ?_
                refine J.nil ?_
                exact ⟨rfl, ⟨(by simp only [hc628]; rfl), trivial⟩, rfl, rfl⟩
              · skip
                refine J.run rfl rfl rfl hc628 ?_
                refine J.val (v := .slice ad615 l613.length cp616) rfl rfl (V.mv rfl) ?_
                refine J.run rfl rfl rfl hc628 ?_
                refine J.val (v := .int .i64 (((l613.length : Nat) : Int))) rfl rfl (V.len Try.underlying27 rfl) ?_
                refine J.run rfl rfl rfl hc628 ?_
                refine J.val (v := .bool (decide ((((l613.length : Nat) : Int)) = 0))) rfl rfl (V.eql rfl rfl) ?_
                refine J.val (v := .bool (decide ((((l613.length : Nat) : Int)) = 0))) rfl rfl (V.pickF rfl hc628 rfl) ?_
                refine J.nil ?_
                exact ⟨rfl, ⟨(by simp only [hc628]; rfl), trivial⟩, rfl, rfl⟩
            · rintro ρ _ _ ⟨hf, rfl, rfl⟩
              obtain ⟨ρ, rfl⟩ := hf.ex
              refine J.val (v := .bool ((decide (i614 = 0)) || (decide ((((l613.length : Nat) : Int)) = 0)))) rfl rfl (V.mv rfl) ?_
              refine J.cut 2 ?_
              obtain ⟨t636, ht637, h⟩ := ob h
              refine @J.meet _ _ _ _ _ _ _ _ _ _ (fun ρ K' L' => Fits [(62, .bool t636)] ρ ∧ K = K' ∧ L' = Row Hp.nil 40 (.cons (.int .i64) (.cons (.int .i64) (.cons (.int .i64) (.cons (.int .i64) (.one .bool))))) (.slice ad615 l613.length cp616) l613 :: Row Hp.nil 40 (.cons (.int .i64) (.cons (.int .i64) (.cons (.int .i64) (.cons (.int .i64) (.one .bool))))) (.slice ad604 l602.length cp605) l602 :: Row Hp.nil 40 (.cons (.int .i64) (.cons (.int .i64) (.cons (.int .i64) (.cons (.int .i64) (.one .bool))))) (.slice ad593 l591.length cp594) l591 :: Cl b543 24 [.slice adxc_0 xc.length cpxc_0] :: Cl b542 24 [.slice adxb_0 xb.length cpxb_0] :: Cl b541 24 [.slice adxa_0 xa.length cpxa_0] :: F) ?_ ?_
              · skip
                rcases bt ((decide (i614 = 0)) || (decide ((((l613.length : Nat) : Int)) = 0))) with hc638 | hc638
                · have ht637 := ct hc638 ht637
                  refine J.run rfl rfl rfl hc638 ?_
                  obtain ⟨r639, hr640, ht637⟩ := ob ht637
                  refine J.op rfl (A.call (L1 := []) Try.call7 rfl (law16_awake_ok hr640) rfl rfl) ?_
                  rintro _ _ _ ⟨v642, _, rfl, ⟨⟨t641, rfl, rfl, rfl⟩, rfl⟩, _, rfl⟩
                  refine J.val (v := .bool t641) rfl rfl (V.pickT rfl hc638 rfl) ?_
                  refine J.nil ?_
                  have e := Option.some.inj ht637
                  subst e
                  exact ⟨rfl, ⟨rfl, trivial⟩, rfl, rfl⟩
                · have ht637 := cf hc638 ht637
                  refine J.skip rfl rfl rfl rfl hc638 ?_
                  refine J.val (v := .bool false) rfl rfl (V.pickF rfl hc638 rfl) ?_
                  refine J.nil ?_
                  have e := Option.some.inj ht637
                  subst e
                  exact ⟨rfl, ⟨rfl, trivial⟩, rfl, rfl⟩
              · rintro ρ _ _ ⟨hf, rfl, rfl⟩
                obtain ⟨ρ, rfl⟩ := hf.ex
                refine J.val (v := .bool t636) rfl rfl (V.as rfl) ?_
                refine J.nil ?_
                refine CJ.ret ?_
                have e := Option.some.inj h
                subst e
                exact ⟨_, [], Res.one rfl rfl, ⟨t636, rfl, rfl, rfl⟩, (Hp.le_refl _), fun w hs => (Sep.dropAt 0 rfl (Sep.dropAt 0 rfl (Sep.dropAt 0 rfl (Sep.dropAt 0 rfl (Sep.dropAt 0 rfl (Sep.dropAt 0 rfl hs))))))⟩
          · have h := cf hc625 h
            refine CJ.skip ?_
            refine CJ.seq ?_
            refine CJ.region ?_
            refine J.val (v := .slice ad593 l591.length cp594) rfl rfl (V.mv rfl) ?_
            refine J.front 2 rfl ?_
            refine J.persist (Hp.nil_le _) (by decide) (fun K645 hK646 f647 => ?_)
            obtain ⟨r648, hr649, h⟩ := ob h
            refine J.op rfl (A.call (L1 := []) Try.call15 rfl (law16_Doc_ok f647 hr649) rfl rfl) ?_
            rintro _ _ _ ⟨v654, _, rfl, ⟨⟨l650, ad651, cp652, rfl, rfl, rfl⟩, rfl⟩, _, rfl⟩
            refine J.wit Row.hn (fun hn653 => ?_)
            refine J.val (v := .slice ad604 l602.length cp605) rfl rfl (V.mv rfl) ?_
            refine J.front 2 rfl ?_
            refine J.persist (Hp.nil_le _) (by decide) (fun K658 hK659 f660 => ?_)
            obtain ⟨r661, hr662, h⟩ := ob h
            refine J.op rfl (A.call (L1 := []) Try.call15 rfl (law16_Doc_ok f660 hr662) rfl rfl) ?_
            rintro _ _ _ ⟨v667, _, rfl, ⟨⟨l663, ad664, cp665, rfl, rfl, rfl⟩, rfl⟩, _, rfl⟩
            refine J.wit Row.hn (fun hn666 => ?_)
            obtain ⟨z671, hz672, h⟩ := ob h
            refine J.front 1 rfl ?_
            refine J.op rfl (A.appR (Kr := Hp.nil) Try.underlying31 inf48 rfl rfl (by decide) (by decide) rfl rfl (Els.flat rfl) (Els.flat rfl) hz672) ?_
            rintro _ _ _ ⟨v673, rfl, rfl, rfl⟩
            refine J.wit Row.form ?_
            rintro ⟨ad674, cp675, rfl, _, _, hn676⟩
            refine J.val (v := .slice ad674 z671.length cp675) rfl rfl (V.as rfl) ?_
            refine J.nil ?_
            refine CJ.seq ?_
            refine CJ.seq ?_
            refine CJ.region ?_
            refine J.val (v := .int .i64 0) rfl rfl (V.as rfl) ?_
            refine J.nil ?_
            obtain ⟨o868, ho869, h⟩ := ob h
            refine CJ.joinN (o := o868) (fun s ρ K' L' => () = s ∧ Fits [(12, .int .i64 i614)] ρ ∧ K658 = K' ∧ F = L') ?_ ?_
            · skip
              refine CJ.block ?_
              refine CJ.dropAt 2 rfl ?_
              refine CJ.dropAt 2 rfl ?_
              refine CJ.dropAt 2 rfl ?_
              refine CJ.front 1 rfl ?_
              refine CJ.loop (fun s ρ K' L' => ∃ (l939 : (List (Int × Int × Int × Int × Bool))) (l944 : (List (Int × Int × Int × Int × Bool))) (i949 : Int) (ad940 : Option Addr) (cp941 : Nat) (ad945 : Option Addr) (cp946 : Nat), (l939, l944, i949) = s ∧ Fits [(11, .slice ad940 l939.length cp941), (12, .int .i64 i614), (13, .slice ad945 l944.length cp946), (14, .int .i64 i949)] ρ ∧ K658 = K' ∧ L' = Row Hp.nil 40 (.cons (.int .i64) (.cons (.int .i64) (.cons (.int .i64) (.cons (.int .i64) (.one .bool))))) (.slice ad940 l939.length cp941) l939 :: Row Hp.nil 48 (.cons (.int .i64) (.cons (.int .i64) (.cons (.int .i64) (.cons (.int .i64) (.one .bool))))) (.slice ad945 l944.length cp946) l944 :: F) ho869 ⟨l613, z671, 0, ad615, cp616, ad674, cp675, rfl, ⟨rfl, rfl, rfl, rfl, trivial⟩, rfl, rfl⟩ ?_
              rintro s ρ _ _ r1012 ⟨l939, l944, i949, ad940, cp941, ad945, cp946, rfl, hf1010, rfl, rfl⟩ h1009
              obtain ⟨ρ, rfl⟩ := hf1010.ex
              refine CJ.wit Row.hn (fun hn943 => ?_)
              refine CJ.front 1 rfl ?_
              refine CJ.wit Row.hn (fun hn948 => ?_)
              refine CJ.seq ?_
              refine CJ.seq ?_
              refine CJ.region ?_
              refine J.val (v := .int .i64 i949) rfl rfl (V.mv rfl) ?_
              refine J.val (v := .slice ad940 l939.length cp941) rfl rfl (V.mv rfl) ?_
              refine J.val (v := .int .i64 (((l939.length : Nat) : Int))) rfl rfl (V.len Try.underlying27 rfl) ?_
              refine J.val (v := .bool (decide (i949 < (((l939.length : Nat) : Int))))) rfl rfl (V.lss rfl rfl) ?_
              refine J.nil ?_
              refine CJ.cond rfl (fun hc1013 => ?_) (fun hc1013 => ?_)
              · have h1009 := ct hc1013 h1009
                refine CJ.skip ?_
                refine CJ.seq ?_
                refine CJ.block ?_
                refine CJ.seq ?_
                refine CJ.mix [Row Hp.nil 48 (.cons (.int .i64) (.cons (.int .i64) (.cons (.int .i64) (.cons (.int .i64) (.one .bool))))) (.slice ad945 l944.length cp946) l944, Row Hp.nil 40 (.cons (.int .i64) (.cons (.int .i64) (.cons (.int .i64) (.cons (.int .i64) (.one .bool))))) (.slice ad940 l939.length cp941) l939] [([0, 1, 2, 3, 4, 5, 6, 7, 8, 9, 10], 11)] [12] [] mixO (by decide +kernel) ⟨0, rfl, 0, rfl, trivial⟩ rfl rfl rfl ?_
                refine JM.cons ?_
                refine JQ.val (v := .slice ad945 l944.length cp946) rfl rfl (V.mv rfl) ?_
                refine JQ.val (v := .slice ad940 l939.length cp941) rfl rfl (V.mv rfl) ?_
                refine JQ.val (v := .int .i64 i949) rfl rfl (V.mv rfl) ?_
                obtain ⟨x1037, hx1038, h1009⟩ := ob h1009
                obtain ⟨p1039, p1040, p1041⟩ := getI_some hx1038
                obtain ⟨g1042, e1043⟩ := hn943 (fun e => by rw [e] at p1040; simp at p1040)
                refine JQ.val rfl rfl (V.iad Try.underlying27 sz40 rfl e1043 rfl p1039 p1041) ?_
                refine JQ.val rfl rfl (V.fad Try.underlying40 rfl nz3 rfl) ?_
                refine JQ.val (v := .int .i64 x1037.1) rfl rfl (V.ld rfl (Ld.sc sc3 (Rd.row 1 rfl e1043 p1040 (q := 0) (by simp [Tp.size]) (by decide) (by rintro _ ⟨_, _, rfl, _, rfl, ⟨_, _, rfl, _, rfl, ⟨_, _, rfl, _, rfl, ⟨_, _, rfl, _, rfl, rfl⟩⟩⟩⟩; rfl)))) ?_
                refine JQ.val (v := .slice ad940 l939.length cp941) rfl rfl (V.mv rfl) ?_
                refine JQ.val (v := .int .i64 i949) rfl rfl (V.mv rfl) ?_
                obtain ⟨x1044, hx1045, h1009⟩ := ob h1009
                obtain ⟨p1046, p1047, p1048⟩ := getI_some hx1045
                obtain ⟨g1049, e1050⟩ := hn943 (fun e => by rw [e] at p1047; simp at p1047)
                refine JQ.val rfl rfl (V.iad Try.underlying27 sz40 rfl e1050 rfl p1046 p1048) ?_
                refine JQ.val rfl rfl (V.fad Try.underlying40 rfl nz3 rfl) ?_
                refine JQ.val (v := .int .i64 x1044.2.1) rfl rfl (V.ld rfl (Ld.sc sc3 (Rd.row 1 rfl e1050 p1047 (q := 1) (by simp [Tp.size]) (by decide) (by rintro _ ⟨_, _, rfl, _, rfl, ⟨_, _, rfl, _, rfl, ⟨_, _, rfl, _, rfl, ⟨_, _, rfl, _, rfl, rfl⟩⟩⟩⟩; rfl)))) ?_
                refine JQ.nil ?_
                obtain ⟨r1051, hr1052, h1009⟩ := ob h1009
                refine JA.op rfl (A.call (L1 := [Row Hp.nil 48 (.cons (.int .i64) (.cons (.int .i64) (.cons (.int .i64) (.cons (.int .i64) (.one .bool))))) (.slice ad945 l944.length cp946) l944]) Try.call20 rfl (Tr.lend (Hp.nil_le _) (by decide) (fun K1053 hK1054 f1055 => ref16_Leads_ok f1055 hr1052)) rfl rfl) ?_
                rintro _ _ _ ⟨v1057, _, rfl, ⟨⟨_, ⟨t1056, rfl, rfl, rfl⟩, rfl⟩, rfl⟩, _, rfl⟩
                refine ⟨fun w hs => Hold.sub (Hp.le_refl _) ⟨0, rfl, 0, rfl, trivial⟩ hs, ?_⟩
                refine JM.nil ?_
                refine JQ.val (v := .bool (!t1056)) rfl rfl (V.not rfl) ?_
                refine JQ.nil ?_
                refine J.nil ?_
                refine CJ.cond rfl (fun hc1060 => ?_) (fun hc1060 => ?_)
                · have h1009 := ct hc1060 h1009
                  refine CJ.seq ?_
                  refine CJ.region ?_
                  refine J.val (v := .bool false) rfl rfl (V.as rfl) ?_
                  refine J.nil ?_
                  refine CJ.ret ?_
                  have e := Option.some.inj h1009
                  subst e
                  refine ⟨nofun, fun e => ?_⟩
                  subst e
                  refine .inr ⟨nofun, ?_⟩
                  have e := Option.some.inj h
                  subst e
                  exact ⟨_, [], Res.one rfl rfl, ⟨false, rfl, rfl, rfl⟩, (hK646.trans hK659), fun w hs => (Sep.dropAt 0 rfl (Sep.dropAt 0 rfl hs))⟩
                · have h1009 := cf hc1060 h1009
                  refine CJ.skip ?_
                  refine CJ.region ?_
                  refine J.val (v := .int .i64 i949) rfl rfl (V.mv rfl) ?_
                  refine J.val (v := .int .i64 (IntKind.wrap .i64 (i949 + 1))) rfl rfl (V.add rfl rfl) ?_
                  refine J.val (v := .int .i64 (IntKind.wrap .i64 (i949 + 1))) rfl rfl (V.as rfl) ?_
                  refine J.front 1 rfl ?_
                  refine J.nil ?_
                  have e := Option.some.inj h1009
                  subst e
                  exact ⟨rfl, ⟨l939, l944, IntKind.wrap .i64 (i949 + 1), ad940, cp941, ad945, cp946, rfl, ⟨rfl, rfl, rfl, rfl, trivial⟩, rfl, rfl⟩⟩
              · have h1009 := cf hc1013 h1009
                refine CJ.dropAt 0 rfl ?_
                refine CJ.dropAt 0 rfl ?_
                refine CJ.exit ?_
                have e := Option.some.inj h1009
                subst e
                refine ⟨nofun, fun e => ?_⟩
                subst e
                exact .inl ⟨rfl, _, rfl, ⟨rfl, ⟨rfl, trivial⟩, rfl, rfl⟩⟩
            · rintro s ρ _ _ ho1061 ⟨rfl, hf1062, rfl, rfl⟩
              subst ho1061
              obtain ⟨ρ, rfl⟩ := hf1062.ex
              refine PJ.done ?_
              refine CJ.seq ?_
              refine CJ.region ?_
              refine J.val (v := .int .i64 i614) rfl rfl (V.mv rfl) ?_
              refine J.val (v := .bool (decide (i614 = 0))) rfl rfl (V.eql rfl rfl) ?_
              refine J.val (v := .bool (decide (i614 = 0))) rfl rfl (V.mv rfl) ?_
              refine J.cut 2 ?_
              obtain ⟨t1071, ht1072, h⟩ := ob h
              refine @J.meet _ _ _ _ _ _ _ _ _ _ (fun ρ K' L' => Fits [(91, .bool t1071)] ρ ∧ K658 = K' ∧ F = L') ?_ ?_
              · skip
                rcases bt (decide (i614 = 0)) with hc1073 | hc1073
                · have ht1072 := ct hc1073 ht1072
                  refine J.run rfl rfl rfl hc1073 ?_
                  obtain ⟨r1074, hr1075, ht1072⟩ := ob ht1072
                  refine J.op rfl (A.call (L1 := []) Try.call7 rfl (law16_awake_ok hr1075) rfl rfl) ?_
                  rintro _ _ _ ⟨v1077, _, rfl, ⟨⟨t1076, rfl, rfl, rfl⟩, rfl⟩, _, rfl⟩
                  refine J.val (v := .bool t1076) rfl rfl (V.pickT rfl hc1073 rfl) ?_
                  refine J.nil ?_
                  have e := Option.some.inj ht1072
                  subst e
                  exact ⟨rfl, ⟨rfl, trivial⟩, rfl, rfl⟩
                · have ht1072 := cf hc1073 ht1072
                  refine J.skip rfl rfl rfl rfl hc1073 ?_
                  refine J.val (v := .bool false) rfl rfl (V.pickF rfl hc1073 rfl) ?_
                  refine J.nil ?_
                  have e := Option.some.inj ht1072
                  subst e
                  exact ⟨rfl, ⟨rfl, trivial⟩, rfl, rfl⟩
              · rintro ρ _ _ ⟨hf, rfl, rfl⟩
                obtain ⟨ρ, rfl⟩ := hf.ex
                refine J.val (v := .bool t1071) rfl rfl (V.as rfl) ?_
                refine J.nil ?_
                refine CJ.ret ?_
                have e := Option.some.inj h
                subst e
                exact ⟨_, [], Res.one rfl rfl, ⟨t1071, rfl, rfl, rfl⟩, (hK646.trans hK659), fun w hs => hs⟩
end Go.Proofs.Ytedncipemdpljaa
