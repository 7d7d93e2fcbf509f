/- What Go functions answer: generated. -/
import Derived.Test.YtgeofnfjgjodgaaF3
namespace Go.Proofs.Ytgeofnfjgjodgaa
open Go.RowKit
set_option linter.unusedVariables false
set_option linter.unnecessarySimpa false
set_option linter.unusedSimpArgs false
set_option maxRecDepth 20000

noncomputable def fn_law19_TermNeeds (xa : (Int × Int × Int × (List Int) × (List Int) × (List Int))) (xb : (Int × Int × (List (List (Int × Bool))) × (List (Int × Bool)) × (List (Int × (List (Int × Int)) × (List (List (Int × Bool))) × (List (Int × Bool)))))) : Option Bool :=
  (fn_law19_few (xa.1, xa.2.1, xa.2.2.1, xa.2.2.2.1, xa.2.2.2.2.1, xa.2.2.2.2.2) (xb.1, xb.2.1, xb.2.2.1, xb.2.2.2.1, xb.2.2.2.2)).bind fun t104 => cond (!t104) ((fn_law19_awake).bind fun t111 => some (t111)) ((fn_term_Needs (xa.1, xa.2.1, xa.2.2.1, xa.2.2.2.1, xa.2.2.2.2.1, xa.2.2.2.2.2) (xb.1, xb.2.1, xb.2.2.1, xb.2.2.2.1, xb.2.2.2.2)).bind fun (l118, i119) => (fn_ref19_Needs (xa.1, xa.2.1, xa.2.2.1, xa.2.2.2.1, xa.2.2.2.2.1, xa.2.2.2.2.2) (xb.1, xb.2.1, xb.2.2.1, xb.2.2.2.1, xb.2.2.2.2)).bind fun (l129, i130) => (fn_law16_Doc l118).bind fun l143 => (fn_ref16_Same l143 l129).bind fun t159 => (cond (t159 && (decide (i119 = i130))) ((fn_term_Check (xa.1, xa.2.1, xa.2.2.1, xa.2.2.2.1, xa.2.2.2.2.1, xa.2.2.2.2.2) (xb.1, xb.2.1, xb.2.2.1, xb.2.2.2.1, xb.2.2.2.2)).bind fun i178 => some (decide (i178 = i130))) (some (false))).bind fun t173 => (cond (t173) ((fn_law19_awake).bind fun t194 => some (t194)) (some (false))).bind fun t189 => some (t189))
set_option maxRecDepth 100000 in
set_option maxHeartbeats 4000000 in
theorem law19_TermNeeds_ok {K : Hp} {xa : (Int × Int × Int × (List Int) × (List Int) × (List Int))} {xb : (Int × Int × (List (List (Int × Bool))) × (List (Int × Bool)) × (List (Int × (List (Int × Int)) × (List (List (Int × Bool))) × (List (Int × Bool)))))} {adxa_3 : Option Addr} {cpxa_3 : Nat} {adxa_4 : Option Addr} {cpxa_4 : Nat} {adxa_5 : Option Addr} {cpxa_5 : Nat} {adxb_2 : Option Addr} {cpxb_2 : Nat} {adxb_3 : Option Addr} {cpxb_3 : Nat} {adxb_4 : Option Addr} {cpxb_4 : Nat} (fxa_3 : Is K (.sl (.int .i64)) [.slice adxa_3 xa.2.2.2.1.length cpxa_3] xa.2.2.2.1) (fxa_4 : Is K (.sl (.int .i64)) [.slice adxa_4 xa.2.2.2.2.1.length cpxa_4] xa.2.2.2.2.1) (fxa_5 : Is K (.sl (.int .i64)) [.slice adxa_5 xa.2.2.2.2.2.length cpxa_5] xa.2.2.2.2.2) (fxb_2 : Is K (.sl (.one (.sl (.cons (.int .i64) (.one .bool))))) [.slice adxb_2 xb.2.2.1.length cpxb_2] xb.2.2.1) (fxb_3 : Is K (.sl (.cons (.int .i64) (.one .bool))) [.slice adxb_3 xb.2.2.2.1.length cpxb_3] xb.2.2.2.1) (fxb_4 : Is K (.sl (.cons (.int .i64) (.cons (.sl (.cons (.int .i64) (.one (.int .i64)))) (.cons (.sl (.one (.sl (.cons (.int .i64) (.one .bool))))) (.one (.one (.sl (.cons (.int .i64) (.one .bool))))))))) [.slice adxb_4 xb.2.2.2.2.length cpxb_4] xb.2.2.2.2) {r : Bool} (h : fn_law19_TermNeeds xa xb = some r) :
    Tr Try.prog 3 #[.agg #[.int .i64 xa.1, .int .i64 xa.2.1, .int .i64 xa.2.2.1, .slice adxa_3 xa.2.2.2.1.length cpxa_3, .slice adxa_4 xa.2.2.2.2.1.length cpxa_4, .slice adxa_5 xa.2.2.2.2.2.length cpxa_5], .agg #[.int .i64 xb.1, .int .i64 xb.2.1, .slice adxb_2 xb.2.2.1.length cpxb_2, .slice adxb_3 xb.2.2.2.1.length cpxb_3, .slice adxb_4 xb.2.2.2.2.length cpxb_4]] K [] (fun v K' L' => (∃ (t99 : Bool), t99 = r ∧ .bool t99 = v ∧ L' = []) ∧ K = K') := by
  refine Tr.k ?_
  refine Tr.of Try.func3 rfl Try.ntmps3 rfl (fun E F => ?_)
  unfold fn_law19_TermNeeds at h
  refine CJ.seq ?_
  refine CJ.region ?_
  refine J.op rfl (A.box (v := .agg #[.int .i64 xa.1, .int .i64 xa.2.1, .int .i64 xa.2.2.1, .slice adxa_3 xa.2.2.2.1.length cpxa_3, .slice adxa_4 xa.2.2.2.2.1.length cpxa_4, .slice adxa_5 xa.2.2.2.2.2.length cpxa_5]) (cs := [.int .i64 xa.1, .int .i64 xa.2.1, .int .i64 xa.2.2.1, .slice adxa_3 xa.2.2.2.1.length cpxa_3, .slice adxa_4 xa.2.2.2.2.1.length cpxa_4, .slice adxa_5 xa.2.2.2.2.2.length cpxa_5]) rfl rfl) ?_
  rintro _ _ _ ⟨b100, rfl, rfl, rfl⟩
  refine J.op rfl (A.box (v := .agg #[.int .i64 xb.1, .int .i64 xb.2.1, .slice adxb_2 xb.2.2.1.length cpxb_2, .slice adxb_3 xb.2.2.2.1.length cpxb_3, .slice adxb_4 xb.2.2.2.2.length cpxb_4]) (cs := [.int .i64 xb.1, .int .i64 xb.2.1, .slice adxb_2 xb.2.2.1.length cpxb_2, .slice adxb_3 xb.2.2.2.1.length cpxb_3, .slice adxb_4 xb.2.2.2.2.length cpxb_4]) rfl rfl) ?_
  rintro _ _ _ ⟨b101, rfl, rfl, rfl⟩
  refine J.val (v := .bool false) rfl rfl (V.as rfl) ?_
  refine J.nil ?_
  refine CJ.seq ?_
  refine CJ.seq ?_
  refine CJ.region ?_
  refine J.val (v := .agg #[.int .i64 xa.1, .int .i64 xa.2.1, .int .i64 xa.2.2.1, .slice adxa_3 xa.2.2.2.1.length cpxa_3, .slice adxa_4 xa.2.2.2.2.1.length cpxa_4, .slice adxa_5 xa.2.2.2.2.2.length cpxa_5]) rfl rfl (V.ld rfl (Ld.agg (cs := [.int .i64 xa.1, .int .i64 xa.2.1, .int .i64 xa.2.2.1, .slice adxa_3 xa.2.2.2.1.length cpxa_3, .slice adxa_4 xa.2.2.2.2.1.length cpxa_4, .slice adxa_5 xa.2.2.2.2.2.length cpxa_5]) Try.underlying24 sz24 rfl (Rd.cls 1 0 rfl rfl))) ?_
  refine J.val (v := .agg #[.int .i64 xb.1, .int .i64 xb.2.1, .slice adxb_2 xb.2.2.1.length cpxb_2, .slice adxb_3 xb.2.2.2.1.length cpxb_3, .slice adxb_4 xb.2.2.2.2.length cpxb_4]) rfl rfl (V.ld rfl (Ld.agg (cs := [.int .i64 xb.1, .int .i64 xb.2.1, .slice adxb_2 xb.2.2.1.length cpxb_2, .slice adxb_3 xb.2.2.2.1.length cpxb_3, .slice adxb_4 xb.2.2.2.2.length cpxb_4]) Try.underlying31 sz31 rfl (Rd.cls 0 0 rfl rfl))) ?_
  obtain ⟨r102, hr103, h⟩ := ob h
  refine J.op rfl (A.call (L1 := []) Try.call6 rfl (law19_few_ok fxa_3 fxa_4 fxa_5 fxb_2 fxb_3 fxb_4 hr103) rfl rfl) ?_
  rintro _ _ _ ⟨v105, _, rfl, ⟨⟨t104, rfl, rfl, rfl⟩, rfl⟩, _, rfl⟩
  refine J.val (v := .bool (!t104)) rfl rfl (V.not rfl) ?_
  refine J.nil ?_
  refine CJ.cond rfl (fun hc108 => ?_) (fun hc108 => ?_)
  · have h := ct hc108 h
    refine CJ.seq ?_
    refine CJ.region ?_
    obtain ⟨r109, hr110, h⟩ := ob h
    refine J.op rfl (A.call (L1 := []) Try.call7 rfl (law19_awake_ok hr110) rfl rfl) ?_
    rintro _ _ _ ⟨v112, _, rfl, ⟨⟨t111, rfl, rfl, rfl⟩, rfl⟩, _, rfl⟩
    refine J.val (v := .bool t111) rfl rfl (V.as rfl) ?_
    refine J.nil ?_
    refine CJ.ret ?_
    have e := Option.some.inj h
    subst e
    exact ⟨_, [], Res.one rfl rfl, ⟨t111, rfl, rfl, rfl⟩, (Hp.le_refl _), fun w hs => (Sep.dropAt 0 rfl (Sep.dropAt 0 rfl hs))⟩
  · have h := cf hc108 h
    refine CJ.skip ?_
    refine CJ.seq ?_
    refine CJ.region ?_
    refine J.val rfl rfl (V.fad Try.underlying31 rfl nz3 rfl) ?_
    refine J.val (v := .int .i64 xb.1) rfl rfl (V.ld rfl (Ld.sc sc3 (Rd.cl 0 rfl rfl))) ?_
    refine J.val rfl rfl (V.fad Try.underlying31 rfl nz3 rfl) ?_
    refine J.val (v := .int .i64 xb.2.1) rfl rfl (V.ld rfl (Ld.sc sc3 (Rd.cl 0 rfl rfl))) ?_
    refine J.val rfl rfl (V.fad Try.underlying31 rfl nz25 rfl) ?_
    refine J.val (v := .slice adxb_2 xb.2.2.1.length cpxb_2) rfl rfl (V.ld rfl (Ld.sc sc25 (Rd.cl 0 rfl rfl))) ?_
    refine J.val rfl rfl (V.fad Try.underlying31 rfl nz28 rfl) ?_
    refine J.val (v := .agg #[.slice adxb_3 xb.2.2.2.1.length cpxb_3]) rfl rfl (V.ld rfl (Ld.agg (cs := [.slice adxb_3 xb.2.2.2.1.length cpxb_3]) Try.underlying28 sz28 rfl (Rd.cls 0 3 rfl rfl))) ?_
    refine J.val rfl rfl (V.fad Try.underlying31 rfl nz29 rfl) ?_
    refine J.val (v := .slice adxb_4 xb.2.2.2.2.length cpxb_4) rfl rfl (V.ld rfl (Ld.sc sc29 (Rd.cl 0 rfl rfl))) ?_
    refine J.val (v := .agg #[.int .i64 xb.1, .int .i64 xb.2.1, .slice adxb_2 xb.2.2.1.length cpxb_2, .slice adxb_3 xb.2.2.2.1.length cpxb_3, .slice adxb_4 xb.2.2.2.2.length cpxb_4]) rfl rfl (V.build inf34 places34 rfl rfl) ?_
    refine J.op rfl (A.alloc (cs := [.int .i64 0, .int .i64 0, .slice none 0 0, .slice none 0 0, .slice none 0 0]) inf34 rfl) ?_
    rintro _ _ _ ⟨b115, rfl, rfl, rfl⟩
    refine J.op rfl (A.store (v := .agg #[.int .i64 xb.1, .int .i64 xb.2.1, .slice adxb_2 xb.2.2.1.length cpxb_2, .slice adxb_3 xb.2.2.2.1.length cpxb_3, .slice adxb_4 xb.2.2.2.2.length cpxb_4]) (cs' := [.int .i64 xb.1, .int .i64 xb.2.1, .slice adxb_2 xb.2.2.1.length cpxb_2, .slice adxb_3 xb.2.2.2.1.length cpxb_3, .slice adxb_4 xb.2.2.2.2.length cpxb_4]) sz34 rfl rfl rfl rfl rfl rfl) ?_
    rintro _ _ _ ⟨rfl, rfl, rfl⟩
    refine J.nil ?_
    refine CJ.seq ?_
    refine CJ.region ?_
    refine J.val (v := .agg #[.int .i64 xa.1, .int .i64 xa.2.1, .int .i64 xa.2.2.1, .slice adxa_3 xa.2.2.2.1.length cpxa_3, .slice adxa_4 xa.2.2.2.2.1.length cpxa_4, .slice adxa_5 xa.2.2.2.2.2.length cpxa_5]) rfl rfl (V.ld rfl (Ld.agg (cs := [.int .i64 xa.1, .int .i64 xa.2.1, .int .i64 xa.2.2.1, .slice adxa_3 xa.2.2.2.1.length cpxa_3, .slice adxa_4 xa.2.2.2.2.1.length cpxa_4, .slice adxa_5 xa.2.2.2.2.2.length cpxa_5]) Try.underlying24 sz24 rfl (Rd.cls 2 0 rfl rfl))) ?_
    refine J.val (v := .agg #[.int .i64 xb.1, .int .i64 xb.2.1, .slice adxb_2 xb.2.2.1.length cpxb_2, .slice adxb_3 xb.2.2.2.1.length cpxb_3, .slice adxb_4 xb.2.2.2.2.length cpxb_4]) rfl rfl (V.ld rfl (Ld.agg (cs := [.int .i64 xb.1, .int .i64 xb.2.1, .slice adxb_2 xb.2.2.1.length cpxb_2, .slice adxb_3 xb.2.2.2.1.length cpxb_3, .slice adxb_4 xb.2.2.2.2.length cpxb_4]) Try.underlying34 sz34 rfl (Rd.cls 0 0 rfl rfl))) ?_
    obtain ⟨r116, hr117, h⟩ := ob h
    refine J.op rfl (A.call (L1 := []) Try.call8 rfl (term_Needs_ok fxa_3 fxa_4 fxa_5 fxb_2 fxb_3 fxb_4 hr117) rfl rfl) ?_
    rintro _ _ _ ⟨v123, _, rfl, ⟨⟨l118, i119, ad120, cp121, rfl, rfl, rfl⟩, rfl⟩, _, rfl⟩
    refine J.wit Row.hn (fun hn122 => ?_)
    refine J.val (v := .tuple #[.slice ad120 l118.length cp121, .int .i64 i119]) rfl rfl (V.mv rfl) ?_
    refine J.val (v := .slice ad120 l118.length cp121) rfl rfl (V.ext rfl rfl) ?_
    refine J.val (v := .int .i64 i119) rfl rfl (V.ext rfl rfl) ?_
    refine J.val (v := .slice ad120 l118.length cp121) rfl rfl (V.as rfl) ?_
    refine J.val (v := .int .i64 i119) rfl rfl (V.as rfl) ?_
    refine J.nil ?_
    refine CJ.seq ?_
    refine CJ.region ?_
    refine J.val (v := .agg #[.int .i64 xa.1, .int .i64 xa.2.1, .int .i64 xa.2.2.1, .slice adxa_3 xa.2.2.2.1.length cpxa_3, .slice adxa_4 xa.2.2.2.2.1.length cpxa_4, .slice adxa_5 xa.2.2.2.2.2.length cpxa_5]) rfl rfl (V.ld rfl (Ld.agg (cs := [.int .i64 xa.1, .int .i64 xa.2.1, .int .i64 xa.2.2.1, .slice adxa_3 xa.2.2.2.1.length cpxa_3, .slice adxa_4 xa.2.2.2.2.1.length cpxa_4, .slice adxa_5 xa.2.2.2.2.2.length cpxa_5]) Try.underlying24 sz24 rfl (Rd.cls 3 0 rfl rfl))) ?_
    refine J.val (v := .agg #[.int .i64 xb.1, .int .i64 xb.2.1, .slice adxb_2 xb.2.2.1.length cpxb_2, .slice adxb_3 xb.2.2.2.1.length cpxb_3, .slice adxb_4 xb.2.2.2.2.length cpxb_4]) rfl rfl (V.ld rfl (Ld.agg (cs := [.int .i64 xb.1, .int .i64 xb.2.1, .slice adxb_2 xb.2.2.1.length cpxb_2, .slice adxb_3 xb.2.2.2.1.length cpxb_3, .slice adxb_4 xb.2.2.2.2.length cpxb_4]) Try.underlying31 sz31 rfl (Rd.cls 2 0 rfl rfl))) ?_
    obtain ⟨r127, hr128, h⟩ := ob h
    refine J.op rfl (A.call (L1 := []) Try.call9 rfl (ref19_Needs_ok fxa_3 fxa_4 fxa_5 fxb_2 fxb_3 fxb_4 hr128) rfl rfl) ?_
    rintro _ _ _ ⟨v134, _, rfl, ⟨⟨l129, i130, ad131, cp132, rfl, rfl, rfl⟩, rfl⟩, _, rfl⟩
    refine J.wit Row.hn (fun hn133 => ?_)
    refine J.val (v := .tuple #[.slice ad131 l129.length cp132, .int .i64 i130]) rfl rfl (V.mv rfl) ?_
    refine J.val (v := .slice ad131 l129.length cp132) rfl rfl (V.ext rfl rfl) ?_
    refine J.val (v := .int .i64 i130) rfl rfl (V.ext rfl rfl) ?_
    refine J.val (v := .slice ad131 l129.length cp132) rfl rfl (V.as rfl) ?_
    refine J.val (v := .int .i64 i130) rfl rfl (V.as rfl) ?_
    refine J.nil ?_
    refine CJ.seq ?_
    refine CJ.region ?_
    refine J.val (v := .slice ad120 l118.length cp121) rfl rfl (V.mv rfl) ?_
    refine J.front 1 rfl ?_
    refine J.persist (Hp.nil_le _) (by decide) (fun K138 hK139 f140 => ?_)
    obtain ⟨r141, hr142, h⟩ := ob h
    refine J.op rfl (A.call (L1 := []) Try.call11 rfl (law16_Doc_ok f140 hr142) rfl rfl) ?_
    rintro _ _ _ ⟨v147, _, rfl, ⟨⟨l143, ad144, cp145, rfl, rfl, rfl⟩, rfl⟩, _, rfl⟩
    refine J.wit Row.hn (fun hn146 => ?_)
    refine J.val (v := .slice ad131 l129.length cp132) rfl rfl (V.mv rfl) ?_
    obtain ⟨r151, hr152, h⟩ := ob h
    refine J.op rfl (A.call (L1 := [Row Hp.nil 66 (.cons (.int .i64) (.cons (.int .i64) (.cons (.int .i64) (.cons (.int .i64) (.one .bool))))) (.slice ad144 l143.length cp145) l143, Row Hp.nil 66 (.cons (.int .i64) (.cons (.int .i64) (.cons (.int .i64) (.cons (.int .i64) (.one .bool))))) (.slice ad131 l129.length cp132) l129]) Try.call10 rfl (Tr.lend (Hp.nil_le _) (by decide) (fun K153 hK154 f155 => Tr.lend (Hp.nil_le _) (by decide) (fun K156 hK157 f158 => ref16_Same_ok (f155.mono hK157) f158 hr152))) rfl rfl) ?_
    rintro _ _ _ ⟨v160, _, rfl, ⟨⟨_, ⟨_, ⟨t159, rfl, rfl, rfl⟩, rfl⟩, rfl⟩, rfl⟩, _, rfl⟩
    refine J.val (v := .bool t159) rfl rfl (V.mv rfl) ?_
    refine J.cut 4 ?_
    refine @J.meet _ _ _ _ _ _ _ _ _ _ (fun ρ K' L' => Fits [(46, .bool (t159 && (decide (i119 = i130)))), (2, .pointer (some ⟨b100, 0, none⟩)), (5, .pointer (some ⟨b115, 0, none⟩)), (9, .int .i64 i130)] ρ ∧ K138 = K' ∧ L' = Row Hp.nil 66 (.cons (.int .i64) (.cons (.int .i64) (.cons (.int .i64) (.cons (.int .i64) (.one .bool))))) (.slice ad144 l143.length cp145) l143 :: Row Hp.nil 66 (.cons (.int .i64) (.cons (.int .i64) (.cons (.int .i64) (.cons (.int .i64) (.one .bool))))) (.slice ad131 l129.length cp132) l129 :: Cl b115 34 [.int .i64 xb.1, .int .i64 xb.2.1, .slice adxb_2 xb.2.2.1.length cpxb_2, .slice adxb_3 xb.2.2.2.1.length cpxb_3, .slice adxb_4 xb.2.2.2.2.length cpxb_4] :: Cl b101 31 [.int .i64 xb.1, .int .i64 xb.2.1, .slice adxb_2 xb.2.2.1.length cpxb_2, .slice adxb_3 xb.2.2.2.1.length cpxb_3, .slice adxb_4 xb.2.2.2.2.length cpxb_4] :: Cl b100 24 [.int .i64 xa.1, .int .i64 xa.2.1, .int .i64 xa.2.2.1, .slice adxa_3 xa.2.2.2.1.length cpxa_3, .slice adxa_4 xa.2.2.2.2.1.length cpxa_4, .slice adxa_5 xa.2.2.2.2.2.length cpxa_5] :: F) ?_ ?_
    · skip
      rcases bt (t159) with hc165 | hc165
      · skip
        refine J.run rfl rfl rfl hc165 ?_
        refine J.val (v := .int .i64 i119) rfl rfl (V.mv rfl) ?_
        refine J.run rfl rfl rfl hc165 ?_
        refine J.val (v := .int .i64 i130) rfl rfl (V.mv rfl) ?_
        refine J.run rfl rfl rfl hc165 ?_
        refine J.val (v := .bool (decide (i119 = i130))) rfl rfl (V.eql rfl rfl) ?_
        refine J.val (v := .bool (decide (i119 = i130))) rfl rfl (V.pickT rfl hc165 rfl) ?_
        refine J.nil ?_
        exact ⟨rfl, ⟨(by simp only [hc165]; rfl), rfl, rfl, rfl, trivial⟩, rfl, rfl⟩
      · skip
        refine J.skip rfl rfl rfl rfl hc165 ?_
        refine J.skip rfl rfl rfl rfl hc165 ?_
        refine J.skip rfl rfl rfl rfl hc165 ?_
        refine J.val (v := .bool false) rfl rfl (V.pickF rfl hc165 rfl) ?_
        refine J.nil ?_
        exact ⟨rfl, ⟨(by simp only [hc165]; rfl), rfl, rfl, rfl, trivial⟩, rfl, rfl⟩
    · rintro ρ _ _ ⟨hf, rfl, rfl⟩
      obtain ⟨ρ, rfl⟩ := hf.ex
      refine J.val (v := .bool (t159 && (decide (i119 = i130)))) rfl rfl (V.mv rfl) ?_
      refine J.cut 6 ?_
      obtain ⟨t173, ht174, h⟩ := ob h
      refine @J.meet _ _ _ _ _ _ _ _ _ _ (fun ρ K' L' => Fits [(53, .bool t173)] ρ ∧ K138 = K' ∧ L' = Row Hp.nil 66 (.cons (.int .i64) (.cons (.int .i64) (.cons (.int .i64) (.cons (.int .i64) (.one .bool))))) (.slice ad144 l143.length cp145) l143 :: Row Hp.nil 66 (.cons (.int .i64) (.cons (.int .i64) (.cons (.int .i64) (.cons (.int .i64) (.one .bool))))) (.slice ad131 l129.length cp132) l129 :: Cl b115 34 [.int .i64 xb.1, .int .i64 xb.2.1, .slice adxb_2 xb.2.2.1.length cpxb_2, .slice adxb_3 xb.2.2.2.1.length cpxb_3, .slice adxb_4 xb.2.2.2.2.length cpxb_4] :: Cl b101 31 [.int .i64 xb.1, .int .i64 xb.2.1, .slice adxb_2 xb.2.2.1.length cpxb_2, .slice adxb_3 xb.2.2.2.1.length cpxb_3, .slice adxb_4 xb.2.2.2.2.length cpxb_4] :: Cl b100 24 [.int .i64 xa.1, .int .i64 xa.2.1, .int .i64 xa.2.2.1, .slice adxa_3 xa.2.2.2.1.length cpxa_3, .slice adxa_4 xa.2.2.2.2.1.length cpxa_4, .slice adxa_5 xa.2.2.2.2.2.length cpxa_5] :: F) ?_ ?_
      · skip
        rcases bt (t159 && (decide (i119 = i130))) with hc175 | hc175
        · have ht174 := ct hc175 ht174
          refine J.run rfl rfl rfl hc175 ?_
          refine J.val (v := .agg #[.int .i64 xa.1, .int .i64 xa.2.1, .int .i64 xa.2.2.1, .slice adxa_3 xa.2.2.2.1.length cpxa_3, .slice adxa_4 xa.2.2.2.2.1.length cpxa_4, .slice adxa_5 xa.2.2.2.2.2.length cpxa_5]) rfl rfl (V.ld rfl (Ld.agg (cs := [.int .i64 xa.1, .int .i64 xa.2.1, .int .i64 xa.2.2.1, .slice adxa_3 xa.2.2.2.1.length cpxa_3, .slice adxa_4 xa.2.2.2.2.1.length cpxa_4, .slice adxa_5 xa.2.2.2.2.2.length cpxa_5]) Try.underlying24 sz24 rfl (Rd.cls 4 0 rfl rfl))) ?_
          refine J.run rfl rfl rfl hc175 ?_
          refine J.val (v := .agg #[.int .i64 xb.1, .int .i64 xb.2.1, .slice adxb_2 xb.2.2.1.length cpxb_2, .slice adxb_3 xb.2.2.2.1.length cpxb_3, .slice adxb_4 xb.2.2.2.2.length cpxb_4]) rfl rfl (V.ld rfl (Ld.agg (cs := [.int .i64 xb.1, .int .i64 xb.2.1, .slice adxb_2 xb.2.2.1.length cpxb_2, .slice adxb_3 xb.2.2.2.1.length cpxb_3, .slice adxb_4 xb.2.2.2.2.length cpxb_4]) Try.underlying34 sz34 rfl (Rd.cls 2 0 rfl rfl))) ?_
          refine J.run rfl rfl rfl hc175 ?_
          obtain ⟨r176, hr177, ht174⟩ := ob ht174
          refine J.op rfl (A.call (L1 := []) Try.call12 rfl (term_Check_ok (fxa_3.mono hK139) (fxa_4.mono hK139) (fxa_5.mono hK139) (fxb_2.mono hK139) (fxb_3.mono hK139) (fxb_4.mono hK139) hr177) rfl rfl) ?_
          rintro _ _ _ ⟨v179, _, rfl, ⟨⟨i178, rfl, rfl, rfl⟩, rfl⟩, _, rfl⟩
          refine J.run rfl rfl rfl hc175 ?_
          refine J.val (v := .int .i64 i130) rfl rfl (V.mv rfl) ?_
          refine J.run rfl rfl rfl hc175 ?_
          refine J.val (v := .bool (decide (i178 = i130))) rfl rfl (V.eql rfl rfl) ?_
          refine J.val (v := .bool (decide (i178 = i130))) rfl rfl (V.pickT rfl hc175 rfl) ?_
          refine J.nil ?_
          have e := Option.some.inj ht174
          subst e
          exact ⟨rfl, ⟨rfl, trivial⟩, rfl, rfl⟩
        · have ht174 := cf hc175 ht174
          refine J.skip rfl rfl rfl rfl hc175 ?_
          refine J.skip rfl rfl rfl rfl hc175 ?_
          refine J.skip rfl rfl rfl rfl hc175 ?_
          refine J.skip rfl rfl rfl rfl hc175 ?_
          refine J.skip rfl rfl rfl rfl hc175 ?_
          refine J.val (v := .bool false) rfl rfl (V.pickF rfl hc175 rfl) ?_
          refine J.nil ?_
          have e := Option.some.inj ht174
          subst e
          exact ⟨rfl, ⟨rfl, trivial⟩, rfl, rfl⟩
      · rintro ρ _ _ ⟨hf, rfl, rfl⟩
        obtain ⟨ρ, rfl⟩ := hf.ex
        refine J.val (v := .bool t173) rfl rfl (V.mv rfl) ?_
        refine J.cut 2 ?_
        obtain ⟨t189, ht190, h⟩ := ob h
        refine @J.meet _ _ _ _ _ _ _ _ _ _ (fun ρ K' L' => Fits [(56, .bool t189)] ρ ∧ K138 = K' ∧ L' = Row Hp.nil 66 (.cons (.int .i64) (.cons (.int .i64) (.cons (.int .i64) (.cons (.int .i64) (.one .bool))))) (.slice ad144 l143.length cp145) l143 :: Row Hp.nil 66 (.cons (.int .i64) (.cons (.int .i64) (.cons (.int .i64) (.cons (.int .i64) (.one .bool))))) (.slice ad131 l129.length cp132) l129 :: Cl b115 34 [.int .i64 xb.1, .int .i64 xb.2.1, .slice adxb_2 xb.2.2.1.length cpxb_2, .slice adxb_3 xb.2.2.2.1.length cpxb_3, .slice adxb_4 xb.2.2.2.2.length cpxb_4] :: Cl b101 31 [.int .i64 xb.1, .int .i64 xb.2.1, .slice adxb_2 xb.2.2.1.length cpxb_2, .slice adxb_3 xb.2.2.2.1.length cpxb_3, .slice adxb_4 xb.2.2.2.2.length cpxb_4] :: Cl b100 24 [.int .i64 xa.1, .int .i64 xa.2.1, .int .i64 xa.2.2.1, .slice adxa_3 xa.2.2.2.1.length cpxa_3, .slice adxa_4 xa.2.2.2.2.1.length cpxa_4, .slice adxa_5 xa.2.2.2.2.2.length cpxa_5] :: F) ?_ ?_
        · skip
          rcases bt (t173) with hc191 | hc191
          · have ht190 := ct hc191 ht190
            refine J.run rfl rfl rfl hc191 ?_
            obtain ⟨r192, hr193, ht190⟩ := ob ht190
            refine J.op rfl (A.call (L1 := []) Try.call7 rfl (law19_awake_ok hr193) rfl rfl) ?_
            rintro _ _ _ ⟨v195, _, rfl, ⟨⟨t194, rfl, rfl, rfl⟩, rfl⟩, _, rfl⟩
            refine J.val (v := .bool t194) rfl rfl (V.pickT rfl hc191 rfl) ?_
            refine J.nil ?_
            have e := Option.some.inj ht190
            subst e
            exact ⟨rfl, ⟨rfl, trivial⟩, rfl, rfl⟩
          · have ht190 := cf hc191 ht190
            refine J.skip rfl rfl rfl rfl hc191 ?_
            refine J.val (v := .bool false) rfl rfl (V.pickF rfl hc191 rfl) ?_
            refine J.nil ?_
            have e := Option.some.inj ht190
            subst e
            exact ⟨rfl, ⟨rfl, trivial⟩, rfl, rfl⟩
        · rintro ρ _ _ ⟨hf, rfl, rfl⟩
          obtain ⟨ρ, rfl⟩ := hf.ex
          refine J.val (v := .bool t189) rfl rfl (V.as rfl) ?_
          refine J.nil ?_
          refine CJ.ret ?_
          have e := Option.some.inj h
          subst e
          exact ⟨_, [], Res.one rfl rfl, ⟨t189, rfl, rfl, rfl⟩, hK139, fun w hs => (Sep.dropAt 0 rfl (Sep.dropAt 0 rfl (Sep.dropAt 0 rfl (Sep.dropAt 0 rfl (Sep.dropAt 0 rfl hs)))))⟩
end Go.Proofs.Ytgeofnfjgjodgaa
