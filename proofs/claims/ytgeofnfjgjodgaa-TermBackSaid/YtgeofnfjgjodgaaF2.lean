/- What Go functions answer: generated. -/
import Derived.Test.YtgeofnfjgjodgaaF1
namespace Go.Proofs.Ytgeofnfjgjodgaa
open Go.RowKit
set_option linter.unusedVariables false

noncomputable def fn_law19_TermBack (xa : (Int × Int × Int × (List Int) × (List Int) × (List Int))) (xb : (List UInt8)) : Option Bool :=
  cond (decide (300 < (((xb.length : Nat) : Int)))) ((fn_law19_awake).bind fun t195 => some (t195)) ((fn_term_Take xb).bind fun (i201, i202, i203, l204, l205, l206, i207, i208) => (fn_term_Put (i201, i202, i203, l204, l205, l206)).bind fun (s236, i237) => (cond (decide (i208 = 0)) ((cond (!decide (i237 = 0)) (some (true)) ((subL xb 0 i207).bind fun y259 => some (!decide (s236 = y259)))).bind fun t256 => some (t256)) (some (false))).bind fun t250 => cond (t250) (some (false)) ((fn_ref19_Plain (xa.1, xa.2.1, xa.2.2.1, xa.2.2.2.1, xa.2.2.2.2.1, xa.2.2.2.2.2)).bind fun t264 => cond (!t264) ((fn_law19_awake).bind fun t271 => some (t271)) ((fn_term_Put (xa.1, xa.2.1, xa.2.2.1, xa.2.2.2.1, xa.2.2.2.2.1, xa.2.2.2.2.2)).bind fun (s277, i278) => cond (!decide (i278 = 0)) ((cond (decide (s277 = ([] : List UInt8))) ((fn_law19_awake).bind fun t295 => some (t295)) (some (false))).bind fun t290 => some (t290)) ((app s277 xb).bind fun z299 => (fn_term_Take z299).bind fun (i303, i304, i305, l306, l307, l308, i309, i310) => (cond ((decide (i310 = 0)) && (decide (i309 = (((s277.length : Nat) : Int))))) ((fn_ref19_Same (i303, i304, i305, l306, l307, l308) (xa.1, xa.2.1, xa.2.2.1, xa.2.2.2.1, xa.2.2.2.2.1, xa.2.2.2.2.2)).bind fun t360 => some (t360)) (some (false))).bind fun t346 => (cond (t346) ((fn_law19_awake).bind fun t376 => some (t376)) (some (false))).bind fun t371 => some (t371)))))
set_option maxRecDepth 100000 in
set_option maxHeartbeats 4000000 in
theorem law19_TermBack_ok {K : Hp} {xa : (Int × Int × Int × (List Int) × (List Int) × (List Int))} {xb : (List UInt8)} {adxa_3 : Option Addr} {cpxa_3 : Nat} {adxa_4 : Option Addr} {cpxa_4 : Nat} {adxa_5 : Option Addr} {cpxa_5 : Nat} (fxa_3 : Is K (.sl (.int .i64)) [.slice adxa_3 xa.2.2.2.1.length cpxa_3] xa.2.2.2.1) (fxa_4 : Is K (.sl (.int .i64)) [.slice adxa_4 xa.2.2.2.2.1.length cpxa_4] xa.2.2.2.2.1) (fxa_5 : Is K (.sl (.int .i64)) [.slice adxa_5 xa.2.2.2.2.2.length cpxa_5] xa.2.2.2.2.2) {r : Bool} (h : fn_law19_TermBack xa xb = some r) :
    Tr Try.prog 5 #[.agg #[.int .i64 xa.1, .int .i64 xa.2.1, .int .i64 xa.2.2.1, .slice adxa_3 xa.2.2.2.1.length cpxa_3, .slice adxa_4 xa.2.2.2.2.1.length cpxa_4, .slice adxa_5 xa.2.2.2.2.2.length cpxa_5], .string ⟨xb.toArray⟩] K [] (fun v K' L' => (∃ (t190 : Bool), t190 = r ∧ .bool t190 = v ∧ L' = []) ∧ K = K') := by
  refine Tr.k ?_
  refine Tr.of Try.func5 rfl Try.ntmps5 rfl (fun E F => ?_)
  unfold fn_law19_TermBack at h
  refine CJ.seq ?_
  refine CJ.region ?_
  refine J.op rfl (A.box (v := .agg #[.int .i64 xa.1, .int .i64 xa.2.1, .int .i64 xa.2.2.1, .slice adxa_3 xa.2.2.2.1.length cpxa_3, .slice adxa_4 xa.2.2.2.2.1.length cpxa_4, .slice adxa_5 xa.2.2.2.2.2.length cpxa_5]) (cs := [.int .i64 xa.1, .int .i64 xa.2.1, .int .i64 xa.2.2.1, .slice adxa_3 xa.2.2.2.1.length cpxa_3, .slice adxa_4 xa.2.2.2.2.1.length cpxa_4, .slice adxa_5 xa.2.2.2.2.2.length cpxa_5]) rfl rfl) ?_
  rintro _ _ _ ⟨b191, rfl, rfl, rfl⟩
  refine J.val (v := .bool false) rfl rfl (V.as rfl) ?_
  refine J.nil ?_
  refine CJ.seq ?_
  refine CJ.seq ?_
  refine CJ.region ?_
  refine J.val (v := .string ⟨xb.toArray⟩) rfl rfl (V.mv rfl) ?_
  refine J.val (v := .int .i64 (((xb.length : Nat) : Int))) rfl rfl (V.lens Try.underlying9 rfl) ?_
  refine J.val (v := .bool (decide (300 < (((xb.length : Nat) : Int))))) rfl rfl (V.gtr rfl rfl) ?_
  refine J.nil ?_
  refine CJ.cond rfl (fun hc192 => ?_) (fun hc192 => ?_)
  · have h := ct hc192 h
    refine CJ.seq ?_
    refine CJ.region ?_
    obtain ⟨r193, hr194, h⟩ := ob h
    refine J.op rfl (A.call (L1 := []) Try.call7 rfl (law19_awake_ok hr194) rfl rfl) ?_
    rintro _ _ _ ⟨v196, _, rfl, ⟨⟨t195, rfl, rfl, rfl⟩, rfl⟩, _, rfl⟩
    refine J.val (v := .bool t195) rfl rfl (V.as rfl) ?_
    refine J.nil ?_
    refine CJ.ret ?_
    have e := Option.some.inj h
    subst e
    exact ⟨_, [], Res.one rfl rfl, ⟨t195, rfl, rfl, rfl⟩, (Hp.le_refl _), fun w hs => (Sep.dropAt 0 rfl hs)⟩
  · have h := cf hc192 h
    refine CJ.skip ?_
    refine CJ.seq ?_
    refine CJ.region ?_
    refine J.val (v := .string ⟨xb.toArray⟩) rfl rfl (V.mv rfl) ?_
    obtain ⟨r199, hr200, h⟩ := ob h
    refine J.op rfl (A.call (L1 := []) Try.call13 rfl (term_Take_ok hr200) rfl rfl) ?_
    rintro _ _ _ ⟨v218, _, rfl, ⟨⟨i201, i202, i203, l204, l205, l206, i207, i208, ad209, cp210, ad211, cp212, ad213, cp214, rfl, rfl, rfl⟩, rfl⟩, _, rfl⟩
    refine J.wit Row.hn (fun hn215 => ?_)
    refine J.front 1 rfl ?_
    refine J.wit Row.hn (fun hn216 => ?_)
    refine J.front 2 rfl ?_
    refine J.wit Row.hn (fun hn217 => ?_)
    refine J.val (v := .tuple #[.agg #[.int .i64 i201, .int .i64 i202, .int .i64 i203, .slice ad209 l204.length cp210, .slice ad211 l205.length cp212, .slice ad213 l206.length cp214], .int .i64 i207, .int .i64 i208]) rfl rfl (V.mv rfl) ?_
    refine J.val (v := .agg #[.int .i64 i201, .int .i64 i202, .int .i64 i203, .slice ad209 l204.length cp210, .slice ad211 l205.length cp212, .slice ad213 l206.length cp214]) rfl rfl (V.ext rfl rfl) ?_
    refine J.val (v := .int .i64 i207) rfl rfl (V.ext rfl rfl) ?_
    refine J.val (v := .int .i64 i208) rfl rfl (V.ext rfl rfl) ?_
    refine J.op rfl (A.alloc (cs := [.int .i64 0, .int .i64 0, .int .i64 0, .slice none 0 0, .slice none 0 0, .slice none 0 0]) inf24 rfl) ?_
    rintro _ _ _ ⟨b224, rfl, rfl, rfl⟩
    refine J.op rfl (A.store (v := .agg #[.int .i64 i201, .int .i64 i202, .int .i64 i203, .slice ad209 l204.length cp210, .slice ad211 l205.length cp212, .slice ad213 l206.length cp214]) (cs' := [.int .i64 i201, .int .i64 i202, .int .i64 i203, .slice ad209 l204.length cp210, .slice ad211 l205.length cp212, .slice ad213 l206.length cp214]) sz24 rfl rfl rfl rfl rfl rfl) ?_
    rintro _ _ _ ⟨rfl, rfl, rfl⟩
    refine J.val (v := .int .i64 i207) rfl rfl (V.as rfl) ?_
    refine J.val (v := .int .i64 i208) rfl rfl (V.as rfl) ?_
    refine J.nil ?_
    refine CJ.seq ?_
    refine CJ.region ?_
    refine J.val (v := .agg #[.int .i64 i201, .int .i64 i202, .int .i64 i203, .slice ad209 l204.length cp210, .slice ad211 l205.length cp212, .slice ad213 l206.length cp214]) rfl rfl (V.ld rfl (Ld.agg (cs := [.int .i64 i201, .int .i64 i202, .int .i64 i203, .slice ad209 l204.length cp210, .slice ad211 l205.length cp212, .slice ad213 l206.length cp214]) Try.underlying24 sz24 rfl (Rd.cls 0 0 rfl rfl))) ?_
    obtain ⟨r225, hr226, h⟩ := ob h
    refine J.front 1 rfl ?_
    refine J.front 2 rfl ?_
    refine J.front 3 rfl ?_
    refine J.op rfl (A.call (L1 := [Row Hp.nil 3 (.int .i64) (.slice ad209 l204.length cp210) l204, Row Hp.nil 3 (.int .i64) (.slice ad211 l205.length cp212) l205, Row Hp.nil 3 (.int .i64) (.slice ad213 l206.length cp214) l206]) Try.call18 rfl (Tr.lend (Hp.nil_le _) (by decide) (fun K227 hK228 f229 => Tr.lend (Hp.nil_le _) (by decide) (fun K230 hK231 f232 => Tr.lend (Hp.nil_le _) (by decide) (fun K233 hK234 f235 => term_Put_ok ((f229.mono hK231).mono hK234) (f232.mono hK234) f235 hr226)))) rfl rfl) ?_
    rintro _ _ _ ⟨v238, _, rfl, ⟨⟨_, ⟨_, ⟨_, ⟨s236, i237, rfl, rfl, rfl⟩, rfl⟩, rfl⟩, rfl⟩, rfl⟩, _, rfl⟩
    refine J.val (v := .tuple #[.string ⟨s236.toArray⟩, .int .i64 i237]) rfl rfl (V.mv rfl) ?_
    refine J.val (v := .string ⟨s236.toArray⟩) rfl rfl (V.ext rfl rfl) ?_
    refine J.val (v := .int .i64 i237) rfl rfl (V.ext rfl rfl) ?_
    refine J.val (v := .string ⟨s236.toArray⟩) rfl rfl (V.as rfl) ?_
    refine J.val (v := .int .i64 i237) rfl rfl (V.as rfl) ?_
    refine J.nil ?_
    refine CJ.seq ?_
    refine CJ.seq ?_
    refine CJ.region ?_
    refine J.val (v := .int .i64 i208) rfl rfl (V.mv rfl) ?_
    refine J.val (v := .bool (decide (i208 = 0))) rfl rfl (V.eql rfl rfl) ?_
    refine J.val (v := .bool (decide (i208 = 0))) rfl rfl (V.mv rfl) ?_
    refine J.cut 10 ?_
    obtain ⟨t250, ht251, h⟩ := ob h
    refine @J.meet _ _ _ _ _ _ _ _ _ _ (fun ρ K' L' => Fits [(42, .bool t250), (1, .string ⟨xb.toArray⟩), (2, .pointer (some ⟨b191, 0, none⟩))] ρ ∧ K = K' ∧ L' = Row Hp.nil 3 (.int .i64) (.slice ad209 l204.length cp210) l204 :: Row Hp.nil 3 (.int .i64) (.slice ad211 l205.length cp212) l205 :: Row Hp.nil 3 (.int .i64) (.slice ad213 l206.length cp214) l206 :: Cl b224 24 [.int .i64 i201, .int .i64 i202, .int .i64 i203, .slice ad209 l204.length cp210, .slice ad211 l205.length cp212, .slice ad213 l206.length cp214] :: Cl b191 24 [.int .i64 xa.1, .int .i64 xa.2.1, .int .i64 xa.2.2.1, .slice adxa_3 xa.2.2.2.1.length cpxa_3, .slice adxa_4 xa.2.2.2.2.1.length cpxa_4, .slice adxa_5 xa.2.2.2.2.2.length cpxa_5] :: F) ?_ ?_
    · skip
      rcases bt (decide (i208 = 0)) with hc252 | hc252
      · have ht251 := ct hc252 ht251
        refine J.run rfl rfl rfl hc252 ?_
        refine J.val (v := .int .i64 i237) rfl rfl (V.mv rfl) ?_
        refine J.run rfl rfl rfl hc252 ?_
        refine J.val (v := .bool (!decide (i237 = 0))) rfl rfl (V.neq rfl rfl) ?_
        refine J.run rfl rfl rfl hc252 ?_
        refine J.val (v := .bool (!decide (i237 = 0))) rfl rfl (V.mv rfl) ?_
        refine J.cut 6 ?_
        obtain ⟨t256, ht257, ht251⟩ := ob ht251
        refine @J.meet _ _ _ _ _ _ _ _ _ _ (fun ρ K' L' => Fits [(41, .bool t256), (1, .string ⟨xb.toArray⟩), (2, .pointer (some ⟨b191, 0, none⟩)), (32, .bool (decide (i208 = 0)))] ρ ∧ K = K' ∧ L' = Row Hp.nil 3 (.int .i64) (.slice ad209 l204.length cp210) l204 :: Row Hp.nil 3 (.int .i64) (.slice ad211 l205.length cp212) l205 :: Row Hp.nil 3 (.int .i64) (.slice ad213 l206.length cp214) l206 :: Cl b224 24 [.int .i64 i201, .int .i64 i202, .int .i64 i203, .slice ad209 l204.length cp210, .slice ad211 l205.length cp212, .slice ad213 l206.length cp214] :: Cl b191 24 [.int .i64 xa.1, .int .i64 xa.2.1, .int .i64 xa.2.2.1, .slice adxa_3 xa.2.2.2.1.length cpxa_3, .slice adxa_4 xa.2.2.2.2.1.length cpxa_4, .slice adxa_5 xa.2.2.2.2.2.length cpxa_5] :: F) ?_ ?_
        · skip
          rcases bt (!decide (i237 = 0)) with hc258 | hc258
          · have ht257 := ct hc258 ht257
            refine J.skip rfl rfl rfl rfl hc258 ?_
            refine J.skip rfl rfl rfl rfl hc258 ?_
            refine J.skip rfl rfl rfl rfl hc258 ?_
            refine J.skip rfl rfl rfl rfl hc258 ?_
            refine J.skip rfl rfl rfl rfl hc258 ?_
            refine J.run rfl rfl rfl hc252 ?_
            refine J.val (v := .bool true) rfl rfl (V.pickT rfl hc258 rfl) ?_
            refine J.nil ?_
            have e := Option.some.inj ht257
            subst e
            exact ⟨rfl, ⟨rfl, rfl, rfl, rfl, trivial⟩, rfl, rfl⟩
          · have ht257 := cf hc258 ht257
            refine J.run rfl rfl rfl hc258 ?_
            refine J.val (v := .string ⟨s236.toArray⟩) rfl rfl (V.mv rfl) ?_
            refine J.run rfl rfl rfl hc258 ?_
            refine J.val (v := .string ⟨xb.toArray⟩) rfl rfl (V.mv rfl) ?_
            refine J.run rfl rfl rfl hc258 ?_
            refine J.val (v := .int .i64 i207) rfl rfl (V.mv rfl) ?_
            refine J.run rfl rfl rfl hc258 ?_
            obtain ⟨y259, hy260, ht257⟩ := ob ht257
            refine J.val (v := .string ⟨y259.toArray⟩) rfl rfl (V.subs Try.underlying9 rfl nofun (fun _ => rfl) (fun _ h => by cases h; exact ⟨_, rfl⟩) nofun hy260) ?_
            refine J.run rfl rfl rfl hc258 ?_
            refine J.val (v := .bool (!decide (s236 = y259))) rfl rfl (V.nes rfl rfl) ?_
            refine J.run rfl rfl rfl hc252 ?_
            refine J.val (v := .bool (!decide (s236 = y259))) rfl rfl (V.pickF rfl hc258 rfl) ?_
            refine J.nil ?_
            have e := Option.some.inj ht257
            subst e
            exact ⟨rfl, ⟨rfl, rfl, rfl, rfl, trivial⟩, rfl, rfl⟩
        · rintro ρ _ _ ⟨hf, rfl, rfl⟩
          obtain ⟨ρ, rfl⟩ := hf.ex
          refine J.val (v := .bool t256) rfl rfl (V.pickT rfl hc252 rfl) ?_
          refine J.nil ?_
          have e := Option.some.inj ht251
          subst e
          exact ⟨rfl, ⟨rfl, rfl, rfl, trivial⟩, rfl, rfl⟩
      · have ht251 := cf hc252 ht251
        refine J.skip rfl rfl rfl rfl hc252 ?_
        refine J.skip rfl rfl rfl rfl hc252 ?_
        refine J.skip rfl rfl rfl rfl hc252 ?_
        refine J.skipu rfl rfl rfl rfl ?_
        refine J.skipu rfl rfl rfl rfl ?_
        refine J.skipu rfl rfl rfl rfl ?_
        refine J.skipu rfl rfl rfl rfl ?_
        refine J.skipu rfl rfl rfl rfl ?_
        refine J.skip rfl rfl rfl rfl hc252 ?_
        refine J.val (v := .bool false) rfl rfl (V.pickF rfl hc252 rfl) ?_
        refine J.nil ?_
        have e := Option.some.inj ht251
        subst e
        exact ⟨rfl, ⟨rfl, rfl, rfl, trivial⟩, rfl, rfl⟩
    · rintro ρ _ _ ⟨hf, rfl, rfl⟩
      obtain ⟨ρ, rfl⟩ := hf.ex
      refine J.nil ?_
      refine CJ.cond rfl (fun hc261 => ?_) (fun hc261 => ?_)
      · have h := ct hc261 h
        refine CJ.seq ?_
        refine CJ.region ?_
        refine J.val (v := .bool false) rfl rfl (V.as rfl) ?_
        refine J.nil ?_
        refine CJ.ret ?_
        have e := Option.some.inj h
        subst e
        exact ⟨_, [], Res.one rfl rfl, ⟨false, rfl, rfl, rfl⟩, (Hp.le_refl _), fun w hs => (Sep.dropAt 0 rfl (Sep.dropAt 0 rfl (Sep.dropAt 0 rfl (Sep.dropAt 0 rfl (Sep.dropAt 0 rfl hs)))))⟩
      · have h := cf hc261 h
        refine CJ.skip ?_
        refine CJ.seq ?_
        refine CJ.seq ?_
        refine CJ.region ?_
        refine J.val (v := .agg #[.int .i64 xa.1, .int .i64 xa.2.1, .int .i64 xa.2.2.1, .slice adxa_3 xa.2.2.2.1.length cpxa_3, .slice adxa_4 xa.2.2.2.2.1.length cpxa_4, .slice adxa_5 xa.2.2.2.2.2.length cpxa_5]) rfl rfl (V.ld rfl (Ld.agg (cs := [.int .i64 xa.1, .int .i64 xa.2.1, .int .i64 xa.2.2.1, .slice adxa_3 xa.2.2.2.1.length cpxa_3, .slice adxa_4 xa.2.2.2.2.1.length cpxa_4, .slice adxa_5 xa.2.2.2.2.2.length cpxa_5]) Try.underlying24 sz24 rfl (Rd.cls 4 0 rfl rfl))) ?_
        obtain ⟨r262, hr263, h⟩ := ob h
        refine J.op rfl (A.call (L1 := []) Try.call17 rfl (ref19_Plain_ok fxa_3 fxa_4 fxa_5 hr263) rfl rfl) ?_
        rintro _ _ _ ⟨v265, _, rfl, ⟨⟨t264, rfl, rfl, rfl⟩, rfl⟩, _, rfl⟩
        refine J.val (v := .bool (!t264)) rfl rfl (V.not rfl) ?_
        refine J.nil ?_
        refine CJ.cond rfl (fun hc268 => ?_) (fun hc268 => ?_)
        · have h := ct hc268 h
          refine CJ.seq ?_
          refine CJ.region ?_
          obtain ⟨r269, hr270, h⟩ := ob h
          refine J.op rfl (A.call (L1 := []) Try.call7 rfl (law19_awake_ok hr270) rfl rfl) ?_
          rintro _ _ _ ⟨v272, _, rfl, ⟨⟨t271, rfl, rfl, rfl⟩, rfl⟩, _, rfl⟩
          refine J.val (v := .bool t271) rfl rfl (V.as rfl) ?_
          refine J.nil ?_
          refine CJ.ret ?_
          have e := Option.some.inj h
          subst e
          exact ⟨_, [], Res.one rfl rfl, ⟨t271, rfl, rfl, rfl⟩, (Hp.le_refl _), fun w hs => (Sep.dropAt 0 rfl (Sep.dropAt 0 rfl (Sep.dropAt 0 rfl (Sep.dropAt 0 rfl (Sep.dropAt 0 rfl hs)))))⟩
        · have h := cf hc268 h
          refine CJ.skip ?_
          refine CJ.seq ?_
          refine CJ.region ?_
          refine J.val (v := .agg #[.int .i64 xa.1, .int .i64 xa.2.1, .int .i64 xa.2.2.1, .slice adxa_3 xa.2.2.2.1.length cpxa_3, .slice adxa_4 xa.2.2.2.2.1.length cpxa_4, .slice adxa_5 xa.2.2.2.2.2.length cpxa_5]) rfl rfl (V.ld rfl (Ld.agg (cs := [.int .i64 xa.1, .int .i64 xa.2.1, .int .i64 xa.2.2.1, .slice adxa_3 xa.2.2.2.1.length cpxa_3, .slice adxa_4 xa.2.2.2.2.1.length cpxa_4, .slice adxa_5 xa.2.2.2.2.2.length cpxa_5]) Try.underlying24 sz24 rfl (Rd.cls 4 0 rfl rfl))) ?_
          obtain ⟨r275, hr276, h⟩ := ob h
          refine J.op rfl (A.call (L1 := []) Try.call18 rfl (term_Put_ok fxa_3 fxa_4 fxa_5 hr276) rfl rfl) ?_
          rintro _ _ _ ⟨v279, _, rfl, ⟨⟨s277, i278, rfl, rfl, rfl⟩, rfl⟩, _, rfl⟩
          refine J.val (v := .tuple #[.string ⟨s277.toArray⟩, .int .i64 i278]) rfl rfl (V.mv rfl) ?_
          refine J.val (v := .string ⟨s277.toArray⟩) rfl rfl (V.ext rfl rfl) ?_
          refine J.val (v := .int .i64 i278) rfl rfl (V.ext rfl rfl) ?_
          refine J.val (v := .string ⟨s277.toArray⟩) rfl rfl (V.as rfl) ?_
          refine J.val (v := .int .i64 i278) rfl rfl (V.as rfl) ?_
          refine J.nil ?_
          refine CJ.seq ?_
          refine CJ.seq ?_
          refine CJ.region ?_
          refine J.val (v := .int .i64 i278) rfl rfl (V.mv rfl) ?_
          refine J.val (v := .bool (!decide (i278 = 0))) rfl rfl (V.neq rfl rfl) ?_
          refine J.nil ?_
          refine CJ.cond rfl (fun hc282 => ?_) (fun hc282 => ?_)
          · have h := ct hc282 h
            refine CJ.seq ?_
            refine CJ.region ?_
            refine J.val (v := .string ⟨s277.toArray⟩) rfl rfl (V.mv rfl) ?_
            refine J.val (v := .bool (decide (s277 = ([] : List UInt8)))) rfl rfl (V.eqs rfl rfl) ?_
            refine J.val (v := .bool (decide (s277 = ([] : List UInt8)))) rfl rfl (V.mv rfl) ?_
            refine J.cut 2 ?_
            obtain ⟨t290, ht291, h⟩ := ob h
            refine @J.meet _ _ _ _ _ _ _ _ _ _ (fun ρ K' L' => Fits [(58, .bool t290)] ρ ∧ K = K' ∧ L' = Row Hp.nil 3 (.int .i64) (.slice ad209 l204.length cp210) l204 :: Row Hp.nil 3 (.int .i64) (.slice ad211 l205.length cp212) l205 :: Row Hp.nil 3 (.int .i64) (.slice ad213 l206.length cp214) l206 :: Cl b224 24 [.int .i64 i201, .int .i64 i202, .int .i64 i203, .slice ad209 l204.length cp210, .slice ad211 l205.length cp212, .slice ad213 l206.length cp214] :: Cl b191 24 [.int .i64 xa.1, .int .i64 xa.2.1, .int .i64 xa.2.2.1, .slice adxa_3 xa.2.2.2.1.length cpxa_3, .slice adxa_4 xa.2.2.2.2.1.length cpxa_4, .slice adxa_5 xa.2.2.2.2.2.length cpxa_5] :: F) ?_ ?_
            · skip
              rcases bt (decide (s277 = ([] : List UInt8))) with hc292 | hc292
              · have ht291 := ct hc292 ht291
                refine J.run rfl rfl rfl hc292 ?_
                obtain ⟨r293, hr294, ht291⟩ := ob ht291
                refine J.op rfl (A.call (L1 := []) Try.call7 rfl (law19_awake_ok hr294) rfl rfl) ?_
                rintro _ _ _ ⟨v296, _, rfl, ⟨⟨t295, rfl, rfl, rfl⟩, rfl⟩, _, rfl⟩
                refine J.val (v := .bool t295) rfl rfl (V.pickT rfl hc292 rfl) ?_
                refine J.nil ?_
                have e := Option.some.inj ht291
                subst e
                exact ⟨rfl, ⟨rfl, trivial⟩, rfl, rfl⟩
              · have ht291 := cf hc292 ht291
                refine J.skip rfl rfl rfl rfl hc292 ?_
                refine J.val (v := .bool false) rfl rfl (V.pickF rfl hc292 rfl) ?_
                refine J.nil ?_
                have e := Option.some.inj ht291
                subst e
                exact ⟨rfl, ⟨rfl, trivial⟩, rfl, rfl⟩
            · rintro ρ _ _ ⟨hf, rfl, rfl⟩
              obtain ⟨ρ, rfl⟩ := hf.ex
              refine J.val (v := .bool t290) rfl rfl (V.as rfl) ?_
              refine J.nil ?_
              refine CJ.ret ?_
              have e := Option.some.inj h
              subst e
              exact ⟨_, [], Res.one rfl rfl, ⟨t290, rfl, rfl, rfl⟩, (Hp.le_refl _), fun w hs => (Sep.dropAt 0 rfl (Sep.dropAt 0 rfl (Sep.dropAt 0 rfl (Sep.dropAt 0 rfl (Sep.dropAt 0 rfl hs)))))⟩
          · have h := cf hc282 h
            refine CJ.skip ?_
            refine CJ.seq ?_
            refine CJ.region ?_
            refine J.val (v := .string ⟨s277.toArray⟩) rfl rfl (V.mv rfl) ?_
            refine J.val (v := .string ⟨xb.toArray⟩) rfl rfl (V.mv rfl) ?_
            obtain ⟨z299, hz300, h⟩ := ob h
            refine J.val (v := .string ⟨z299.toArray⟩) rfl rfl (V.cat rfl rfl hz300) ?_
            obtain ⟨r301, hr302, h⟩ := ob h
            refine J.op rfl (A.call (L1 := []) Try.call13 rfl (term_Take_ok hr302) rfl rfl) ?_
            rintro _ _ _ ⟨v320, _, rfl, ⟨⟨i303, i304, i305, l306, l307, l308, i309, i310, ad311, cp312, ad313, cp314, ad315, cp316, rfl, rfl, rfl⟩, rfl⟩, _, rfl⟩
            refine J.wit Row.hn (fun hn317 => ?_)
            refine J.front 1 rfl ?_
            refine J.wit Row.hn (fun hn318 => ?_)
            refine J.front 2 rfl ?_
            refine J.wit Row.hn (fun hn319 => ?_)
            refine J.val (v := .tuple #[.agg #[.int .i64 i303, .int .i64 i304, .int .i64 i305, .slice ad311 l306.length cp312, .slice ad313 l307.length cp314, .slice ad315 l308.length cp316], .int .i64 i309, .int .i64 i310]) rfl rfl (V.mv rfl) ?_
            refine J.val (v := .agg #[.int .i64 i303, .int .i64 i304, .int .i64 i305, .slice ad311 l306.length cp312, .slice ad313 l307.length cp314, .slice ad315 l308.length cp316]) rfl rfl (V.ext rfl rfl) ?_
            refine J.val (v := .int .i64 i309) rfl rfl (V.ext rfl rfl) ?_
            refine J.val (v := .int .i64 i310) rfl rfl (V.ext rfl rfl) ?_
            refine J.op rfl (A.alloc (cs := [.int .i64 0, .int .i64 0, .int .i64 0, .slice none 0 0, .slice none 0 0, .slice none 0 0]) inf24 rfl) ?_
            rintro _ _ _ ⟨b326, rfl, rfl, rfl⟩
            refine J.op rfl (A.store (v := .agg #[.int .i64 i303, .int .i64 i304, .int .i64 i305, .slice ad311 l306.length cp312, .slice ad313 l307.length cp314, .slice ad315 l308.length cp316]) (cs' := [.int .i64 i303, .int .i64 i304, .int .i64 i305, .slice ad311 l306.length cp312, .slice ad313 l307.length cp314, .slice ad315 l308.length cp316]) sz24 rfl rfl rfl rfl rfl rfl) ?_
            rintro _ _ _ ⟨rfl, rfl, rfl⟩
            refine J.val (v := .int .i64 i309) rfl rfl (V.as rfl) ?_
            refine J.val (v := .int .i64 i310) rfl rfl (V.as rfl) ?_
            refine J.nil ?_
            refine CJ.seq ?_
            refine CJ.region ?_
            refine J.val (v := .int .i64 i310) rfl rfl (V.mv rfl) ?_
            refine J.val (v := .bool (decide (i310 = 0))) rfl rfl (V.eql rfl rfl) ?_
            refine J.val (v := .bool (decide (i310 = 0))) rfl rfl (V.mv rfl) ?_
            refine J.cut 5 ?_
            refine @J.meet _ _ _ _ _ _ _ _ _ _ (fun ρ K' L' => Fits [(74, .bool ((decide (i310 = 0)) && (decide (i309 = (((s277.length : Nat) : Int)))))), (2, .pointer (some ⟨b191, 0, none⟩)), (12, .pointer (some ⟨b326, 0, none⟩))] ρ ∧ K = K' ∧ L' = Cl b326 24 [.int .i64 i303, .int .i64 i304, .int .i64 i305, .slice ad311 l306.length cp312, .slice ad313 l307.length cp314, .slice ad315 l308.length cp316] :: Row Hp.nil 3 (.int .i64) (.slice ad315 l308.length cp316) l308 :: Row Hp.nil 3 (.int .i64) (.slice ad313 l307.length cp314) l307 :: Row Hp.nil 3 (.int .i64) (.slice ad311 l306.length cp312) l306 :: Row Hp.nil 3 (.int .i64) (.slice ad209 l204.length cp210) l204 :: Row Hp.nil 3 (.int .i64) (.slice ad211 l205.length cp212) l205 :: Row Hp.nil 3 (.int .i64) (.slice ad213 l206.length cp214) l206 :: Cl b224 24 [.int .i64 i201, .int .i64 i202, .int .i64 i203, .slice ad209 l204.length cp210, .slice ad211 l205.length cp212, .slice ad213 l206.length cp214] :: Cl b191 24 [.int .i64 xa.1, .int .i64 xa.2.1, .int .i64 xa.2.2.1, .slice adxa_3 xa.2.2.2.1.length cpxa_3, .slice adxa_4 xa.2.2.2.2.1.length cpxa_4, .slice adxa_5 xa.2.2.2.2.2.length cpxa_5] :: F) ?_ ?_
            · skip
              rcases bt (decide (i310 = 0)) with hc329 | hc329
              · skip
                refine J.run rfl rfl rfl hc329 ?_
                refine J.val (v := .int .i64 i309) rfl rfl (V.mv rfl) ?_
                refine J.run rfl rfl rfl hc329 ?_
                refine J.val (v := .string ⟨s277.toArray⟩) rfl rfl (V.mv rfl) ?_
                refine J.run rfl rfl rfl hc329 ?_
                refine J.val (v := .int .i64 (((s277.length : Nat) : Int))) rfl rfl (V.lens Try.underlying9 rfl) ?_
                refine J.run rfl rfl rfl hc329 ?_
                refine J.val (v := .bool (decide (i309 = (((s277.length : Nat) : Int))))) rfl rfl (V.eql rfl rfl) ?_
                refine J.val (v := .bool (decide (i309 = (((s277.length : Nat) : Int))))) rfl rfl (V.pickT rfl hc329 rfl) ?_
                refine J.nil ?_
                exact ⟨rfl, ⟨(by simp only [hc329]; rfl), rfl, rfl, trivial⟩, rfl, rfl⟩
              · skip
                refine J.skip rfl rfl rfl rfl hc329 ?_
                refine J.skip rfl rfl rfl rfl hc329 ?_
                refine J.skip rfl rfl rfl rfl hc329 ?_
                refine J.skip rfl rfl rfl rfl hc329 ?_
                refine J.val (v := .bool false) rfl rfl (V.pickF rfl hc329 rfl) ?_
                refine J.nil ?_
                exact ⟨rfl, ⟨(by simp only [hc329]; rfl), rfl, rfl, trivial⟩, rfl, rfl⟩
            · rintro ρ _ _ ⟨hf, rfl, rfl⟩
              obtain ⟨ρ, rfl⟩ := hf.ex
              refine J.val (v := .bool ((decide (i310 = 0)) && (decide (i309 = (((s277.length : Nat) : Int)))))) rfl rfl (V.mv rfl) ?_
              refine J.cut 4 ?_
              obtain ⟨t346, ht347, h⟩ := ob h
              refine @J.meet _ _ _ _ _ _ _ _ _ _ (fun ρ K' L' => Fits [(79, .bool t346)] ρ ∧ K = K' ∧ L' = Cl b326 24 [.int .i64 i303, .int .i64 i304, .int .i64 i305, .slice ad311 l306.length cp312, .slice ad313 l307.length cp314, .slice ad315 l308.length cp316] :: Row Hp.nil 3 (.int .i64) (.slice ad315 l308.length cp316) l308 :: Row Hp.nil 3 (.int .i64) (.slice ad313 l307.length cp314) l307 :: Row Hp.nil 3 (.int .i64) (.slice ad311 l306.length cp312) l306 :: Row Hp.nil 3 (.int .i64) (.slice ad209 l204.length cp210) l204 :: Row Hp.nil 3 (.int .i64) (.slice ad211 l205.length cp212) l205 :: Row Hp.nil 3 (.int .i64) (.slice ad213 l206.length cp214) l206 :: Cl b224 24 [.int .i64 i201, .int .i64 i202, .int .i64 i203, .slice ad209 l204.length cp210, .slice ad211 l205.length cp212, .slice ad213 l206.length cp214] :: Cl b191 24 [.int .i64 xa.1, .int .i64 xa.2.1, .int .i64 xa.2.2.1, .slice adxa_3 xa.2.2.2.1.length cpxa_3, .slice adxa_4 xa.2.2.2.2.1.length cpxa_4, .slice adxa_5 xa.2.2.2.2.2.length cpxa_5] :: F) ?_ ?_
              · skip
                rcases bt ((decide (i310 = 0)) && (decide (i309 = (((s277.length : Nat) : Int))))) with hc348 | hc348
                · have ht347 := ct hc348 ht347
                  refine J.run rfl rfl rfl hc348 ?_
                  refine J.val (v := .agg #[.int .i64 i303, .int .i64 i304, .int .i64 i305, .slice ad311 l306.length cp312, .slice ad313 l307.length cp314, .slice ad315 l308.length cp316]) rfl rfl (V.ld rfl (Ld.agg (cs := [.int .i64 i303, .int .i64 i304, .int .i64 i305, .slice ad311 l306.length cp312, .slice ad313 l307.length cp314, .slice ad315 l308.length cp316]) Try.underlying24 sz24 rfl (Rd.cls 0 0 rfl rfl))) ?_
                  refine J.run rfl rfl rfl hc348 ?_
                  refine J.val (v := .agg #[.int .i64 xa.1, .int .i64 xa.2.1, .int .i64 xa.2.2.1, .slice adxa_3 xa.2.2.2.1.length cpxa_3, .slice adxa_4 xa.2.2.2.2.1.length cpxa_4, .slice adxa_5 xa.2.2.2.2.2.length cpxa_5]) rfl rfl (V.ld rfl (Ld.agg (cs := [.int .i64 xa.1, .int .i64 xa.2.1, .int .i64 xa.2.2.1, .slice adxa_3 xa.2.2.2.1.length cpxa_3, .slice adxa_4 xa.2.2.2.2.1.length cpxa_4, .slice adxa_5 xa.2.2.2.2.2.length cpxa_5]) Try.underlying24 sz24 rfl (Rd.cls 8 0 rfl rfl))) ?_
                  refine J.run rfl rfl rfl hc348 ?_
                  obtain ⟨r349, hr350, ht347⟩ := ob ht347
                  refine J.front 1 rfl ?_
                  refine J.front 2 rfl ?_
                  refine J.front 3 rfl ?_
                  refine J.op rfl (A.call (L1 := [Row Hp.nil 3 (.int .i64) (.slice ad311 l306.length cp312) l306, Row Hp.nil 3 (.int .i64) (.slice ad313 l307.length cp314) l307, Row Hp.nil 3 (.int .i64) (.slice ad315 l308.length cp316) l308]) Try.call15 rfl (Tr.lend (Hp.nil_le _) (by decide) (fun K351 hK352 f353 => Tr.lend (Hp.nil_le _) (by decide) (fun K354 hK355 f356 => Tr.lend (Hp.nil_le _) (by decide) (fun K357 hK358 f359 => ref19_Same_ok ((f353.mono hK355).mono hK358) (f356.mono hK358) f359 (((fxa_3.mono hK352).mono hK355).mono hK358) (((fxa_4.mono hK352).mono hK355).mono hK358) (((fxa_5.mono hK352).mono hK355).mono hK358) hr350)))) rfl rfl) ?_
                  rintro _ _ _ ⟨v361, _, rfl, ⟨⟨_, ⟨_, ⟨_, ⟨t360, rfl, rfl, rfl⟩, rfl⟩, rfl⟩, rfl⟩, rfl⟩, _, rfl⟩
                  refine J.val (v := .bool t360) rfl rfl (V.pickT rfl hc348 rfl) ?_
                  refine J.front 8 rfl ?_
                  refine J.front 8 rfl ?_
                  refine J.front 8 rfl ?_
                  refine J.front 8 rfl ?_
                  refine J.front 8 rfl ?_
                  refine J.front 5 rfl ?_
                  refine J.front 6 rfl ?_
                  refine J.front 7 rfl ?_
                  refine J.front 8 rfl ?_
                  refine J.nil ?_
                  have e := Option.some.inj ht347
                  subst e
                  exact ⟨rfl, ⟨rfl, trivial⟩, rfl, rfl⟩
                · have ht347 := cf hc348 ht347
                  refine J.skip rfl rfl rfl rfl hc348 ?_
                  refine J.skip rfl rfl rfl rfl hc348 ?_
                  refine J.skip rfl rfl rfl rfl hc348 ?_
                  refine J.val (v := .bool false) rfl rfl (V.pickF rfl hc348 rfl) ?_
                  refine J.nil ?_
                  have e := Option.some.inj ht347
                  subst e
                  exact ⟨rfl, ⟨rfl, trivial⟩, rfl, rfl⟩
              · rintro ρ _ _ ⟨hf, rfl, rfl⟩
                obtain ⟨ρ, rfl⟩ := hf.ex
                refine J.val (v := .bool t346) rfl rfl (V.mv rfl) ?_
                refine J.cut 2 ?_
                obtain ⟨t371, ht372, h⟩ := ob h
                refine @J.meet _ _ _ _ _ _ _ _ _ _ (fun ρ K' L' => Fits [(82, .bool t371)] ρ ∧ K = K' ∧ L' = Cl b326 24 [.int .i64 i303, .int .i64 i304, .int .i64 i305, .slice ad311 l306.length cp312, .slice ad313 l307.length cp314, .slice ad315 l308.length cp316] :: Row Hp.nil 3 (.int .i64) (.slice ad315 l308.length cp316) l308 :: Row Hp.nil 3 (.int .i64) (.slice ad313 l307.length cp314) l307 :: Row Hp.nil 3 (.int .i64) (.slice ad311 l306.length cp312) l306 :: Row Hp.nil 3 (.int .i64) (.slice ad209 l204.length cp210) l204 :: Row Hp.nil 3 (.int .i64) (.slice ad211 l205.length cp212) l205 :: Row Hp.nil 3 (.int .i64) (.slice ad213 l206.length cp214) l206 :: Cl b224 24 [.int .i64 i201, .int .i64 i202, .int .i64 i203, .slice ad209 l204.length cp210, .slice ad211 l205.length cp212, .slice ad213 l206.length cp214] :: Cl b191 24 [.int .i64 xa.1, .int .i64 xa.2.1, .int .i64 xa.2.2.1, .slice adxa_3 xa.2.2.2.1.length cpxa_3, .slice adxa_4 xa.2.2.2.2.1.length cpxa_4, .slice adxa_5 xa.2.2.2.2.2.length cpxa_5] :: F) ?_ ?_
                · skip
                  rcases bt (t346) with hc373 | hc373
                  · have ht372 := ct hc373 ht372
                    refine J.run rfl rfl rfl hc373 ?_
                    obtain ⟨r374, hr375, ht372⟩ := ob ht372
                    refine J.op rfl (A.call (L1 := []) Try.call7 rfl (law19_awake_ok hr375) rfl rfl) ?_
                    rintro _ _ _ ⟨v377, _, rfl, ⟨⟨t376, rfl, rfl, rfl⟩, rfl⟩, _, rfl⟩
                    refine J.val (v := .bool t376) rfl rfl (V.pickT rfl hc373 rfl) ?_
                    refine J.nil ?_
                    have e := Option.some.inj ht372
                    subst e
                    exact ⟨rfl, ⟨rfl, trivial⟩, rfl, rfl⟩
                  · have ht372 := cf hc373 ht372
                    refine J.skip rfl rfl rfl rfl hc373 ?_
                    refine J.val (v := .bool false) rfl rfl (V.pickF rfl hc373 rfl) ?_
                    refine J.nil ?_
                    have e := Option.some.inj ht372
                    subst e
                    exact ⟨rfl, ⟨rfl, trivial⟩, rfl, rfl⟩
                · rintro ρ _ _ ⟨hf, rfl, rfl⟩
                  obtain ⟨ρ, rfl⟩ := hf.ex
                  refine J.val (v := .bool t371) rfl rfl (V.as rfl) ?_
                  refine J.nil ?_
                  refine CJ.ret ?_
                  have e := Option.some.inj h
                  subst e
                  exact ⟨_, [], Res.one rfl rfl, ⟨t371, rfl, rfl, rfl⟩, (Hp.le_refl _), fun w hs => (Sep.dropAt 0 rfl (Sep.dropAt 0 rfl (Sep.dropAt 0 rfl (Sep.dropAt 0 rfl (Sep.dropAt 0 rfl (Sep.dropAt 0 rfl (Sep.dropAt 0 rfl (Sep.dropAt 0 rfl (Sep.dropAt 0 rfl hs)))))))))⟩
end Go.Proofs.Ytgeofnfjgjodgaa
