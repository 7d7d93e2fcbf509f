/- What Go functions answer: generated. -/
import Derived.Test.YtgeofnfjgjodgaaDt
import Derived.Test.YtgeofnfjgjodgaaRows
import Derived.Test.YtgeofnfjgjodgaaBd
namespace Go.Proofs.Ytgeofnfjgjodgaa
open Go.RowKit
set_option linter.unusedVariables false
set_option linter.unnecessarySimpa false
set_option linter.unusedSimpArgs false
set_option maxRecDepth 20000
theorem inf3 : Inf Try.prog 3 (.int .i64 0) 1 8 := by unfold Inf; kernel_rfl
theorem inf24 : Inf Try.prog 24 (.agg #[.int .i64 0, .int .i64 0, .int .i64 0, .slice none 0 0, .slice none 0 0, .slice none 0 0]) 6 96 := by unfold Inf; kernel_rfl
theorem places24 : Places Try.prog 24 [(0, 1), (1, 1), (2, 1), (3, 1), (4, 1), (5, 1)] := ⟨_, Try.underlying24, by kernel_rfl⟩
theorem sz24 : (Try.prog.info? 24).map (·.size) = some 6 := by kernel_rfl
theorem nz3 : Try.prog.cellsOf 3 ≠ 0 := by decide +kernel
theorem sc3 : scalar Try.prog 3 = true := by kernel_rfl
theorem nz22 : Try.prog.cellsOf 22 ≠ 0 := by decide +kernel
theorem sc22 : scalar Try.prog 22 = true := by kernel_rfl
theorem inf82 : Inf Try.prog 82 (.agg #[.pointer none, .slice none 0 0]) 2 32 := by unfold Inf; kernel_rfl
theorem sz3 : (Try.prog.info? 3).map (·.size) = some 1 := by kernel_rfl
theorem mixO : Try.prog.follows .mixedOrders = true := by kernel_rfl
theorem inf69 : Inf Try.prog 69 (.agg #[.string ⟨[].toArray⟩, .int .i64 0, .int .i64 0]) 3 32 := by unfold Inf; kernel_rfl
theorem places69 : Places Try.prog 69 [(0, 1), (1, 1), (2, 1)] := ⟨_, Try.underlying69, by kernel_rfl⟩
theorem sz69 : (Try.prog.info? 69).map (·.size) = some 3 := by kernel_rfl
theorem nz36 : Try.prog.cellsOf 36 ≠ 0 := by decide +kernel
theorem sc36 : scalar Try.prog 36 = true := by kernel_rfl
theorem nz9 : Try.prog.cellsOf 9 ≠ 0 := by decide +kernel
theorem sc9 : scalar Try.prog 9 = true := by kernel_rfl
theorem sz36 : (Try.prog.info? 36).map (·.size) = some 1 := by kernel_rfl
theorem sz22 : (Try.prog.info? 22).map (·.size) = some 1 := by kernel_rfl
theorem inf5 : Inf Try.prog 5 (.int .u8 0) 1 1 := by unfold Inf; kernel_rfl

noncomputable def fn_term_calls (xa : (Int × Int × Int × (List Int) × (List Int) × (List Int))) : Option Bool :=
  some (((!decide (xa.2.1 = 0)) || (!decide (xa.2.2.1 = 0))) || (decide (0 < (((xa.2.2.2.2.2.length : Nat) : Int)))))
set_option maxRecDepth 100000 in
set_option maxHeartbeats 4000000 in
theorem term_calls_ok {K : Hp} {xa : (Int × Int × Int × (List Int) × (List Int) × (List Int))} {adxa_3 : Option Addr} {cpxa_3 : Nat} {adxa_4 : Option Addr} {cpxa_4 : Nat} {adxa_5 : Option Addr} {cpxa_5 : Nat} (fxa_3 : Is K (.sl (.int .i64)) [.slice adxa_3 xa.2.2.2.1.length cpxa_3] xa.2.2.2.1) (fxa_4 : Is K (.sl (.int .i64)) [.slice adxa_4 xa.2.2.2.2.1.length cpxa_4] xa.2.2.2.2.1) (fxa_5 : Is K (.sl (.int .i64)) [.slice adxa_5 xa.2.2.2.2.2.length cpxa_5] xa.2.2.2.2.2) {r : Bool} (h : fn_term_calls xa = some r) :
    Tr Try.prog 44 #[.agg #[.int .i64 xa.1, .int .i64 xa.2.1, .int .i64 xa.2.2.1, .slice adxa_3 xa.2.2.2.1.length cpxa_3, .slice adxa_4 xa.2.2.2.2.1.length cpxa_4, .slice adxa_5 xa.2.2.2.2.2.length cpxa_5]] K [] (fun v K' L' => (∃ (t8 : Bool), t8 = r ∧ .bool t8 = v ∧ L' = []) ∧ K = K') := by
  refine Tr.k ?_
  refine Tr.of Try.func44 rfl Try.ntmps44 rfl (fun E F => ?_)
  unfold fn_term_calls at h
  refine CJ.seq ?_
  refine CJ.region ?_
  refine J.op rfl (A.box (v := .agg #[.int .i64 xa.1, .int .i64 xa.2.1, .int .i64 xa.2.2.1, .slice adxa_3 xa.2.2.2.1.length cpxa_3, .slice adxa_4 xa.2.2.2.2.1.length cpxa_4, .slice adxa_5 xa.2.2.2.2.2.length cpxa_5]) (cs := [.int .i64 xa.1, .int .i64 xa.2.1, .int .i64 xa.2.2.1, .slice adxa_3 xa.2.2.2.1.length cpxa_3, .slice adxa_4 xa.2.2.2.2.1.length cpxa_4, .slice adxa_5 xa.2.2.2.2.2.length cpxa_5]) rfl rfl) ?_
  rintro _ _ _ ⟨b9, rfl, rfl, rfl⟩
  refine J.val (v := .bool false) rfl rfl (V.as rfl) ?_
  refine J.nil ?_
  refine CJ.seq ?_
  refine CJ.region ?_
  refine J.val rfl rfl (V.fad Try.underlying24 rfl nz3 rfl) ?_
  refine J.val (v := .int .i64 xa.2.1) rfl rfl (V.ld rfl (Ld.sc sc3 (Rd.cl 0 rfl rfl))) ?_
  refine J.val (v := .bool (!decide (xa.2.1 = 0))) rfl rfl (V.neq rfl rfl) ?_
  refine J.val (v := .bool (!decide (xa.2.1 = 0))) rfl rfl (V.mv rfl) ?_
  refine J.cut 4 ?_
  refine @J.meet _ _ _ _ _ _ _ _ _ _ (fun ρ K' L' => Fits [(10, .bool ((!decide (xa.2.1 = 0)) || (!decide (xa.2.2.1 = 0)))), (1, .pointer (some ⟨b9, 0, none⟩))] ρ ∧ K = K' ∧ L' = Cl b9 24 [.int .i64 xa.1, .int .i64 xa.2.1, .int .i64 xa.2.2.1, .slice adxa_3 xa.2.2.2.1.length cpxa_3, .slice adxa_4 xa.2.2.2.2.1.length cpxa_4, .slice adxa_5 xa.2.2.2.2.2.length cpxa_5] :: F) ?_ ?_
  · skip
    rcases bt (!decide (xa.2.1 = 0)) with hc12 | hc12
    · skip
      refine J.skip rfl rfl rfl rfl hc12 ?_
      refine J.skip rfl rfl rfl rfl hc12 ?_
      refine J.skip rfl rfl rfl rfl hc12 ?_
      refine J.val (v := .bool true) rfl rfl (V.pickT rfl hc12 rfl) ?_
      refine J.nil ?_
      exact ⟨rfl, ⟨(by simp only [hc12]; rfl), rfl, trivial⟩, rfl, rfl⟩
    · skip
      refine J.run rfl rfl rfl hc12 ?_
      refine J.val rfl rfl (V.fad Try.underlying24 rfl nz3 rfl) ?_
      refine J.run rfl rfl rfl hc12 ?_
      refine J.val (v := .int .i64 xa.2.2.1) rfl rfl (V.ld rfl (Ld.sc sc3 (Rd.cl 0 rfl rfl))) ?_
      refine J.run rfl rfl rfl hc12 ?_
      refine J.val (v := .bool (!decide (xa.2.2.1 = 0))) rfl rfl (V.neq rfl rfl) ?_
      refine J.val (v := .bool (!decide (xa.2.2.1 = 0))) rfl rfl (V.pickF rfl hc12 rfl) ?_
      refine J.nil ?_
      exact ⟨rfl, ⟨(by simp only [hc12]; rfl), rfl, trivial⟩, rfl, rfl⟩
  · rintro ρ _ _ ⟨hf, rfl, rfl⟩
    obtain ⟨ρ, rfl⟩ := hf.ex
    refine J.val (v := .bool ((!decide (xa.2.1 = 0)) || (!decide (xa.2.2.1 = 0)))) rfl rfl (V.mv rfl) ?_
    refine J.cut 5 ?_
    refine @J.meet _ _ _ _ _ _ _ _ _ _ (fun ρ K' L' => Fits [(16, .bool (((!decide (xa.2.1 = 0)) || (!decide (xa.2.2.1 = 0))) || (decide (0 < (((xa.2.2.2.2.2.length : Nat) : Int))))))] ρ ∧ K = K' ∧ L' = Cl b9 24 [.int .i64 xa.1, .int .i64 xa.2.1, .int .i64 xa.2.2.1, .slice adxa_3 xa.2.2.2.1.length cpxa_3, .slice adxa_4 xa.2.2.2.2.1.length cpxa_4, .slice adxa_5 xa.2.2.2.2.2.length cpxa_5] :: F) ?_ ?_
    · skip
      rcases bt ((!decide (xa.2.1 = 0)) || (!decide (xa.2.2.1 = 0))) with hc15 | hc15
      · skip
        refine J.skip rfl rfl rfl rfl hc15 ?_
        refine J.skip rfl rfl rfl rfl hc15 ?_
        refine J.skip rfl rfl rfl rfl hc15 ?_
        refine J.skip rfl rfl rfl rfl hc15 ?_
        refine J.val (v := .bool true) rfl rfl (V.pickT rfl hc15 rfl) ?_
        refine J.nil ?_
        exact ⟨rfl, ⟨(by simp only [hc15]; rfl), trivial⟩, rfl, rfl⟩
      · skip
        refine J.run rfl rfl rfl hc15 ?_
        refine J.val rfl rfl (V.fad Try.underlying24 rfl nz22 rfl) ?_
        refine J.run rfl rfl rfl hc15 ?_
        refine J.val (v := .slice adxa_5 xa.2.2.2.2.2.length cpxa_5) rfl rfl (V.ld rfl (Ld.sc sc22 (Rd.cl 0 rfl rfl))) ?_
        refine J.run rfl rfl rfl hc15 ?_
        refine J.val (v := .int .i64 (((xa.2.2.2.2.2.length : Nat) : Int))) rfl rfl (V.len Try.underlying22 rfl) ?_
        refine J.run rfl rfl rfl hc15 ?_
        refine J.val (v := .bool (decide (0 < (((xa.2.2.2.2.2.length : Nat) : Int))))) rfl rfl (V.gtr rfl rfl) ?_
        refine J.val (v := .bool (decide (0 < (((xa.2.2.2.2.2.length : Nat) : Int))))) rfl rfl (V.pickF rfl hc15 rfl) ?_
        refine J.nil ?_
        exact ⟨rfl, ⟨(by simp only [hc15]; rfl), trivial⟩, rfl, rfl⟩
    · rintro ρ _ _ ⟨hf, rfl, rfl⟩
      obtain ⟨ρ, rfl⟩ := hf.ex
      refine J.val (v := .bool (((!decide (xa.2.1 = 0)) || (!decide (xa.2.2.1 = 0))) || (decide (0 < (((xa.2.2.2.2.2.length : Nat) : Int)))))) rfl rfl (V.as rfl) ?_
      refine J.nil ?_
      refine CJ.ret ?_
      have e := Option.some.inj h
      subst e
      exact ⟨_, [], Res.one rfl rfl, ⟨((!decide (xa.2.1 = 0)) || (!decide (xa.2.2.1 = 0))) || (decide (0 < (((xa.2.2.2.2.2.length : Nat) : Int)))), rfl, rfl, rfl⟩, (Hp.le_refl _), fun w hs => (Sep.dropAt 0 rfl hs)⟩

noncomputable def fn_term_form (xa : (Int × Int × Int × (List Int) × (List Int) × (List Int))) : Option Int :=
  (cond (decide (xa.1 = 1)) ((cond ((decide ((((xa.2.2.2.1.length : Nat) : Int)) = 1)) && (decide ((((xa.2.2.2.2.1.length : Nat) : Int)) = 0))) ((fn_term_calls (xa.1, xa.2.1, xa.2.2.1, xa.2.2.2.1, xa.2.2.2.2.1, xa.2.2.2.2.2)).bind fun t213 => some (!t213)) (some (false))).bind fun t208 => some (t208)) (cond (decide (xa.1 = 2)) ((cond (decide (0 < (((xa.2.2.2.1.length : Nat) : Int)))) ((fn_term_calls (xa.1, xa.2.1, xa.2.2.1, xa.2.2.2.1, xa.2.2.2.2.1, xa.2.2.2.2.2)).bind fun t230 => some (!t230)) (some (false))).bind fun t225 => some (t225)) (cond (decide (xa.1 = 3)) ((cond ((decide ((((xa.2.2.2.1.length : Nat) : Int)) = 0)) && (decide ((((xa.2.2.2.2.1.length : Nat) : Int)) = 0))) ((fn_term_calls (xa.1, xa.2.1, xa.2.2.1, xa.2.2.2.1, xa.2.2.2.2.1, xa.2.2.2.2.2)).bind fun t250 => some (!t250)) (some (false))).bind fun t245 => some (t245)) (cond (decide (xa.1 = 4)) (some (decide ((((xa.2.2.2.1.length : Nat) : Int)) = 1))) (some (false))))) : Option Bool).bind fun t194 => cond (!t194) (some (3)) (cond (((decide (16 < (((xa.2.2.2.1.length : Nat) : Int)))) || (decide (16 < (((xa.2.2.2.2.1.length : Nat) : Int))))) || (decide (16 < (((xa.2.2.2.2.2.length : Nat) : Int))))) (some (6)) (some (0)))
set_option maxRecDepth 100000 in
set_option maxHeartbeats 4000000 in
theorem term_form_ok {K : Hp} {xa : (Int × Int × Int × (List Int) × (List Int) × (List Int))} {adxa_3 : Option Addr} {cpxa_3 : Nat} {adxa_4 : Option Addr} {cpxa_4 : Nat} {adxa_5 : Option Addr} {cpxa_5 : Nat} (fxa_3 : Is K (.sl (.int .i64)) [.slice adxa_3 xa.2.2.2.1.length cpxa_3] xa.2.2.2.1) (fxa_4 : Is K (.sl (.int .i64)) [.slice adxa_4 xa.2.2.2.2.1.length cpxa_4] xa.2.2.2.2.1) (fxa_5 : Is K (.sl (.int .i64)) [.slice adxa_5 xa.2.2.2.2.2.length cpxa_5] xa.2.2.2.2.2) {r : Int} (h : fn_term_form xa = some r) :
    Tr Try.prog 22 #[.agg #[.int .i64 xa.1, .int .i64 xa.2.1, .int .i64 xa.2.2.1, .slice adxa_3 xa.2.2.2.1.length cpxa_3, .slice adxa_4 xa.2.2.2.2.1.length cpxa_4, .slice adxa_5 xa.2.2.2.2.2.length cpxa_5]] K [] (fun v K' L' => (∃ (i134 : Int), i134 = r ∧ .int .i64 i134 = v ∧ L' = []) ∧ K = K') := by
  refine Tr.k ?_
  refine Tr.of Try.func22 rfl Try.ntmps22 rfl (fun E F => ?_)
  unfold fn_term_form at h
  refine CJ.seq ?_
  refine CJ.region ?_
  refine J.op rfl (A.box (v := .agg #[.int .i64 xa.1, .int .i64 xa.2.1, .int .i64 xa.2.2.1, .slice adxa_3 xa.2.2.2.1.length cpxa_3, .slice adxa_4 xa.2.2.2.2.1.length cpxa_4, .slice adxa_5 xa.2.2.2.2.2.length cpxa_5]) (cs := [.int .i64 xa.1, .int .i64 xa.2.1, .int .i64 xa.2.2.1, .slice adxa_3 xa.2.2.2.1.length cpxa_3, .slice adxa_4 xa.2.2.2.2.1.length cpxa_4, .slice adxa_5 xa.2.2.2.2.2.length cpxa_5]) rfl rfl) ?_
  rintro _ _ _ ⟨b135, rfl, rfl, rfl⟩
  refine J.val (v := .int .i64 0) rfl rfl (V.as rfl) ?_
  refine J.nil ?_
  refine CJ.seq ?_
  refine CJ.region ?_
  refine J.val (v := .bool false) rfl rfl (V.as rfl) ?_
  refine J.nil ?_
  refine CJ.seq ?_
  obtain ⟨o195, ho196, h⟩ := ob h
  refine CJ.meetN (fun ρ K' L' => ∃ (t194 : Bool), t194 = o195 ∧ Fits [(1, .pointer (some ⟨b135, 0, none⟩)), (3, .bool t194)] ρ ∧ K = K' ∧ L' = Cl b135 24 [.int .i64 xa.1, .int .i64 xa.2.1, .int .i64 xa.2.2.1, .slice adxa_3 xa.2.2.2.1.length cpxa_3, .slice adxa_4 xa.2.2.2.2.1.length cpxa_4, .slice adxa_5 xa.2.2.2.2.2.length cpxa_5] :: F) ?_ ?_
  · skip
    refine CJ.seq ?_
    refine CJ.region ?_
    refine J.val rfl rfl (V.fad Try.underlying24 rfl nz3 rfl) ?_
    refine J.val (v := .int .i64 xa.1) rfl rfl (V.ld rfl (Ld.sc sc3 (Rd.cl 0 rfl rfl))) ?_
    refine J.nil ?_
    refine CJ.block ?_
    refine CJ.seq ?_
    refine CJ.region ?_
    refine J.val (v := .bool (decide (xa.1 = 1))) rfl rfl (V.eql rfl rfl) ?_
    refine J.val (v := .bool (decide (xa.1 = 1))) rfl rfl (V.as rfl) ?_
    refine J.nil ?_
    refine CJ.cond rfl (fun hc197 => ?_) (fun hc197 => ?_)
    · have ho196 := ct hc197 ho196
      refine CJ.region ?_
      refine J.val rfl rfl (V.fad Try.underlying24 rfl nz22 rfl) ?_
      refine J.val (v := .slice adxa_3 xa.2.2.2.1.length cpxa_3) rfl rfl (V.ld rfl (Ld.sc sc22 (Rd.cl 0 rfl rfl))) ?_
      refine J.val (v := .int .i64 (((xa.2.2.2.1.length : Nat) : Int))) rfl rfl (V.len Try.underlying22 rfl) ?_
      refine J.val (v := .bool (decide ((((xa.2.2.2.1.length : Nat) : Int)) = 1))) rfl rfl (V.eql rfl rfl) ?_
      refine J.val (v := .bool (decide ((((xa.2.2.2.1.length : Nat) : Int)) = 1))) rfl rfl (V.mv rfl) ?_
      refine J.cut 5 ?_
      refine @J.meet _ _ _ _ _ _ _ _ _ _ (fun ρ K' L' => Fits [(17, .bool ((decide ((((xa.2.2.2.1.length : Nat) : Int)) = 1)) && (decide ((((xa.2.2.2.2.1.length : Nat) : Int)) = 0)))), (1, .pointer (some ⟨b135, 0, none⟩))] ρ ∧ K = K' ∧ L' = Cl b135 24 [.int .i64 xa.1, .int .i64 xa.2.1, .int .i64 xa.2.2.1, .slice adxa_3 xa.2.2.2.1.length cpxa_3, .slice adxa_4 xa.2.2.2.2.1.length cpxa_4, .slice adxa_5 xa.2.2.2.2.2.length cpxa_5] :: F) ?_ ?_
      · skip
        rcases bt (decide ((((xa.2.2.2.1.length : Nat) : Int)) = 1)) with hc200 | hc200
        · skip
          refine J.run rfl rfl rfl hc200 ?_
          refine J.val rfl rfl (V.fad Try.underlying24 rfl nz22 rfl) ?_
          refine J.run rfl rfl rfl hc200 ?_
          refine J.val (v := .slice adxa_4 xa.2.2.2.2.1.length cpxa_4) rfl rfl (V.ld rfl (Ld.sc sc22 (Rd.cl 0 rfl rfl))) ?_
          refine J.run rfl rfl rfl hc200 ?_
          refine J.val (v := .int .i64 (((xa.2.2.2.2.1.length : Nat) : Int))) rfl rfl (V.len Try.underlying22 rfl) ?_
          refine J.run rfl rfl rfl hc200 ?_
          refine J.val (v := .bool (decide ((((xa.2.2.2.2.1.length : Nat) : Int)) = 0))) rfl rfl (V.eql rfl rfl) ?_
          refine J.val (v := .bool (decide ((((xa.2.2.2.2.1.length : Nat) : Int)) = 0))) rfl rfl (V.pickT rfl hc200 rfl) ?_
          refine J.nil ?_
          exact ⟨rfl, ⟨(by simp only [hc200]; rfl), rfl, trivial⟩, rfl, rfl⟩
        · skip
          refine J.skip rfl rfl rfl rfl hc200 ?_
          refine J.skip rfl rfl rfl rfl hc200 ?_
          refine J.skip rfl rfl rfl rfl hc200 ?_
          refine J.skip rfl rfl rfl rfl hc200 ?_
          refine J.val (v := .bool false) rfl rfl (V.pickF rfl hc200 rfl) ?_
          refine J.nil ?_
          exact ⟨rfl, ⟨(by simp only [hc200]; rfl), rfl, trivial⟩, rfl, rfl⟩
      · rintro ρ _ _ ⟨hf, rfl, rfl⟩
        obtain ⟨ρ, rfl⟩ := hf.ex
        refine J.val (v := .bool ((decide ((((xa.2.2.2.1.length : Nat) : Int)) = 1)) && (decide ((((xa.2.2.2.2.1.length : Nat) : Int)) = 0)))) rfl rfl (V.mv rfl) ?_
        refine J.cut 4 ?_
        obtain ⟨t208, ht209, ho196⟩ := ob ho196
        refine @J.meet _ _ _ _ _ _ _ _ _ _ (fun ρ K' L' => Fits [(22, .bool t208), (1, .pointer (some ⟨b135, 0, none⟩))] ρ ∧ K = K' ∧ L' = Cl b135 24 [.int .i64 xa.1, .int .i64 xa.2.1, .int .i64 xa.2.2.1, .slice adxa_3 xa.2.2.2.1.length cpxa_3, .slice adxa_4 xa.2.2.2.2.1.length cpxa_4, .slice adxa_5 xa.2.2.2.2.2.length cpxa_5] :: F) ?_ ?_
        · skip
          rcases bt ((decide ((((xa.2.2.2.1.length : Nat) : Int)) = 1)) && (decide ((((xa.2.2.2.2.1.length : Nat) : Int)) = 0))) with hc210 | hc210
          · have ht209 := ct hc210 ht209
            refine J.run rfl rfl rfl hc210 ?_
            refine J.val (v := .agg #[.int .i64 xa.1, .int .i64 xa.2.1, .int .i64 xa.2.2.1, .slice adxa_3 xa.2.2.2.1.length cpxa_3, .slice adxa_4 xa.2.2.2.2.1.length cpxa_4, .slice adxa_5 xa.2.2.2.2.2.length cpxa_5]) rfl rfl (V.ld rfl (Ld.agg (cs := [.int .i64 xa.1, .int .i64 xa.2.1, .int .i64 xa.2.2.1, .slice adxa_3 xa.2.2.2.1.length cpxa_3, .slice adxa_4 xa.2.2.2.2.1.length cpxa_4, .slice adxa_5 xa.2.2.2.2.2.length cpxa_5]) Try.underlying24 sz24 rfl (Rd.cls 0 0 rfl rfl))) ?_
            refine J.run rfl rfl rfl hc210 ?_
            obtain ⟨r211, hr212, ht209⟩ := ob ht209
            refine J.op rfl (A.call (L1 := []) Try.call44 rfl (term_calls_ok fxa_3 fxa_4 fxa_5 hr212) rfl rfl) ?_
            rintro _ _ _ ⟨v214, _, rfl, ⟨⟨t213, rfl, rfl, rfl⟩, rfl⟩, _, rfl⟩
            refine J.run rfl rfl rfl hc210 ?_
            refine J.val (v := .bool (!t213)) rfl rfl (V.not rfl) ?_
            refine J.val (v := .bool (!t213)) rfl rfl (V.pickT rfl hc210 rfl) ?_
            refine J.nil ?_
            have e := Option.some.inj ht209
            subst e
            exact ⟨rfl, ⟨rfl, rfl, trivial⟩, rfl, rfl⟩
          · have ht209 := cf hc210 ht209
            refine J.skip rfl rfl rfl rfl hc210 ?_
            refine J.skip rfl rfl rfl rfl hc210 ?_
            refine J.skip rfl rfl rfl rfl hc210 ?_
            refine J.val (v := .bool false) rfl rfl (V.pickF rfl hc210 rfl) ?_
            refine J.nil ?_
            have e := Option.some.inj ht209
            subst e
            exact ⟨rfl, ⟨rfl, rfl, trivial⟩, rfl, rfl⟩
        · rintro ρ _ _ ⟨hf, rfl, rfl⟩
          obtain ⟨ρ, rfl⟩ := hf.ex
          refine J.val (v := .bool t208) rfl rfl (V.as rfl) ?_
          refine J.nil ?_
          have e := Option.some.inj ho196
          subst e
          exact ⟨rfl, ⟨t208, rfl, ⟨rfl, rfl, trivial⟩, rfl, rfl⟩⟩
    · have ho196 := cf hc197 ho196
      refine CJ.seq ?_
      refine CJ.region ?_
      refine J.val (v := .bool (decide (xa.1 = 2))) rfl rfl (V.eql rfl rfl) ?_
      refine J.val (v := .bool (decide (xa.1 = 2))) rfl rfl (V.as rfl) ?_
      refine J.nil ?_
      refine CJ.cond rfl (fun hc217 => ?_) (fun hc217 => ?_)
      · have ho196 := ct hc217 ho196
        refine CJ.region ?_
        refine J.val rfl rfl (V.fad Try.underlying24 rfl nz22 rfl) ?_
        refine J.val (v := .slice adxa_3 xa.2.2.2.1.length cpxa_3) rfl rfl (V.ld rfl (Ld.sc sc22 (Rd.cl 0 rfl rfl))) ?_
        refine J.val (v := .int .i64 (((xa.2.2.2.1.length : Nat) : Int))) rfl rfl (V.len Try.underlying22 rfl) ?_
        refine J.val (v := .bool (decide (0 < (((xa.2.2.2.1.length : Nat) : Int))))) rfl rfl (V.gtr rfl rfl) ?_
        refine J.val (v := .bool (decide (0 < (((xa.2.2.2.1.length : Nat) : Int))))) rfl rfl (V.mv rfl) ?_
        refine J.cut 4 ?_
        obtain ⟨t225, ht226, ho196⟩ := ob ho196
        refine @J.meet _ _ _ _ _ _ _ _ _ _ (fun ρ K' L' => Fits [(33, .bool t225), (1, .pointer (some ⟨b135, 0, none⟩))] ρ ∧ K = K' ∧ L' = Cl b135 24 [.int .i64 xa.1, .int .i64 xa.2.1, .int .i64 xa.2.2.1, .slice adxa_3 xa.2.2.2.1.length cpxa_3, .slice adxa_4 xa.2.2.2.2.1.length cpxa_4, .slice adxa_5 xa.2.2.2.2.2.length cpxa_5] :: F) ?_ ?_
        · skip
          rcases bt (decide (0 < (((xa.2.2.2.1.length : Nat) : Int)))) with hc227 | hc227
          · have ht226 := ct hc227 ht226
            refine J.run rfl rfl rfl hc227 ?_
            refine J.val (v := .agg #[.int .i64 xa.1, .int .i64 xa.2.1, .int .i64 xa.2.2.1, .slice adxa_3 xa.2.2.2.1.length cpxa_3, .slice adxa_4 xa.2.2.2.2.1.length cpxa_4, .slice adxa_5 xa.2.2.2.2.2.length cpxa_5]) rfl rfl (V.ld rfl (Ld.agg (cs := [.int .i64 xa.1, .int .i64 xa.2.1, .int .i64 xa.2.2.1, .slice adxa_3 xa.2.2.2.1.length cpxa_3, .slice adxa_4 xa.2.2.2.2.1.length cpxa_4, .slice adxa_5 xa.2.2.2.2.2.length cpxa_5]) Try.underlying24 sz24 rfl (Rd.cls 0 0 rfl rfl))) ?_
            refine J.run rfl rfl rfl hc227 ?_
            obtain ⟨r228, hr229, ht226⟩ := ob ht226
            refine J.op rfl (A.call (L1 := []) Try.call44 rfl (term_calls_ok fxa_3 fxa_4 fxa_5 hr229) rfl rfl) ?_
            rintro _ _ _ ⟨v231, _, rfl, ⟨⟨t230, rfl, rfl, rfl⟩, rfl⟩, _, rfl⟩
            refine J.run rfl rfl rfl hc227 ?_
            refine J.val (v := .bool (!t230)) rfl rfl (V.not rfl) ?_
            refine J.val (v := .bool (!t230)) rfl rfl (V.pickT rfl hc227 rfl) ?_
            refine J.nil ?_
            have e := Option.some.inj ht226
            subst e
            exact ⟨rfl, ⟨rfl, rfl, trivial⟩, rfl, rfl⟩
          · have ht226 := cf hc227 ht226
            refine J.skip rfl rfl rfl rfl hc227 ?_
            refine J.skip rfl rfl rfl rfl hc227 ?_
            refine J.skip rfl rfl rfl rfl hc227 ?_
            refine J.val (v := .bool false) rfl rfl (V.pickF rfl hc227 rfl) ?_
            refine J.nil ?_
            have e := Option.some.inj ht226
            subst e
            exact ⟨rfl, ⟨rfl, rfl, trivial⟩, rfl, rfl⟩
        · rintro ρ _ _ ⟨hf, rfl, rfl⟩
          obtain ⟨ρ, rfl⟩ := hf.ex
          refine J.val (v := .bool t225) rfl rfl (V.as rfl) ?_
          refine J.nil ?_
          have e := Option.some.inj ho196
          subst e
          exact ⟨rfl, ⟨t225, rfl, ⟨rfl, rfl, trivial⟩, rfl, rfl⟩⟩
      · have ho196 := cf hc217 ho196
        refine CJ.seq ?_
        refine CJ.region ?_
        refine J.val (v := .bool (decide (xa.1 = 3))) rfl rfl (V.eql rfl rfl) ?_
        refine J.val (v := .bool (decide (xa.1 = 3))) rfl rfl (V.as rfl) ?_
        refine J.nil ?_
        refine CJ.cond rfl (fun hc234 => ?_) (fun hc234 => ?_)
        · have ho196 := ct hc234 ho196
          refine CJ.region ?_
          refine J.val rfl rfl (V.fad Try.underlying24 rfl nz22 rfl) ?_
          refine J.val (v := .slice adxa_3 xa.2.2.2.1.length cpxa_3) rfl rfl (V.ld rfl (Ld.sc sc22 (Rd.cl 0 rfl rfl))) ?_
          refine J.val (v := .int .i64 (((xa.2.2.2.1.length : Nat) : Int))) rfl rfl (V.len Try.underlying22 rfl) ?_
          refine J.val (v := .bool (decide ((((xa.2.2.2.1.length : Nat) : Int)) = 0))) rfl rfl (V.eql rfl rfl) ?_
          refine J.val (v := .bool (decide ((((xa.2.2.2.1.length : Nat) : Int)) = 0))) rfl rfl (V.mv rfl) ?_
          refine J.cut 5 ?_
          refine @J.meet _ _ _ _ _ _ _ _ _ _ (fun ρ K' L' => Fits [(45, .bool ((decide ((((xa.2.2.2.1.length : Nat) : Int)) = 0)) && (decide ((((xa.2.2.2.2.1.length : Nat) : Int)) = 0)))), (1, .pointer (some ⟨b135, 0, none⟩))] ρ ∧ K = K' ∧ L' = Cl b135 24 [.int .i64 xa.1, .int .i64 xa.2.1, .int .i64 xa.2.2.1, .slice adxa_3 xa.2.2.2.1.length cpxa_3, .slice adxa_4 xa.2.2.2.2.1.length cpxa_4, .slice adxa_5 xa.2.2.2.2.2.length cpxa_5] :: F) ?_ ?_
          · skip
            rcases bt (decide ((((xa.2.2.2.1.length : Nat) : Int)) = 0)) with hc237 | hc237
            · skip
              refine J.run rfl rfl rfl hc237 ?_
              refine J.val rfl rfl (V.fad Try.underlying24 rfl nz22 rfl) ?_
              refine J.run rfl rfl rfl hc237 ?_
              refine J.val (v := .slice adxa_4 xa.2.2.2.2.1.length cpxa_4) rfl rfl (V.ld rfl (Ld.sc sc22 (Rd.cl 0 rfl rfl))) ?_
              refine J.run rfl rfl rfl hc237 ?_
              refine J.val (v := .int .i64 (((xa.2.2.2.2.1.length : Nat) : Int))) rfl rfl (V.len Try.underlying22 rfl) ?_
              refine J.run rfl rfl rfl hc237 ?_
              refine J.val (v := .bool (decide ((((xa.2.2.2.2.1.length : Nat) : Int)) = 0))) rfl rfl (V.eql rfl rfl) ?_
              refine J.val (v := .bool (decide ((((xa.2.2.2.2.1.length : Nat) : Int)) = 0))) rfl rfl (V.pickT rfl hc237 rfl) ?_
              refine J.nil ?_
              exact ⟨rfl, ⟨(by simp only [hc237]; rfl), rfl, trivial⟩, rfl, rfl⟩
            · skip
              refine J.skip rfl rfl rfl rfl hc237 ?_
              refine J.skip rfl rfl rfl rfl hc237 ?_
              refine J.skip rfl rfl rfl rfl hc237 ?_
              refine J.skip rfl rfl rfl rfl hc237 ?_
              refine J.val (v := .bool false) rfl rfl (V.pickF rfl hc237 rfl) ?_
              refine J.nil ?_
              exact ⟨rfl, ⟨(by simp only [hc237]; rfl), rfl, trivial⟩, rfl, rfl⟩
          · rintro ρ _ _ ⟨hf, rfl, rfl⟩
            obtain ⟨ρ, rfl⟩ := hf.ex
            refine J.val (v := .bool ((decide ((((xa.2.2.2.1.length : Nat) : Int)) = 0)) && (decide ((((xa.2.2.2.2.1.length : Nat) : Int)) = 0)))) rfl rfl (V.mv rfl) ?_
            refine J.cut 4 ?_
            obtain ⟨t245, ht246, ho196⟩ := ob ho196
            refine @J.meet _ _ _ _ _ _ _ _ _ _ (fun ρ K' L' => Fits [(50, .bool t245), (1, .pointer (some ⟨b135, 0, none⟩))] ρ ∧ K = K' ∧ L' = Cl b135 24 [.int .i64 xa.1, .int .i64 xa.2.1, .int .i64 xa.2.2.1, .slice adxa_3 xa.2.2.2.1.length cpxa_3, .slice adxa_4 xa.2.2.2.2.1.length cpxa_4, .slice adxa_5 xa.2.2.2.2.2.length cpxa_5] :: F) ?_ ?_
            · skip
              rcases bt ((decide ((((xa.2.2.2.1.length : Nat) : Int)) = 0)) && (decide ((((xa.2.2.2.2.1.length : Nat) : Int)) = 0))) with hc247 | hc247
              · have ht246 := ct hc247 ht246
                refine J.run rfl rfl rfl hc247 ?_
                refine J.val (v := .agg #[.int .i64 xa.1, .int .i64 xa.2.1, .int .i64 xa.2.2.1, .slice adxa_3 xa.2.2.2.1.length cpxa_3, .slice adxa_4 xa.2.2.2.2.1.length cpxa_4, .slice adxa_5 xa.2.2.2.2.2.length cpxa_5]) rfl rfl (V.ld rfl (Ld.agg (cs := [.int .i64 xa.1, .int .i64 xa.2.1, .int .i64 xa.2.2.1, .slice adxa_3 xa.2.2.2.1.length cpxa_3, .slice adxa_4 xa.2.2.2.2.1.length cpxa_4, .slice adxa_5 xa.2.2.2.2.2.length cpxa_5]) Try.underlying24 sz24 rfl (Rd.cls 0 0 rfl rfl))) ?_
                refine J.run rfl rfl rfl hc247 ?_
                obtain ⟨r248, hr249, ht246⟩ := ob ht246
                refine J.op rfl (A.call (L1 := []) Try.call44 rfl (term_calls_ok fxa_3 fxa_4 fxa_5 hr249) rfl rfl) ?_
                rintro _ _ _ ⟨v251, _, rfl, ⟨⟨t250, rfl, rfl, rfl⟩, rfl⟩, _, rfl⟩
                refine J.run rfl rfl rfl hc247 ?_
                refine J.val (v := .bool (!t250)) rfl rfl (V.not rfl) ?_
                refine J.val (v := .bool (!t250)) rfl rfl (V.pickT rfl hc247 rfl) ?_
                refine J.nil ?_
                have e := Option.some.inj ht246
                subst e
                exact ⟨rfl, ⟨rfl, rfl, trivial⟩, rfl, rfl⟩
              · have ht246 := cf hc247 ht246
                refine J.skip rfl rfl rfl rfl hc247 ?_
                refine J.skip rfl rfl rfl rfl hc247 ?_
                refine J.skip rfl rfl rfl rfl hc247 ?_
                refine J.val (v := .bool false) rfl rfl (V.pickF rfl hc247 rfl) ?_
                refine J.nil ?_
                have e := Option.some.inj ht246
                subst e
                exact ⟨rfl, ⟨rfl, rfl, trivial⟩, rfl, rfl⟩
            · rintro ρ _ _ ⟨hf, rfl, rfl⟩
              obtain ⟨ρ, rfl⟩ := hf.ex
              refine J.val (v := .bool t245) rfl rfl (V.as rfl) ?_
              refine J.nil ?_
              have e := Option.some.inj ho196
              subst e
              exact ⟨rfl, ⟨t245, rfl, ⟨rfl, rfl, trivial⟩, rfl, rfl⟩⟩
        · have ho196 := cf hc234 ho196
          refine CJ.seq ?_
          refine CJ.region ?_
          refine J.val (v := .bool (decide (xa.1 = 4))) rfl rfl (V.eql rfl rfl) ?_
          refine J.val (v := .bool (decide (xa.1 = 4))) rfl rfl (V.as rfl) ?_
          refine J.nil ?_
          refine CJ.cond rfl (fun hc254 => ?_) (fun hc254 => ?_)
          · have ho196 := ct hc254 ho196
            refine CJ.region ?_
            refine J.val rfl rfl (V.fad Try.underlying24 rfl nz22 rfl) ?_
            refine J.val (v := .slice adxa_3 xa.2.2.2.1.length cpxa_3) rfl rfl (V.ld rfl (Ld.sc sc22 (Rd.cl 0 rfl rfl))) ?_
            refine J.val (v := .int .i64 (((xa.2.2.2.1.length : Nat) : Int))) rfl rfl (V.len Try.underlying22 rfl) ?_
            refine J.val (v := .bool (decide ((((xa.2.2.2.1.length : Nat) : Int)) = 1))) rfl rfl (V.eql rfl rfl) ?_
            refine J.val (v := .bool (decide ((((xa.2.2.2.1.length : Nat) : Int)) = 1))) rfl rfl (V.as rfl) ?_
            refine J.nil ?_
            have e := Option.some.inj ho196
            subst e
            exact ⟨rfl, ⟨decide ((((xa.2.2.2.1.length : Nat) : Int)) = 1), rfl, ⟨rfl, rfl, trivial⟩, rfl, rfl⟩⟩
          · have ho196 := cf hc254 ho196
            refine CJ.skip ?_
            have e := Option.some.inj ho196
            subst e
            exact ⟨rfl, ⟨false, rfl, ⟨rfl, rfl, trivial⟩, rfl, rfl⟩⟩
  · rintro ρ _ _ ⟨t194, rfl, hf255, rfl, rfl⟩
    obtain ⟨ρ, rfl⟩ := hf255.ex
    refine PJ.done ?_
    refine CJ.seq ?_
    refine CJ.seq ?_
    refine CJ.region ?_
    refine J.val (v := .bool t194) rfl rfl (V.mv rfl) ?_
    refine J.val (v := .bool (!t194)) rfl rfl (V.not rfl) ?_
    refine J.nil ?_
    refine CJ.cond rfl (fun hc257 => ?_) (fun hc257 => ?_)
    · have h := ct hc257 h
      refine CJ.seq ?_
      refine CJ.region ?_
      refine J.val (v := .int .i64 3) rfl rfl (V.as rfl) ?_
      refine J.nil ?_
      refine CJ.ret ?_
      have e := Option.some.inj h
      subst e
      exact ⟨_, [], Res.one rfl rfl, ⟨3, rfl, rfl, rfl⟩, (Hp.le_refl _), fun w hs => (Sep.dropAt 0 rfl hs)⟩
    · have h := cf hc257 h
      refine CJ.skip ?_
      refine CJ.seq ?_
      refine CJ.seq ?_
      refine CJ.region ?_
      refine J.val rfl rfl (V.fad Try.underlying24 rfl nz22 rfl) ?_
      refine J.val (v := .slice adxa_3 xa.2.2.2.1.length cpxa_3) rfl rfl (V.ld rfl (Ld.sc sc22 (Rd.cl 0 rfl rfl))) ?_
      refine J.val (v := .int .i64 (((xa.2.2.2.1.length : Nat) : Int))) rfl rfl (V.len Try.underlying22 rfl) ?_
      refine J.val (v := .bool (decide (16 < (((xa.2.2.2.1.length : Nat) : Int))))) rfl rfl (V.gtr rfl rfl) ?_
      refine J.val (v := .bool (decide (16 < (((xa.2.2.2.1.length : Nat) : Int))))) rfl rfl (V.mv rfl) ?_
      refine J.cut 5 ?_
      refine @J.meet _ _ _ _ _ _ _ _ _ _ (fun ρ K' L' => Fits [(68, .bool ((decide (16 < (((xa.2.2.2.1.length : Nat) : Int)))) || (decide (16 < (((xa.2.2.2.2.1.length : Nat) : Int)))))), (1, .pointer (some ⟨b135, 0, none⟩))] ρ ∧ K = K' ∧ L' = Cl b135 24 [.int .i64 xa.1, .int .i64 xa.2.1, .int .i64 xa.2.2.1, .slice adxa_3 xa.2.2.2.1.length cpxa_3, .slice adxa_4 xa.2.2.2.2.1.length cpxa_4, .slice adxa_5 xa.2.2.2.2.2.length cpxa_5] :: F) ?_ ?_
      · skip
        rcases bt (decide (16 < (((xa.2.2.2.1.length : Nat) : Int)))) with hc260 | hc260
        · skip
          refine J.skip rfl rfl rfl rfl hc260 ?_
          refine J.skip rfl rfl rfl rfl hc260 ?_
          refine J.skip rfl rfl rfl rfl hc260 ?_
          refine J.skip rfl rfl rfl rfl hc260 ?_
          refine J.val (v := .bool true) rfl rfl (V.pickT rfl hc260 rfl) ?_
          refine J.nil ?_
          exact ⟨rfl, ⟨(by simp only [hc260]; rfl), rfl, trivial⟩, rfl, rfl⟩
        · skip
          refine J.run rfl rfl rfl hc260 ?_
          refine J.val rfl rfl (V.fad Try.underlying24 rfl nz22 rfl) ?_
          refine J.run rfl rfl rfl hc260 ?_
          refine J.val (v := .slice adxa_4 xa.2.2.2.2.1.length cpxa_4) rfl rfl (V.ld rfl (Ld.sc sc22 (Rd.cl 0 rfl rfl))) ?_
          refine J.run rfl rfl rfl hc260 ?_
          refine J.val (v := .int .i64 (((xa.2.2.2.2.1.length : Nat) : Int))) rfl rfl (V.len Try.underlying22 rfl) ?_
          refine J.run rfl rfl rfl hc260 ?_
          refine J.val (v := .bool (decide (16 < (((xa.2.2.2.2.1.length : Nat) : Int))))) rfl rfl (V.gtr rfl rfl) ?_
          refine J.val (v := .bool (decide (16 < (((xa.2.2.2.2.1.length : Nat) : Int))))) rfl rfl (V.pickF rfl hc260 rfl) ?_
          refine J.nil ?_
          exact ⟨rfl, ⟨(by simp only [hc260]; rfl), rfl, trivial⟩, rfl, rfl⟩
      · rintro ρ _ _ ⟨hf, rfl, rfl⟩
        obtain ⟨ρ, rfl⟩ := hf.ex
        refine J.val (v := .bool ((decide (16 < (((xa.2.2.2.1.length : Nat) : Int)))) || (decide (16 < (((xa.2.2.2.2.1.length : Nat) : Int)))))) rfl rfl (V.mv rfl) ?_
        refine J.cut 5 ?_
        refine @J.meet _ _ _ _ _ _ _ _ _ _ (fun ρ K' L' => Fits [(74, .bool (((decide (16 < (((xa.2.2.2.1.length : Nat) : Int)))) || (decide (16 < (((xa.2.2.2.2.1.length : Nat) : Int))))) || (decide (16 < (((xa.2.2.2.2.2.length : Nat) : Int))))))] ρ ∧ K = K' ∧ L' = Cl b135 24 [.int .i64 xa.1, .int .i64 xa.2.1, .int .i64 xa.2.2.1, .slice adxa_3 xa.2.2.2.1.length cpxa_3, .slice adxa_4 xa.2.2.2.2.1.length cpxa_4, .slice adxa_5 xa.2.2.2.2.2.length cpxa_5] :: F) ?_ ?_
        · skip
          rcases bt ((decide (16 < (((xa.2.2.2.1.length : Nat) : Int)))) || (decide (16 < (((xa.2.2.2.2.1.length : Nat) : Int))))) with hc263 | hc263
          · skip
            refine J.skip rfl rfl rfl rfl hc263 ?_
            refine J.skip rfl rfl rfl rfl hc263 ?_
            refine J.skip rfl rfl rfl rfl hc263 ?_
            refine J.skip rfl rfl rfl rfl hc263 ?_
            refine J.val (v := .bool true) rfl rfl (V.pickT rfl hc263 rfl) ?_
            refine J.nil ?_
            exact ⟨rfl, ⟨(by simp only [hc263]; rfl), trivial⟩, rfl, rfl⟩
          · skip
            refine J.run rfl rfl rfl hc263 ?_
            refine J.val rfl rfl (V.fad Try.underlying24 rfl nz22 rfl) ?_
            refine J.run rfl rfl rfl hc263 ?_
            refine J.val (v := .slice adxa_5 xa.2.2.2.2.2.length cpxa_5) rfl rfl (V.ld rfl (Ld.sc sc22 (Rd.cl 0 rfl rfl))) ?_
            refine J.run rfl rfl rfl hc263 ?_
            refine J.val (v := .int .i64 (((xa.2.2.2.2.2.length : Nat) : Int))) rfl rfl (V.len Try.underlying22 rfl) ?_
            refine J.run rfl rfl rfl hc263 ?_
            refine J.val (v := .bool (decide (16 < (((xa.2.2.2.2.2.length : Nat) : Int))))) rfl rfl (V.gtr rfl rfl) ?_
            refine J.val (v := .bool (decide (16 < (((xa.2.2.2.2.2.length : Nat) : Int))))) rfl rfl (V.pickF rfl hc263 rfl) ?_
            refine J.nil ?_
            exact ⟨rfl, ⟨(by simp only [hc263]; rfl), trivial⟩, rfl, rfl⟩
        · rintro ρ _ _ ⟨hf, rfl, rfl⟩
          obtain ⟨ρ, rfl⟩ := hf.ex
          refine J.nil ?_
          refine CJ.cond rfl (fun hc264 => ?_) (fun hc264 => ?_)
          · have h := ct hc264 h
            refine CJ.seq ?_
            refine CJ.region ?_
            refine J.val (v := .int .i64 6) rfl rfl (V.as rfl) ?_
            refine J.nil ?_
            refine CJ.ret ?_
            have e := Option.some.inj h
            subst e
            exact ⟨_, [], Res.one rfl rfl, ⟨6, rfl, rfl, rfl⟩, (Hp.le_refl _), fun w hs => (Sep.dropAt 0 rfl hs)⟩
          · have h := cf hc264 h
            refine CJ.skip ?_
            refine CJ.seq ?_
            refine CJ.region ?_
            refine J.val (v := .int .i64 0) rfl rfl (V.as rfl) ?_
            refine J.nil ?_
            refine CJ.ret ?_
            have e := Option.some.inj h
            subst e
            exact ⟨_, [], Res.one rfl rfl, ⟨0, rfl, rfl, rfl⟩, (Hp.le_refl _), fun w hs => (Sep.dropAt 0 rfl hs)⟩
noncomputable def fn_leb_digits_l1  : (Int × Int) → Option ((Int × Int) ⊕ Int) := fun ((i53, i54) : (Int × Int)) => cond (decide (0 < i53)) (some (.inl ((Int.fdiv i53 (2 ^ (min (Int.toNat 8) (IntKind.bits .i64))), IntKind.wrap .i64 (i54 + 1))))) (some (.inr (i54)))
noncomputable def fn_leb_digits (xa : Int) : Option Int :=
  (loop (fn_leb_digits_l1) (xa, 0) : Option Int).bind fun i47 => some (i47)
set_option maxRecDepth 100000 in
set_option maxHeartbeats 4000000 in
theorem leb_digits_ok {K : Hp} {xa : Int}   {r : Int} (h : fn_leb_digits xa = some r) :
    Tr Try.prog 69 #[.int .i64 xa] K [] (fun v K' L' => (∃ (i33 : Int), i33 = r ∧ .int .i64 i33 = v ∧ L' = []) ∧ K = K') := by
  refine Tr.k ?_
  refine Tr.of Try.func69 rfl Try.ntmps69 rfl (fun E F => ?_)
  unfold fn_leb_digits at h
  refine CJ.seq ?_
  refine CJ.region ?_
  refine J.val (v := .int .i64 0) rfl rfl (V.as rfl) ?_
  refine J.nil ?_
  refine CJ.seq ?_
  refine CJ.region ?_
  refine J.val (v := .int .i64 0) rfl rfl (V.as rfl) ?_
  refine J.nil ?_
  refine CJ.seq ?_
  obtain ⟨o48, ho49, h⟩ := ob h
  refine CJ.meetN (fun ρ K' L' => ∃ (i47 : Int), i47 = o48 ∧ Fits [(3, .int .i64 i47)] ρ ∧ K = K' ∧ F = L') ?_ ?_
  · skip
    refine CJ.block ?_
    refine CJ.loop (fun s ρ K' L' => ∃ (i53 : Int) (i54 : Int), (i53, i54) = s ∧ Fits [(0, .int .i64 i53), (3, .int .i64 i54)] ρ ∧ K = K' ∧ F = L') ho49 ⟨xa, 0, rfl, ⟨rfl, rfl, trivial⟩, rfl, rfl⟩ ?_
    rintro s ρ _ _ r61 ⟨i53, i54, rfl, hf59, rfl, rfl⟩ h58
    obtain ⟨ρ, rfl⟩ := hf59.ex
    refine CJ.seq ?_
    refine CJ.seq ?_
    refine CJ.region ?_
    refine J.val (v := .int .i64 i53) rfl rfl (V.mv rfl) ?_
    refine J.val (v := .bool (decide (0 < i53))) rfl rfl (V.gtr rfl rfl) ?_
    refine J.nil ?_
    refine CJ.cond rfl (fun hc62 => ?_) (fun hc62 => ?_)
    · have h58 := ct hc62 h58
      refine CJ.skip ?_
      refine CJ.seq ?_
      refine CJ.block ?_
      refine CJ.region ?_
      refine J.val (v := .int .i64 i54) rfl rfl (V.mv rfl) ?_
      refine J.val (v := .int .i64 (IntKind.wrap .i64 (i54 + 1))) rfl rfl (V.add rfl rfl) ?_
      refine J.val (v := .int .i64 (IntKind.wrap .i64 (i54 + 1))) rfl rfl (V.as rfl) ?_
      refine J.nil ?_
      refine CJ.region ?_
      refine J.val (v := .int .i64 i53) rfl rfl (V.mv rfl) ?_
      refine J.val (v := .int .i64 (Int.fdiv i53 (2 ^ (min (Int.toNat 8) (IntKind.bits .i64))))) rfl rfl (V.shr rfl rfl (by decide)) ?_
      refine J.val (v := .int .i64 (Int.fdiv i53 (2 ^ (min (Int.toNat 8) (IntKind.bits .i64))))) rfl rfl (V.as rfl) ?_
      refine J.nil ?_
      have e := Option.some.inj h58
      subst e
      exact ⟨rfl, ⟨Int.fdiv i53 (2 ^ (min (Int.toNat 8) (IntKind.bits .i64))), IntKind.wrap .i64 (i54 + 1), rfl, ⟨rfl, rfl, trivial⟩, rfl, rfl⟩⟩
    · have h58 := cf hc62 h58
      refine CJ.exit ?_
      have e := Option.some.inj h58
      subst e
      refine ⟨nofun, fun e => ?_⟩
      subst e
      exact ⟨rfl, ⟨i54, rfl, ⟨rfl, trivial⟩, rfl, rfl⟩⟩
  · rintro ρ _ _ ⟨i47, rfl, hf63, rfl, rfl⟩
    obtain ⟨ρ, rfl⟩ := hf63.ex
    refine PJ.done ?_
    refine CJ.seq ?_
    refine CJ.region ?_
    refine J.val (v := .int .i64 i47) rfl rfl (V.mv rfl) ?_
    refine J.val (v := .int .i64 i47) rfl rfl (V.as rfl) ?_
    refine J.nil ?_
    refine CJ.ret ?_
    have e := Option.some.inj h
    subst e
    exact ⟨_, [], Res.one rfl rfl, ⟨i47, rfl, rfl, rfl⟩, (Hp.le_refl _), fun w hs => hs⟩

noncomputable def fn_leb_Size (xa : Int) : Option Int :=
  cond ((decide (xa < 0)) || (decide (4294967295 < xa))) (some (0)) (cond (decide (xa < 248)) (some (1)) ((fn_leb_digits xa).bind fun i21 => some (IntKind.wrap .i64 (1 + i21))))
set_option maxRecDepth 100000 in
set_option maxHeartbeats 4000000 in
theorem leb_Size_ok {K : Hp} {xa : Int}   {r : Int} (h : fn_leb_Size xa = some r) :
    Tr Try.prog 58 #[.int .i64 xa] K [] (fun v K' L' => (∃ (i13 : Int), i13 = r ∧ .int .i64 i13 = v ∧ L' = []) ∧ K = K') := by
  refine Tr.k ?_
  refine Tr.of Try.func58 rfl Try.ntmps58 rfl (fun E F => ?_)
  unfold fn_leb_Size at h
  refine CJ.seq ?_
  refine CJ.region ?_
  refine J.val (v := .int .i64 0) rfl rfl (V.as rfl) ?_
  refine J.nil ?_
  refine CJ.seq ?_
  refine CJ.block ?_
  refine CJ.seq ?_
  refine CJ.region ?_
  refine J.val (v := .int .i64 xa) rfl rfl (V.mv rfl) ?_
  refine J.val (v := .bool (decide (xa < 0))) rfl rfl (V.lss rfl rfl) ?_
  refine J.val (v := .bool (decide (xa < 0))) rfl rfl (V.mv rfl) ?_
  refine J.cut 3 ?_
  refine @J.meet _ _ _ _ _ _ _ _ _ _ (fun ρ K' L' => Fits [(9, .bool ((decide (xa < 0)) || (decide (4294967295 < xa)))), (0, .int .i64 xa)] ρ ∧ K = K' ∧ F = L') ?_ ?_
  · skip
    rcases bt (decide (xa < 0)) with hc16 | hc16
    · skip
      refine J.skip rfl rfl rfl rfl hc16 ?_
      refine J.skip rfl rfl rfl rfl hc16 ?_
      refine J.val (v := .bool true) rfl rfl (V.pickT rfl hc16 rfl) ?_
      refine J.nil ?_
      exact ⟨rfl, ⟨(by simp only [hc16]; rfl), rfl, trivial⟩, rfl, rfl⟩
    · skip
      refine J.run rfl rfl rfl hc16 ?_
      refine J.val (v := .int .i64 xa) rfl rfl (V.mv rfl) ?_
      refine J.run rfl rfl rfl hc16 ?_
      refine J.val (v := .bool (decide (4294967295 < xa))) rfl rfl (V.gtr rfl rfl) ?_
      refine J.val (v := .bool (decide (4294967295 < xa))) rfl rfl (V.pickF rfl hc16 rfl) ?_
      refine J.nil ?_
      exact ⟨rfl, ⟨(by simp only [hc16]; rfl), rfl, trivial⟩, rfl, rfl⟩
  · rintro ρ _ _ ⟨hf, rfl, rfl⟩
    obtain ⟨ρ, rfl⟩ := hf.ex
    refine J.val (v := .bool ((decide (xa < 0)) || (decide (4294967295 < xa)))) rfl rfl (V.as rfl) ?_
    refine J.nil ?_
    refine CJ.cond rfl (fun hc17 => ?_) (fun hc17 => ?_)
    · have h := ct hc17 h
      refine CJ.seq ?_
      refine CJ.region ?_
      refine J.val (v := .int .i64 0) rfl rfl (V.as rfl) ?_
      refine J.nil ?_
      refine CJ.ret ?_
      have e := Option.some.inj h
      subst e
      exact ⟨_, [], Res.one rfl rfl, ⟨0, rfl, rfl, rfl⟩, (Hp.le_refl _), fun w hs => hs⟩
    · have h := cf hc17 h
      refine CJ.seq ?_
      refine CJ.region ?_
      refine J.val (v := .int .i64 xa) rfl rfl (V.mv rfl) ?_
      refine J.val (v := .bool (decide (xa < 248))) rfl rfl (V.lss rfl rfl) ?_
      refine J.val (v := .bool (decide (xa < 248))) rfl rfl (V.as rfl) ?_
      refine J.nil ?_
      refine CJ.cond rfl (fun hc18 => ?_) (fun hc18 => ?_)
      · have h := ct hc18 h
        refine CJ.seq ?_
        refine CJ.region ?_
        refine J.val (v := .int .i64 1) rfl rfl (V.as rfl) ?_
        refine J.nil ?_
        refine CJ.ret ?_
        have e := Option.some.inj h
        subst e
        exact ⟨_, [], Res.one rfl rfl, ⟨1, rfl, rfl, rfl⟩, (Hp.le_refl _), fun w hs => hs⟩
      · have h := cf hc18 h
        refine CJ.skip ?_
        refine CJ.seq ?_
        refine CJ.region ?_
        refine J.val (v := .int .i64 xa) rfl rfl (V.mv rfl) ?_
        obtain ⟨r19, hr20, h⟩ := ob h
        refine J.op rfl (A.call (L1 := []) Try.call69 rfl (leb_digits_ok hr20) rfl rfl) ?_
        rintro _ _ _ ⟨v22, _, rfl, ⟨⟨i21, rfl, rfl, rfl⟩, rfl⟩, _, rfl⟩
        refine J.val (v := .int .i64 (IntKind.wrap .i64 (1 + i21))) rfl rfl (V.add rfl rfl) ?_
        refine J.val (v := .int .i64 (IntKind.wrap .i64 (1 + i21))) rfl rfl (V.as rfl) ?_
        refine J.nil ?_
        refine CJ.ret ?_
        have e := Option.some.inj h
        subst e
        exact ⟨_, [], Res.one rfl rfl, ⟨IntKind.wrap .i64 (1 + i21), rfl, rfl, rfl⟩, (Hp.le_refl _), fun w hs => hs⟩
noncomputable def fn_leb_All_l1 (x997 : Int) : (Int × List UInt8) → Option ((Int × List UInt8) ⊕ List UInt8) := fun ((i1059, s1060) : (Int × List UInt8)) => cond (decide (0 ≤ i1059)) ((ge0 i1059).bind fun u1074 => (wrB s1060 (IntKind.wrap .u8 (Int.fdiv x997 (2 ^ (min (Int.toNat i1059) (IntKind.bits .i64)))))).bind fun s1076 => some (.inl ((IntKind.wrap .i64 (i1059 - 8), s1076)))) (some (.inr (s1060)))
noncomputable def fn_leb_All_l2 (xa : (List Int)) : (Int × List UInt8) → Option ((Int × List UInt8) ⊕ List UInt8) := fun ((i903, s904) : (Int × List UInt8)) => cond (decide (i903 < (((xa.length : Nat) : Int)))) ((getI xa i903).bind fun x997 => (fn_leb_Size x997).bind fun i1008 => cond (decide (i1008 = 0)) (some (.inl ((IntKind.wrap .i64 (i903 + 1), s904)))) (cond (decide (i1008 = 1)) ((wrB s904 (IntKind.wrap .u8 x997)).bind fun s1014 => some (.inl ((IntKind.wrap .i64 (i903 + 1), s1014)))) ((wrB s904 (IntKind.wrap .u8 (IntKind.wrap .i64 ((IntKind.wrap .i64 (247 + i1008)) - 1)))).bind fun s1017 => (loop (fn_leb_All_l1 x997) ((IntKind.wrap .i64 (8 * (IntKind.wrap .i64 (i1008 - 2))), s1017)) : Option (List UInt8)).bind fun s1048 => some (.inl ((IntKind.wrap .i64 (i903 + 1), s1048)))))) (some (.inr (s904)))
noncomputable def fn_leb_All (xa : (List Int)) : Option (List UInt8) :=
  (loop (fn_leb_All_l2 xa) ((0, ([] : List UInt8))) : Option (List UInt8)).bind fun s813 => ((some s813 : Option (List UInt8))).bind fun s1083 => some (s1083)
set_option maxRecDepth 100000 in
set_option maxHeartbeats 4000000 in
theorem leb_All_ok {K : Hp} {xa : (List Int)} {adxa_0 : Option Addr} {cpxa_0 : Nat} (fxa_0 : Is K (.sl (.int .i64)) [.slice adxa_0 xa.length cpxa_0] xa) {r : List UInt8} (h : fn_leb_All xa = some r) :
    Tr Try.prog 40 #[.slice adxa_0 xa.length cpxa_0] K [] (fun v K' L' => (∃ (s546 : List UInt8), s546 = r ∧ .string ⟨s546.toArray⟩ = v ∧ L' = []) ∧ K = K') := by
  refine Tr.k ?_
  refine Tr.of Try.func40 rfl Try.ntmps40 rfl (fun E F => ?_)
  unfold fn_leb_All at h
  refine CJ.seq ?_
  refine CJ.region ?_
  refine J.val (v := .string ⟨([] : List UInt8).toArray⟩) rfl rfl (V.as rfl) ?_
  refine J.nil ?_
  refine CJ.seq ?_
  refine CJ.region ?_
  refine J.op rfl (A.alloc (cs := [.pointer none, .slice none 0 0]) inf82 rfl) ?_
  rintro _ _ _ ⟨b547, rfl, rfl, rfl⟩
  refine J.by (fun w hs => Bld.fresh hs) ?_
  refine J.nil ?_
  refine CJ.seq ?_
  refine CJ.seq ?_
  refine CJ.region ?_
  refine J.val (v := .slice adxa_0 xa.length cpxa_0) rfl rfl (V.mv rfl) ?_
  refine J.val (v := .int .i64 (((xa.length : Nat) : Int))) rfl rfl (V.len Try.underlying22 rfl) ?_
  refine J.val (v := .int .i64 0) rfl rfl (V.mv rfl) ?_
  refine J.nil ?_
  obtain ⟨o814, ho815, h⟩ := ob h
  refine CJ.meetN (fun ρ K' L' => ∃ (s813 : List UInt8), s813 = o814 ∧ Fits [(3, .pointer (some ⟨b547, 0, none⟩))] ρ ∧ K = K' ∧ L' = Bld b547 s813 :: F) ?_ ?_
  · skip
    refine CJ.block ?_
    refine CJ.loop (fun s ρ K' L' => ∃ (i903 : Int) (s904 : List UInt8), (i903, s904) = s ∧ Fits [(3, .pointer (some ⟨b547, 0, none⟩)), (8, .slice adxa_0 xa.length cpxa_0), (9, .int .i64 (((xa.length : Nat) : Int))), (10, .int .i64 i903)] ρ ∧ K = K' ∧ L' = Bld b547 s904 :: F) ho815 ⟨0, ([] : List UInt8), rfl, ⟨rfl, rfl, rfl, rfl, trivial⟩, rfl, rfl⟩ ?_
    rintro s ρ _ _ r995 ⟨i903, s904, rfl, hf993, rfl, rfl⟩ h992
    obtain ⟨ρ, rfl⟩ := hf993.ex
    refine CJ.seq ?_
    refine CJ.region ?_
    refine J.val (v := .bool (decide (i903 < (((xa.length : Nat) : Int))))) rfl rfl (V.lss rfl rfl) ?_
    refine J.nil ?_
    refine CJ.seq ?_
    refine CJ.cond rfl (fun hc996 => ?_) (fun hc996 => ?_)
    · have h992 := ct hc996 h992
      refine CJ.skip ?_
      refine CJ.seq ?_
      refine CJ.block ?_
      refine CJ.seq ?_
      refine CJ.region ?_
      obtain ⟨x997, hx998, h992⟩ := ob h992
      obtain ⟨p999, p1000, p1001⟩ := getI_some hx998
      obtain ⟨b1002, o1003, e1004, a1005⟩ := (fxa_0).at p1000
      refine J.val rfl rfl (V.iad Try.underlying22 sz3 rfl e1004 rfl p999 p1001) ?_
      refine J.val (v := .int .i64 x997) rfl rfl (V.ld rfl (Ld.sc sc3 (Rd.k (a1005).int (Hp.le_refl _)))) ?_
      refine J.val (v := .int .i64 x997) rfl rfl (V.as rfl) ?_
      refine J.nil ?_
      refine CJ.seq ?_
      refine CJ.region ?_
      refine J.val (v := .int .i64 x997) rfl rfl (V.mv rfl) ?_
      obtain ⟨r1006, hr1007, h992⟩ := ob h992
      refine J.op rfl (A.call (L1 := []) Try.call58 rfl (leb_Size_ok hr1007) rfl rfl) ?_
      rintro _ _ _ ⟨v1009, _, rfl, ⟨⟨i1008, rfl, rfl, rfl⟩, rfl⟩, _, rfl⟩
      refine J.val (v := .int .i64 i1008) rfl rfl (V.as rfl) ?_
      refine J.nil ?_
      refine CJ.seq ?_
      refine CJ.region ?_
      refine J.val (v := .int .i64 i1008) rfl rfl (V.mv rfl) ?_
      refine J.nil ?_
      refine CJ.block ?_
      refine CJ.seq ?_
      refine CJ.region ?_
      refine J.val (v := .bool (decide (i1008 = 0))) rfl rfl (V.eql rfl rfl) ?_
      refine J.val (v := .bool (decide (i1008 = 0))) rfl rfl (V.as rfl) ?_
      refine J.nil ?_
      refine CJ.cond rfl (fun hc1012 => ?_) (fun hc1012 => ?_)
      · have h992 := ct hc1012 h992
        refine CJ.skip ?_
        refine CJ.region ?_
        refine J.val (v := .int .i64 (IntKind.wrap .i64 (i903 + 1))) rfl rfl (V.add rfl rfl) ?_
        refine J.val (v := .int .i64 (IntKind.wrap .i64 (i903 + 1))) rfl rfl (V.mv rfl) ?_
        refine J.nil ?_
        have e := Option.some.inj h992
        subst e
        exact ⟨rfl, ⟨IntKind.wrap .i64 (i903 + 1), s904, rfl, ⟨rfl, rfl, rfl, rfl, trivial⟩, rfl, rfl⟩⟩
      · have h992 := cf hc1012 h992
        refine CJ.seq ?_
        refine CJ.region ?_
        refine J.val (v := .bool (decide (i1008 = 1))) rfl rfl (V.eql rfl rfl) ?_
        refine J.val (v := .bool (decide (i1008 = 1))) rfl rfl (V.as rfl) ?_
        refine J.nil ?_
        refine CJ.cond rfl (fun hc1013 => ?_) (fun hc1013 => ?_)
        · have h992 := ct hc1013 h992
          refine CJ.region ?_
          refine J.val (v := .int .i64 x997) rfl rfl (V.mv rfl) ?_
          refine J.val (v := .int .u8 (IntKind.wrap .u8 x997)) rfl rfl (V.conv Try.underlying3 Try.underlying5 rfl) ?_
          obtain ⟨s1014, hs1015, h992⟩ := ob h992
          refine J.op rfl (A.call (L1 := [Bld b547 s904]) Try.call59 rfl (WriteByte_ok hs1015) rfl rfl) ?_
          rintro _ _ _ ⟨v1016, _, rfl, ⟨⟨s1014, rfl, rfl, rfl⟩, rfl⟩, _, rfl⟩
          refine J.nil ?_
          refine CJ.region ?_
          refine J.val (v := .int .i64 (IntKind.wrap .i64 (i903 + 1))) rfl rfl (V.add rfl rfl) ?_
          refine J.val (v := .int .i64 (IntKind.wrap .i64 (i903 + 1))) rfl rfl (V.mv rfl) ?_
          refine J.nil ?_
          have e := Option.some.inj h992
          subst e
          exact ⟨rfl, ⟨IntKind.wrap .i64 (i903 + 1), s1014, rfl, ⟨rfl, rfl, rfl, rfl, trivial⟩, rfl, rfl⟩⟩
        · have h992 := cf hc1013 h992
          refine CJ.seq ?_
          refine CJ.region ?_
          refine J.val (v := .int .i64 i1008) rfl rfl (V.mv rfl) ?_
          refine J.val (v := .int .i64 (IntKind.wrap .i64 (247 + i1008))) rfl rfl (V.add rfl rfl) ?_
          refine J.val (v := .int .i64 (IntKind.wrap .i64 ((IntKind.wrap .i64 (247 + i1008)) - 1))) rfl rfl (V.sub rfl rfl) ?_
          refine J.val (v := .int .u8 (IntKind.wrap .u8 (IntKind.wrap .i64 ((IntKind.wrap .i64 (247 + i1008)) - 1)))) rfl rfl (V.conv Try.underlying3 Try.underlying5 rfl) ?_
          obtain ⟨s1017, hs1018, h992⟩ := ob h992
          refine J.op rfl (A.call (L1 := [Bld b547 s904]) Try.call59 rfl (WriteByte_ok hs1018) rfl rfl) ?_
          rintro _ _ _ ⟨v1019, _, rfl, ⟨⟨s1017, rfl, rfl, rfl⟩, rfl⟩, _, rfl⟩
          refine J.nil ?_
          refine CJ.seq ?_
          refine CJ.region ?_
          refine J.val (v := .int .i64 i1008) rfl rfl (V.mv rfl) ?_
          refine J.val (v := .int .i64 (IntKind.wrap .i64 (i1008 - 2))) rfl rfl (V.sub rfl rfl) ?_
          refine J.val (v := .int .i64 (IntKind.wrap .i64 (8 * (IntKind.wrap .i64 (i1008 - 2))))) rfl rfl (V.mul rfl rfl) ?_
          refine J.val (v := .int .i64 (IntKind.wrap .i64 (8 * (IntKind.wrap .i64 (i1008 - 2))))) rfl rfl (V.as rfl) ?_
          refine J.nil ?_
          obtain ⟨o1049, ho1050, h992⟩ := ob h992
          refine CJ.meetN (fun ρ K' L' => ∃ (s1048 : List UInt8), s1048 = o1049 ∧ Fits [(3, .pointer (some ⟨b547, 0, none⟩)), (8, .slice adxa_0 xa.length cpxa_0), (9, .int .i64 (((xa.length : Nat) : Int))), (10, .int .i64 i903)] ρ ∧ K = K' ∧ L' = Bld b547 s1048 :: F) ?_ ?_
          · skip
            refine CJ.block ?_
            refine CJ.loop (fun s ρ K' L' => ∃ (i1059 : Int) (s1060 : List UInt8), (i1059, s1060) = s ∧ Fits [(3, .pointer (some ⟨b547, 0, none⟩)), (5, .int .i64 x997), (7, .int .i64 i1059), (8, .slice adxa_0 xa.length cpxa_0), (9, .int .i64 (((xa.length : Nat) : Int))), (10, .int .i64 i903)] ρ ∧ K = K' ∧ L' = Bld b547 s1060 :: F) ho1050 ⟨IntKind.wrap .i64 (8 * (IntKind.wrap .i64 (i1008 - 2))), s1017, rfl, ⟨rfl, rfl, rfl, rfl, rfl, rfl, trivial⟩, rfl, rfl⟩ ?_
            rintro s ρ _ _ r1072 ⟨i1059, s1060, rfl, hf1070, rfl, rfl⟩ h1069
            obtain ⟨ρ, rfl⟩ := hf1070.ex
            refine CJ.seq ?_
            refine CJ.seq ?_
            refine CJ.region ?_
            refine J.val (v := .int .i64 i1059) rfl rfl (V.mv rfl) ?_
            refine J.val (v := .bool (decide (0 ≤ i1059))) rfl rfl (V.geq rfl rfl) ?_
            refine J.nil ?_
            refine CJ.cond rfl (fun hc1073 => ?_) (fun hc1073 => ?_)
            · have h1069 := ct hc1073 h1069
              refine CJ.skip ?_
              refine CJ.seq ?_
              refine CJ.block ?_
              refine CJ.region ?_
              refine J.val (v := .int .i64 x997) rfl rfl (V.mv rfl) ?_
              refine J.val (v := .int .i64 i1059) rfl rfl (V.mv rfl) ?_
              obtain ⟨u1074, hu1075, h1069⟩ := ob h1069
              refine J.val (v := .int .i64 (Int.fdiv x997 (2 ^ (min (Int.toNat i1059) (IntKind.bits .i64))))) rfl rfl (V.shr rfl rfl (ge0_some hu1075)) ?_
              refine J.val (v := .int .u8 (IntKind.wrap .u8 (Int.fdiv x997 (2 ^ (min (Int.toNat i1059) (IntKind.bits .i64)))))) rfl rfl (V.conv Try.underlying3 Try.underlying5 rfl) ?_
              obtain ⟨s1076, hs1077, h1069⟩ := ob h1069
              refine J.op rfl (A.call (L1 := [Bld b547 s1060]) Try.call59 rfl (WriteByte_ok hs1077) rfl rfl) ?_
              rintro _ _ _ ⟨v1078, _, rfl, ⟨⟨s1076, rfl, rfl, rfl⟩, rfl⟩, _, rfl⟩
              refine J.nil ?_
              refine CJ.region ?_
              refine J.val (v := .int .i64 i1059) rfl rfl (V.mv rfl) ?_
              refine J.val (v := .int .i64 (IntKind.wrap .i64 (i1059 - 8))) rfl rfl (V.sub rfl rfl) ?_
              refine J.val (v := .int .i64 (IntKind.wrap .i64 (i1059 - 8))) rfl rfl (V.as rfl) ?_
              refine J.nil ?_
              have e := Option.some.inj h1069
              subst e
              exact ⟨rfl, ⟨IntKind.wrap .i64 (i1059 - 8), s1076, rfl, ⟨rfl, rfl, rfl, rfl, rfl, rfl, trivial⟩, rfl, rfl⟩⟩
            · have h1069 := cf hc1073 h1069
              refine CJ.exit ?_
              have e := Option.some.inj h1069
              subst e
              refine ⟨nofun, fun e => ?_⟩
              subst e
              exact ⟨rfl, ⟨s1060, rfl, ⟨rfl, rfl, rfl, rfl, trivial⟩, rfl, rfl⟩⟩
          · rintro ρ _ _ ⟨s1048, rfl, hf1079, rfl, rfl⟩
            obtain ⟨ρ, rfl⟩ := hf1079.ex
            refine PJ.done ?_
            refine CJ.region ?_
            refine J.val (v := .int .i64 (IntKind.wrap .i64 (i903 + 1))) rfl rfl (V.add rfl rfl) ?_
            refine J.val (v := .int .i64 (IntKind.wrap .i64 (i903 + 1))) rfl rfl (V.mv rfl) ?_
            refine J.nil ?_
            have e := Option.some.inj h992
            subst e
            exact ⟨rfl, ⟨IntKind.wrap .i64 (i903 + 1), s1048, rfl, ⟨rfl, rfl, rfl, rfl, trivial⟩, rfl, rfl⟩⟩
    · have h992 := cf hc996 h992
      refine CJ.exit ?_
      have e := Option.some.inj h992
      subst e
      refine ⟨nofun, fun e => ?_⟩
      subst e
      exact ⟨rfl, ⟨s904, rfl, ⟨rfl, trivial⟩, rfl, rfl⟩⟩
  · rintro ρ _ _ ⟨s813, rfl, hf1081, rfl, rfl⟩
    obtain ⟨ρ, rfl⟩ := hf1081.ex
    refine PJ.done ?_
    refine CJ.seq ?_
    refine CJ.region ?_
    obtain ⟨s1083, hs1084, h⟩ := ob h
    refine J.op rfl (A.call (L1 := [Bld b547 s813]) Try.call41 rfl (BString_ok hs1084) rfl rfl) ?_
    rintro _ _ _ ⟨v1085, _, rfl, ⟨⟨s1083, rfl, rfl, rfl⟩, rfl⟩, _, rfl⟩
    refine J.val (v := .string ⟨s1083.toArray⟩) rfl rfl (V.as rfl) ?_
    refine J.nil ?_
    refine CJ.ret ?_
    have e := Option.some.inj h
    subst e
    exact ⟨_, [], Res.one rfl rfl, ⟨s1083, rfl, rfl, rfl⟩, (Hp.le_refl _), fun w hs => hs⟩

noncomputable def fn_leb_Put (xa : Int) : Option (List UInt8) :=
  (fn_leb_All ([xa] : List Int)).bind fun s23 => some (s23)
set_option maxRecDepth 100000 in
set_option maxHeartbeats 4000000 in
theorem leb_Put_ok {K : Hp} {xa : Int}   {r : List UInt8} (h : fn_leb_Put xa = some r) :
    Tr Try.prog 38 #[.int .i64 xa] K [] (fun v K' L' => (∃ (s14 : List UInt8), s14 = r ∧ .string ⟨s14.toArray⟩ = v ∧ L' = []) ∧ K = K') := by
  refine Tr.k ?_
  refine Tr.of Try.func38 rfl Try.ntmps38 rfl (fun E F => ?_)
  unfold fn_leb_Put at h
  refine CJ.seq ?_
  refine CJ.region ?_
  refine J.val (v := .string ⟨([] : List UInt8).toArray⟩) rfl rfl (V.as rfl) ?_
  refine J.nil ?_
  refine CJ.seq ?_
  refine CJ.region ?_
  refine J.val (v := .int .i64 xa) rfl rfl (V.mv rfl) ?_
  refine J.op rfl (A.lit (K0 := Hp.nil) (ty := (.int .i64)) (xs := ([xa] : List Int)) Try.underlying22 inf3 rfl (by decide) rfl rfl rfl ⟨_, _, rfl, rfl, rfl⟩ rfl (by decide)) ?_
  rintro _ _ _ ⟨b15, rfl, rfl, rfl⟩
  have hn16 : ([xa] : List Int) ≠ [] → ∃ g, (some ⟨b15, 0, none⟩ : Option Addr) = some ⟨g, 0, none⟩ := fun _ => ⟨b15, rfl⟩
  obtain ⟨r18, hr19, h⟩ := ob h
  refine J.op rfl (A.call (L1 := [Row Hp.nil 3 (.int .i64) (.slice (some ⟨b15, 0, none⟩) (([xa] : List Int).length) 1) ([xa] : List Int)]) Try.call40 rfl (Tr.lend (Hp.nil_le _) (by decide) (fun K20 hK21 f22 => leb_All_ok f22 hr19)) rfl rfl) ?_
  rintro _ _ _ ⟨v24, _, rfl, ⟨⟨_, ⟨s23, rfl, rfl, rfl⟩, rfl⟩, rfl⟩, _, rfl⟩
  refine J.val (v := .string ⟨s23.toArray⟩) rfl rfl (V.as rfl) ?_
  refine J.nil ?_
  refine CJ.ret ?_
  have e := Option.some.inj h
  subst e
  exact ⟨_, [], Res.one rfl rfl, ⟨s23, rfl, rfl, rfl⟩, (Hp.le_refl _), fun w hs => (Sep.dropAt 0 rfl hs)⟩

noncomputable def fn_term_putList (xa : (List Int)) : Option (List UInt8) :=
  (fn_leb_Put (((xa.length : Nat) : Int))).bind fun s18 => (fn_leb_All xa).bind fun s24 => (app s18 s24).bind fun z28 => some (z28)
set_option maxRecDepth 100000 in
set_option maxHeartbeats 4000000 in
theorem term_putList_ok {K : Hp} {xa : (List Int)} {adxa_0 : Option Addr} {cpxa_0 : Nat} (fxa_0 : Is K (.sl (.int .i64)) [.slice adxa_0 xa.length cpxa_0] xa) {r : List UInt8} (h : fn_term_putList xa = some r) :
    Tr Try.prog 39 #[.slice adxa_0 xa.length cpxa_0] K [] (fun v K' L' => (∃ (s15 : List UInt8), s15 = r ∧ .string ⟨s15.toArray⟩ = v ∧ L' = []) ∧ K = K') := by
  refine Tr.k ?_
  refine Tr.of Try.func39 rfl Try.ntmps39 rfl (fun E F => ?_)
  unfold fn_term_putList at h
  refine CJ.seq ?_
  refine CJ.region ?_
  refine J.val (v := .string ⟨([] : List UInt8).toArray⟩) rfl rfl (V.as rfl) ?_
  refine J.nil ?_
  refine CJ.seq ?_
  refine CJ.region ?_
  refine J.val (v := .slice adxa_0 xa.length cpxa_0) rfl rfl (V.mv rfl) ?_
  refine J.val (v := .int .i64 (((xa.length : Nat) : Int))) rfl rfl (V.len Try.underlying22 rfl) ?_
  obtain ⟨r16, hr17, h⟩ := ob h
  refine J.op rfl (A.call (L1 := []) Try.call38 rfl (leb_Put_ok hr17) rfl rfl) ?_
  rintro _ _ _ ⟨v19, _, rfl, ⟨⟨s18, rfl, rfl, rfl⟩, rfl⟩, _, rfl⟩
  refine J.val (v := .slice adxa_0 xa.length cpxa_0) rfl rfl (V.mv rfl) ?_
  obtain ⟨r22, hr23, h⟩ := ob h
  refine J.op rfl (A.call (L1 := []) Try.call40 rfl (leb_All_ok fxa_0 hr23) rfl rfl) ?_
  rintro _ _ _ ⟨v25, _, rfl, ⟨⟨s24, rfl, rfl, rfl⟩, rfl⟩, _, rfl⟩
  obtain ⟨z28, hz29, h⟩ := ob h
  refine J.val (v := .string ⟨z28.toArray⟩) rfl rfl (V.cat rfl rfl hz29) ?_
  refine J.val (v := .string ⟨z28.toArray⟩) rfl rfl (V.as rfl) ?_
  refine J.nil ?_
  refine CJ.ret ?_
  have e := Option.some.inj h
  subst e
  exact ⟨_, [], Res.one rfl rfl, ⟨z28, rfl, rfl, rfl⟩, (Hp.le_refl _), fun w hs => hs⟩

noncomputable def fn_term_Put (xa : (Int × Int × Int × (List Int) × (List Int) × (List Int))) : Option (List UInt8 × Int) :=
  (fn_term_form (xa.1, xa.2.1, xa.2.2.1, xa.2.2.2.1, xa.2.2.2.2.1, xa.2.2.2.2.2)).bind fun i141 => cond (!decide (i141 = 0)) (some ((([] : List UInt8), i141))) ((fn_leb_Put xa.1).bind fun s149 => (wrS ([] : List UInt8) s149).bind fun s153 => cond (decide (xa.1 = 1)) ((getI xa.2.2.2.1 0).bind fun x157 => (fn_leb_Put x157).bind fun s168 => (wrS s153 s168).bind fun s172 => ((some s172 : Option (List UInt8))).bind fun s175 => some ((s175, 0))) (cond (decide (xa.1 = 2)) ((fn_term_putList xa.2.2.2.1).bind fun s181 => (wrS s153 s181).bind fun s185 => (fn_term_putList xa.2.2.2.2.1).bind fun s190 => (wrS s185 s190).bind fun s194 => ((some s194 : Option (List UInt8))).bind fun s197 => some ((s197, 0))) (cond (decide (xa.1 = 4)) ((getI xa.2.2.2.1 0).bind fun x225 => (fn_leb_All ([xa.2.1, xa.2.2.1, x225] : List Int)).bind fun s242 => (wrS s153 s242).bind fun s246 => (fn_term_putList xa.2.2.2.2.2).bind fun s251 => (wrS s246 s251).bind fun s255 => (fn_term_putList xa.2.2.2.2.1).bind fun s260 => (wrS s255 s260).bind fun s264 => ((some s264 : Option (List UInt8))).bind fun s267 => some ((s267, 0))) (((some s153 : Option (List UInt8))).bind fun s270 => some ((s270, 0))))))
set_option maxRecDepth 100000 in
set_option maxHeartbeats 4000000 in
theorem term_Put_ok {K : Hp} {xa : (Int × Int × Int × (List Int) × (List Int) × (List Int))} {adxa_3 : Option Addr} {cpxa_3 : Nat} {adxa_4 : Option Addr} {cpxa_4 : Nat} {adxa_5 : Option Addr} {cpxa_5 : Nat} (fxa_3 : Is K (.sl (.int .i64)) [.slice adxa_3 xa.2.2.2.1.length cpxa_3] xa.2.2.2.1) (fxa_4 : Is K (.sl (.int .i64)) [.slice adxa_4 xa.2.2.2.2.1.length cpxa_4] xa.2.2.2.2.1) (fxa_5 : Is K (.sl (.int .i64)) [.slice adxa_5 xa.2.2.2.2.2.length cpxa_5] xa.2.2.2.2.2) {r : (List UInt8 × Int)} (h : fn_term_Put xa = some r) :
    Tr Try.prog 18 #[.agg #[.int .i64 xa.1, .int .i64 xa.2.1, .int .i64 xa.2.2.1, .slice adxa_3 xa.2.2.2.1.length cpxa_3, .slice adxa_4 xa.2.2.2.2.1.length cpxa_4, .slice adxa_5 xa.2.2.2.2.2.length cpxa_5]] K [] (fun v K' L' => (∃ (s136 : List UInt8) (i137 : Int), (s136, i137) = r ∧ .tuple #[.string ⟨s136.toArray⟩, .int .i64 i137] = v ∧ L' = []) ∧ K = K') := by
  refine Tr.k ?_
  refine Tr.of Try.func18 rfl Try.ntmps18 rfl (fun E F => ?_)
  unfold fn_term_Put at h
  refine CJ.seq ?_
  refine CJ.region ?_
  refine J.op rfl (A.box (v := .agg #[.int .i64 xa.1, .int .i64 xa.2.1, .int .i64 xa.2.2.1, .slice adxa_3 xa.2.2.2.1.length cpxa_3, .slice adxa_4 xa.2.2.2.2.1.length cpxa_4, .slice adxa_5 xa.2.2.2.2.2.length cpxa_5]) (cs := [.int .i64 xa.1, .int .i64 xa.2.1, .int .i64 xa.2.2.1, .slice adxa_3 xa.2.2.2.1.length cpxa_3, .slice adxa_4 xa.2.2.2.2.1.length cpxa_4, .slice adxa_5 xa.2.2.2.2.2.length cpxa_5]) rfl rfl) ?_
  rintro _ _ _ ⟨b138, rfl, rfl, rfl⟩
  refine J.val (v := .string ⟨([] : List UInt8).toArray⟩) rfl rfl (V.as rfl) ?_
  refine J.val (v := .int .i64 0) rfl rfl (V.as rfl) ?_
  refine J.nil ?_
  refine CJ.seq ?_
  refine CJ.seq ?_
  refine CJ.region ?_
  refine J.val (v := .agg #[.int .i64 xa.1, .int .i64 xa.2.1, .int .i64 xa.2.2.1, .slice adxa_3 xa.2.2.2.1.length cpxa_3, .slice adxa_4 xa.2.2.2.2.1.length cpxa_4, .slice adxa_5 xa.2.2.2.2.2.length cpxa_5]) rfl rfl (V.ld rfl (Ld.agg (cs := [.int .i64 xa.1, .int .i64 xa.2.1, .int .i64 xa.2.2.1, .slice adxa_3 xa.2.2.2.1.length cpxa_3, .slice adxa_4 xa.2.2.2.2.1.length cpxa_4, .slice adxa_5 xa.2.2.2.2.2.length cpxa_5]) Try.underlying24 sz24 rfl (Rd.cls 0 0 rfl rfl))) ?_
  obtain ⟨r139, hr140, h⟩ := ob h
  refine J.op rfl (A.call (L1 := []) Try.call22 rfl (term_form_ok fxa_3 fxa_4 fxa_5 hr140) rfl rfl) ?_
  rintro _ _ _ ⟨v142, _, rfl, ⟨⟨i141, rfl, rfl, rfl⟩, rfl⟩, _, rfl⟩
  refine J.val (v := .int .i64 i141) rfl rfl (V.as rfl) ?_
  refine J.nil ?_
  refine CJ.seq ?_
  refine CJ.region ?_
  refine J.val (v := .int .i64 i141) rfl rfl (V.mv rfl) ?_
  refine J.val (v := .bool (!decide (i141 = 0))) rfl rfl (V.neq rfl rfl) ?_
  refine J.nil ?_
  refine CJ.cond rfl (fun hc145 => ?_) (fun hc145 => ?_)
  · have h := ct hc145 h
    refine CJ.seq ?_
    refine CJ.region ?_
    refine J.val (v := .int .i64 i141) rfl rfl (V.mv rfl) ?_
    refine J.val (v := .string ⟨([] : List UInt8).toArray⟩) rfl rfl (V.as rfl) ?_
    refine J.val (v := .int .i64 i141) rfl rfl (V.as rfl) ?_
    refine J.nil ?_
    refine CJ.ret ?_
    have e := Option.some.inj h
    subst e
    exact ⟨_, [], Res.two rfl rfl rfl, ⟨([] : List UInt8), i141, rfl, rfl, rfl⟩, (Hp.le_refl _), fun w hs => (Sep.dropAt 0 rfl hs)⟩
  · have h := cf hc145 h
    refine CJ.skip ?_
    refine CJ.seq ?_
    refine CJ.region ?_
    refine J.op rfl (A.alloc (cs := [.pointer none, .slice none 0 0]) inf82 rfl) ?_
    rintro _ _ _ ⟨b146, rfl, rfl, rfl⟩
    refine J.by (fun w hs => Bld.fresh hs) ?_
    refine J.nil ?_
    refine CJ.seq ?_
    refine CJ.region ?_
    refine J.val rfl rfl (V.fad Try.underlying24 rfl nz3 rfl) ?_
    refine J.val (v := .int .i64 xa.1) rfl rfl (V.ld rfl (Ld.sc sc3 (Rd.cl 1 rfl rfl))) ?_
    obtain ⟨r147, hr148, h⟩ := ob h
    refine J.op rfl (A.call (L1 := []) Try.call38 rfl (leb_Put_ok hr148) rfl rfl) ?_
    rintro _ _ _ ⟨v150, _, rfl, ⟨⟨s149, rfl, rfl, rfl⟩, rfl⟩, _, rfl⟩
    obtain ⟨s153, hs154, h⟩ := ob h
    refine J.op rfl (A.call (L1 := [Bld b146 ([] : List UInt8)]) Try.call37 rfl (WriteString_ok hs154) rfl rfl) ?_
    rintro _ _ _ ⟨v155, _, rfl, ⟨⟨s153, rfl, rfl, rfl⟩, rfl⟩, _, rfl⟩
    refine J.nil ?_
    refine CJ.seq ?_
    refine CJ.seq ?_
    refine CJ.region ?_
    refine J.val rfl rfl (V.fad Try.underlying24 rfl nz3 rfl) ?_
    refine J.val (v := .int .i64 xa.1) rfl rfl (V.ld rfl (Ld.sc sc3 (Rd.cl 1 rfl rfl))) ?_
    refine J.nil ?_
    refine CJ.block ?_
    refine CJ.seq ?_
    refine CJ.region ?_
    refine J.val (v := .bool (decide (xa.1 = 1))) rfl rfl (V.eql rfl rfl) ?_
    refine J.val (v := .bool (decide (xa.1 = 1))) rfl rfl (V.as rfl) ?_
    refine J.nil ?_
    refine CJ.cond rfl (fun hc156 => ?_) (fun hc156 => ?_)
    · have h := ct hc156 h
      refine CJ.region ?_
      refine J.val rfl rfl (V.fad Try.underlying24 rfl nz22 rfl) ?_
      refine J.val (v := .slice adxa_3 xa.2.2.2.1.length cpxa_3) rfl rfl (V.ld rfl (Ld.sc sc22 (Rd.cl 1 rfl rfl))) ?_
      obtain ⟨x157, hx158, h⟩ := ob h
      obtain ⟨p159, p160, p161⟩ := getI_some hx158
      obtain ⟨b162, o163, e164, a165⟩ := (fxa_3).at p160
      refine J.val rfl rfl (V.iad Try.underlying22 sz3 rfl e164 rfl p159 p161) ?_
      refine J.val (v := .int .i64 x157) rfl rfl (V.ld rfl (Ld.sc sc3 (Rd.k (a165).int (Hp.le_refl _)))) ?_
      obtain ⟨r166, hr167, h⟩ := ob h
      refine J.op rfl (A.call (L1 := []) Try.call38 rfl (leb_Put_ok hr167) rfl rfl) ?_
      rintro _ _ _ ⟨v169, _, rfl, ⟨⟨s168, rfl, rfl, rfl⟩, rfl⟩, _, rfl⟩
      obtain ⟨s172, hs173, h⟩ := ob h
      refine J.op rfl (A.call (L1 := [Bld b146 s153]) Try.call37 rfl (WriteString_ok hs173) rfl rfl) ?_
      rintro _ _ _ ⟨v174, _, rfl, ⟨⟨s172, rfl, rfl, rfl⟩, rfl⟩, _, rfl⟩
      refine J.nil ?_
      refine CJ.seq ?_
      refine CJ.region ?_
      obtain ⟨s175, hs176, h⟩ := ob h
      refine J.op rfl (A.call (L1 := [Bld b146 s172]) Try.call41 rfl (BString_ok hs176) rfl rfl) ?_
      rintro _ _ _ ⟨v177, _, rfl, ⟨⟨s175, rfl, rfl, rfl⟩, rfl⟩, _, rfl⟩
      refine J.val (v := .string ⟨s175.toArray⟩) rfl rfl (V.as rfl) ?_
      refine J.val (v := .int .i64 0) rfl rfl (V.as rfl) ?_
      refine J.nil ?_
      refine CJ.ret ?_
      have e := Option.some.inj h
      subst e
      exact ⟨_, [], Res.two rfl rfl rfl, ⟨s175, 0, rfl, rfl, rfl⟩, (Hp.le_refl _), fun w hs => (Sep.dropAt 0 rfl hs)⟩
    · have h := cf hc156 h
      refine CJ.seq ?_
      refine CJ.region ?_
      refine J.val (v := .bool (decide (xa.1 = 2))) rfl rfl (V.eql rfl rfl) ?_
      refine J.val (v := .bool (decide (xa.1 = 2))) rfl rfl (V.as rfl) ?_
      refine J.nil ?_
      refine CJ.cond rfl (fun hc178 => ?_) (fun hc178 => ?_)
      · have h := ct hc178 h
        refine CJ.seq ?_
        refine CJ.region ?_
        refine J.val rfl rfl (V.fad Try.underlying24 rfl nz22 rfl) ?_
        refine J.val (v := .slice adxa_3 xa.2.2.2.1.length cpxa_3) rfl rfl (V.ld rfl (Ld.sc sc22 (Rd.cl 1 rfl rfl))) ?_
        obtain ⟨r179, hr180, h⟩ := ob h
        refine J.op rfl (A.call (L1 := []) Try.call39 rfl (term_putList_ok fxa_3 hr180) rfl rfl) ?_
        rintro _ _ _ ⟨v182, _, rfl, ⟨⟨s181, rfl, rfl, rfl⟩, rfl⟩, _, rfl⟩
        obtain ⟨s185, hs186, h⟩ := ob h
        refine J.op rfl (A.call (L1 := [Bld b146 s153]) Try.call37 rfl (WriteString_ok hs186) rfl rfl) ?_
        rintro _ _ _ ⟨v187, _, rfl, ⟨⟨s185, rfl, rfl, rfl⟩, rfl⟩, _, rfl⟩
        refine J.nil ?_
        refine CJ.region ?_
        refine J.val rfl rfl (V.fad Try.underlying24 rfl nz22 rfl) ?_
        refine J.val (v := .slice adxa_4 xa.2.2.2.2.1.length cpxa_4) rfl rfl (V.ld rfl (Ld.sc sc22 (Rd.cl 1 rfl rfl))) ?_
        obtain ⟨r188, hr189, h⟩ := ob h
        refine J.op rfl (A.call (L1 := []) Try.call39 rfl (term_putList_ok fxa_4 hr189) rfl rfl) ?_
        rintro _ _ _ ⟨v191, _, rfl, ⟨⟨s190, rfl, rfl, rfl⟩, rfl⟩, _, rfl⟩
        obtain ⟨s194, hs195, h⟩ := ob h
        refine J.op rfl (A.call (L1 := [Bld b146 s185]) Try.call37 rfl (WriteString_ok hs195) rfl rfl) ?_
        rintro _ _ _ ⟨v196, _, rfl, ⟨⟨s194, rfl, rfl, rfl⟩, rfl⟩, _, rfl⟩
        refine J.nil ?_
        refine CJ.seq ?_
        refine CJ.region ?_
        obtain ⟨s197, hs198, h⟩ := ob h
        refine J.op rfl (A.call (L1 := [Bld b146 s194]) Try.call41 rfl (BString_ok hs198) rfl rfl) ?_
        rintro _ _ _ ⟨v199, _, rfl, ⟨⟨s197, rfl, rfl, rfl⟩, rfl⟩, _, rfl⟩
        refine J.val (v := .string ⟨s197.toArray⟩) rfl rfl (V.as rfl) ?_
        refine J.val (v := .int .i64 0) rfl rfl (V.as rfl) ?_
        refine J.nil ?_
        refine CJ.ret ?_
        have e := Option.some.inj h
        subst e
        exact ⟨_, [], Res.two rfl rfl rfl, ⟨s197, 0, rfl, rfl, rfl⟩, (Hp.le_refl _), fun w hs => (Sep.dropAt 0 rfl hs)⟩
      · have h := cf hc178 h
        refine CJ.seq ?_
        refine CJ.region ?_
        refine J.val (v := .bool (decide (xa.1 = 4))) rfl rfl (V.eql rfl rfl) ?_
        refine J.val (v := .bool (decide (xa.1 = 4))) rfl rfl (V.as rfl) ?_
        refine J.nil ?_
        refine CJ.cond rfl (fun hc200 => ?_) (fun hc200 => ?_)
        · have h := ct hc200 h
          refine CJ.seq ?_
          refine CJ.mix [Cl b138 24 [.int .i64 xa.1, .int .i64 xa.2.1, .int .i64 xa.2.2.1, .slice adxa_3 xa.2.2.2.1.length cpxa_3, .slice adxa_4 xa.2.2.2.2.1.length cpxa_4, .slice adxa_5 xa.2.2.2.2.2.length cpxa_5]] [([0, 1, 2, 3, 4, 5, 6, 7], 8), ([], 9), ([], 10)] [] [] mixO (by decide +kernel) ⟨1, rfl, trivial⟩ rfl rfl rfl ?_
          refine JM.cons ?_
          refine JQ.val rfl rfl (V.fad Try.underlying24 rfl nz3 rfl) ?_
          refine JQ.val (v := .int .i64 xa.2.1) rfl rfl (V.ld rfl (Ld.sc sc3 (Rd.cl 0 rfl rfl))) ?_
          refine JQ.val rfl rfl (V.fad Try.underlying24 rfl nz3 rfl) ?_
          refine JQ.val (v := .int .i64 xa.2.2.1) rfl rfl (V.ld rfl (Ld.sc sc3 (Rd.cl 0 rfl rfl))) ?_
          refine JQ.val rfl rfl (V.fad Try.underlying24 rfl nz22 rfl) ?_
          refine JQ.val (v := .slice adxa_3 xa.2.2.2.1.length cpxa_3) rfl rfl (V.ld rfl (Ld.sc sc22 (Rd.cl 0 rfl rfl))) ?_
          obtain ⟨x225, hx226, h⟩ := ob h
          obtain ⟨p227, p228, p229⟩ := getI_some hx226
          obtain ⟨b230, o231, e232, a233⟩ := (fxa_3).at p228
          refine JQ.val rfl rfl (V.iad Try.underlying22 sz3 rfl e232 rfl p227 p229) ?_
          refine JQ.val (v := .int .i64 x225) rfl rfl (V.ld rfl (Ld.sc sc3 (Rd.k (a233).int (Hp.le_refl _)))) ?_
          refine JQ.nil ?_
          refine JA.op rfl (A.lit (K0 := Hp.nil) (ty := (.int .i64)) (xs := ([xa.2.1, xa.2.2.1, x225] : List Int)) Try.underlying22 inf3 rfl (by decide) rfl rfl rfl ⟨_, _, rfl, rfl, ⟨_, _, rfl, rfl, ⟨_, _, rfl, rfl, rfl⟩⟩⟩ rfl (by decide)) ?_
          rintro _ _ _ ⟨b234, rfl, rfl, rfl⟩
          have hn235 : ([xa.2.1, xa.2.2.1, x225] : List Int) ≠ [] → ∃ g, (some ⟨b234, 0, none⟩ : Option Addr) = some ⟨g, 0, none⟩ := fun _ => ⟨b234, rfl⟩
          refine ⟨fun w hs => Hold.sub (Hp.le_refl _) ⟨2, rfl, trivial⟩ hs, ?_⟩
          refine JM.cons ?_
          refine JQ.nil ?_
          obtain ⟨r237, hr238, h⟩ := ob h
          refine JA.op rfl (A.call (L1 := [Row Hp.nil 3 (.int .i64) (.slice (some ⟨b234, 0, none⟩) (([xa.2.1, xa.2.2.1, x225] : List Int).length) 3) ([xa.2.1, xa.2.2.1, x225] : List Int)]) Try.call40 rfl (Tr.lend (Hp.nil_le _) (by decide) (fun K239 hK240 f241 => leb_All_ok f241 hr238)) rfl rfl) ?_
          rintro _ _ _ ⟨v243, _, rfl, ⟨⟨_, ⟨s242, rfl, rfl, rfl⟩, rfl⟩, rfl⟩, _, rfl⟩
          refine ⟨fun w hs => Hold.sub (Hp.le_refl _) ⟨2, rfl, trivial⟩ hs, ?_⟩
          refine JM.cons ?_
          refine JQ.nil ?_
          refine JA.front 1 rfl ?_
          obtain ⟨s246, hs247, h⟩ := ob h
          refine JA.op rfl (A.call (L1 := [Bld b146 s153]) Try.call37 rfl (WriteString_ok hs247) rfl rfl) ?_
          rintro _ _ _ ⟨v248, _, rfl, ⟨⟨s246, rfl, rfl, rfl⟩, rfl⟩, _, rfl⟩
          refine ⟨fun w hs => Hold.sub (Hp.le_refl _) ⟨2, rfl, trivial⟩ hs, ?_⟩
          refine JM.nil ?_
          refine JQ.nil ?_
          refine J.nil ?_
          refine CJ.seq ?_
          refine CJ.region ?_
          refine J.val rfl rfl (V.fad Try.underlying24 rfl nz22 rfl) ?_
          refine J.val (v := .slice adxa_5 xa.2.2.2.2.2.length cpxa_5) rfl rfl (V.ld rfl (Ld.sc sc22 (Rd.cl 2 rfl rfl))) ?_
          obtain ⟨r249, hr250, h⟩ := ob h
          refine J.op rfl (A.call (L1 := []) Try.call39 rfl (term_putList_ok fxa_5 hr250) rfl rfl) ?_
          rintro _ _ _ ⟨v252, _, rfl, ⟨⟨s251, rfl, rfl, rfl⟩, rfl⟩, _, rfl⟩
          obtain ⟨s255, hs256, h⟩ := ob h
          refine J.op rfl (A.call (L1 := [Bld b146 s246]) Try.call37 rfl (WriteString_ok hs256) rfl rfl) ?_
          rintro _ _ _ ⟨v257, _, rfl, ⟨⟨s255, rfl, rfl, rfl⟩, rfl⟩, _, rfl⟩
          refine J.nil ?_
          refine CJ.region ?_
          refine J.val rfl rfl (V.fad Try.underlying24 rfl nz22 rfl) ?_
          refine J.val (v := .slice adxa_4 xa.2.2.2.2.1.length cpxa_4) rfl rfl (V.ld rfl (Ld.sc sc22 (Rd.cl 2 rfl rfl))) ?_
          obtain ⟨r258, hr259, h⟩ := ob h
          refine J.op rfl (A.call (L1 := []) Try.call39 rfl (term_putList_ok fxa_4 hr259) rfl rfl) ?_
          rintro _ _ _ ⟨v261, _, rfl, ⟨⟨s260, rfl, rfl, rfl⟩, rfl⟩, _, rfl⟩
          obtain ⟨s264, hs265, h⟩ := ob h
          refine J.op rfl (A.call (L1 := [Bld b146 s255]) Try.call37 rfl (WriteString_ok hs265) rfl rfl) ?_
          rintro _ _ _ ⟨v266, _, rfl, ⟨⟨s264, rfl, rfl, rfl⟩, rfl⟩, _, rfl⟩
          refine J.nil ?_
          refine CJ.seq ?_
          refine CJ.region ?_
          obtain ⟨s267, hs268, h⟩ := ob h
          refine J.op rfl (A.call (L1 := [Bld b146 s264]) Try.call41 rfl (BString_ok hs268) rfl rfl) ?_
          rintro _ _ _ ⟨v269, _, rfl, ⟨⟨s267, rfl, rfl, rfl⟩, rfl⟩, _, rfl⟩
          refine J.val (v := .string ⟨s267.toArray⟩) rfl rfl (V.as rfl) ?_
          refine J.val (v := .int .i64 0) rfl rfl (V.as rfl) ?_
          refine J.nil ?_
          refine CJ.ret ?_
          have e := Option.some.inj h
          subst e
          exact ⟨_, [], Res.two rfl rfl rfl, ⟨s267, 0, rfl, rfl, rfl⟩, (Hp.le_refl _), fun w hs => (Sep.dropAt 0 rfl (Sep.dropAt 0 rfl hs))⟩
        · have h := cf hc200 h
          refine CJ.skip ?_
          refine CJ.seq ?_
          refine CJ.region ?_
          obtain ⟨s270, hs271, h⟩ := ob h
          refine J.op rfl (A.call (L1 := [Bld b146 s153]) Try.call41 rfl (BString_ok hs271) rfl rfl) ?_
          rintro _ _ _ ⟨v272, _, rfl, ⟨⟨s270, rfl, rfl, rfl⟩, rfl⟩, _, rfl⟩
          refine J.val (v := .string ⟨s270.toArray⟩) rfl rfl (V.as rfl) ?_
          refine J.val (v := .int .i64 0) rfl rfl (V.as rfl) ?_
          refine J.nil ?_
          refine CJ.ret ?_
          have e := Option.some.inj h
          subst e
          exact ⟨_, [], Res.two rfl rfl rfl, ⟨s270, 0, rfl, rfl, rfl⟩, (Hp.le_refl _), fun w hs => (Sep.dropAt 0 rfl hs)⟩

noncomputable def fn_law19_awake  : Option Bool :=
  (fn_term_Put ((2, 0, 0, ([1, 2] : List Int), ([3] : List Int), []))).bind fun (s49, i50) => (fn_term_Put (1, 0, 0, [], [], [])).bind fun (s56, i57) => some (((decide (s49 = ([2, 2, 1, 2, 1, 3] : List UInt8))) && (decide (i50 = 0))) && (decide (i57 = 3)))
set_option maxRecDepth 100000 in
set_option maxHeartbeats 4000000 in
theorem law19_awake_ok {K : Hp}    {r : Bool} (h : fn_law19_awake = some r) :
    Tr Try.prog 7 #[] K [] (fun v K' L' => (∃ (t34 : Bool), t34 = r ∧ .bool t34 = v ∧ L' = []) ∧ K = K') := by
  refine Tr.k ?_
  refine Tr.of Try.func7 rfl Try.ntmps7 rfl (fun E F => ?_)
  unfold fn_law19_awake at h
  refine CJ.seq ?_
  refine CJ.region ?_
  refine J.val (v := .bool false) rfl rfl (V.as rfl) ?_
  refine J.nil ?_
  refine CJ.seq ?_
  refine CJ.region ?_
  refine J.op rfl (A.lit (K0 := Hp.nil) (ty := (.int .i64)) (xs := ([1, 2] : List Int)) Try.underlying22 inf3 rfl (by decide) rfl rfl rfl ⟨_, _, rfl, rfl, ⟨_, _, rfl, rfl, rfl⟩⟩ rfl (by decide)) ?_
  rintro _ _ _ ⟨b35, rfl, rfl, rfl⟩
  have hn36 : ([1, 2] : List Int) ≠ [] → ∃ g, (some ⟨b35, 0, none⟩ : Option Addr) = some ⟨g, 0, none⟩ := fun _ => ⟨b35, rfl⟩
  refine J.op rfl (A.lit (K0 := Hp.nil) (ty := (.int .i64)) (xs := ([3] : List Int)) Try.underlying22 inf3 rfl (by decide) rfl rfl rfl ⟨_, _, rfl, rfl, rfl⟩ rfl (by decide)) ?_
  rintro _ _ _ ⟨b38, rfl, rfl, rfl⟩
  have hn39 : ([3] : List Int) ≠ [] → ∃ g, (some ⟨b38, 0, none⟩ : Option Addr) = some ⟨g, 0, none⟩ := fun _ => ⟨b38, rfl⟩
  refine J.val (v := .agg #[.int .i64 2, .int .i64 0, .int .i64 0, .slice (some ⟨b35, 0, none⟩) (([1, 2] : List Int).length) 2, .slice (some ⟨b38, 0, none⟩) (([3] : List Int).length) 1, .slice none 0 0]) rfl rfl (V.build inf24 places24 rfl rfl) ?_
  obtain ⟨r41, hr42, h⟩ := ob h
  refine J.front 1 rfl ?_
  refine J.op rfl (A.call (L1 := [Row Hp.nil 3 (.int .i64) (.slice (some ⟨b35, 0, none⟩) (([1, 2] : List Int).length) 2) ([1, 2] : List Int), Row Hp.nil 3 (.int .i64) (.slice (some ⟨b38, 0, none⟩) (([3] : List Int).length) 1) ([3] : List Int)]) Try.call18 rfl (Tr.lend (Hp.nil_le _) (by decide) (fun K43 hK44 f45 => Tr.lend (Hp.nil_le _) (by decide) (fun K46 hK47 f48 => term_Put_ok (f45.mono hK47) f48 isNil hr42))) rfl rfl) ?_
  rintro _ _ _ ⟨v51, _, rfl, ⟨⟨_, ⟨_, ⟨s49, i50, rfl, rfl, rfl⟩, rfl⟩, rfl⟩, rfl⟩, _, rfl⟩
  refine J.val (v := .tuple #[.string ⟨s49.toArray⟩, .int .i64 i50]) rfl rfl (V.mv rfl) ?_
  refine J.val (v := .string ⟨s49.toArray⟩) rfl rfl (V.ext rfl rfl) ?_
  refine J.val (v := .int .i64 i50) rfl rfl (V.ext rfl rfl) ?_
  refine J.val (v := .string ⟨s49.toArray⟩) rfl rfl (V.as rfl) ?_
  refine J.val (v := .int .i64 i50) rfl rfl (V.as rfl) ?_
  refine J.nil ?_
  refine CJ.seq ?_
  refine CJ.region ?_
  refine J.val (v := .agg #[.int .i64 1, .int .i64 0, .int .i64 0, .slice none 0 0, .slice none 0 0, .slice none 0 0]) rfl rfl (V.build inf24 places24 rfl rfl) ?_
  obtain ⟨r54, hr55, h⟩ := ob h
  refine J.op rfl (A.call (L1 := []) Try.call18 rfl (term_Put_ok isNil isNil isNil hr55) rfl rfl) ?_
  rintro _ _ _ ⟨v58, _, rfl, ⟨⟨s56, i57, rfl, rfl, rfl⟩, rfl⟩, _, rfl⟩
  refine J.val (v := .tuple #[.string ⟨s56.toArray⟩, .int .i64 i57]) rfl rfl (V.mv rfl) ?_
  refine J.val (v := .string ⟨s56.toArray⟩) rfl rfl (V.ext rfl rfl) ?_
  refine J.val (v := .int .i64 i57) rfl rfl (V.ext rfl rfl) ?_
  refine J.val (v := .string ⟨s56.toArray⟩) rfl rfl (V.as rfl) ?_
  refine J.val (v := .int .i64 i57) rfl rfl (V.as rfl) ?_
  refine J.nil ?_
  refine CJ.seq ?_
  refine CJ.region ?_
  refine J.val (v := .string ⟨s49.toArray⟩) rfl rfl (V.mv rfl) ?_
  refine J.val (v := .bool (decide (s49 = ([2, 2, 1, 2, 1, 3] : List UInt8)))) rfl rfl (V.eqs rfl rfl) ?_
  refine J.val (v := .bool (decide (s49 = ([2, 2, 1, 2, 1, 3] : List UInt8)))) rfl rfl (V.mv rfl) ?_
  refine J.cut 3 ?_
  refine @J.meet _ _ _ _ _ _ _ _ _ _ (fun ρ K' L' => Fits [(22, .bool ((decide (s49 = ([2, 2, 1, 2, 1, 3] : List UInt8))) && (decide (i50 = 0)))), (4, .int .i64 i57)] ρ ∧ K = K' ∧ L' = Row Hp.nil 3 (.int .i64) (.slice (some ⟨b35, 0, none⟩) (([1, 2] : List Int).length) 2) ([1, 2] : List Int) :: Row Hp.nil 3 (.int .i64) (.slice (some ⟨b38, 0, none⟩) (([3] : List Int).length) 1) ([3] : List Int) :: F) ?_ ?_
  · skip
    rcases bt (decide (s49 = ([2, 2, 1, 2, 1, 3] : List UInt8))) with hc63 | hc63
    · skip
      refine J.run rfl rfl rfl hc63 ?_
      refine J.val (v := .int .i64 i50) rfl rfl (V.mv rfl) ?_
      refine J.run rfl rfl rfl hc63 ?_
      refine J.val (v := .bool (decide (i50 = 0))) rfl rfl (V.eql rfl rfl) ?_
      refine J.val (v := .bool (decide (i50 = 0))) rfl rfl (V.pickT rfl hc63 rfl) ?_
      refine J.nil ?_
      exact ⟨rfl, ⟨(by simp only [hc63]; rfl), rfl, trivial⟩, rfl, rfl⟩
    · skip
      refine J.skip rfl rfl rfl rfl hc63 ?_
      refine J.skip rfl rfl rfl rfl hc63 ?_
      refine J.val (v := .bool false) rfl rfl (V.pickF rfl hc63 rfl) ?_
      refine J.nil ?_
      exact ⟨rfl, ⟨(by simp only [hc63]; rfl), rfl, trivial⟩, rfl, rfl⟩
  · rintro ρ _ _ ⟨hf, rfl, rfl⟩
    obtain ⟨ρ, rfl⟩ := hf.ex
    refine J.val (v := .bool ((decide (s49 = ([2, 2, 1, 2, 1, 3] : List UInt8))) && (decide (i50 = 0)))) rfl rfl (V.mv rfl) ?_
    refine J.cut 3 ?_
    refine @J.meet _ _ _ _ _ _ _ _ _ _ (fun ρ K' L' => Fits [(26, .bool (((decide (s49 = ([2, 2, 1, 2, 1, 3] : List UInt8))) && (decide (i50 = 0))) && (decide (i57 = 3))))] ρ ∧ K = K' ∧ L' = Row Hp.nil 3 (.int .i64) (.slice (some ⟨b35, 0, none⟩) (([1, 2] : List Int).length) 2) ([1, 2] : List Int) :: Row Hp.nil 3 (.int .i64) (.slice (some ⟨b38, 0, none⟩) (([3] : List Int).length) 1) ([3] : List Int) :: F) ?_ ?_
    · skip
      rcases bt ((decide (s49 = ([2, 2, 1, 2, 1, 3] : List UInt8))) && (decide (i50 = 0))) with hc66 | hc66
      · skip
        refine J.run rfl rfl rfl hc66 ?_
        refine J.val (v := .int .i64 i57) rfl rfl (V.mv rfl) ?_
        refine J.run rfl rfl rfl hc66 ?_
        refine J.val (v := .bool (decide (i57 = 3))) rfl rfl (V.eql rfl rfl) ?_
        refine J.val (v := .bool (decide (i57 = 3))) rfl rfl (V.pickT rfl hc66 rfl) ?_
        refine J.nil ?_
        exact ⟨rfl, ⟨(by simp only [hc66]; rfl), trivial⟩, rfl, rfl⟩
      · skip
        refine J.skip rfl rfl rfl rfl hc66 ?_
        refine J.skip rfl rfl rfl rfl hc66 ?_
        refine J.val (v := .bool false) rfl rfl (V.pickF rfl hc66 rfl) ?_
        refine J.nil ?_
        exact ⟨rfl, ⟨(by simp only [hc66]; rfl), trivial⟩, rfl, rfl⟩
    · rintro ρ _ _ ⟨hf, rfl, rfl⟩
      obtain ⟨ρ, rfl⟩ := hf.ex
      refine J.val (v := .bool (((decide (s49 = ([2, 2, 1, 2, 1, 3] : List UInt8))) && (decide (i50 = 0))) && (decide (i57 = 3)))) rfl rfl (V.as rfl) ?_
      refine J.nil ?_
      refine CJ.ret ?_
      have e := Option.some.inj h
      subst e
      exact ⟨_, [], Res.one rfl rfl, ⟨((decide (s49 = ([2, 2, 1, 2, 1, 3] : List UInt8))) && (decide (i50 = 0))) && (decide (i57 = 3)), rfl, rfl, rfl⟩, (Hp.le_refl _), fun w hs => (Sep.dropAt 0 rfl (Sep.dropAt 0 rfl hs))⟩
noncomputable def fn_leb_Take_l1 (xa : (List UInt8)) (x100 : UInt8) : (Int × Int) → Option ((Int × Int) ⊕ Int) := fun ((i153, i154) : (Int × Int)) => cond (decide (i154 ≤ (IntKind.wrap .i64 ((IntKind.wrap .i64 (((x100.toNat : Nat) : Int))) - 247)))) ((getI xa i154).bind fun x168 => some (.inl ((IntKind.wrap .i64 ((BitVec.ofInt (IntKind.bits .i64) (IntKind.wrap .i64 (i153 * 2 ^ (min (Int.toNat 8) (IntKind.bits .i64)))) ||| BitVec.ofInt (IntKind.bits .i64) (IntKind.wrap .i64 (((x168.toNat : Nat) : Int)))).toNat : Int), IntKind.wrap .i64 (i154 + 1))))) (some (.inr (i153)))
noncomputable def fn_leb_Take (xa : (List UInt8)) : Option (Int × Int × Int) :=
  cond (decide (xa = ([] : List UInt8))) (some ((0, 0, 4))) ((getI xa 0).bind fun x100 => cond (decide ((IntKind.wrap .i64 (((x100.toNat : Nat) : Int))) < 248)) (some ((IntKind.wrap .i64 (((x100.toNat : Nat) : Int)), 1, 0))) ((fn_leb_digits 4294967295).bind fun i108 => cond (decide (i108 < (IntKind.wrap .i64 ((IntKind.wrap .i64 (((x100.toNat : Nat) : Int))) - 247)))) (some ((0, 0, 3))) (cond (decide ((((xa.length : Nat) : Int)) ≤ (IntKind.wrap .i64 ((IntKind.wrap .i64 (((x100.toNat : Nat) : Int))) - 247)))) (some ((0, 0, 4))) ((loop (fn_leb_Take_l1 xa x100) (0, 1) : Option Int).bind fun i142 => (cond (decide (i142 < 248)) (some (true)) ((fn_leb_digits i142).bind fun i187 => some (decide (i187 < (IntKind.wrap .i64 ((IntKind.wrap .i64 (((x100.toNat : Nat) : Int))) - 247)))))).bind fun t182 => cond (t182) (some ((0, 0, 3))) (some ((i142, IntKind.wrap .i64 (1 + (IntKind.wrap .i64 ((IntKind.wrap .i64 (((x100.toNat : Nat) : Int))) - 247))), 0)))))))
set_option maxRecDepth 100000 in
set_option maxHeartbeats 4000000 in
theorem leb_Take_ok {K : Hp} {xa : (List UInt8)}   {r : (Int × Int × Int)} (h : fn_leb_Take xa = some r) :
    Tr Try.prog 55 #[.string ⟨xa.toArray⟩] K [] (fun v K' L' => (∃ (i96 : Int) (i97 : Int) (i98 : Int), (i96, i97, i98) = r ∧ .tuple #[.int .i64 i96, .int .i64 i97, .int .i64 i98] = v ∧ L' = []) ∧ K = K') := by
  refine Tr.k ?_
  refine Tr.of Try.func55 rfl Try.ntmps55 rfl (fun E F => ?_)
  unfold fn_leb_Take at h
  refine CJ.seq ?_
  refine CJ.region ?_
  refine J.val (v := .int .i64 0) rfl rfl (V.as rfl) ?_
  refine J.val (v := .int .i64 0) rfl rfl (V.as rfl) ?_
  refine J.val (v := .int .i64 0) rfl rfl (V.as rfl) ?_
  refine J.nil ?_
  refine CJ.seq ?_
  refine CJ.seq ?_
  refine CJ.region ?_
  refine J.val (v := .string ⟨xa.toArray⟩) rfl rfl (V.mv rfl) ?_
  refine J.val (v := .bool (decide (xa = ([] : List UInt8)))) rfl rfl (V.eqs rfl rfl) ?_
  refine J.nil ?_
  refine CJ.cond rfl (fun hc99 => ?_) (fun hc99 => ?_)
  · have h := ct hc99 h
    refine CJ.seq ?_
    refine CJ.region ?_
    refine J.val (v := .int .i64 0) rfl rfl (V.as rfl) ?_
    refine J.val (v := .int .i64 0) rfl rfl (V.as rfl) ?_
    refine J.val (v := .int .i64 4) rfl rfl (V.as rfl) ?_
    refine J.nil ?_
    refine CJ.ret ?_
    have e := Option.some.inj h
    subst e
    exact ⟨_, [], Res.three rfl rfl rfl rfl, ⟨0, 0, 4, rfl, rfl, rfl⟩, (Hp.le_refl _), fun w hs => hs⟩
  · have h := cf hc99 h
    refine CJ.skip ?_
    refine CJ.seq ?_
    refine CJ.region ?_
    refine J.val (v := .string ⟨xa.toArray⟩) rfl rfl (V.mv rfl) ?_
    obtain ⟨x100, hx101, h⟩ := ob h
    obtain ⟨p102, p103, p104⟩ := getI_some hx101
    refine J.val (v := .int .u8 (((x100.toNat : Nat) : Int))) rfl rfl (V.ixs Try.underlying9 rfl rfl p102 p103) ?_
    refine J.val (v := .int .i64 (IntKind.wrap .i64 (((x100.toNat : Nat) : Int)))) rfl rfl (V.conv Try.underlying5 Try.underlying3 rfl) ?_
    refine J.val (v := .int .i64 (IntKind.wrap .i64 (((x100.toNat : Nat) : Int)))) rfl rfl (V.as rfl) ?_
    refine J.nil ?_
    refine CJ.seq ?_
    refine CJ.seq ?_
    refine CJ.region ?_
    refine J.val (v := .int .i64 (IntKind.wrap .i64 (((x100.toNat : Nat) : Int)))) rfl rfl (V.mv rfl) ?_
    refine J.val (v := .bool (decide ((IntKind.wrap .i64 (((x100.toNat : Nat) : Int))) < 248))) rfl rfl (V.lss rfl rfl) ?_
    refine J.nil ?_
    refine CJ.cond rfl (fun hc105 => ?_) (fun hc105 => ?_)
    · have h := ct hc105 h
      refine CJ.seq ?_
      refine CJ.region ?_
      refine J.val (v := .int .i64 (IntKind.wrap .i64 (((x100.toNat : Nat) : Int)))) rfl rfl (V.mv rfl) ?_
      refine J.val (v := .int .i64 (IntKind.wrap .i64 (((x100.toNat : Nat) : Int)))) rfl rfl (V.as rfl) ?_
      refine J.val (v := .int .i64 1) rfl rfl (V.as rfl) ?_
      refine J.val (v := .int .i64 0) rfl rfl (V.as rfl) ?_
      refine J.nil ?_
      refine CJ.ret ?_
      have e := Option.some.inj h
      subst e
      exact ⟨_, [], Res.three rfl rfl rfl rfl, ⟨IntKind.wrap .i64 (((x100.toNat : Nat) : Int)), 1, 0, rfl, rfl, rfl⟩, (Hp.le_refl _), fun w hs => hs⟩
    · have h := cf hc105 h
      refine CJ.skip ?_
      refine CJ.seq ?_
      refine CJ.region ?_
      refine J.val (v := .int .i64 (IntKind.wrap .i64 (((x100.toNat : Nat) : Int)))) rfl rfl (V.mv rfl) ?_
      refine J.val (v := .int .i64 (IntKind.wrap .i64 ((IntKind.wrap .i64 (((x100.toNat : Nat) : Int))) - 247))) rfl rfl (V.sub rfl rfl) ?_
      refine J.val (v := .int .i64 (IntKind.wrap .i64 ((IntKind.wrap .i64 (((x100.toNat : Nat) : Int))) - 247))) rfl rfl (V.as rfl) ?_
      refine J.nil ?_
      refine CJ.seq ?_
      refine CJ.seq ?_
      refine CJ.region ?_
      refine J.val (v := .int .i64 (IntKind.wrap .i64 ((IntKind.wrap .i64 (((x100.toNat : Nat) : Int))) - 247))) rfl rfl (V.mv rfl) ?_
      obtain ⟨r106, hr107, h⟩ := ob h
      refine J.op rfl (A.call (L1 := []) Try.call69 rfl (leb_digits_ok hr107) rfl rfl) ?_
      rintro _ _ _ ⟨v109, _, rfl, ⟨⟨i108, rfl, rfl, rfl⟩, rfl⟩, _, rfl⟩
      refine J.val (v := .bool (decide (i108 < (IntKind.wrap .i64 ((IntKind.wrap .i64 (((x100.toNat : Nat) : Int))) - 247))))) rfl rfl (V.gtr rfl rfl) ?_
      refine J.nil ?_
      refine CJ.cond rfl (fun hc112 => ?_) (fun hc112 => ?_)
      · have h := ct hc112 h
        refine CJ.seq ?_
        refine CJ.region ?_
        refine J.val (v := .int .i64 0) rfl rfl (V.as rfl) ?_
        refine J.val (v := .int .i64 0) rfl rfl (V.as rfl) ?_
        refine J.val (v := .int .i64 3) rfl rfl (V.as rfl) ?_
        refine J.nil ?_
        refine CJ.ret ?_
        have e := Option.some.inj h
        subst e
        exact ⟨_, [], Res.three rfl rfl rfl rfl, ⟨0, 0, 3, rfl, rfl, rfl⟩, (Hp.le_refl _), fun w hs => hs⟩
      · have h := cf hc112 h
        refine CJ.skip ?_
        refine CJ.seq ?_
        refine CJ.seq ?_
        refine CJ.region ?_
        refine J.val (v := .string ⟨xa.toArray⟩) rfl rfl (V.mv rfl) ?_
        refine J.val (v := .int .i64 (((xa.length : Nat) : Int))) rfl rfl (V.lens Try.underlying9 rfl) ?_
        refine J.val (v := .int .i64 (IntKind.wrap .i64 ((IntKind.wrap .i64 (((x100.toNat : Nat) : Int))) - 247))) rfl rfl (V.mv rfl) ?_
        refine J.val (v := .bool (decide ((((xa.length : Nat) : Int)) ≤ (IntKind.wrap .i64 ((IntKind.wrap .i64 (((x100.toNat : Nat) : Int))) - 247))))) rfl rfl (V.leq rfl rfl) ?_
        refine J.nil ?_
        refine CJ.cond rfl (fun hc113 => ?_) (fun hc113 => ?_)
        · have h := ct hc113 h
          refine CJ.seq ?_
          refine CJ.region ?_
          refine J.val (v := .int .i64 0) rfl rfl (V.as rfl) ?_
          refine J.val (v := .int .i64 0) rfl rfl (V.as rfl) ?_
          refine J.val (v := .int .i64 4) rfl rfl (V.as rfl) ?_
          refine J.nil ?_
          refine CJ.ret ?_
          have e := Option.some.inj h
          subst e
          exact ⟨_, [], Res.three rfl rfl rfl rfl, ⟨0, 0, 4, rfl, rfl, rfl⟩, (Hp.le_refl _), fun w hs => hs⟩
        · have h := cf hc113 h
          refine CJ.skip ?_
          refine CJ.seq ?_
          refine CJ.region ?_
          refine J.val (v := .int .i64 0) rfl rfl (V.as rfl) ?_
          refine J.nil ?_
          refine CJ.seq ?_
          refine CJ.seq ?_
          refine CJ.region ?_
          refine J.val (v := .int .i64 1) rfl rfl (V.as rfl) ?_
          refine J.nil ?_
          obtain ⟨o143, ho144, h⟩ := ob h
          refine CJ.meetN (fun ρ K' L' => ∃ (i142 : Int), i142 = o143 ∧ Fits [(6, .int .i64 (IntKind.wrap .i64 ((IntKind.wrap .i64 (((x100.toNat : Nat) : Int))) - 247))), (7, .int .i64 i142)] ρ ∧ K = K' ∧ F = L') ?_ ?_
          · skip
            refine CJ.block ?_
            refine CJ.loop (fun s ρ K' L' => ∃ (i153 : Int) (i154 : Int), (i153, i154) = s ∧ Fits [(0, .string ⟨xa.toArray⟩), (6, .int .i64 (IntKind.wrap .i64 ((IntKind.wrap .i64 (((x100.toNat : Nat) : Int))) - 247))), (7, .int .i64 i153), (8, .int .i64 i154)] ρ ∧ K = K' ∧ F = L') ho144 ⟨0, 1, rfl, ⟨rfl, rfl, rfl, rfl, trivial⟩, rfl, rfl⟩ ?_
            rintro s ρ _ _ r166 ⟨i153, i154, rfl, hf164, rfl, rfl⟩ h163
            obtain ⟨ρ, rfl⟩ := hf164.ex
            refine CJ.seq ?_
            refine CJ.seq ?_
            refine CJ.region ?_
            refine J.val (v := .int .i64 i154) rfl rfl (V.mv rfl) ?_
            refine J.val (v := .int .i64 (IntKind.wrap .i64 ((IntKind.wrap .i64 (((x100.toNat : Nat) : Int))) - 247))) rfl rfl (V.mv rfl) ?_
            refine J.val (v := .bool (decide (i154 ≤ (IntKind.wrap .i64 ((IntKind.wrap .i64 (((x100.toNat : Nat) : Int))) - 247))))) rfl rfl (V.leq rfl rfl) ?_
            refine J.nil ?_
            refine CJ.cond rfl (fun hc167 => ?_) (fun hc167 => ?_)
            · have h163 := ct hc167 h163
              refine CJ.skip ?_
              refine CJ.seq ?_
              refine CJ.block ?_
              refine CJ.region ?_
              refine J.val (v := .int .i64 i153) rfl rfl (V.mv rfl) ?_
              refine J.val (v := .int .i64 (IntKind.wrap .i64 (i153 * 2 ^ (min (Int.toNat 8) (IntKind.bits .i64))))) rfl rfl (V.shl rfl rfl (by decide)) ?_
              refine J.val (v := .string ⟨xa.toArray⟩) rfl rfl (V.mv rfl) ?_
              refine J.val (v := .int .i64 i154) rfl rfl (V.mv rfl) ?_
              obtain ⟨x168, hx169, h163⟩ := ob h163
              obtain ⟨p170, p171, p172⟩ := getI_some hx169
              refine J.val (v := .int .u8 (((x168.toNat : Nat) : Int))) rfl rfl (V.ixs Try.underlying9 rfl rfl p170 p171) ?_
              refine J.val (v := .int .i64 (IntKind.wrap .i64 (((x168.toNat : Nat) : Int)))) rfl rfl (V.conv Try.underlying5 Try.underlying3 rfl) ?_
              refine J.val (v := .int .i64 (IntKind.wrap .i64 ((BitVec.ofInt (IntKind.bits .i64) (IntKind.wrap .i64 (i153 * 2 ^ (min (Int.toNat 8) (IntKind.bits .i64)))) ||| BitVec.ofInt (IntKind.bits .i64) (IntKind.wrap .i64 (((x168.toNat : Nat) : Int)))).toNat : Int))) rfl rfl (V.or rfl rfl) ?_
              refine J.val (v := .int .i64 (IntKind.wrap .i64 ((BitVec.ofInt (IntKind.bits .i64) (IntKind.wrap .i64 (i153 * 2 ^ (min (Int.toNat 8) (IntKind.bits .i64)))) ||| BitVec.ofInt (IntKind.bits .i64) (IntKind.wrap .i64 (((x168.toNat : Nat) : Int)))).toNat : Int))) rfl rfl (V.as rfl) ?_
              refine J.nil ?_
              refine CJ.region ?_
              refine J.val (v := .int .i64 i154) rfl rfl (V.mv rfl) ?_
              refine J.val (v := .int .i64 (IntKind.wrap .i64 (i154 + 1))) rfl rfl (V.add rfl rfl) ?_
              refine J.val (v := .int .i64 (IntKind.wrap .i64 (i154 + 1))) rfl rfl (V.as rfl) ?_
              refine J.nil ?_
              have e := Option.some.inj h163
              subst e
              exact ⟨rfl, ⟨IntKind.wrap .i64 ((BitVec.ofInt (IntKind.bits .i64) (IntKind.wrap .i64 (i153 * 2 ^ (min (Int.toNat 8) (IntKind.bits .i64)))) ||| BitVec.ofInt (IntKind.bits .i64) (IntKind.wrap .i64 (((x168.toNat : Nat) : Int)))).toNat : Int), IntKind.wrap .i64 (i154 + 1), rfl, ⟨rfl, rfl, rfl, rfl, trivial⟩, rfl, rfl⟩⟩
            · have h163 := cf hc167 h163
              refine CJ.exit ?_
              have e := Option.some.inj h163
              subst e
              refine ⟨nofun, fun e => ?_⟩
              subst e
              exact ⟨rfl, ⟨i153, rfl, ⟨rfl, rfl, trivial⟩, rfl, rfl⟩⟩
          · rintro ρ _ _ ⟨i142, rfl, hf173, rfl, rfl⟩
            obtain ⟨ρ, rfl⟩ := hf173.ex
            refine PJ.done ?_
            refine CJ.seq ?_
            refine CJ.seq ?_
            refine CJ.region ?_
            refine J.val (v := .int .i64 i142) rfl rfl (V.mv rfl) ?_
            refine J.val (v := .bool (decide (i142 < 248))) rfl rfl (V.lss rfl rfl) ?_
            refine J.val (v := .bool (decide (i142 < 248))) rfl rfl (V.mv rfl) ?_
            refine J.cut 5 ?_
            obtain ⟨t182, ht183, h⟩ := ob h
            refine @J.meet _ _ _ _ _ _ _ _ _ _ (fun ρ K' L' => Fits [(45, .bool t182), (6, .int .i64 (IntKind.wrap .i64 ((IntKind.wrap .i64 (((x100.toNat : Nat) : Int))) - 247))), (7, .int .i64 i142)] ρ ∧ K = K' ∧ F = L') ?_ ?_
            · skip
              rcases bt (decide (i142 < 248)) with hc184 | hc184
              · have ht183 := ct hc184 ht183
                refine J.skip rfl rfl rfl rfl hc184 ?_
                refine J.skip rfl rfl rfl rfl hc184 ?_
                refine J.skip rfl rfl rfl rfl hc184 ?_
                refine J.skip rfl rfl rfl rfl hc184 ?_
                refine J.val (v := .bool true) rfl rfl (V.pickT rfl hc184 rfl) ?_
                refine J.nil ?_
                have e := Option.some.inj ht183
                subst e
                exact ⟨rfl, ⟨rfl, rfl, rfl, trivial⟩, rfl, rfl⟩
              · have ht183 := cf hc184 ht183
                refine J.run rfl rfl rfl hc184 ?_
                refine J.val (v := .int .i64 i142) rfl rfl (V.mv rfl) ?_
                refine J.run rfl rfl rfl hc184 ?_
                obtain ⟨r185, hr186, ht183⟩ := ob ht183
                refine J.op rfl (A.call (L1 := []) Try.call69 rfl (leb_digits_ok hr186) rfl rfl) ?_
                rintro _ _ _ ⟨v188, _, rfl, ⟨⟨i187, rfl, rfl, rfl⟩, rfl⟩, _, rfl⟩
                refine J.run rfl rfl rfl hc184 ?_
                refine J.val (v := .int .i64 (IntKind.wrap .i64 ((IntKind.wrap .i64 (((x100.toNat : Nat) : Int))) - 247))) rfl rfl (V.mv rfl) ?_
                refine J.run rfl rfl rfl hc184 ?_
                refine J.val (v := .bool (decide (i187 < (IntKind.wrap .i64 ((IntKind.wrap .i64 (((x100.toNat : Nat) : Int))) - 247))))) rfl rfl (V.lss rfl rfl) ?_
                refine J.val (v := .bool (decide (i187 < (IntKind.wrap .i64 ((IntKind.wrap .i64 (((x100.toNat : Nat) : Int))) - 247))))) rfl rfl (V.pickF rfl hc184 rfl) ?_
                refine J.nil ?_
                have e := Option.some.inj ht183
                subst e
                exact ⟨rfl, ⟨rfl, rfl, rfl, trivial⟩, rfl, rfl⟩
            · rintro ρ _ _ ⟨hf, rfl, rfl⟩
              obtain ⟨ρ, rfl⟩ := hf.ex
              refine J.nil ?_
              refine CJ.cond rfl (fun hc191 => ?_) (fun hc191 => ?_)
              · have h := ct hc191 h
                refine CJ.seq ?_
                refine CJ.region ?_
                refine J.val (v := .int .i64 0) rfl rfl (V.as rfl) ?_
                refine J.val (v := .int .i64 0) rfl rfl (V.as rfl) ?_
                refine J.val (v := .int .i64 3) rfl rfl (V.as rfl) ?_
                refine J.nil ?_
                refine CJ.ret ?_
                have e := Option.some.inj h
                subst e
                exact ⟨_, [], Res.three rfl rfl rfl rfl, ⟨0, 0, 3, rfl, rfl, rfl⟩, (Hp.le_refl _), fun w hs => hs⟩
              · have h := cf hc191 h
                refine CJ.skip ?_
                refine CJ.seq ?_
                refine CJ.region ?_
                refine J.val (v := .int .i64 i142) rfl rfl (V.mv rfl) ?_
                refine J.val (v := .int .i64 (IntKind.wrap .i64 ((IntKind.wrap .i64 (((x100.toNat : Nat) : Int))) - 247))) rfl rfl (V.mv rfl) ?_
                refine J.val (v := .int .i64 (IntKind.wrap .i64 (1 + (IntKind.wrap .i64 ((IntKind.wrap .i64 (((x100.toNat : Nat) : Int))) - 247))))) rfl rfl (V.add rfl rfl) ?_
                refine J.val (v := .int .i64 i142) rfl rfl (V.as rfl) ?_
                refine J.val (v := .int .i64 (IntKind.wrap .i64 (1 + (IntKind.wrap .i64 ((IntKind.wrap .i64 (((x100.toNat : Nat) : Int))) - 247))))) rfl rfl (V.as rfl) ?_
                refine J.val (v := .int .i64 0) rfl rfl (V.as rfl) ?_
                refine J.nil ?_
                refine CJ.ret ?_
                have e := Option.some.inj h
                subst e
                exact ⟨_, [], Res.three rfl rfl rfl rfl, ⟨i142, IntKind.wrap .i64 (1 + (IntKind.wrap .i64 ((IntKind.wrap .i64 (((x100.toNat : Nat) : Int))) - 247))), 0, rfl, rfl, rfl⟩, (Hp.le_refl _), fun w hs => hs⟩

noncomputable def fn_term_reader_number_p0_sii (qa0 : List UInt8) (qa1 : Int) (qa2 : Int) : Option (Int × Int × Int) :=
  cond (!decide (qa2 = 0)) (some ((0, qa1, qa2))) ((subL qa0 qa1 (((qa0.length : Nat) : Int))).bind fun y38 => (fn_leb_Take y38).bind fun (i42, i43, i44) => some ((i42, IntKind.wrap .i64 (qa1 + i43), i44)))
set_option maxRecDepth 100000 in
set_option maxHeartbeats 4000000 in
theorem term_reader_number_p0_sii_ok {K : Hp} {qa0 : List UInt8} {qa1 : Int} {qa2 : Int} {pba : Nat}  {r : (Int × Int × Int)} (h : fn_term_reader_number_p0_sii qa0 qa1 qa2 = some r) :
    Tr Try.prog 30 #[.pointer (some ⟨pba, 0, none⟩)] K [Cl pba 69 [.string ⟨qa0.toArray⟩, .int .i64 qa1, .int .i64 qa2]] (fun v K' L' => (∃ (i23 : Int) (i24 : Int) (i25 : Int), (i23, i24, i25) = r ∧ .int .i64 i23 = v ∧ L' = [Cl pba 69 [.string ⟨qa0.toArray⟩, .int .i64 i24, .int .i64 i25]]) ∧ K = K') := by
  refine Tr.k ?_
  refine Tr.of Try.func30 rfl Try.ntmps30 rfl (fun E F => ?_)
  unfold fn_term_reader_number_p0_sii at h
  refine CJ.seq ?_
  refine CJ.region ?_
  refine J.val (v := .int .i64 0) rfl rfl (V.as rfl) ?_
  refine J.nil ?_
  refine CJ.seq ?_
  refine CJ.seq ?_
  refine CJ.region ?_
  refine J.val rfl rfl (V.mv rfl) ?_
  refine J.val rfl rfl (V.nck rfl) ?_
  refine J.val rfl rfl (V.fad Try.underlying69 rfl nz36 rfl) ?_
  refine J.val (v := .int .i64 qa2) rfl rfl (V.ld rfl (Ld.sc sc36 (Rd.cl 0 rfl rfl))) ?_
  refine J.val (v := .bool (!decide (qa2 = 0))) rfl rfl (V.neq rfl rfl) ?_
  refine J.nil ?_
  refine CJ.cond rfl (fun hc26 => ?_) (fun hc26 => ?_)
  · have h := ct hc26 h
    refine CJ.seq ?_
    refine CJ.region ?_
    refine J.val (v := .int .i64 0) rfl rfl (V.as rfl) ?_
    refine J.nil ?_
    refine CJ.ret ?_
    have e := Option.some.inj h
    subst e
    exact ⟨_, [Cl pba 69 [.string ⟨qa0.toArray⟩, .int .i64 qa1, .int .i64 qa2]], Res.one rfl rfl, ⟨0, qa1, qa2, rfl, rfl, rfl⟩, (Hp.le_refl _), fun w hs => hs⟩
  · have h := cf hc26 h
    refine CJ.skip ?_
    refine CJ.seq ?_
    refine CJ.mix [Cl pba 69 [.string ⟨qa0.toArray⟩, .int .i64 qa1, .int .i64 qa2]] [([0, 1, 2, 3, 4, 5, 6, 7, 8], 9)] [10, 11, 12, 13, 14, 15, 16] [] mixO (by decide +kernel) ⟨0, rfl, trivial⟩ rfl rfl rfl ?_
    refine JM.cons ?_
    refine JQ.val rfl rfl (V.mv rfl) ?_
    refine JQ.val rfl rfl (V.nck rfl) ?_
    refine JQ.val rfl rfl (V.fad Try.underlying69 rfl nz9 rfl) ?_
    refine JQ.val (v := .string ⟨qa0.toArray⟩) rfl rfl (V.ld rfl (Ld.sc sc9 (Rd.cl 0 rfl rfl))) ?_
    refine JQ.val rfl rfl (V.mv rfl) ?_
    refine JQ.val rfl rfl (V.nck rfl) ?_
    refine JQ.val rfl rfl (V.fad Try.underlying69 rfl nz3 rfl) ?_
    refine JQ.val (v := .int .i64 qa1) rfl rfl (V.ld rfl (Ld.sc sc3 (Rd.cl 0 rfl rfl))) ?_
    obtain ⟨y38, hy39, h⟩ := ob h
    refine JQ.val (v := .string ⟨y38.toArray⟩) rfl rfl (V.subs Try.underlying9 rfl (fun _ h => by cases h; exact ⟨_, rfl⟩) nofun nofun (fun _ => rfl) hy39) ?_
    refine JQ.nil ?_
    obtain ⟨r40, hr41, h⟩ := ob h
    refine JA.op rfl (A.call (L1 := []) Try.call55 rfl (leb_Take_ok hr41) rfl rfl) ?_
    rintro _ _ _ ⟨v45, _, rfl, ⟨⟨i42, i43, i44, rfl, rfl, rfl⟩, rfl⟩, _, rfl⟩
    refine ⟨fun w hs => Hold.sub (Hp.le_refl _) ⟨0, rfl, trivial⟩ hs, ?_⟩
    refine JM.nil ?_
    refine JQ.val (v := .tuple #[.int .i64 i42, .int .i64 i43, .int .i64 i44]) rfl rfl (V.mv rfl) ?_
    refine JQ.val (v := .int .i64 i42) rfl rfl (V.ext rfl rfl) ?_
    refine JQ.val (v := .int .i64 i43) rfl rfl (V.ext rfl rfl) ?_
    refine JQ.val (v := .int .i64 i44) rfl rfl (V.ext rfl rfl) ?_
    refine JQ.val (v := .int .i64 i42) rfl rfl (V.as rfl) ?_
    refine JQ.val (v := .int .i64 i43) rfl rfl (V.as rfl) ?_
    refine JQ.val (v := .int .i64 i44) rfl rfl (V.as rfl) ?_
    refine JQ.nil ?_
    refine J.nil ?_
    refine CJ.seq ?_
    refine CJ.region ?_
    refine J.val rfl rfl (V.mv rfl) ?_
    refine J.val rfl rfl (V.mv rfl) ?_
    refine J.val rfl rfl (V.mv rfl) ?_
    refine J.val rfl rfl (V.nck rfl) ?_
    refine J.val rfl rfl (V.fad Try.underlying69 rfl nz3 rfl) ?_
    refine J.val (v := .int .i64 qa1) rfl rfl (V.ld rfl (Ld.sc sc3 (Rd.cl 0 rfl rfl))) ?_
    refine J.val (v := .int .i64 i43) rfl rfl (V.mv rfl) ?_
    refine J.val (v := .int .i64 (IntKind.wrap .i64 (qa1 + i43))) rfl rfl (V.add rfl rfl) ?_
    refine J.val (v := .int .i64 i44) rfl rfl (V.mv rfl) ?_
    refine J.val rfl rfl (V.nck rfl) ?_
    refine J.val rfl rfl (V.fad Try.underlying69 rfl nz3 rfl) ?_
    refine J.op rfl (A.store1 (v := .int .i64 (IntKind.wrap .i64 (qa1 + i43))) (cs' := [.string ⟨qa0.toArray⟩, .int .i64 (IntKind.wrap .i64 (qa1 + i43)), .int .i64 qa2]) sz3 rfl rfl rfl rfl rfl rfl) ?_
    rintro _ _ _ ⟨rfl, rfl, rfl⟩
    refine J.val rfl rfl (V.nck rfl) ?_
    refine J.val rfl rfl (V.fad Try.underlying69 rfl nz36 rfl) ?_
    refine J.op rfl (A.store1 (v := .int .i64 i44) (cs' := [.string ⟨qa0.toArray⟩, .int .i64 (IntKind.wrap .i64 (qa1 + i43)), .int .i64 i44]) sz36 rfl rfl rfl rfl rfl rfl) ?_
    rintro _ _ _ ⟨rfl, rfl, rfl⟩
    refine J.nil ?_
    refine CJ.seq ?_
    refine CJ.region ?_
    refine J.val (v := .int .i64 i42) rfl rfl (V.mv rfl) ?_
    refine J.val (v := .int .i64 i42) rfl rfl (V.as rfl) ?_
    refine J.nil ?_
    refine CJ.ret ?_
    have e := Option.some.inj h
    subst e
    exact ⟨_, [Cl pba 69 [.string ⟨qa0.toArray⟩, .int .i64 (IntKind.wrap .i64 (qa1 + i43)), .int .i64 i44]], Res.one rfl rfl, ⟨i42, IntKind.wrap .i64 (qa1 + i43), i44, rfl, rfl, rfl⟩, (Hp.le_refl _), fun w hs => hs⟩
noncomputable def fn_term_reader_list_p0i_sii_l1 (qa0 : List UInt8) (i227 : Int) : ((List Int) × Int × Int × Int) → Option (((List Int) × Int × Int × Int) ⊕ ((List Int) × Int × Int)) := fun ((l374, i379, i380, i381) : ((List Int) × Int × Int × Int)) => cond ((decide (i379 < i227)) && (decide (i381 = 0))) ((fn_term_reader_number_p0_sii qa0 i380 i381).bind fun (i422, i423, i424) => (app l374 ([i422] : List Int)).bind fun z431 => some (.inl ((z431, IntKind.wrap .i64 (i379 + 1), i423, i424)))) (some (.inr (((l374, i380, i381)))))
noncomputable def fn_term_reader_list_p0i_sii (xb : Int) (qa0 : List UInt8) (qa1 : Int) (qa2 : Int) : Option (((List Int) × Int × Int)) :=
  (fn_term_reader_number_p0_sii qa0 qa1 qa2).bind fun (i227, i228, i229) => (cond (decide (xb < i227)) (some (6)) (some (i229)) : Option Int).bind fun i234 => (loop (fn_term_reader_list_p0i_sii_l1 qa0 i227) ([], 0, i228, i234) : Option (((List Int) × Int × Int))).bind fun (l334, i339, i340) => some ((l334, i339, i340))
set_option maxRecDepth 100000 in
set_option maxHeartbeats 4000000 in
theorem term_reader_list_p0i_sii_ok {K : Hp} {xb : Int} {qa0 : List UInt8} {qa1 : Int} {qa2 : Int} {pba : Nat}  {r : ((List Int) × Int × Int)} (h : fn_term_reader_list_p0i_sii xb qa0 qa1 qa2 = some r) :
    Tr Try.prog 56 #[.pointer (some ⟨pba, 0, none⟩), .int .i64 xb] K [Cl pba 69 [.string ⟨qa0.toArray⟩, .int .i64 qa1, .int .i64 qa2]] (fun v K' L' => (∃ (l218 : (List Int)) (i223 : Int) (i224 : Int) (ad219 : Option Addr) (cp220 : Nat), (l218, i223, i224) = r ∧ .slice ad219 l218.length cp220 = v ∧ L' = [Cl pba 69 [.string ⟨qa0.toArray⟩, .int .i64 i223, .int .i64 i224], Row Hp.nil 3 (.int .i64) (.slice ad219 l218.length cp220) l218]) ∧ K = K') := by
  refine Tr.k ?_
  refine Tr.of Try.func56 rfl Try.ntmps56 rfl (fun E F => ?_)
  unfold fn_term_reader_list_p0i_sii at h
  refine CJ.seq ?_
  refine CJ.region ?_
  refine J.val (v := .slice none 0 0) rfl rfl (V.as rfl) ?_
  refine J.nil ?_
  refine CJ.seq ?_
  refine CJ.region ?_
  refine J.val rfl rfl (V.mv rfl) ?_
  obtain ⟨r225, hr226, h⟩ := ob h
  refine J.op rfl (A.call (L1 := [Cl pba 69 [.string ⟨qa0.toArray⟩, .int .i64 qa1, .int .i64 qa2]]) Try.call30 rfl (term_reader_number_p0_sii_ok hr226) rfl rfl) ?_
  rintro _ _ _ ⟨v230, _, rfl, ⟨⟨i227, i228, i229, rfl, rfl, rfl⟩, rfl⟩, _, rfl⟩
  refine J.val (v := .int .i64 i227) rfl rfl (V.as rfl) ?_
  refine J.nil ?_
  refine CJ.seq ?_
  obtain ⟨o235, ho236, h⟩ := ob h
  refine CJ.meetN (fun ρ K' L' => ∃ (i234 : Int), i234 = o235 ∧ Fits [(0, .pointer (some ⟨pba, 0, none⟩)), (5, .int .i64 i227)] ρ ∧ K = K' ∧ L' = Cl pba 69 [.string ⟨qa0.toArray⟩, .int .i64 i228, .int .i64 i234] :: F) ?_ ?_
  · skip
    refine CJ.seq ?_
    refine CJ.region ?_
    refine J.val (v := .int .i64 i227) rfl rfl (V.mv rfl) ?_
    refine J.val (v := .int .i64 xb) rfl rfl (V.mv rfl) ?_
    refine J.val (v := .bool (decide (xb < i227))) rfl rfl (V.gtr rfl rfl) ?_
    refine J.nil ?_
    refine CJ.cond rfl (fun hc237 => ?_) (fun hc237 => ?_)
    · have ho236 := ct hc237 ho236
      refine CJ.region ?_
      refine J.val rfl rfl (V.mv rfl) ?_
      refine J.val rfl rfl (V.nck rfl) ?_
      refine J.val rfl rfl (V.fad Try.underlying69 rfl nz36 rfl) ?_
      refine J.op rfl (A.store1 (v := .int .i64 6) (cs' := [.string ⟨qa0.toArray⟩, .int .i64 i228, .int .i64 6]) sz36 rfl rfl rfl rfl rfl rfl) ?_
      rintro _ _ _ ⟨rfl, rfl, rfl⟩
      refine J.nil ?_
      have e := Option.some.inj ho236
      subst e
      exact ⟨rfl, ⟨6, rfl, ⟨rfl, rfl, trivial⟩, rfl, rfl⟩⟩
    · have ho236 := cf hc237 ho236
      refine CJ.skip ?_
      have e := Option.some.inj ho236
      subst e
      exact ⟨rfl, ⟨i229, rfl, ⟨rfl, rfl, trivial⟩, rfl, rfl⟩⟩
  · rintro ρ _ _ ⟨i234, rfl, hf238, rfl, rfl⟩
    obtain ⟨ρ, rfl⟩ := hf238.ex
    refine PJ.done ?_
    refine CJ.seq ?_
    refine CJ.region ?_
    refine J.val (v := .slice none 0 0) rfl rfl (V.as rfl) ?_
    refine J.nil ?_
    refine CJ.seq ?_
    refine CJ.seq ?_
    refine CJ.region ?_
    refine J.val (v := .int .i64 0) rfl rfl (V.as rfl) ?_
    refine J.nil ?_
    obtain ⟨o341, ho342, h⟩ := ob h
    refine CJ.meetN (fun ρ K' L' => ∃ (l334 : (List Int)) (i339 : Int) (i340 : Int) (ad335 : Option Addr) (cp336 : Nat), (l334, i339, i340) = o341 ∧ Fits [(6, .slice ad335 l334.length cp336)] ρ ∧ K = K' ∧ L' = Cl pba 69 [.string ⟨qa0.toArray⟩, .int .i64 i339, .int .i64 i340] :: Row Hp.nil 3 (.int .i64) (.slice ad335 l334.length cp336) l334 :: F) ?_ ?_
    · skip
      refine CJ.block ?_
      refine CJ.by (fun w hs => Sep.rowNil (e := 3) (t := (.int .i64)) hs) ?_
      refine CJ.front 1 rfl ?_
      refine CJ.loop (fun s ρ K' L' => ∃ (l374 : (List Int)) (i379 : Int) (i380 : Int) (i381 : Int) (ad375 : Option Addr) (cp376 : Nat), (l374, i379, i380, i381) = s ∧ Fits [(0, .pointer (some ⟨pba, 0, none⟩)), (5, .int .i64 i227), (6, .slice ad375 l374.length cp376), (7, .int .i64 i379)] ρ ∧ K = K' ∧ L' = Cl pba 69 [.string ⟨qa0.toArray⟩, .int .i64 i380, .int .i64 i381] :: Row Hp.nil 3 (.int .i64) (.slice ad375 l374.length cp376) l374 :: F) ho342 ⟨[], 0, i228, i234, none, 0, rfl, ⟨rfl, rfl, rfl, rfl, trivial⟩, rfl, rfl⟩ ?_
      rintro s ρ _ _ r415 ⟨l374, i379, i380, i381, ad375, cp376, rfl, hf413, rfl, rfl⟩ h411
      obtain ⟨ρ, rfl⟩ := hf413.ex
      refine CJ.front 1 rfl ?_
      refine CJ.wit Row.hn (fun hn378 => ?_)
      refine CJ.seq ?_
      refine CJ.seq ?_
      refine CJ.region ?_
      refine J.val (v := .int .i64 i379) rfl rfl (V.mv rfl) ?_
      refine J.val (v := .int .i64 i227) rfl rfl (V.mv rfl) ?_
      refine J.val (v := .bool (decide (i379 < i227))) rfl rfl (V.lss rfl rfl) ?_
      refine J.val (v := .bool (decide (i379 < i227))) rfl rfl (V.mv rfl) ?_
      refine J.cut 6 ?_
      refine @J.meet _ _ _ _ _ _ _ _ _ _ (fun ρ K' L' => Fits [(25, .bool ((decide (i379 < i227)) && (decide (i381 = 0)))), (0, .pointer (some ⟨pba, 0, none⟩)), (5, .int .i64 i227), (6, .slice ad375 l374.length cp376), (7, .int .i64 i379)] ρ ∧ K = K' ∧ L' = Row Hp.nil 3 (.int .i64) (.slice ad375 l374.length cp376) l374 :: Cl pba 69 [.string ⟨qa0.toArray⟩, .int .i64 i380, .int .i64 i381] :: F) ?_ ?_
      · skip
        rcases bt (decide (i379 < i227)) with hc418 | hc418
        · skip
          refine J.run rfl rfl rfl hc418 ?_
          refine J.val rfl rfl (V.mv rfl) ?_
          refine J.run rfl rfl rfl hc418 ?_
          refine J.val rfl rfl (V.nck rfl) ?_
          refine J.run rfl rfl rfl hc418 ?_
          refine J.val rfl rfl (V.fad Try.underlying69 rfl nz36 rfl) ?_
          refine J.run rfl rfl rfl hc418 ?_
          refine J.val (v := .int .i64 i381) rfl rfl (V.ld rfl (Ld.sc sc36 (Rd.cl 1 rfl rfl))) ?_
          refine J.run rfl rfl rfl hc418 ?_
          refine J.val (v := .bool (decide (i381 = 0))) rfl rfl (V.eql rfl rfl) ?_
          refine J.val (v := .bool (decide (i381 = 0))) rfl rfl (V.pickT rfl hc418 rfl) ?_
          refine J.nil ?_
          exact ⟨rfl, ⟨(by simp only [hc418]; rfl), rfl, rfl, rfl, rfl, trivial⟩, rfl, rfl⟩
        · skip
          refine J.skip rfl rfl rfl rfl hc418 ?_
          refine J.skip rfl rfl rfl rfl hc418 ?_
          refine J.skip rfl rfl rfl rfl hc418 ?_
          refine J.skip rfl rfl rfl rfl hc418 ?_
          refine J.skip rfl rfl rfl rfl hc418 ?_
          refine J.val (v := .bool false) rfl rfl (V.pickF rfl hc418 rfl) ?_
          refine J.nil ?_
          exact ⟨rfl, ⟨(by simp only [hc418]; rfl), rfl, rfl, rfl, rfl, trivial⟩, rfl, rfl⟩
      · rintro ρ _ _ ⟨hf, rfl, rfl⟩
        obtain ⟨ρ, rfl⟩ := hf.ex
        refine J.nil ?_
        refine CJ.cond rfl (fun hc419 => ?_) (fun hc419 => ?_)
        · have h411 := ct hc419 h411
          refine CJ.skip ?_
          refine CJ.seq ?_
          refine CJ.block ?_
          refine CJ.region ?_
          refine J.val (v := .slice ad375 l374.length cp376) rfl rfl (V.mv rfl) ?_
          refine J.val rfl rfl (V.mv rfl) ?_
          obtain ⟨r420, hr421, h411⟩ := ob h411
          refine J.front 1 rfl ?_
          refine J.op rfl (A.call (L1 := [Cl pba 69 [.string ⟨qa0.toArray⟩, .int .i64 i380, .int .i64 i381]]) Try.call30 rfl (term_reader_number_p0_sii_ok hr421) rfl rfl) ?_
          rintro _ _ _ ⟨v425, _, rfl, ⟨⟨i422, i423, i424, rfl, rfl, rfl⟩, rfl⟩, _, rfl⟩
          refine J.op rfl (A.lit (K0 := Hp.nil) (ty := (.int .i64)) (xs := ([i422] : List Int)) Try.underlying22 inf3 rfl (by decide) rfl rfl rfl ⟨_, _, rfl, rfl, rfl⟩ rfl (by decide)) ?_
          rintro _ _ _ ⟨b428, rfl, rfl, rfl⟩
          have hn429 : ([i422] : List Int) ≠ [] → ∃ g, (some ⟨b428, 0, none⟩ : Option Addr) = some ⟨g, 0, none⟩ := fun _ => ⟨b428, rfl⟩
          obtain ⟨z431, hz432, h411⟩ := ob h411
          refine J.front 2 rfl ?_
          refine J.op rfl (A.appR (Kr := Hp.nil) Try.underlying22 inf3 rfl rfl (by decide) (by decide) rfl rfl (Els.flat rfl) (Els.flat rfl) hz432) ?_
          rintro _ _ _ ⟨v433, rfl, rfl, rfl⟩
          refine J.wit Row.form ?_
          rintro ⟨ad434, cp435, rfl, _, _, hn436⟩
          refine J.val (v := .slice ad434 z431.length cp435) rfl rfl (V.as rfl) ?_
          refine J.nil ?_
          refine CJ.region ?_
          refine J.val (v := .int .i64 i379) rfl rfl (V.mv rfl) ?_
          refine J.val (v := .int .i64 (IntKind.wrap .i64 (i379 + 1))) rfl rfl (V.add rfl rfl) ?_
          refine J.val (v := .int .i64 (IntKind.wrap .i64 (i379 + 1))) rfl rfl (V.as rfl) ?_
          refine J.front 1 rfl ?_
          refine J.nil ?_
          have e := Option.some.inj h411
          subst e
          exact ⟨rfl, ⟨z431, IntKind.wrap .i64 (i379 + 1), i423, i424, ad434, cp435, rfl, ⟨rfl, rfl, rfl, rfl, trivial⟩, rfl, rfl⟩⟩
        · have h411 := cf hc419 h411
          refine CJ.front 1 rfl ?_
          refine CJ.exit ?_
          have e := Option.some.inj h411
          subst e
          refine ⟨nofun, fun e => ?_⟩
          subst e
          exact ⟨rfl, ⟨l374, i380, i381, ad375, cp376, rfl, ⟨rfl, trivial⟩, rfl, rfl⟩⟩
    · rintro ρ _ _ ⟨l334, i339, i340, ad335, cp336, rfl, hf437, rfl, rfl⟩
      obtain ⟨ρ, rfl⟩ := hf437.ex
      refine PJ.front 1 rfl ?_
      refine PJ.wit Row.hn (fun hn338 => ?_)
      refine PJ.done ?_
      refine CJ.seq ?_
      refine CJ.region ?_
      refine J.val (v := .slice ad335 l334.length cp336) rfl rfl (V.mv rfl) ?_
      refine J.val (v := .slice ad335 l334.length cp336) rfl rfl (V.as rfl) ?_
      refine J.nil ?_
      refine CJ.ret ?_
      have e := Option.some.inj h
      subst e
      exact ⟨_, [Cl pba 69 [.string ⟨qa0.toArray⟩, .int .i64 i339, .int .i64 i340], Row Hp.nil 3 (.int .i64) (.slice ad335 l334.length cp336) l334], Res.one rfl rfl, ⟨l334, i339, i340, ad335, cp336, rfl, rfl, rfl⟩, (Hp.le_refl _), fun w hs => (Sep.front 1 rfl hs)⟩

noncomputable def fn_term_reader_fields_p0p1_sii_iiinnn (qa0 : List UInt8) (qa1 : Int) (qa2 : Int) (qb0 : Int) (qb1 : Int) (qb2 : Int) : Option ((Int × Int × Int × Int × Int × (List Int) × (List Int) × (List Int))) :=
  cond (decide (qb0 = 1)) ((fn_term_reader_number_p0_sii qa0 qa1 qa2).bind fun (i132, i133, i134) => some ((i133, i134, qb0, qb1, qb2, ([i132] : List Int), [], []))) (cond (decide (qb0 = 2)) ((fn_term_reader_list_p0i_sii 16 qa0 qa1 qa2).bind fun (l146, i147, i148) => (cond ((decide (i148 = 0)) && (decide ((((l146.length : Nat) : Int)) = 0))) (some (3)) (some (i148)) : Option Int).bind fun i160 => (fn_term_reader_list_p0i_sii 16 qa0 i147 i160).bind fun (l171, i172, i173) => some ((i172, i173, qb0, qb1, qb2, l146, l171, []))) (cond (decide (qb0 = 3)) (some ((qa1, qa2, qb0, qb1, qb2, [], [], []))) (cond (decide (qb0 = 4)) ((fn_term_reader_number_p0_sii qa0 qa1 qa2).bind fun (i189, i190, i191) => (fn_term_reader_number_p0_sii qa0 i190 i191).bind fun (i197, i198, i199) => (fn_term_reader_number_p0_sii qa0 i198 i199).bind fun (i205, i206, i207) => (fn_term_reader_list_p0i_sii 16 qa0 i206 i207).bind fun (l216, i217, i218) => (fn_term_reader_list_p0i_sii 16 qa0 i217 i218).bind fun (l228, i229, i230) => some ((i229, i230, qb0, i189, i197, ([i205] : List Int), l228, l216))) (some ((qa1, 3, qb0, qb1, qb2, [], [], []))))))
set_option maxRecDepth 100000 in
set_option maxHeartbeats 4000000 in
theorem term_reader_fields_p0p1_sii_iiinnn_ok {K : Hp} {qa0 : List UInt8} {qa1 : Int} {qa2 : Int} {qb0 : Int} {qb1 : Int} {qb2 : Int} {pba : Nat} {pbb : Nat}  {r : (Int × Int × Int × Int × Int × (List Int) × (List Int) × (List Int))} (h : fn_term_reader_fields_p0p1_sii_iiinnn qa0 qa1 qa2 qb0 qb1 qb2 = some r) :
    Tr Try.prog 31 #[.pointer (some ⟨pba, 0, none⟩), .pointer (some ⟨pbb, 0, none⟩)] K [Cl pba 69 [.string ⟨qa0.toArray⟩, .int .i64 qa1, .int .i64 qa2], Cl pbb 24 [.int .i64 qb0, .int .i64 qb1, .int .i64 qb2, .slice none 0 0, .slice none 0 0, .slice none 0 0]] (fun v K' L' => (∃ (i109 : Int) (i110 : Int) (i111 : Int) (i112 : Int) (i113 : Int) (l114 : (List Int)) (l119 : (List Int)) (l124 : (List Int)) (ad115 : Option Addr) (cp116 : Nat) (ad120 : Option Addr) (cp121 : Nat) (ad125 : Option Addr) (cp126 : Nat), (i109, i110, i111, i112, i113, l114, l119, l124) = r ∧ .tuple #[] = v ∧ L' = [Cl pba 69 [.string ⟨qa0.toArray⟩, .int .i64 i109, .int .i64 i110], Cl pbb 24 [.int .i64 i111, .int .i64 i112, .int .i64 i113, .slice ad115 l114.length cp116, .slice ad120 l119.length cp121, .slice ad125 l124.length cp126], Row Hp.nil 3 (.int .i64) (.slice ad115 l114.length cp116) l114, Row Hp.nil 3 (.int .i64) (.slice ad120 l119.length cp121) l119, Row Hp.nil 3 (.int .i64) (.slice ad125 l124.length cp126) l124]) ∧ K = K') := by
  refine Tr.k ?_
  refine Tr.of Try.func31 rfl Try.ntmps31 rfl (fun E F => ?_)
  unfold fn_term_reader_fields_p0p1_sii_iiinnn at h
  refine CJ.seq ?_
  refine CJ.region ?_
  refine J.val rfl rfl (V.mv rfl) ?_
  refine J.val rfl rfl (V.nck rfl) ?_
  refine J.val rfl rfl (V.fad Try.underlying24 rfl nz3 rfl) ?_
  refine J.val (v := .int .i64 qb0) rfl rfl (V.ld rfl (Ld.sc sc3 (Rd.cl 1 rfl rfl))) ?_
  refine J.nil ?_
  refine CJ.block ?_
  refine CJ.seq ?_
  refine CJ.region ?_
  refine J.val (v := .bool (decide (qb0 = 1))) rfl rfl (V.eql rfl rfl) ?_
  refine J.val (v := .bool (decide (qb0 = 1))) rfl rfl (V.as rfl) ?_
  refine J.nil ?_
  refine CJ.cond rfl (fun hc129 => ?_) (fun hc129 => ?_)
  · have h := ct hc129 h
    refine CJ.region ?_
    refine J.val rfl rfl (V.mv rfl) ?_
    refine J.val rfl rfl (V.mv rfl) ?_
    obtain ⟨r130, hr131, h⟩ := ob h
    refine J.op rfl (A.call (L1 := [Cl pba 69 [.string ⟨qa0.toArray⟩, .int .i64 qa1, .int .i64 qa2]]) Try.call30 rfl (term_reader_number_p0_sii_ok hr131) rfl rfl) ?_
    rintro _ _ _ ⟨v135, _, rfl, ⟨⟨i132, i133, i134, rfl, rfl, rfl⟩, rfl⟩, _, rfl⟩
    refine J.op rfl (A.lit (K0 := Hp.nil) (ty := (.int .i64)) (xs := ([i132] : List Int)) Try.underlying22 inf3 rfl (by decide) rfl rfl rfl ⟨_, _, rfl, rfl, rfl⟩ rfl (by decide)) ?_
    rintro _ _ _ ⟨b138, rfl, rfl, rfl⟩
    have hn139 : ([i132] : List Int) ≠ [] → ∃ g, (some ⟨b138, 0, none⟩ : Option Addr) = some ⟨g, 0, none⟩ := fun _ => ⟨b138, rfl⟩
    refine J.val rfl rfl (V.nck rfl) ?_
    refine J.val rfl rfl (V.fad Try.underlying24 rfl nz22 rfl) ?_
    refine J.front 2 rfl ?_
    refine J.op rfl (A.store1 (v := .slice (some ⟨b138, 0, none⟩) (([i132] : List Int).length) 1) (cs' := [.int .i64 qb0, .int .i64 qb1, .int .i64 qb2, .slice (some ⟨b138, 0, none⟩) (([i132] : List Int).length) 1, .slice none 0 0, .slice none 0 0]) sz22 rfl rfl rfl rfl rfl rfl) ?_
    rintro _ _ _ ⟨rfl, rfl, rfl⟩
    refine J.by (fun w hs => Sep.rowNil (e := 3) (t := (.int .i64)) hs) ?_
    refine J.by (fun w hs => Sep.rowNil (e := 3) (t := (.int .i64)) hs) ?_
    refine J.nil ?_
    have e := Option.some.inj h
    subst e
    exact ⟨_, [Cl pba 69 [.string ⟨qa0.toArray⟩, .int .i64 i133, .int .i64 i134], Cl pbb 24 [.int .i64 qb0, .int .i64 qb1, .int .i64 qb2, .slice (some ⟨b138, 0, none⟩) (([i132] : List Int).length) 1, .slice none 0 0, .slice none 0 0], Row Hp.nil 3 (.int .i64) (.slice (some ⟨b138, 0, none⟩) (([i132] : List Int).length) 1) ([i132] : List Int), Row Hp.nil 3 (.int .i64) (.slice none (([] : List Int).length) 0) ([] : List Int), Row Hp.nil 3 (.int .i64) (.slice none (([] : List Int).length) 0) ([] : List Int)], Res.zero rfl, ⟨i133, i134, qb0, qb1, qb2, ([i132] : List Int), [], [], (some ⟨b138, 0, none⟩), 1, none, 0, none, 0, rfl, rfl, rfl⟩, (Hp.le_refl _), fun w hs => (Sep.front 4 rfl (Sep.front 3 rfl (Sep.front 3 rfl (Sep.front 1 rfl hs))))⟩
  · have h := cf hc129 h
    refine CJ.seq ?_
    refine CJ.region ?_
    refine J.val (v := .bool (decide (qb0 = 2))) rfl rfl (V.eql rfl rfl) ?_
    refine J.val (v := .bool (decide (qb0 = 2))) rfl rfl (V.as rfl) ?_
    refine J.nil ?_
    refine CJ.cond rfl (fun hc143 => ?_) (fun hc143 => ?_)
    · have h := ct hc143 h
      refine CJ.seq ?_
      refine CJ.region ?_
      refine J.val rfl rfl (V.mv rfl) ?_
      refine J.val rfl rfl (V.mv rfl) ?_
      obtain ⟨r144, hr145, h⟩ := ob h
      refine J.op rfl (A.call (L1 := [Cl pba 69 [.string ⟨qa0.toArray⟩, .int .i64 qa1, .int .i64 qa2]]) Try.call56 rfl (term_reader_list_p0i_sii_ok hr145) rfl rfl) ?_
      rintro _ _ _ ⟨v152, _, rfl, ⟨⟨l146, i147, i148, ad149, cp150, rfl, rfl, rfl⟩, rfl⟩, _, rfl⟩
      refine J.front 1 rfl ?_
      refine J.wit Row.hn (fun hn151 => ?_)
      refine J.val rfl rfl (V.nck rfl) ?_
      refine J.val rfl rfl (V.fad Try.underlying24 rfl nz22 rfl) ?_
      refine J.front 2 rfl ?_
      refine J.op rfl (A.store1 (v := .slice ad149 l146.length cp150) (cs' := [.int .i64 qb0, .int .i64 qb1, .int .i64 qb2, .slice ad149 l146.length cp150, .slice none 0 0, .slice none 0 0]) sz22 rfl rfl rfl rfl rfl rfl) ?_
      rintro _ _ _ ⟨rfl, rfl, rfl⟩
      refine J.nil ?_
      refine CJ.seq ?_
      obtain ⟨o161, ho162, h⟩ := ob h
      refine CJ.meetN (fun ρ K' L' => ∃ (i160 : Int), i160 = o161 ∧ Fits [(0, .pointer (some ⟨pba, 0, none⟩)), (1, .pointer (some ⟨pbb, 0, none⟩))] ρ ∧ K = K' ∧ L' = Cl pba 69 [.string ⟨qa0.toArray⟩, .int .i64 i147, .int .i64 i160] :: Cl pbb 24 [.int .i64 qb0, .int .i64 qb1, .int .i64 qb2, .slice ad149 l146.length cp150, .slice none 0 0, .slice none 0 0] :: Row Hp.nil 3 (.int .i64) (.slice ad149 l146.length cp150) l146 :: F) ?_ ?_
      · skip
        refine CJ.seq ?_
        refine CJ.region ?_
        refine J.val rfl rfl (V.mv rfl) ?_
        refine J.val rfl rfl (V.nck rfl) ?_
        refine J.val rfl rfl (V.fad Try.underlying69 rfl nz36 rfl) ?_
        refine J.val (v := .int .i64 i148) rfl rfl (V.ld rfl (Ld.sc sc36 (Rd.cl 2 rfl rfl))) ?_
        refine J.val (v := .bool (decide (i148 = 0))) rfl rfl (V.eql rfl rfl) ?_
        refine J.val (v := .bool (decide (i148 = 0))) rfl rfl (V.mv rfl) ?_
        refine J.cut 7 ?_
        refine @J.meet _ _ _ _ _ _ _ _ _ _ (fun ρ K' L' => Fits [(38, .bool ((decide (i148 = 0)) && (decide ((((l146.length : Nat) : Int)) = 0)))), (0, .pointer (some ⟨pba, 0, none⟩)), (1, .pointer (some ⟨pbb, 0, none⟩))] ρ ∧ K = K' ∧ L' = Cl pbb 24 [.int .i64 qb0, .int .i64 qb1, .int .i64 qb2, .slice ad149 l146.length cp150, .slice none 0 0, .slice none 0 0] :: Row Hp.nil 3 (.int .i64) (.slice ad149 l146.length cp150) l146 :: Cl pba 69 [.string ⟨qa0.toArray⟩, .int .i64 i147, .int .i64 i148] :: F) ?_ ?_
        · skip
          rcases bt (decide (i148 = 0)) with hc165 | hc165
          · skip
            refine J.run rfl rfl rfl hc165 ?_
            refine J.val rfl rfl (V.mv rfl) ?_
            refine J.run rfl rfl rfl hc165 ?_
            refine J.val rfl rfl (V.nck rfl) ?_
            refine J.run rfl rfl rfl hc165 ?_
            refine J.val rfl rfl (V.fad Try.underlying24 rfl nz22 rfl) ?_
            refine J.run rfl rfl rfl hc165 ?_
            refine J.val (v := .slice ad149 l146.length cp150) rfl rfl (V.ld rfl (Ld.sc sc22 (Rd.cl 0 rfl rfl))) ?_
            refine J.run rfl rfl rfl hc165 ?_
            refine J.val (v := .int .i64 (((l146.length : Nat) : Int))) rfl rfl (V.len Try.underlying22 rfl) ?_
            refine J.run rfl rfl rfl hc165 ?_
            refine J.val (v := .bool (decide ((((l146.length : Nat) : Int)) = 0))) rfl rfl (V.eql rfl rfl) ?_
            refine J.val (v := .bool (decide ((((l146.length : Nat) : Int)) = 0))) rfl rfl (V.pickT rfl hc165 rfl) ?_
            refine J.nil ?_
            exact ⟨rfl, ⟨(by simp only [hc165]; rfl), rfl, rfl, trivial⟩, rfl, rfl⟩
          · skip
            refine J.skip rfl rfl rfl rfl hc165 ?_
            refine J.skip rfl rfl rfl rfl hc165 ?_
            refine J.skip rfl rfl rfl rfl hc165 ?_
            refine J.skip rfl rfl rfl rfl hc165 ?_
            refine J.skip rfl rfl rfl rfl hc165 ?_
            refine J.skip rfl rfl rfl rfl hc165 ?_
            refine J.val (v := .bool false) rfl rfl (V.pickF rfl hc165 rfl) ?_
            refine J.nil ?_
            exact ⟨rfl, ⟨(by simp only [hc165]; rfl), rfl, rfl, trivial⟩, rfl, rfl⟩
        · rintro ρ _ _ ⟨hf, rfl, rfl⟩
          obtain ⟨ρ, rfl⟩ := hf.ex
          refine J.nil ?_
          refine CJ.cond rfl (fun hc166 => ?_) (fun hc166 => ?_)
          · have ho162 := ct hc166 ho162
            refine CJ.region ?_
            refine J.val rfl rfl (V.mv rfl) ?_
            refine J.val rfl rfl (V.nck rfl) ?_
            refine J.val rfl rfl (V.fad Try.underlying69 rfl nz36 rfl) ?_
            refine J.front 2 rfl ?_
            refine J.op rfl (A.store1 (v := .int .i64 3) (cs' := [.string ⟨qa0.toArray⟩, .int .i64 i147, .int .i64 3]) sz36 rfl rfl rfl rfl rfl rfl) ?_
            rintro _ _ _ ⟨rfl, rfl, rfl⟩
            refine J.nil ?_
            have e := Option.some.inj ho162
            subst e
            exact ⟨rfl, ⟨3, rfl, ⟨rfl, rfl, trivial⟩, rfl, rfl⟩⟩
          · have ho162 := cf hc166 ho162
            refine CJ.front 1 rfl ?_
            refine CJ.front 1 rfl ?_
            refine CJ.front 2 rfl ?_
            refine CJ.skip ?_
            have e := Option.some.inj ho162
            subst e
            exact ⟨rfl, ⟨i148, rfl, ⟨rfl, rfl, trivial⟩, rfl, rfl⟩⟩
      · rintro ρ _ _ ⟨i160, rfl, hf167, rfl, rfl⟩
        obtain ⟨ρ, rfl⟩ := hf167.ex
        refine PJ.done ?_
        refine CJ.region ?_
        refine J.val rfl rfl (V.mv rfl) ?_
        refine J.val rfl rfl (V.mv rfl) ?_
        obtain ⟨r169, hr170, h⟩ := ob h
        refine J.op rfl (A.call (L1 := [Cl pba 69 [.string ⟨qa0.toArray⟩, .int .i64 i147, .int .i64 i160]]) Try.call56 rfl (term_reader_list_p0i_sii_ok hr170) rfl rfl) ?_
        rintro _ _ _ ⟨v177, _, rfl, ⟨⟨l171, i172, i173, ad174, cp175, rfl, rfl, rfl⟩, rfl⟩, _, rfl⟩
        refine J.front 1 rfl ?_
        refine J.wit Row.hn (fun hn176 => ?_)
        refine J.val rfl rfl (V.nck rfl) ?_
        refine J.val rfl rfl (V.fad Try.underlying24 rfl nz22 rfl) ?_
        refine J.front 2 rfl ?_
        refine J.op rfl (A.store1 (v := .slice ad174 l171.length cp175) (cs' := [.int .i64 qb0, .int .i64 qb1, .int .i64 qb2, .slice ad149 l146.length cp150, .slice ad174 l171.length cp175, .slice none 0 0]) sz22 rfl rfl rfl rfl rfl rfl) ?_
        rintro _ _ _ ⟨rfl, rfl, rfl⟩
        refine J.by (fun w hs => Sep.rowNil (e := 3) (t := (.int .i64)) hs) ?_
        refine J.nil ?_
        have e := Option.some.inj h
        subst e
        exact ⟨_, [Cl pba 69 [.string ⟨qa0.toArray⟩, .int .i64 i172, .int .i64 i173], Cl pbb 24 [.int .i64 qb0, .int .i64 qb1, .int .i64 qb2, .slice ad149 l146.length cp150, .slice ad174 l171.length cp175, .slice none 0 0], Row Hp.nil 3 (.int .i64) (.slice ad149 l146.length cp150) l146, Row Hp.nil 3 (.int .i64) (.slice ad174 l171.length cp175) l171, Row Hp.nil 3 (.int .i64) (.slice none (([] : List Int).length) 0) ([] : List Int)], Res.zero rfl, ⟨i172, i173, qb0, qb1, qb2, l146, l171, [], ad149, cp150, ad174, cp175, none, 0, rfl, rfl, rfl⟩, (Hp.le_refl _), fun w hs => (Sep.front 4 rfl (Sep.front 3 rfl (Sep.front 4 rfl (Sep.front 2 rfl hs))))⟩
    · have h := cf hc143 h
      refine CJ.seq ?_
      refine CJ.region ?_
      refine J.val (v := .bool (decide (qb0 = 3))) rfl rfl (V.eql rfl rfl) ?_
      refine J.val (v := .bool (decide (qb0 = 3))) rfl rfl (V.as rfl) ?_
      refine J.nil ?_
      refine CJ.cond rfl (fun hc182 => ?_) (fun hc182 => ?_)
      · have h := ct hc182 h
        refine CJ.by (fun w hs => Sep.rowNil (e := 3) (t := (.int .i64)) hs) ?_
        refine CJ.by (fun w hs => Sep.rowNil (e := 3) (t := (.int .i64)) hs) ?_
        refine CJ.by (fun w hs => Sep.rowNil (e := 3) (t := (.int .i64)) hs) ?_
        refine CJ.skip ?_
        have e := Option.some.inj h
        subst e
        exact ⟨_, [Cl pba 69 [.string ⟨qa0.toArray⟩, .int .i64 qa1, .int .i64 qa2], Cl pbb 24 [.int .i64 qb0, .int .i64 qb1, .int .i64 qb2, .slice none 0 0, .slice none 0 0, .slice none 0 0], Row Hp.nil 3 (.int .i64) (.slice none (([] : List Int).length) 0) ([] : List Int), Row Hp.nil 3 (.int .i64) (.slice none (([] : List Int).length) 0) ([] : List Int), Row Hp.nil 3 (.int .i64) (.slice none (([] : List Int).length) 0) ([] : List Int)], Res.zero rfl, ⟨qa1, qa2, qb0, qb1, qb2, [], [], [], none, 0, none, 0, none, 0, rfl, rfl, rfl⟩, (Hp.le_refl _), fun w hs => (Sep.front 4 rfl (Sep.front 4 rfl (Sep.front 2 rfl (Sep.front 1 rfl hs))))⟩
      · have h := cf hc182 h
        refine CJ.seq ?_
        refine CJ.region ?_
        refine J.val (v := .bool (decide (qb0 = 4))) rfl rfl (V.eql rfl rfl) ?_
        refine J.val (v := .bool (decide (qb0 = 4))) rfl rfl (V.as rfl) ?_
        refine J.nil ?_
        refine CJ.cond rfl (fun hc186 => ?_) (fun hc186 => ?_)
        · have h := ct hc186 h
          refine CJ.seq ?_
          refine CJ.region ?_
          refine J.val rfl rfl (V.mv rfl) ?_
          refine J.val rfl rfl (V.mv rfl) ?_
          obtain ⟨r187, hr188, h⟩ := ob h
          refine J.op rfl (A.call (L1 := [Cl pba 69 [.string ⟨qa0.toArray⟩, .int .i64 qa1, .int .i64 qa2]]) Try.call30 rfl (term_reader_number_p0_sii_ok hr188) rfl rfl) ?_
          rintro _ _ _ ⟨v192, _, rfl, ⟨⟨i189, i190, i191, rfl, rfl, rfl⟩, rfl⟩, _, rfl⟩
          refine J.val rfl rfl (V.nck rfl) ?_
          refine J.val rfl rfl (V.fad Try.underlying24 rfl nz3 rfl) ?_
          refine J.front 1 rfl ?_
          refine J.op rfl (A.store1 (v := .int .i64 i189) (cs' := [.int .i64 qb0, .int .i64 i189, .int .i64 qb2, .slice none 0 0, .slice none 0 0, .slice none 0 0]) sz3 rfl rfl rfl rfl rfl rfl) ?_
          rintro _ _ _ ⟨rfl, rfl, rfl⟩
          refine J.nil ?_
          refine CJ.seq ?_
          refine CJ.region ?_
          refine J.val rfl rfl (V.mv rfl) ?_
          refine J.val rfl rfl (V.mv rfl) ?_
          obtain ⟨r195, hr196, h⟩ := ob h
          refine J.front 1 rfl ?_
          refine J.op rfl (A.call (L1 := [Cl pba 69 [.string ⟨qa0.toArray⟩, .int .i64 i190, .int .i64 i191]]) Try.call30 rfl (term_reader_number_p0_sii_ok hr196) rfl rfl) ?_
          rintro _ _ _ ⟨v200, _, rfl, ⟨⟨i197, i198, i199, rfl, rfl, rfl⟩, rfl⟩, _, rfl⟩
          refine J.val rfl rfl (V.nck rfl) ?_
          refine J.val rfl rfl (V.fad Try.underlying24 rfl nz3 rfl) ?_
          refine J.front 1 rfl ?_
          refine J.op rfl (A.store1 (v := .int .i64 i197) (cs' := [.int .i64 qb0, .int .i64 i189, .int .i64 i197, .slice none 0 0, .slice none 0 0, .slice none 0 0]) sz3 rfl rfl rfl rfl rfl rfl) ?_
          rintro _ _ _ ⟨rfl, rfl, rfl⟩
          refine J.nil ?_
          refine CJ.seq ?_
          refine CJ.region ?_
          refine J.val rfl rfl (V.mv rfl) ?_
          refine J.val rfl rfl (V.mv rfl) ?_
          obtain ⟨r203, hr204, h⟩ := ob h
          refine J.front 1 rfl ?_
          refine J.op rfl (A.call (L1 := [Cl pba 69 [.string ⟨qa0.toArray⟩, .int .i64 i198, .int .i64 i199]]) Try.call30 rfl (term_reader_number_p0_sii_ok hr204) rfl rfl) ?_
          rintro _ _ _ ⟨v208, _, rfl, ⟨⟨i205, i206, i207, rfl, rfl, rfl⟩, rfl⟩, _, rfl⟩
          refine J.op rfl (A.lit (K0 := Hp.nil) (ty := (.int .i64)) (xs := ([i205] : List Int)) Try.underlying22 inf3 rfl (by decide) rfl rfl rfl ⟨_, _, rfl, rfl, rfl⟩ rfl (by decide)) ?_
          rintro _ _ _ ⟨b211, rfl, rfl, rfl⟩
          have hn212 : ([i205] : List Int) ≠ [] → ∃ g, (some ⟨b211, 0, none⟩ : Option Addr) = some ⟨g, 0, none⟩ := fun _ => ⟨b211, rfl⟩
          refine J.val rfl rfl (V.nck rfl) ?_
          refine J.val rfl rfl (V.fad Try.underlying24 rfl nz22 rfl) ?_
          refine J.front 2 rfl ?_
          refine J.op rfl (A.store1 (v := .slice (some ⟨b211, 0, none⟩) (([i205] : List Int).length) 1) (cs' := [.int .i64 qb0, .int .i64 i189, .int .i64 i197, .slice (some ⟨b211, 0, none⟩) (([i205] : List Int).length) 1, .slice none 0 0, .slice none 0 0]) sz22 rfl rfl rfl rfl rfl rfl) ?_
          rintro _ _ _ ⟨rfl, rfl, rfl⟩
          refine J.nil ?_
          refine CJ.seq ?_
          refine CJ.region ?_
          refine J.val rfl rfl (V.mv rfl) ?_
          refine J.val rfl rfl (V.mv rfl) ?_
          obtain ⟨r214, hr215, h⟩ := ob h
          refine J.front 2 rfl ?_
          refine J.op rfl (A.call (L1 := [Cl pba 69 [.string ⟨qa0.toArray⟩, .int .i64 i206, .int .i64 i207]]) Try.call56 rfl (term_reader_list_p0i_sii_ok hr215) rfl rfl) ?_
          rintro _ _ _ ⟨v222, _, rfl, ⟨⟨l216, i217, i218, ad219, cp220, rfl, rfl, rfl⟩, rfl⟩, _, rfl⟩
          refine J.front 1 rfl ?_
          refine J.wit Row.hn (fun hn221 => ?_)
          refine J.val rfl rfl (V.nck rfl) ?_
          refine J.val rfl rfl (V.fad Try.underlying24 rfl nz22 rfl) ?_
          refine J.front 2 rfl ?_
          refine J.op rfl (A.store1 (v := .slice ad219 l216.length cp220) (cs' := [.int .i64 qb0, .int .i64 i189, .int .i64 i197, .slice (some ⟨b211, 0, none⟩) (([i205] : List Int).length) 1, .slice none 0 0, .slice ad219 l216.length cp220]) sz22 rfl rfl rfl rfl rfl rfl) ?_
          rintro _ _ _ ⟨rfl, rfl, rfl⟩
          refine J.nil ?_
          refine CJ.region ?_
          refine J.val rfl rfl (V.mv rfl) ?_
          refine J.val rfl rfl (V.mv rfl) ?_
          obtain ⟨r226, hr227, h⟩ := ob h
          refine J.front 2 rfl ?_
          refine J.op rfl (A.call (L1 := [Cl pba 69 [.string ⟨qa0.toArray⟩, .int .i64 i217, .int .i64 i218]]) Try.call56 rfl (term_reader_list_p0i_sii_ok hr227) rfl rfl) ?_
          rintro _ _ _ ⟨v234, _, rfl, ⟨⟨l228, i229, i230, ad231, cp232, rfl, rfl, rfl⟩, rfl⟩, _, rfl⟩
          refine J.front 1 rfl ?_
          refine J.wit Row.hn (fun hn233 => ?_)
          refine J.val rfl rfl (V.nck rfl) ?_
          refine J.val rfl rfl (V.fad Try.underlying24 rfl nz22 rfl) ?_
          refine J.front 2 rfl ?_
          refine J.op rfl (A.store1 (v := .slice ad231 l228.length cp232) (cs' := [.int .i64 qb0, .int .i64 i189, .int .i64 i197, .slice (some ⟨b211, 0, none⟩) (([i205] : List Int).length) 1, .slice ad231 l228.length cp232, .slice ad219 l216.length cp220]) sz22 rfl rfl rfl rfl rfl rfl) ?_
          rintro _ _ _ ⟨rfl, rfl, rfl⟩
          refine J.nil ?_
          have e := Option.some.inj h
          subst e
          exact ⟨_, [Cl pba 69 [.string ⟨qa0.toArray⟩, .int .i64 i229, .int .i64 i230], Cl pbb 24 [.int .i64 qb0, .int .i64 i189, .int .i64 i197, .slice (some ⟨b211, 0, none⟩) (([i205] : List Int).length) 1, .slice ad231 l228.length cp232, .slice ad219 l216.length cp220], Row Hp.nil 3 (.int .i64) (.slice (some ⟨b211, 0, none⟩) (([i205] : List Int).length) 1) ([i205] : List Int), Row Hp.nil 3 (.int .i64) (.slice ad231 l228.length cp232) l228, Row Hp.nil 3 (.int .i64) (.slice ad219 l216.length cp220) l216], Res.zero rfl, ⟨i229, i230, qb0, i189, i197, ([i205] : List Int), l228, l216, (some ⟨b211, 0, none⟩), 1, ad231, cp232, ad219, cp220, rfl, rfl, rfl⟩, (Hp.le_refl _), fun w hs => (Sep.front 4 rfl (Sep.front 3 rfl (Sep.front 4 rfl (Sep.front 2 rfl (Sep.front 3 rfl hs)))))⟩
        · have h := cf hc186 h
          refine CJ.region ?_
          refine J.val rfl rfl (V.mv rfl) ?_
          refine J.val rfl rfl (V.nck rfl) ?_
          refine J.val rfl rfl (V.fad Try.underlying69 rfl nz36 rfl) ?_
          refine J.op rfl (A.store1 (v := .int .i64 3) (cs' := [.string ⟨qa0.toArray⟩, .int .i64 qa1, .int .i64 3]) sz36 rfl rfl rfl rfl rfl rfl) ?_
          rintro _ _ _ ⟨rfl, rfl, rfl⟩
          refine J.by (fun w hs => Sep.rowNil (e := 3) (t := (.int .i64)) hs) ?_
          refine J.by (fun w hs => Sep.rowNil (e := 3) (t := (.int .i64)) hs) ?_
          refine J.by (fun w hs => Sep.rowNil (e := 3) (t := (.int .i64)) hs) ?_
          refine J.nil ?_
          have e := Option.some.inj h
          subst e
          exact ⟨_, [Cl pba 69 [.string ⟨qa0.toArray⟩, .int .i64 qa1, .int .i64 3], Cl pbb 24 [.int .i64 qb0, .int .i64 qb1, .int .i64 qb2, .slice none 0 0, .slice none 0 0, .slice none 0 0], Row Hp.nil 3 (.int .i64) (.slice none (([] : List Int).length) 0) ([] : List Int), Row Hp.nil 3 (.int .i64) (.slice none (([] : List Int).length) 0) ([] : List Int), Row Hp.nil 3 (.int .i64) (.slice none (([] : List Int).length) 0) ([] : List Int)], Res.zero rfl, ⟨qa1, 3, qb0, qb1, qb2, [], [], [], none, 0, none, 0, none, 0, rfl, rfl, rfl⟩, (Hp.le_refl _), fun w hs => (Sep.front 4 rfl (Sep.front 4 rfl (Sep.front 2 rfl (Sep.front 1 rfl hs))))⟩

noncomputable def fn_term_Take (xa : (List UInt8)) : Option ((Int × Int × Int × (List Int) × (List Int) × (List Int) × Int × Int)) :=
  (fn_term_reader_number_p0_sii xa 0 0).bind fun (i120, i121, i122) => (cond (decide (i122 = 0)) ((fn_term_reader_fields_p0p1_sii_iiinnn xa i121 i122 i120 0 0).bind fun (i178, i179, i180, i181, i182, l183, l184, l185) => some ((i178, i179, i180, i181, i182, l183, l184, l185))) (some ((i121, i122, i120, 0, 0, [], [], []))) : Option ((Int × Int × Int × Int × Int × (List Int) × (List Int) × (List Int)))).bind fun (i153, i154, i155, i156, i157, l158, l163, l168) => cond (!decide (i154 = 0)) (some ((0, 0, 0, [], [], [], 0, i154))) (some ((i155, i156, i157, l158, l163, l168, i153, 0)))
set_option maxRecDepth 100000 in
set_option maxHeartbeats 4000000 in
theorem term_Take_ok {K : Hp} {xa : (List UInt8)}   {r : (Int × Int × Int × (List Int) × (List Int) × (List Int) × Int × Int)} (h : fn_term_Take xa = some r) :
    Tr Try.prog 13 #[.string ⟨xa.toArray⟩] K [] (fun v K' L' => (∃ (i96 : Int) (i97 : Int) (i98 : Int) (l99 : (List Int)) (l104 : (List Int)) (l109 : (List Int)) (i114 : Int) (i115 : Int) (ad100 : Option Addr) (cp101 : Nat) (ad105 : Option Addr) (cp106 : Nat) (ad110 : Option Addr) (cp111 : Nat), (i96, i97, i98, l99, l104, l109, i114, i115) = r ∧ .tuple #[.agg #[.int .i64 i96, .int .i64 i97, .int .i64 i98, .slice ad100 l99.length cp101, .slice ad105 l104.length cp106, .slice ad110 l109.length cp111], .int .i64 i114, .int .i64 i115] = v ∧ L' = [Row Hp.nil 3 (.int .i64) (.slice ad100 l99.length cp101) l99, Row Hp.nil 3 (.int .i64) (.slice ad105 l104.length cp106) l104, Row Hp.nil 3 (.int .i64) (.slice ad110 l109.length cp111) l109]) ∧ K = K') := by
  refine Tr.k ?_
  refine Tr.of Try.func13 rfl Try.ntmps13 rfl (fun E F => ?_)
  unfold fn_term_Take at h
  refine CJ.seq ?_
  refine CJ.region ?_
  refine J.op rfl (A.alloc (cs := [.int .i64 0, .int .i64 0, .int .i64 0, .slice none 0 0, .slice none 0 0, .slice none 0 0]) inf24 rfl) ?_
  rintro _ _ _ ⟨b116, rfl, rfl, rfl⟩
  refine J.val (v := .int .i64 0) rfl rfl (V.as rfl) ?_
  refine J.val (v := .int .i64 0) rfl rfl (V.as rfl) ?_
  refine J.nil ?_
  refine CJ.seq ?_
  refine CJ.region ?_
  refine J.val (v := .string ⟨xa.toArray⟩) rfl rfl (V.mv rfl) ?_
  refine J.val (v := .agg #[.string ⟨xa.toArray⟩, .int .i64 0, .int .i64 0]) rfl rfl (V.build inf69 places69 rfl rfl) ?_
  refine J.op rfl (A.alloc (cs := [.string ⟨([] : List UInt8).toArray⟩, .int .i64 0, .int .i64 0]) inf69 rfl) ?_
  rintro _ _ _ ⟨b117, rfl, rfl, rfl⟩
  refine J.op rfl (A.store (v := .agg #[.string ⟨xa.toArray⟩, .int .i64 0, .int .i64 0]) (cs' := [.string ⟨xa.toArray⟩, .int .i64 0, .int .i64 0]) sz69 rfl rfl rfl rfl rfl rfl) ?_
  rintro _ _ _ ⟨rfl, rfl, rfl⟩
  refine J.nil ?_
  refine CJ.seq ?_
  refine CJ.region ?_
  obtain ⟨r118, hr119, h⟩ := ob h
  refine J.op rfl (A.call (L1 := [Cl b117 69 [.string ⟨xa.toArray⟩, .int .i64 0, .int .i64 0]]) Try.call30 rfl (term_reader_number_p0_sii_ok hr119) rfl rfl) ?_
  rintro _ _ _ ⟨v123, _, rfl, ⟨⟨i120, i121, i122, rfl, rfl, rfl⟩, rfl⟩, _, rfl⟩
  refine J.val (v := .agg #[.int .i64 i120, .int .i64 0, .int .i64 0, .slice none 0 0, .slice none 0 0, .slice none 0 0]) rfl rfl (V.build inf24 places24 rfl rfl) ?_
  refine J.op rfl (A.alloc (cs := [.int .i64 0, .int .i64 0, .int .i64 0, .slice none 0 0, .slice none 0 0, .slice none 0 0]) inf24 rfl) ?_
  rintro _ _ _ ⟨b126, rfl, rfl, rfl⟩
  refine J.op rfl (A.store (v := .agg #[.int .i64 i120, .int .i64 0, .int .i64 0, .slice none 0 0, .slice none 0 0, .slice none 0 0]) (cs' := [.int .i64 i120, .int .i64 0, .int .i64 0, .slice none 0 0, .slice none 0 0, .slice none 0 0]) sz24 rfl rfl rfl rfl rfl rfl) ?_
  rintro _ _ _ ⟨rfl, rfl, rfl⟩
  refine J.nil ?_
  refine CJ.seq ?_
  obtain ⟨o173, ho174, h⟩ := ob h
  refine CJ.meetN (fun ρ K' L' => ∃ (i153 : Int) (i154 : Int) (i155 : Int) (i156 : Int) (i157 : Int) (l158 : (List Int)) (l163 : (List Int)) (l168 : (List Int)) (ad159 : Option Addr) (cp160 : Nat) (ad164 : Option Addr) (cp165 : Nat) (ad169 : Option Addr) (cp170 : Nat), (i153, i154, i155, i156, i157, l158, l163, l168) = o173 ∧ Fits [(2, .pointer (some ⟨b116, 0, none⟩)), (5, .pointer (some ⟨b117, 0, none⟩)), (6, .pointer (some ⟨b126, 0, none⟩))] ρ ∧ K = K' ∧ L' = Cl b116 24 [.int .i64 0, .int .i64 0, .int .i64 0, .slice none 0 0, .slice none 0 0, .slice none 0 0] :: Cl b117 69 [.string ⟨xa.toArray⟩, .int .i64 i153, .int .i64 i154] :: Cl b126 24 [.int .i64 i155, .int .i64 i156, .int .i64 i157, .slice ad159 l158.length cp160, .slice ad164 l163.length cp165, .slice ad169 l168.length cp170] :: Row Hp.nil 3 (.int .i64) (.slice ad159 l158.length cp160) l158 :: Row Hp.nil 3 (.int .i64) (.slice ad164 l163.length cp165) l163 :: Row Hp.nil 3 (.int .i64) (.slice ad169 l168.length cp170) l168 :: F) ?_ ?_
  · skip
    refine CJ.seq ?_
    refine CJ.region ?_
    refine J.val rfl rfl (V.fad Try.underlying69 rfl nz36 rfl) ?_
    refine J.val (v := .int .i64 i122) rfl rfl (V.ld rfl (Ld.sc sc36 (Rd.cl 1 rfl rfl))) ?_
    refine J.val (v := .bool (decide (i122 = 0))) rfl rfl (V.eql rfl rfl) ?_
    refine J.nil ?_
    refine CJ.cond rfl (fun hc175 => ?_) (fun hc175 => ?_)
    · have ho174 := ct hc175 ho174
      refine CJ.region ?_
      obtain ⟨r176, hr177, ho174⟩ := ob ho174
      refine J.front 1 rfl ?_
      refine J.op rfl (A.call (L1 := [Cl b117 69 [.string ⟨xa.toArray⟩, .int .i64 i121, .int .i64 i122], Cl b126 24 [.int .i64 i120, .int .i64 0, .int .i64 0, .slice none 0 0, .slice none 0 0, .slice none 0 0]]) Try.call31 rfl (term_reader_fields_p0p1_sii_iiinnn_ok hr177) rfl rfl) ?_
      rintro _ _ _ ⟨v195, _, rfl, ⟨⟨i178, i179, i180, i181, i182, l183, l184, l185, ad186, cp187, ad188, cp189, ad190, cp191, rfl, rfl, rfl⟩, rfl⟩, _, rfl⟩
      refine J.front 2 rfl ?_
      refine J.wit Row.hn (fun hn192 => ?_)
      refine J.front 3 rfl ?_
      refine J.wit Row.hn (fun hn193 => ?_)
      refine J.front 4 rfl ?_
      refine J.wit Row.hn (fun hn194 => ?_)
      refine J.front 1 rfl ?_
      refine J.front 2 rfl ?_
      refine J.front 4 rfl ?_
      refine J.front 4 rfl ?_
      refine J.front 5 rfl ?_
      refine J.nil ?_
      have e := Option.some.inj ho174
      subst e
      exact ⟨rfl, ⟨i178, i179, i180, i181, i182, l183, l184, l185, ad186, cp187, ad188, cp189, ad190, cp191, rfl, ⟨rfl, rfl, rfl, trivial⟩, rfl, rfl⟩⟩
    · have ho174 := cf hc175 ho174
      refine CJ.by (fun w hs => Sep.rowNil (e := 3) (t := (.int .i64)) hs) ?_
      refine CJ.by (fun w hs => Sep.rowNil (e := 3) (t := (.int .i64)) hs) ?_
      refine CJ.by (fun w hs => Sep.rowNil (e := 3) (t := (.int .i64)) hs) ?_
      refine CJ.front 1 rfl ?_
      refine CJ.front 2 rfl ?_
      refine CJ.front 3 rfl ?_
      refine CJ.front 4 rfl ?_
      refine CJ.front 5 rfl ?_
      refine CJ.skip ?_
      have e := Option.some.inj ho174
      subst e
      exact ⟨rfl, ⟨i121, i122, i120, 0, 0, [], [], [], none, 0, none, 0, none, 0, rfl, ⟨rfl, rfl, rfl, trivial⟩, rfl, rfl⟩⟩
  · rintro ρ _ _ ⟨i153, i154, i155, i156, i157, l158, l163, l168, ad159, cp160, ad164, cp165, ad169, cp170, rfl, hf204, rfl, rfl⟩
    obtain ⟨ρ, rfl⟩ := hf204.ex
    refine PJ.front 3 rfl ?_
    refine PJ.wit Row.hn (fun hn162 => ?_)
    refine PJ.front 4 rfl ?_
    refine PJ.wit Row.hn (fun hn167 => ?_)
    refine PJ.front 5 rfl ?_
    refine PJ.wit Row.hn (fun hn172 => ?_)
    refine PJ.done ?_
    refine CJ.seq ?_
    refine CJ.seq ?_
    refine CJ.region ?_
    refine J.val rfl rfl (V.fad Try.underlying69 rfl nz36 rfl) ?_
    refine J.val (v := .int .i64 i154) rfl rfl (V.ld rfl (Ld.sc sc36 (Rd.cl 4 rfl rfl))) ?_
    refine J.val (v := .bool (!decide (i154 = 0))) rfl rfl (V.neq rfl rfl) ?_
    refine J.nil ?_
    refine CJ.cond rfl (fun hc206 => ?_) (fun hc206 => ?_)
    · have h := ct hc206 h
      refine CJ.seq ?_
      refine CJ.mix [Row Hp.nil 3 (.int .i64) (.slice ad169 l168.length cp170) l168, Row Hp.nil 3 (.int .i64) (.slice ad164 l163.length cp165) l163, Row Hp.nil 3 (.int .i64) (.slice ad159 l158.length cp160) l158, Cl b116 24 [.int .i64 0, .int .i64 0, .int .i64 0, .slice none 0 0, .slice none 0 0, .slice none 0 0], Cl b117 69 [.string ⟨xa.toArray⟩, .int .i64 i153, .int .i64 i154], Cl b126 24 [.int .i64 i155, .int .i64 i156, .int .i64 i157, .slice ad159 l158.length cp160, .slice ad164 l163.length cp165, .slice ad169 l168.length cp170]] [([0, 1, 2], 3)] [4, 5] [] mixO (by decide +kernel) ⟨0, rfl, 0, rfl, 0, rfl, 0, rfl, 0, rfl, 0, rfl, trivial⟩ rfl rfl rfl ?_
      refine JM.cons ?_
      refine JQ.val (v := .agg #[.int .i64 0, .int .i64 0, .int .i64 0, .slice none 0 0, .slice none 0 0, .slice none 0 0]) rfl rfl (V.build inf24 places24 rfl rfl) ?_
      refine JQ.val rfl rfl (V.fad Try.underlying69 rfl nz36 rfl) ?_
      refine JQ.val (v := .int .i64 i154) rfl rfl (V.ld rfl (Ld.sc sc36 (Rd.cl 4 rfl rfl))) ?_
      refine JQ.nil ?_
      refine JA.front 3 rfl ?_
      refine JA.op rfl (A.store (v := .agg #[.int .i64 0, .int .i64 0, .int .i64 0, .slice none 0 0, .slice none 0 0, .slice none 0 0]) (cs' := [.int .i64 0, .int .i64 0, .int .i64 0, .slice none 0 0, .slice none 0 0, .slice none 0 0]) sz24 rfl rfl rfl rfl rfl rfl) ?_
      rintro _ _ _ ⟨rfl, rfl, rfl⟩
      refine ⟨fun w hs => Hold.sub (Hp.le_refl _) ⟨1, rfl, 1, rfl, 1, rfl, 0, rfl, 0, rfl, 0, rfl, trivial⟩ hs, ?_⟩
      refine JM.nil ?_
      refine JQ.val (v := .int .i64 0) rfl rfl (V.as rfl) ?_
      refine JQ.val (v := .int .i64 i154) rfl rfl (V.as rfl) ?_
      refine JQ.nil ?_
      refine J.nil ?_
      refine CJ.by (fun w hs => Sep.rowNil (e := 3) (t := (.int .i64)) hs) ?_
      refine CJ.by (fun w hs => Sep.rowNil (e := 3) (t := (.int .i64)) hs) ?_
      refine CJ.by (fun w hs => Sep.rowNil (e := 3) (t := (.int .i64)) hs) ?_
      refine CJ.ret ?_
      have e := Option.some.inj h
      subst e
      exact ⟨_, [Row Hp.nil 3 (.int .i64) (.slice none (([] : List Int).length) 0) ([] : List Int), Row Hp.nil 3 (.int .i64) (.slice none (([] : List Int).length) 0) ([] : List Int), Row Hp.nil 3 (.int .i64) (.slice none (([] : List Int).length) 0) ([] : List Int)], Res.three rfl ⟨_, _, rfl, Ld.agg (cs := [.int .i64 0, .int .i64 0, .int .i64 0, .slice none 0 0, .slice none 0 0, .slice none 0 0]) Try.underlying24 sz24 rfl (Rd.cls 3 0 rfl rfl)⟩ rfl rfl, ⟨0, 0, 0, [], [], [], 0, i154, none, 0, none, 0, none, 0, rfl, rfl, rfl⟩, (Hp.le_refl _), fun w hs => (Sep.front 2 rfl (Sep.front 1 rfl (Sep.dropAt 3 rfl (Sep.dropAt 3 rfl (Sep.dropAt 3 rfl (Sep.dropAt 3 rfl (Sep.dropAt 3 rfl (Sep.dropAt 3 rfl hs))))))))⟩
    · have h := cf hc206 h
      refine CJ.skip ?_
      refine CJ.seq ?_
      refine CJ.mix [Row Hp.nil 3 (.int .i64) (.slice ad169 l168.length cp170) l168, Row Hp.nil 3 (.int .i64) (.slice ad164 l163.length cp165) l163, Row Hp.nil 3 (.int .i64) (.slice ad159 l158.length cp160) l158, Cl b117 69 [.string ⟨xa.toArray⟩, .int .i64 i153, .int .i64 i154], Cl b126 24 [.int .i64 i155, .int .i64 i156, .int .i64 i157, .slice ad159 l158.length cp160, .slice ad164 l163.length cp165, .slice ad169 l168.length cp170]] [([0, 1, 2], 3)] [4, 5] [] mixO (by decide +kernel) ⟨0, rfl, 0, rfl, 0, rfl, 1, rfl, 1, rfl, trivial⟩ rfl rfl rfl ?_
      refine JM.cons ?_
      refine JQ.val (v := .agg #[.int .i64 i155, .int .i64 i156, .int .i64 i157, .slice ad159 l158.length cp160, .slice ad164 l163.length cp165, .slice ad169 l168.length cp170]) rfl rfl (V.ld rfl (Ld.agg (cs := [.int .i64 i155, .int .i64 i156, .int .i64 i157, .slice ad159 l158.length cp160, .slice ad164 l163.length cp165, .slice ad169 l168.length cp170]) Try.underlying24 sz24 rfl (Rd.cls 4 0 rfl rfl))) ?_
      refine JQ.val rfl rfl (V.fad Try.underlying69 rfl nz3 rfl) ?_
      refine JQ.val (v := .int .i64 i153) rfl rfl (V.ld rfl (Ld.sc sc3 (Rd.cl 3 rfl rfl))) ?_
      refine JQ.nil ?_
      refine JA.front 3 rfl ?_
      refine JA.op rfl (A.store (v := .agg #[.int .i64 i155, .int .i64 i156, .int .i64 i157, .slice ad159 l158.length cp160, .slice ad164 l163.length cp165, .slice ad169 l168.length cp170]) (cs' := [.int .i64 i155, .int .i64 i156, .int .i64 i157, .slice ad159 l158.length cp160, .slice ad164 l163.length cp165, .slice ad169 l168.length cp170]) sz24 rfl rfl rfl rfl rfl rfl) ?_
      rintro _ _ _ ⟨rfl, rfl, rfl⟩
      refine ⟨fun w hs => Hold.sub (Hp.le_refl _) ⟨1, rfl, 1, rfl, 1, rfl, 1, rfl, 1, rfl, trivial⟩ hs, ?_⟩
      refine JM.nil ?_
      refine JQ.val (v := .int .i64 i153) rfl rfl (V.as rfl) ?_
      refine JQ.val (v := .int .i64 0) rfl rfl (V.as rfl) ?_
      refine JQ.nil ?_
      refine J.nil ?_
      refine CJ.ret ?_
      have e := Option.some.inj h
      subst e
      exact ⟨_, [Row Hp.nil 3 (.int .i64) (.slice ad159 l158.length cp160) l158, Row Hp.nil 3 (.int .i64) (.slice ad164 l163.length cp165) l163, Row Hp.nil 3 (.int .i64) (.slice ad169 l168.length cp170) l168], Res.three rfl ⟨_, _, rfl, Ld.agg (cs := [.int .i64 i155, .int .i64 i156, .int .i64 i157, .slice ad159 l158.length cp160, .slice ad164 l163.length cp165, .slice ad169 l168.length cp170]) Try.underlying24 sz24 rfl (Rd.cls 0 0 rfl rfl)⟩ rfl rfl, ⟨i155, i156, i157, l158, l163, l168, i153, 0, ad159, cp160, ad164, cp165, ad169, cp170, rfl, rfl, rfl⟩, (Hp.le_refl _), fun w hs => (Sep.front 2 rfl (Sep.front 1 rfl (Sep.dropAt 3 rfl (Sep.dropAt 3 rfl (Sep.dropAt 0 rfl hs)))))⟩

noncomputable def fnr_ref02_digits : Nat → Int → Option (List UInt8)
  | 0, _ => none
  | fuel + 1, xa => cond (decide (xa < 256)) (some (toU8 ([IntKind.wrap .u8 xa] : List Int))) (((fnr_ref02_digits fuel (IntKind.wrap .i64 (Int.tdiv xa 256))).bind fun s212 => (app s212 (toU8 (([IntKind.wrap .u8 (Int.tmod xa 256)] : List Int)))).bind fun z222 => some (z222) : Option (List UInt8)).bind fun s182 => some (s182))
noncomputable def fn_ref02_digits (xa : Int) : Option (List UInt8) := lev (fun n => fnr_ref02_digits n xa)
set_option maxRecDepth 100000 in
set_option maxHeartbeats 4000000 in
theorem ref02_digits_okr : ∀ (fuel : Nat) {K : Hp} {xa : Int}   {r : List UInt8} (h : fnr_ref02_digits fuel xa = some r),
    Tr Try.prog 60 #[.int .i64 xa] K [] (fun v K' L' => (∃ (s123 : List UInt8), s123 = r ∧ .string ⟨s123.toArray⟩ = v ∧ L' = []) ∧ K = K') := by
  intro fuel
  induction fuel with
  | zero => intro K xa r h; rw [fnr_ref02_digits] at h; cases h
  | succ fuel ih =>
    intro K xa r h
    refine Tr.k ?_
    refine Tr.of Try.func60 rfl Try.ntmps60 rfl (fun E F => ?_)
    rw [fnr_ref02_digits] at h
    refine CJ.seq ?_
    refine CJ.region ?_
    refine J.val (v := .string ⟨([] : List UInt8).toArray⟩) rfl rfl (V.as rfl) ?_
    refine J.nil ?_
    refine CJ.seq ?_
    refine CJ.seq ?_
    refine CJ.region ?_
    refine J.val (v := .int .i64 xa) rfl rfl (V.mv rfl) ?_
    refine J.val (v := .bool (decide (xa < 256))) rfl rfl (V.lss rfl rfl) ?_
    refine J.nil ?_
    refine CJ.cond rfl (fun hc124 => ?_) (fun hc124 => ?_)
    · have h := ct hc124 h
      refine CJ.seq ?_
      refine CJ.region ?_
      refine J.val (v := .int .i64 xa) rfl rfl (V.mv rfl) ?_
      refine J.val (v := .int .u8 (IntKind.wrap .u8 xa)) rfl rfl (V.conv Try.underlying3 Try.underlying5 rfl) ?_
      refine J.op rfl (A.lit (K0 := Hp.nil) (ty := (.int .u8)) (xs := ([IntKind.wrap .u8 xa] : List Int)) Try.underlying80 inf5 rfl (by decide) rfl rfl rfl ⟨_, _, rfl, rfl, rfl⟩ rfl (by decide)) ?_
      rintro _ _ _ ⟨b125, rfl, rfl, rfl⟩
      have hn126 : ([IntKind.wrap .u8 xa] : List Int) ≠ [] → ∃ g, (some ⟨b125, 0, none⟩ : Option Addr) = some ⟨g, 0, none⟩ := fun _ => ⟨b125, rfl⟩
      refine J.val (v := .string ⟨(toU8 ([IntKind.wrap .u8 xa] : List Int)).toArray⟩) rfl rfl (V.b2sR 0 rfl Try.underlying80 Try.underlying5 Try.underlying9 rfl) ?_
      refine J.val (v := .string ⟨(toU8 ([IntKind.wrap .u8 xa] : List Int)).toArray⟩) rfl rfl (V.as rfl) ?_
      refine J.nil ?_
      refine CJ.ret ?_
      have e := Option.some.inj h
      subst e
      exact ⟨_, [], Res.one rfl rfl, ⟨toU8 ([IntKind.wrap .u8 xa] : List Int), rfl, rfl, rfl⟩, (Hp.le_refl _), fun w hs => (Sep.dropAt 0 rfl hs)⟩
    · have h := cf hc124 h
      refine CJ.skip ?_
      refine CJ.seq ?_
      obtain ⟨o183, ho184, h⟩ := ob h
      refine CJ.meetN (fun ρ K' L' => ∃ (s182 : List UInt8), s182 = o183 ∧ Fits [(2, .string ⟨s182.toArray⟩)] ρ ∧ K = K' ∧ F = L') ?_ ?_
      · skip
        refine CJ.tree [] (.still [0, 1, 3, 4, 5] (.alt 2 (.alt 6 (.alt 7 (.leaf [8, 9]) .done) .done) (.alt 6 (.alt 2 (.alt 7 (.leaf [8, 9]) .done) (.alt 7 (.alt 2 (.leaf [8, 9]) .done) .done)) .done))) [] mixO (by decide +kernel) trivial rfl ?_
        refine JT.still rfl ?_
        refine JQ.val (v := .int .i64 xa) rfl rfl (V.mv rfl) ?_
        refine JQ.val (v := .int .i64 (IntKind.wrap .i64 (Int.tdiv xa 256))) rfl rfl (V.quo rfl rfl (by decide)) ?_
        refine JQ.val (v := .int .i64 xa) rfl rfl (V.mv rfl) ?_
        refine JQ.val (v := .int .i64 (Int.tmod xa 256)) rfl rfl (V.rem rfl rfl (by decide)) ?_
        refine JQ.val (v := .int .u8 (IntKind.wrap .u8 (Int.tmod xa 256))) rfl rfl (V.conv Try.underlying3 Try.underlying5 rfl) ?_
        refine JQ.nil ?_
        obtain ⟨r213, hr214, ho184⟩ := ob ho184
        refine JT.alt rfl ?_ ?_
        · skip
          refine JB.op rfl (A.call (L1 := []) Try.call60 rfl (ih hr214) rfl rfl) ?_
          rintro _ _ _ ⟨v216, _, rfl, ⟨⟨s212, rfl, rfl, rfl⟩, rfl⟩, _, rfl⟩
          refine ⟨fun w hs => Hold.sub (Hp.le_refl _) trivial hs, ?_⟩
          refine JT.alt rfl ?_ JT.done
          refine JB.op rfl (A.lit (K0 := Hp.nil) (ty := (.int .u8)) (xs := ([IntKind.wrap .u8 (Int.tmod xa 256)] : List Int)) Try.underlying80 inf5 rfl (by decide) rfl rfl rfl ⟨_, _, rfl, rfl, rfl⟩ rfl (by decide)) ?_
          rintro _ _ _ ⟨b219, rfl, rfl, rfl⟩
          have hn220 : ([IntKind.wrap .u8 (Int.tmod xa 256)] : List Int) ≠ [] → ∃ g, (some ⟨b219, 0, none⟩ : Option Addr) = some ⟨g, 0, none⟩ := fun _ => ⟨b219, rfl⟩
          refine ⟨fun w hs => Hold.sub (Hp.le_refl _) trivial hs, ?_⟩
          refine JT.alt rfl ?_ JT.done
          refine JB.op rfl (A.val (v := .string ⟨(toU8 (([IntKind.wrap .u8 (Int.tmod xa 256)] : List Int))).toArray⟩) rfl (V.b2sR 0 rfl Try.underlying80 Try.underlying5 Try.underlying9 rfl)) ?_
          rintro _ _ _ ⟨rfl, rfl, rfl⟩
          refine ⟨fun w hs => Hold.sub (Hp.le_refl _) trivial hs, ?_⟩
          refine JT.leaf rfl ?_
          obtain ⟨z222, hz223, ho184⟩ := ob ho184
          refine JQ.val (v := .string ⟨z222.toArray⟩) rfl rfl (V.cat rfl rfl hz223) ?_
          refine JQ.val (v := .string ⟨z222.toArray⟩) rfl rfl (V.as rfl) ?_
          refine JQ.nil ?_
          refine J.dropAt 0 rfl ?_
          refine J.nil ?_
          have e := Option.some.inj ho184
          subst e
          exact ⟨rfl, ⟨z222, rfl, ⟨rfl, trivial⟩, rfl, rfl⟩⟩
        · skip
          refine JT.alt rfl ?_ JT.done
          refine JB.op rfl (A.lit (K0 := Hp.nil) (ty := (.int .u8)) (xs := ([IntKind.wrap .u8 (Int.tmod xa 256)] : List Int)) Try.underlying80 inf5 rfl (by decide) rfl rfl rfl ⟨_, _, rfl, rfl, rfl⟩ rfl (by decide)) ?_
          rintro _ _ _ ⟨b224, rfl, rfl, rfl⟩
          have hn225 : ([IntKind.wrap .u8 (Int.tmod xa 256)] : List Int) ≠ [] → ∃ g, (some ⟨b224, 0, none⟩ : Option Addr) = some ⟨g, 0, none⟩ := fun _ => ⟨b224, rfl⟩
          refine ⟨fun w hs => Hold.sub (Hp.le_refl _) trivial hs, ?_⟩
          refine JT.alt rfl ?_ ?_
          · skip
            refine JB.op rfl (A.call (L1 := []) Try.call60 rfl (ih hr214) rfl rfl) ?_
            rintro _ _ _ ⟨v228, _, rfl, ⟨⟨s212, rfl, rfl, rfl⟩, rfl⟩, _, rfl⟩
            refine ⟨fun w hs => Hold.sub (Hp.le_refl _) trivial hs, ?_⟩
            refine JT.alt rfl ?_ JT.done
            refine JB.op rfl (A.val (v := .string ⟨(toU8 (([IntKind.wrap .u8 (Int.tmod xa 256)] : List Int))).toArray⟩) rfl (V.b2sR 0 rfl Try.underlying80 Try.underlying5 Try.underlying9 rfl)) ?_
            rintro _ _ _ ⟨rfl, rfl, rfl⟩
            refine ⟨fun w hs => Hold.sub (Hp.le_refl _) trivial hs, ?_⟩
            refine JT.leaf rfl ?_
            obtain ⟨z231, hz232, ho184⟩ := ob ho184
            refine JQ.val (v := .string ⟨z231.toArray⟩) rfl rfl (V.cat rfl rfl hz232) ?_
            refine JQ.val (v := .string ⟨z231.toArray⟩) rfl rfl (V.as rfl) ?_
            refine JQ.nil ?_
            refine J.dropAt 0 rfl ?_
            refine J.nil ?_
            have e := Option.some.inj ho184
            subst e
            exact ⟨rfl, ⟨z231, rfl, ⟨rfl, trivial⟩, rfl, rfl⟩⟩
          · skip
            refine JT.alt rfl ?_ JT.done
            refine JB.op rfl (A.val (v := .string ⟨(toU8 (([IntKind.wrap .u8 (Int.tmod xa 256)] : List Int))).toArray⟩) rfl (V.b2sR 0 rfl Try.underlying80 Try.underlying5 Try.underlying9 rfl)) ?_
            rintro _ _ _ ⟨rfl, rfl, rfl⟩
            refine ⟨fun w hs => Hold.sub (Hp.le_refl _) trivial hs, ?_⟩
            refine JT.alt rfl ?_ JT.done
            refine JB.op rfl (A.call (L1 := []) Try.call60 rfl (ih hr214) rfl rfl) ?_
            rintro _ _ _ ⟨v234, _, rfl, ⟨⟨s212, rfl, rfl, rfl⟩, rfl⟩, _, rfl⟩
            refine ⟨fun w hs => Hold.sub (Hp.le_refl _) trivial hs, ?_⟩
            refine JT.leaf rfl ?_
            obtain ⟨z237, hz238, ho184⟩ := ob ho184
            refine JQ.val (v := .string ⟨z237.toArray⟩) rfl rfl (V.cat rfl rfl hz238) ?_
            refine JQ.val (v := .string ⟨z237.toArray⟩) rfl rfl (V.as rfl) ?_
            refine JQ.nil ?_
            refine J.dropAt 0 rfl ?_
            refine J.nil ?_
            have e := Option.some.inj ho184
            subst e
            exact ⟨rfl, ⟨z237, rfl, ⟨rfl, trivial⟩, rfl, rfl⟩⟩
      · rintro ρ _ _ ⟨s182, rfl, hf239, rfl, rfl⟩
        obtain ⟨ρ, rfl⟩ := hf239.ex
        refine PJ.done ?_
        refine CJ.ret ?_
        have e := Option.some.inj h
        subst e
        exact ⟨_, [], Res.one rfl rfl, ⟨s182, rfl, rfl, rfl⟩, (Hp.le_refl _), fun w hs => hs⟩
set_option maxRecDepth 100000 in
set_option maxHeartbeats 4000000 in
theorem ref02_digits_ok {K : Hp} {xa : Int}   {r : List UInt8} (h : fn_ref02_digits xa = some r) :
    Tr Try.prog 60 #[.int .i64 xa] K [] (fun v K' L' => (∃ (s123 : List UInt8), s123 = r ∧ .string ⟨s123.toArray⟩ = v ∧ L' = []) ∧ K = K') := by
  obtain ⟨n, hn⟩ := lev_some h
  exact ref02_digits_okr n  hn

noncomputable def fn_ref02_Put (xa : Int) : Option (List UInt8) :=
  cond ((decide (xa < 0)) || (decide (4294967295 < xa))) (some (([] : List UInt8))) (cond (decide (xa < 248)) (some (toU8 ([IntKind.wrap .u8 xa] : List Int))) ((fn_ref02_digits xa).bind fun s31 => (app (toU8 (([IntKind.wrap .u8 (IntKind.wrap .i64 (247 + (((s31.length : Nat) : Int))))] : List Int))) s31).bind fun z38 => some (z38)))
set_option maxRecDepth 100000 in
set_option maxHeartbeats 4000000 in
theorem ref02_Put_ok {K : Hp} {xa : Int}   {r : List UInt8} (h : fn_ref02_Put xa = some r) :
    Tr Try.prog 42 #[.int .i64 xa] K [] (fun v K' L' => (∃ (s20 : List UInt8), s20 = r ∧ .string ⟨s20.toArray⟩ = v ∧ L' = []) ∧ K = K') := by
  refine Tr.k ?_
  refine Tr.of Try.func42 rfl Try.ntmps42 rfl (fun E F => ?_)
  unfold fn_ref02_Put at h
  refine CJ.seq ?_
  refine CJ.region ?_
  refine J.val (v := .string ⟨([] : List UInt8).toArray⟩) rfl rfl (V.as rfl) ?_
  refine J.nil ?_
  refine CJ.seq ?_
  refine CJ.seq ?_
  refine CJ.region ?_
  refine J.val (v := .int .i64 xa) rfl rfl (V.mv rfl) ?_
  refine J.val (v := .bool (decide (xa < 0))) rfl rfl (V.lss rfl rfl) ?_
  refine J.val (v := .bool (decide (xa < 0))) rfl rfl (V.mv rfl) ?_
  refine J.cut 3 ?_
  refine @J.meet _ _ _ _ _ _ _ _ _ _ (fun ρ K' L' => Fits [(9, .bool ((decide (xa < 0)) || (decide (4294967295 < xa)))), (0, .int .i64 xa)] ρ ∧ K = K' ∧ F = L') ?_ ?_
  · skip
    rcases bt (decide (xa < 0)) with hc23 | hc23
    · skip
      refine J.skip rfl rfl rfl rfl hc23 ?_
      refine J.skip rfl rfl rfl rfl hc23 ?_
      refine J.val (v := .bool true) rfl rfl (V.pickT rfl hc23 rfl) ?_
      refine J.nil ?_
      exact ⟨rfl, ⟨(by simp only [hc23]; rfl), rfl, trivial⟩, rfl, rfl⟩
    · skip
      refine J.run rfl rfl rfl hc23 ?_
      refine J.val (v := .int .i64 xa) rfl rfl (V.mv rfl) ?_
      refine J.run rfl rfl rfl hc23 ?_
      refine J.val (v := .bool (decide (4294967295 < xa))) rfl rfl (V.gtr rfl rfl) ?_
      refine J.val (v := .bool (decide (4294967295 < xa))) rfl rfl (V.pickF rfl hc23 rfl) ?_
      refine J.nil ?_
      exact ⟨rfl, ⟨(by simp only [hc23]; rfl), rfl, trivial⟩, rfl, rfl⟩
  · rintro ρ _ _ ⟨hf, rfl, rfl⟩
    obtain ⟨ρ, rfl⟩ := hf.ex
    refine J.nil ?_
    refine CJ.cond rfl (fun hc24 => ?_) (fun hc24 => ?_)
    · have h := ct hc24 h
      refine CJ.seq ?_
      refine CJ.region ?_
      refine J.val (v := .string ⟨([] : List UInt8).toArray⟩) rfl rfl (V.as rfl) ?_
      refine J.nil ?_
      refine CJ.ret ?_
      have e := Option.some.inj h
      subst e
      exact ⟨_, [], Res.one rfl rfl, ⟨([] : List UInt8), rfl, rfl, rfl⟩, (Hp.le_refl _), fun w hs => hs⟩
    · have h := cf hc24 h
      refine CJ.skip ?_
      refine CJ.seq ?_
      refine CJ.seq ?_
      refine CJ.region ?_
      refine J.val (v := .int .i64 xa) rfl rfl (V.mv rfl) ?_
      refine J.val (v := .bool (decide (xa < 248))) rfl rfl (V.lss rfl rfl) ?_
      refine J.nil ?_
      refine CJ.cond rfl (fun hc25 => ?_) (fun hc25 => ?_)
      · have h := ct hc25 h
        refine CJ.seq ?_
        refine CJ.region ?_
        refine J.val (v := .int .i64 xa) rfl rfl (V.mv rfl) ?_
        refine J.val (v := .int .u8 (IntKind.wrap .u8 xa)) rfl rfl (V.conv Try.underlying3 Try.underlying5 rfl) ?_
        refine J.op rfl (A.lit (K0 := Hp.nil) (ty := (.int .u8)) (xs := ([IntKind.wrap .u8 xa] : List Int)) Try.underlying80 inf5 rfl (by decide) rfl rfl rfl ⟨_, _, rfl, rfl, rfl⟩ rfl (by decide)) ?_
        rintro _ _ _ ⟨b26, rfl, rfl, rfl⟩
        have hn27 : ([IntKind.wrap .u8 xa] : List Int) ≠ [] → ∃ g, (some ⟨b26, 0, none⟩ : Option Addr) = some ⟨g, 0, none⟩ := fun _ => ⟨b26, rfl⟩
        refine J.val (v := .string ⟨(toU8 ([IntKind.wrap .u8 xa] : List Int)).toArray⟩) rfl rfl (V.b2sR 0 rfl Try.underlying80 Try.underlying5 Try.underlying9 rfl) ?_
        refine J.val (v := .string ⟨(toU8 ([IntKind.wrap .u8 xa] : List Int)).toArray⟩) rfl rfl (V.as rfl) ?_
        refine J.nil ?_
        refine CJ.ret ?_
        have e := Option.some.inj h
        subst e
        exact ⟨_, [], Res.one rfl rfl, ⟨toU8 ([IntKind.wrap .u8 xa] : List Int), rfl, rfl, rfl⟩, (Hp.le_refl _), fun w hs => (Sep.dropAt 0 rfl hs)⟩
      · have h := cf hc25 h
        refine CJ.skip ?_
        refine CJ.seq ?_
        refine CJ.region ?_
        refine J.val (v := .int .i64 xa) rfl rfl (V.mv rfl) ?_
        obtain ⟨r29, hr30, h⟩ := ob h
        refine J.op rfl (A.call (L1 := []) Try.call60 rfl (ref02_digits_ok hr30) rfl rfl) ?_
        rintro _ _ _ ⟨v32, _, rfl, ⟨⟨s31, rfl, rfl, rfl⟩, rfl⟩, _, rfl⟩
        refine J.val (v := .string ⟨s31.toArray⟩) rfl rfl (V.as rfl) ?_
        refine J.nil ?_
        refine CJ.seq ?_
        refine CJ.region ?_
        refine J.val (v := .string ⟨s31.toArray⟩) rfl rfl (V.mv rfl) ?_
        refine J.val (v := .int .i64 (((s31.length : Nat) : Int))) rfl rfl (V.lens Try.underlying9 rfl) ?_
        refine J.val (v := .int .i64 (IntKind.wrap .i64 (247 + (((s31.length : Nat) : Int))))) rfl rfl (V.add rfl rfl) ?_
        refine J.val (v := .int .u8 (IntKind.wrap .u8 (IntKind.wrap .i64 (247 + (((s31.length : Nat) : Int)))))) rfl rfl (V.conv Try.underlying3 Try.underlying5 rfl) ?_
        refine J.op rfl (A.lit (K0 := Hp.nil) (ty := (.int .u8)) (xs := ([IntKind.wrap .u8 (IntKind.wrap .i64 (247 + (((s31.length : Nat) : Int))))] : List Int)) Try.underlying80 inf5 rfl (by decide) rfl rfl rfl ⟨_, _, rfl, rfl, rfl⟩ rfl (by decide)) ?_
        rintro _ _ _ ⟨b35, rfl, rfl, rfl⟩
        have hn36 : ([IntKind.wrap .u8 (IntKind.wrap .i64 (247 + (((s31.length : Nat) : Int))))] : List Int) ≠ [] → ∃ g, (some ⟨b35, 0, none⟩ : Option Addr) = some ⟨g, 0, none⟩ := fun _ => ⟨b35, rfl⟩
        refine J.val (v := .string ⟨(toU8 (([IntKind.wrap .u8 (IntKind.wrap .i64 (247 + (((s31.length : Nat) : Int))))] : List Int))).toArray⟩) rfl rfl (V.b2sR 0 rfl Try.underlying80 Try.underlying5 Try.underlying9 rfl) ?_
        refine J.val (v := .string ⟨s31.toArray⟩) rfl rfl (V.mv rfl) ?_
        obtain ⟨z38, hz39, h⟩ := ob h
        refine J.val (v := .string ⟨z38.toArray⟩) rfl rfl (V.cat rfl rfl hz39) ?_
        refine J.val (v := .string ⟨z38.toArray⟩) rfl rfl (V.as rfl) ?_
        refine J.nil ?_
        refine CJ.ret ?_
        have e := Option.some.inj h
        subst e
        exact ⟨_, [], Res.one rfl rfl, ⟨z38, rfl, rfl, rfl⟩, (Hp.le_refl _), fun w hs => (Sep.dropAt 0 rfl hs)⟩
noncomputable def fn_ref02_Take_l1 (xa : (List UInt8)) (x94 : UInt8) : (Int × Int) → Option ((Int × Int) ⊕ Int) := fun ((i141, i142) : (Int × Int)) => cond (decide (i142 ≤ (IntKind.wrap .i64 ((IntKind.wrap .i64 (((x94.toNat : Nat) : Int))) - 247)))) ((getI xa i142).bind fun x156 => some (.inl ((IntKind.wrap .i64 ((IntKind.wrap .i64 (i141 * 256)) + (IntKind.wrap .i64 (((x156.toNat : Nat) : Int)))), IntKind.wrap .i64 (i142 + 1))))) (some (.inr (i141)))
noncomputable def fn_ref02_Take (xa : (List UInt8)) : Option (Int × Int × Int) :=
  cond (decide (xa = ([] : List UInt8))) (some ((0, 0, 4))) ((getI xa 0).bind fun x94 => cond (decide ((IntKind.wrap .i64 (((x94.toNat : Nat) : Int))) < 248)) (some ((IntKind.wrap .i64 (((x94.toNat : Nat) : Int)), 1, 0))) (cond (decide (251 < (IntKind.wrap .i64 (((x94.toNat : Nat) : Int))))) (some ((0, 0, 3))) (cond (decide ((((xa.length : Nat) : Int)) < (IntKind.wrap .i64 (1 + (IntKind.wrap .i64 ((IntKind.wrap .i64 (((x94.toNat : Nat) : Int))) - 247)))))) (some ((0, 0, 4))) ((loop (fn_ref02_Take_l1 xa x94) (0, 1) : Option Int).bind fun i130 => (subL xa 0 (IntKind.wrap .i64 (1 + (IntKind.wrap .i64 ((IntKind.wrap .i64 (((x94.toNat : Nat) : Int))) - 247))))).bind fun y171 => (fn_ref02_Put i130).bind fun s175 => cond (!decide (s175 = y171)) (some ((0, 0, 3))) (some ((i130, IntKind.wrap .i64 (1 + (IntKind.wrap .i64 ((IntKind.wrap .i64 (((x94.toNat : Nat) : Int))) - 247))), 0)))))))
set_option maxRecDepth 100000 in
set_option maxHeartbeats 4000000 in
theorem ref02_Take_ok {K : Hp} {xa : (List UInt8)}   {r : (Int × Int × Int)} (h : fn_ref02_Take xa = some r) :
    Tr Try.prog 32 #[.string ⟨xa.toArray⟩] K [] (fun v K' L' => (∃ (i90 : Int) (i91 : Int) (i92 : Int), (i90, i91, i92) = r ∧ .tuple #[.int .i64 i90, .int .i64 i91, .int .i64 i92] = v ∧ L' = []) ∧ K = K') := by
  refine Tr.k ?_
  refine Tr.of Try.func32 rfl Try.ntmps32 rfl (fun E F => ?_)
  unfold fn_ref02_Take at h
  refine CJ.seq ?_
  refine CJ.region ?_
  refine J.val (v := .int .i64 0) rfl rfl (V.as rfl) ?_
  refine J.val (v := .int .i64 0) rfl rfl (V.as rfl) ?_
  refine J.val (v := .int .i64 0) rfl rfl (V.as rfl) ?_
  refine J.nil ?_
  refine CJ.seq ?_
  refine CJ.seq ?_
  refine CJ.region ?_
  refine J.val (v := .string ⟨xa.toArray⟩) rfl rfl (V.mv rfl) ?_
  refine J.val (v := .bool (decide (xa = ([] : List UInt8)))) rfl rfl (V.eqs rfl rfl) ?_
  refine J.nil ?_
  refine CJ.cond rfl (fun hc93 => ?_) (fun hc93 => ?_)
  · have h := ct hc93 h
    refine CJ.seq ?_
    refine CJ.region ?_
    refine J.val (v := .int .i64 0) rfl rfl (V.as rfl) ?_
    refine J.val (v := .int .i64 0) rfl rfl (V.as rfl) ?_
    refine J.val (v := .int .i64 4) rfl rfl (V.as rfl) ?_
    refine J.nil ?_
    refine CJ.ret ?_
    have e := Option.some.inj h
    subst e
    exact ⟨_, [], Res.three rfl rfl rfl rfl, ⟨0, 0, 4, rfl, rfl, rfl⟩, (Hp.le_refl _), fun w hs => hs⟩
  · have h := cf hc93 h
    refine CJ.skip ?_
    refine CJ.seq ?_
    refine CJ.region ?_
    refine J.val (v := .string ⟨xa.toArray⟩) rfl rfl (V.mv rfl) ?_
    obtain ⟨x94, hx95, h⟩ := ob h
    obtain ⟨p96, p97, p98⟩ := getI_some hx95
    refine J.val (v := .int .u8 (((x94.toNat : Nat) : Int))) rfl rfl (V.ixs Try.underlying9 rfl rfl p96 p97) ?_
    refine J.val (v := .int .i64 (IntKind.wrap .i64 (((x94.toNat : Nat) : Int)))) rfl rfl (V.conv Try.underlying5 Try.underlying3 rfl) ?_
    refine J.val (v := .int .i64 (IntKind.wrap .i64 (((x94.toNat : Nat) : Int)))) rfl rfl (V.as rfl) ?_
    refine J.nil ?_
    refine CJ.seq ?_
    refine CJ.seq ?_
    refine CJ.region ?_
    refine J.val (v := .int .i64 (IntKind.wrap .i64 (((x94.toNat : Nat) : Int)))) rfl rfl (V.mv rfl) ?_
    refine J.val (v := .bool (decide ((IntKind.wrap .i64 (((x94.toNat : Nat) : Int))) < 248))) rfl rfl (V.lss rfl rfl) ?_
    refine J.nil ?_
    refine CJ.cond rfl (fun hc99 => ?_) (fun hc99 => ?_)
    · have h := ct hc99 h
      refine CJ.seq ?_
      refine CJ.region ?_
      refine J.val (v := .int .i64 (IntKind.wrap .i64 (((x94.toNat : Nat) : Int)))) rfl rfl (V.mv rfl) ?_
      refine J.val (v := .int .i64 (IntKind.wrap .i64 (((x94.toNat : Nat) : Int)))) rfl rfl (V.as rfl) ?_
      refine J.val (v := .int .i64 1) rfl rfl (V.as rfl) ?_
      refine J.val (v := .int .i64 0) rfl rfl (V.as rfl) ?_
      refine J.nil ?_
      refine CJ.ret ?_
      have e := Option.some.inj h
      subst e
      exact ⟨_, [], Res.three rfl rfl rfl rfl, ⟨IntKind.wrap .i64 (((x94.toNat : Nat) : Int)), 1, 0, rfl, rfl, rfl⟩, (Hp.le_refl _), fun w hs => hs⟩
    · have h := cf hc99 h
      refine CJ.skip ?_
      refine CJ.seq ?_
      refine CJ.seq ?_
      refine CJ.region ?_
      refine J.val (v := .int .i64 (IntKind.wrap .i64 (((x94.toNat : Nat) : Int)))) rfl rfl (V.mv rfl) ?_
      refine J.val (v := .bool (decide (251 < (IntKind.wrap .i64 (((x94.toNat : Nat) : Int)))))) rfl rfl (V.gtr rfl rfl) ?_
      refine J.nil ?_
      refine CJ.cond rfl (fun hc100 => ?_) (fun hc100 => ?_)
      · have h := ct hc100 h
        refine CJ.seq ?_
        refine CJ.region ?_
        refine J.val (v := .int .i64 0) rfl rfl (V.as rfl) ?_
        refine J.val (v := .int .i64 0) rfl rfl (V.as rfl) ?_
        refine J.val (v := .int .i64 3) rfl rfl (V.as rfl) ?_
        refine J.nil ?_
        refine CJ.ret ?_
        have e := Option.some.inj h
        subst e
        exact ⟨_, [], Res.three rfl rfl rfl rfl, ⟨0, 0, 3, rfl, rfl, rfl⟩, (Hp.le_refl _), fun w hs => hs⟩
      · have h := cf hc100 h
        refine CJ.skip ?_
        refine CJ.seq ?_
        refine CJ.region ?_
        refine J.val (v := .int .i64 (IntKind.wrap .i64 (((x94.toNat : Nat) : Int)))) rfl rfl (V.mv rfl) ?_
        refine J.val (v := .int .i64 (IntKind.wrap .i64 ((IntKind.wrap .i64 (((x94.toNat : Nat) : Int))) - 247))) rfl rfl (V.sub rfl rfl) ?_
        refine J.val (v := .int .i64 (IntKind.wrap .i64 ((IntKind.wrap .i64 (((x94.toNat : Nat) : Int))) - 247))) rfl rfl (V.as rfl) ?_
        refine J.nil ?_
        refine CJ.seq ?_
        refine CJ.seq ?_
        refine CJ.region ?_
        refine J.val (v := .string ⟨xa.toArray⟩) rfl rfl (V.mv rfl) ?_
        refine J.val (v := .int .i64 (((xa.length : Nat) : Int))) rfl rfl (V.lens Try.underlying9 rfl) ?_
        refine J.val (v := .int .i64 (IntKind.wrap .i64 ((IntKind.wrap .i64 (((x94.toNat : Nat) : Int))) - 247))) rfl rfl (V.mv rfl) ?_
        refine J.val (v := .int .i64 (IntKind.wrap .i64 (1 + (IntKind.wrap .i64 ((IntKind.wrap .i64 (((x94.toNat : Nat) : Int))) - 247))))) rfl rfl (V.add rfl rfl) ?_
        refine J.val (v := .bool (decide ((((xa.length : Nat) : Int)) < (IntKind.wrap .i64 (1 + (IntKind.wrap .i64 ((IntKind.wrap .i64 (((x94.toNat : Nat) : Int))) - 247))))))) rfl rfl (V.lss rfl rfl) ?_
        refine J.nil ?_
        refine CJ.cond rfl (fun hc101 => ?_) (fun hc101 => ?_)
        · have h := ct hc101 h
          refine CJ.seq ?_
          refine CJ.region ?_
          refine J.val (v := .int .i64 0) rfl rfl (V.as rfl) ?_
          refine J.val (v := .int .i64 0) rfl rfl (V.as rfl) ?_
          refine J.val (v := .int .i64 4) rfl rfl (V.as rfl) ?_
          refine J.nil ?_
          refine CJ.ret ?_
          have e := Option.some.inj h
          subst e
          exact ⟨_, [], Res.three rfl rfl rfl rfl, ⟨0, 0, 4, rfl, rfl, rfl⟩, (Hp.le_refl _), fun w hs => hs⟩
        · have h := cf hc101 h
          refine CJ.skip ?_
          refine CJ.seq ?_
          refine CJ.region ?_
          refine J.val (v := .int .i64 0) rfl rfl (V.as rfl) ?_
          refine J.nil ?_
          refine CJ.seq ?_
          refine CJ.seq ?_
          refine CJ.region ?_
          refine J.val (v := .int .i64 1) rfl rfl (V.as rfl) ?_
          refine J.nil ?_
          obtain ⟨o131, ho132, h⟩ := ob h
          refine CJ.meetN (fun ρ K' L' => ∃ (i130 : Int), i130 = o131 ∧ Fits [(0, .string ⟨xa.toArray⟩), (6, .int .i64 (IntKind.wrap .i64 ((IntKind.wrap .i64 (((x94.toNat : Nat) : Int))) - 247))), (7, .int .i64 i130)] ρ ∧ K = K' ∧ F = L') ?_ ?_
          · skip
            refine CJ.block ?_
            refine CJ.loop (fun s ρ K' L' => ∃ (i141 : Int) (i142 : Int), (i141, i142) = s ∧ Fits [(0, .string ⟨xa.toArray⟩), (6, .int .i64 (IntKind.wrap .i64 ((IntKind.wrap .i64 (((x94.toNat : Nat) : Int))) - 247))), (7, .int .i64 i141), (8, .int .i64 i142)] ρ ∧ K = K' ∧ F = L') ho132 ⟨0, 1, rfl, ⟨rfl, rfl, rfl, rfl, trivial⟩, rfl, rfl⟩ ?_
            rintro s ρ _ _ r154 ⟨i141, i142, rfl, hf152, rfl, rfl⟩ h151
            obtain ⟨ρ, rfl⟩ := hf152.ex
            refine CJ.seq ?_
            refine CJ.seq ?_
            refine CJ.region ?_
            refine J.val (v := .int .i64 i142) rfl rfl (V.mv rfl) ?_
            refine J.val (v := .int .i64 (IntKind.wrap .i64 ((IntKind.wrap .i64 (((x94.toNat : Nat) : Int))) - 247))) rfl rfl (V.mv rfl) ?_
            refine J.val (v := .bool (decide (i142 ≤ (IntKind.wrap .i64 ((IntKind.wrap .i64 (((x94.toNat : Nat) : Int))) - 247))))) rfl rfl (V.leq rfl rfl) ?_
            refine J.nil ?_
            refine CJ.cond rfl (fun hc155 => ?_) (fun hc155 => ?_)
            · have h151 := ct hc155 h151
              refine CJ.skip ?_
              refine CJ.seq ?_
              refine CJ.block ?_
              refine CJ.region ?_
              refine J.val (v := .int .i64 i141) rfl rfl (V.mv rfl) ?_
              refine J.val (v := .int .i64 (IntKind.wrap .i64 (i141 * 256))) rfl rfl (V.mul rfl rfl) ?_
              refine J.val (v := .string ⟨xa.toArray⟩) rfl rfl (V.mv rfl) ?_
              refine J.val (v := .int .i64 i142) rfl rfl (V.mv rfl) ?_
              obtain ⟨x156, hx157, h151⟩ := ob h151
              obtain ⟨p158, p159, p160⟩ := getI_some hx157
              refine J.val (v := .int .u8 (((x156.toNat : Nat) : Int))) rfl rfl (V.ixs Try.underlying9 rfl rfl p158 p159) ?_
              refine J.val (v := .int .i64 (IntKind.wrap .i64 (((x156.toNat : Nat) : Int)))) rfl rfl (V.conv Try.underlying5 Try.underlying3 rfl) ?_
              refine J.val (v := .int .i64 (IntKind.wrap .i64 ((IntKind.wrap .i64 (i141 * 256)) + (IntKind.wrap .i64 (((x156.toNat : Nat) : Int)))))) rfl rfl (V.add rfl rfl) ?_
              refine J.val (v := .int .i64 (IntKind.wrap .i64 ((IntKind.wrap .i64 (i141 * 256)) + (IntKind.wrap .i64 (((x156.toNat : Nat) : Int)))))) rfl rfl (V.as rfl) ?_
              refine J.nil ?_
              refine CJ.region ?_
              refine J.val (v := .int .i64 i142) rfl rfl (V.mv rfl) ?_
              refine J.val (v := .int .i64 (IntKind.wrap .i64 (i142 + 1))) rfl rfl (V.add rfl rfl) ?_
              refine J.val (v := .int .i64 (IntKind.wrap .i64 (i142 + 1))) rfl rfl (V.as rfl) ?_
              refine J.nil ?_
              have e := Option.some.inj h151
              subst e
              exact ⟨rfl, ⟨IntKind.wrap .i64 ((IntKind.wrap .i64 (i141 * 256)) + (IntKind.wrap .i64 (((x156.toNat : Nat) : Int)))), IntKind.wrap .i64 (i142 + 1), rfl, ⟨rfl, rfl, rfl, rfl, trivial⟩, rfl, rfl⟩⟩
            · have h151 := cf hc155 h151
              refine CJ.exit ?_
              have e := Option.some.inj h151
              subst e
              refine ⟨nofun, fun e => ?_⟩
              subst e
              exact ⟨rfl, ⟨i141, rfl, ⟨rfl, rfl, rfl, trivial⟩, rfl, rfl⟩⟩
          · rintro ρ _ _ ⟨i130, rfl, hf161, rfl, rfl⟩
            obtain ⟨ρ, rfl⟩ := hf161.ex
            refine PJ.done ?_
            refine CJ.seq ?_
            refine CJ.seq ?_
            refine CJ.mix [] [([0, 2, 3, 4, 5], 1)] [6] [] mixO (by decide +kernel) trivial rfl rfl rfl ?_
            refine JM.cons ?_
            refine JQ.val (v := .int .i64 i130) rfl rfl (V.mv rfl) ?_
            refine JQ.val (v := .string ⟨xa.toArray⟩) rfl rfl (V.mv rfl) ?_
            refine JQ.val (v := .int .i64 (IntKind.wrap .i64 ((IntKind.wrap .i64 (((x94.toNat : Nat) : Int))) - 247))) rfl rfl (V.mv rfl) ?_
            refine JQ.val (v := .int .i64 (IntKind.wrap .i64 (1 + (IntKind.wrap .i64 ((IntKind.wrap .i64 (((x94.toNat : Nat) : Int))) - 247))))) rfl rfl (V.add rfl rfl) ?_
            obtain ⟨y171, hy172, h⟩ := ob h
            refine JQ.val (v := .string ⟨y171.toArray⟩) rfl rfl (V.subs Try.underlying9 rfl nofun (fun _ => rfl) (fun _ h => by cases h; exact ⟨_, rfl⟩) nofun hy172) ?_
            refine JQ.nil ?_
            obtain ⟨r173, hr174, h⟩ := ob h
            refine JA.op rfl (A.call (L1 := []) Try.call42 rfl (ref02_Put_ok hr174) rfl rfl) ?_
            rintro _ _ _ ⟨v176, _, rfl, ⟨⟨s175, rfl, rfl, rfl⟩, rfl⟩, _, rfl⟩
            refine ⟨fun w hs => Hold.sub (Hp.le_refl _) trivial hs, ?_⟩
            refine JM.nil ?_
            refine JQ.val (v := .bool (!decide (s175 = y171))) rfl rfl (V.nes rfl rfl) ?_
            refine JQ.nil ?_
            refine J.nil ?_
            refine CJ.cond rfl (fun hc179 => ?_) (fun hc179 => ?_)
            · have h := ct hc179 h
              refine CJ.seq ?_
              refine CJ.region ?_
              refine J.val (v := .int .i64 0) rfl rfl (V.as rfl) ?_
              refine J.val (v := .int .i64 0) rfl rfl (V.as rfl) ?_
              refine J.val (v := .int .i64 3) rfl rfl (V.as rfl) ?_
              refine J.nil ?_
              refine CJ.ret ?_
              have e := Option.some.inj h
              subst e
              exact ⟨_, [], Res.three rfl rfl rfl rfl, ⟨0, 0, 3, rfl, rfl, rfl⟩, (Hp.le_refl _), fun w hs => hs⟩
            · have h := cf hc179 h
              refine CJ.skip ?_
              refine CJ.seq ?_
              refine CJ.region ?_
              refine J.val (v := .int .i64 i130) rfl rfl (V.mv rfl) ?_
              refine J.val (v := .int .i64 (IntKind.wrap .i64 ((IntKind.wrap .i64 (((x94.toNat : Nat) : Int))) - 247))) rfl rfl (V.mv rfl) ?_
              refine J.val (v := .int .i64 (IntKind.wrap .i64 (1 + (IntKind.wrap .i64 ((IntKind.wrap .i64 (((x94.toNat : Nat) : Int))) - 247))))) rfl rfl (V.add rfl rfl) ?_
              refine J.val (v := .int .i64 i130) rfl rfl (V.as rfl) ?_
              refine J.val (v := .int .i64 (IntKind.wrap .i64 (1 + (IntKind.wrap .i64 ((IntKind.wrap .i64 (((x94.toNat : Nat) : Int))) - 247))))) rfl rfl (V.as rfl) ?_
              refine J.val (v := .int .i64 0) rfl rfl (V.as rfl) ?_
              refine J.nil ?_
              refine CJ.ret ?_
              have e := Option.some.inj h
              subst e
              exact ⟨_, [], Res.three rfl rfl rfl rfl, ⟨i130, IntKind.wrap .i64 (1 + (IntKind.wrap .i64 ((IntKind.wrap .i64 (((x94.toNat : Nat) : Int))) - 247))), 0, rfl, rfl, rfl⟩, (Hp.le_refl _), fun w hs => hs⟩
noncomputable def fn_ref19_numbers_l1 (xa : (List UInt8)) (xb : Int) : ((List Int) × Int × Int) → Option (((List Int) × Int × Int) ⊕ (((List Int) × Int) ⊕ ((List Int) × Int × Int))) := fun ((l325, i330, i331) : ((List Int) × Int × Int)) => cond (decide (i331 < xb)) ((subL xa i330 (((xa.length : Nat) : Int))).bind fun y365 => (fn_ref02_Take y365).bind fun (i369, i370, i371) => cond (!decide (i371 = 0)) (some (.inr ((.inr (([], 0, i371)))))) ((app l325 ([i369] : List Int)).bind fun z380 => some (.inl ((z380, IntKind.wrap .i64 (i330 + i370), IntKind.wrap .i64 (i331 + 1)))))) (some (.inr ((.inl (l325, i330)))))
noncomputable def fn_ref19_numbers (xa : (List UInt8)) (xb : Int) : Option (((List Int) × Int × Int)) :=
  (loop (fn_ref19_numbers_l1 xa xb) ((([] : List Int), 0, 0)) : Option (((List Int) × Int) ⊕ ((List Int) × Int × Int))).bind fun o => match o with | .inr r => some r | .inl (l289, i294) => some ((l289, i294, 0))
set_option maxRecDepth 100000 in
set_option maxHeartbeats 4000000 in
theorem ref19_numbers_ok {K : Hp} {xa : (List UInt8)} {xb : Int}   {r : ((List Int) × Int × Int)} (h : fn_ref19_numbers xa xb = some r) :
    Tr Try.prog 33 #[.string ⟨xa.toArray⟩, .int .i64 xb] K [] (fun v K' L' => (∃ (l191 : (List Int)) (i196 : Int) (i197 : Int) (ad192 : Option Addr) (cp193 : Nat), (l191, i196, i197) = r ∧ .tuple #[.slice ad192 l191.length cp193, .int .i64 i196, .int .i64 i197] = v ∧ L' = [Row Hp.nil 3 (.int .i64) (.slice ad192 l191.length cp193) l191]) ∧ K = K') := by
  refine Tr.k ?_
  refine Tr.of Try.func33 rfl Try.ntmps33 rfl (fun E F => ?_)
  unfold fn_ref19_numbers at h
  refine CJ.seq ?_
  refine CJ.region ?_
  refine J.val (v := .slice none 0 0) rfl rfl (V.as rfl) ?_
  refine J.val (v := .int .i64 0) rfl rfl (V.as rfl) ?_
  refine J.val (v := .int .i64 0) rfl rfl (V.as rfl) ?_
  refine J.nil ?_
  refine CJ.seq ?_
  refine CJ.region ?_
  refine J.op rfl (A.lit (K0 := Hp.nil) (ty := (.int .i64)) (xs := ([] : List Int)) Try.underlying22 inf3 rfl (by decide) rfl rfl rfl rfl rfl (by decide)) ?_
  rintro _ _ _ ⟨b198, rfl, rfl, rfl⟩
  have hn199 : ([] : List Int) ≠ [] → ∃ g, (some ⟨b198, 0, none⟩ : Option Addr) = some ⟨g, 0, none⟩ := fun _ => ⟨b198, rfl⟩
  refine J.val (v := .slice (some ⟨b198, 0, none⟩) (([] : List Int).length) 0) rfl rfl (V.as rfl) ?_
  refine J.nil ?_
  refine CJ.seq ?_
  refine CJ.region ?_
  refine J.val (v := .int .i64 0) rfl rfl (V.as rfl) ?_
  refine J.nil ?_
  refine CJ.seq ?_
  refine CJ.seq ?_
  refine CJ.region ?_
  refine J.val (v := .int .i64 0) rfl rfl (V.as rfl) ?_
  refine J.nil ?_
  obtain ⟨o295, ho296, h⟩ := ob h
  refine CJ.joinN (o := o295) (fun s ρ K' L' => ∃ (l289 : (List Int)) (i294 : Int) (ad290 : Option Addr) (cp291 : Nat), (l289, i294) = s ∧ Fits [(7, .slice ad290 l289.length cp291), (8, .int .i64 i294)] ρ ∧ K = K' ∧ L' = Row Hp.nil 3 (.int .i64) (.slice ad290 l289.length cp291) l289 :: F) ?_ ?_
  · skip
    refine CJ.block ?_
    refine CJ.loop (fun s ρ K' L' => ∃ (l325 : (List Int)) (i330 : Int) (i331 : Int) (ad326 : Option Addr) (cp327 : Nat), (l325, i330, i331) = s ∧ Fits [(0, .string ⟨xa.toArray⟩), (1, .int .i64 xb), (7, .slice ad326 l325.length cp327), (8, .int .i64 i330), (9, .int .i64 i331)] ρ ∧ K = K' ∧ L' = Row Hp.nil 3 (.int .i64) (.slice ad326 l325.length cp327) l325 :: F) ho296 ⟨([] : List Int), 0, 0, (some ⟨b198, 0, none⟩), 0, rfl, ⟨rfl, rfl, rfl, rfl, rfl, trivial⟩, rfl, rfl⟩ ?_
    rintro s ρ _ _ r363 ⟨l325, i330, i331, ad326, cp327, rfl, hf361, rfl, rfl⟩ h360
    obtain ⟨ρ, rfl⟩ := hf361.ex
    refine CJ.wit Row.hn (fun hn329 => ?_)
    refine CJ.seq ?_
    refine CJ.seq ?_
    refine CJ.region ?_
    refine J.val (v := .int .i64 i331) rfl rfl (V.mv rfl) ?_
    refine J.val (v := .int .i64 xb) rfl rfl (V.mv rfl) ?_
    refine J.val (v := .bool (decide (i331 < xb))) rfl rfl (V.lss rfl rfl) ?_
    refine J.nil ?_
    refine CJ.cond rfl (fun hc364 => ?_) (fun hc364 => ?_)
    · have h360 := ct hc364 h360
      refine CJ.skip ?_
      refine CJ.seq ?_
      refine CJ.block ?_
      refine CJ.seq ?_
      refine CJ.region ?_
      refine J.val (v := .string ⟨xa.toArray⟩) rfl rfl (V.mv rfl) ?_
      refine J.val (v := .int .i64 i330) rfl rfl (V.mv rfl) ?_
      obtain ⟨y365, hy366, h360⟩ := ob h360
      refine J.val (v := .string ⟨y365.toArray⟩) rfl rfl (V.subs Try.underlying9 rfl (fun _ h => by cases h; exact ⟨_, rfl⟩) nofun nofun (fun _ => rfl) hy366) ?_
      obtain ⟨r367, hr368, h360⟩ := ob h360
      refine J.op rfl (A.call (L1 := []) Try.call32 rfl (ref02_Take_ok hr368) rfl rfl) ?_
      rintro _ _ _ ⟨v372, _, rfl, ⟨⟨i369, i370, i371, rfl, rfl, rfl⟩, rfl⟩, _, rfl⟩
      refine J.val (v := .tuple #[.int .i64 i369, .int .i64 i370, .int .i64 i371]) rfl rfl (V.mv rfl) ?_
      refine J.val (v := .int .i64 i369) rfl rfl (V.ext rfl rfl) ?_
      refine J.val (v := .int .i64 i370) rfl rfl (V.ext rfl rfl) ?_
      refine J.val (v := .int .i64 i371) rfl rfl (V.ext rfl rfl) ?_
      refine J.val (v := .int .i64 i369) rfl rfl (V.as rfl) ?_
      refine J.val (v := .int .i64 i370) rfl rfl (V.as rfl) ?_
      refine J.val (v := .int .i64 i371) rfl rfl (V.as rfl) ?_
      refine J.nil ?_
      refine CJ.seq ?_
      refine CJ.seq ?_
      refine CJ.region ?_
      refine J.val (v := .int .i64 i371) rfl rfl (V.mv rfl) ?_
      refine J.val (v := .bool (!decide (i371 = 0))) rfl rfl (V.neq rfl rfl) ?_
      refine J.nil ?_
      refine CJ.cond rfl (fun hc375 => ?_) (fun hc375 => ?_)
      · have h360 := ct hc375 h360
        refine CJ.seq ?_
        refine CJ.region ?_
        refine J.val (v := .int .i64 i371) rfl rfl (V.mv rfl) ?_
        refine J.val (v := .slice none 0 0) rfl rfl (V.as rfl) ?_
        refine J.val (v := .int .i64 0) rfl rfl (V.as rfl) ?_
        refine J.val (v := .int .i64 i371) rfl rfl (V.as rfl) ?_
        refine J.nil ?_
        refine CJ.by (fun w hs => Sep.rowNil (e := 3) (t := (.int .i64)) hs) ?_
        refine CJ.ret ?_
        have e := Option.some.inj h360
        subst e
        refine ⟨nofun, fun e => ?_⟩
        subst e
        refine .inr ⟨nofun, ?_⟩
        have e := Option.some.inj h
        subst e
        exact ⟨_, [Row Hp.nil 3 (.int .i64) (.slice none (([] : List Int).length) 0) ([] : List Int)], Res.three rfl rfl rfl rfl, ⟨[], 0, i371, none, 0, rfl, rfl, rfl⟩, (Hp.le_refl _), fun w hs => (Sep.dropAt 1 rfl hs)⟩
      · have h360 := cf hc375 h360
        refine CJ.skip ?_
        refine CJ.seq ?_
        refine CJ.region ?_
        refine J.val (v := .slice ad326 l325.length cp327) rfl rfl (V.mv rfl) ?_
        refine J.val (v := .int .i64 i369) rfl rfl (V.mv rfl) ?_
        refine J.op rfl (A.lit (K0 := Hp.nil) (ty := (.int .i64)) (xs := ([i369] : List Int)) Try.underlying22 inf3 rfl (by decide) rfl rfl rfl ⟨_, _, rfl, rfl, rfl⟩ rfl (by decide)) ?_
        rintro _ _ _ ⟨b377, rfl, rfl, rfl⟩
        have hn378 : ([i369] : List Int) ≠ [] → ∃ g, (some ⟨b377, 0, none⟩ : Option Addr) = some ⟨g, 0, none⟩ := fun _ => ⟨b377, rfl⟩
        obtain ⟨z380, hz381, h360⟩ := ob h360
        refine J.front 1 rfl ?_
        refine J.op rfl (A.appR (Kr := Hp.nil) Try.underlying22 inf3 rfl rfl (by decide) (by decide) rfl rfl (Els.flat rfl) (Els.flat rfl) hz381) ?_
        rintro _ _ _ ⟨v382, rfl, rfl, rfl⟩
        refine J.wit Row.form ?_
        rintro ⟨ad383, cp384, rfl, _, _, hn385⟩
        refine J.val (v := .slice ad383 z380.length cp384) rfl rfl (V.as rfl) ?_
        refine J.nil ?_
        refine CJ.region ?_
        refine J.val (v := .int .i64 i330) rfl rfl (V.mv rfl) ?_
        refine J.val (v := .int .i64 i370) rfl rfl (V.mv rfl) ?_
        refine J.val (v := .int .i64 (IntKind.wrap .i64 (i330 + i370))) rfl rfl (V.add rfl rfl) ?_
        refine J.val (v := .int .i64 (IntKind.wrap .i64 (i330 + i370))) rfl rfl (V.as rfl) ?_
        refine J.nil ?_
        refine CJ.region ?_
        refine J.val (v := .int .i64 i331) rfl rfl (V.mv rfl) ?_
        refine J.val (v := .int .i64 (IntKind.wrap .i64 (i331 + 1))) rfl rfl (V.add rfl rfl) ?_
        refine J.val (v := .int .i64 (IntKind.wrap .i64 (i331 + 1))) rfl rfl (V.as rfl) ?_
        refine J.nil ?_
        have e := Option.some.inj h360
        subst e
        exact ⟨rfl, ⟨z380, IntKind.wrap .i64 (i330 + i370), IntKind.wrap .i64 (i331 + 1), ad383, cp384, rfl, ⟨rfl, rfl, rfl, rfl, rfl, trivial⟩, rfl, rfl⟩⟩
    · have h360 := cf hc364 h360
      refine CJ.exit ?_
      have e := Option.some.inj h360
      subst e
      refine ⟨nofun, fun e => ?_⟩
      subst e
      exact .inl ⟨rfl, _, rfl, ⟨l325, i330, ad326, cp327, rfl, ⟨rfl, rfl, trivial⟩, rfl, rfl⟩⟩
  · rintro s ρ _ _ ho386 ⟨l289, i294, ad290, cp291, rfl, hf387, rfl, rfl⟩
    subst ho386
    obtain ⟨ρ, rfl⟩ := hf387.ex
    refine PJ.wit Row.hn (fun hn293 => ?_)
    refine PJ.done ?_
    refine CJ.seq ?_
    refine CJ.region ?_
    refine J.val (v := .slice ad290 l289.length cp291) rfl rfl (V.mv rfl) ?_
    refine J.val (v := .int .i64 i294) rfl rfl (V.mv rfl) ?_
    refine J.val (v := .slice ad290 l289.length cp291) rfl rfl (V.as rfl) ?_
    refine J.val (v := .int .i64 i294) rfl rfl (V.as rfl) ?_
    refine J.val (v := .int .i64 0) rfl rfl (V.as rfl) ?_
    refine J.nil ?_
    refine CJ.ret ?_
    have e := Option.some.inj h
    subst e
    exact ⟨_, [Row Hp.nil 3 (.int .i64) (.slice ad290 l289.length cp291) l289], Res.three rfl rfl rfl rfl, ⟨l289, i294, 0, ad290, cp291, rfl, rfl, rfl⟩, (Hp.le_refl _), fun w hs => hs⟩

noncomputable def fn_ref19_taken (xa : (List UInt8)) : Option (((List Int) × Int × Int)) :=
  (fn_ref02_Take xa).bind fun (i36, i37, i38) => cond (!decide (i38 = 0)) (some (([], 0, i38))) (cond (decide (16 < i36)) (some (([], 0, 6))) ((subL xa i37 (((xa.length : Nat) : Int))).bind fun y46 => (fn_ref19_numbers y46 i36).bind fun (l50, i51, i52) => some ((l50, IntKind.wrap .i64 (i37 + i51), i52))))
set_option maxRecDepth 100000 in
set_option maxHeartbeats 4000000 in
theorem ref19_taken_ok {K : Hp} {xa : (List UInt8)}   {r : ((List Int) × Int × Int)} (h : fn_ref19_taken xa = some r) :
    Tr Try.prog 34 #[.string ⟨xa.toArray⟩] K [] (fun v K' L' => (∃ (l26 : (List Int)) (i31 : Int) (i33 : Int) (ad27 : Option Addr) (cp28 : Nat), (l26, i31, i33) = r ∧ .tuple #[.slice ad27 l26.length cp28, .int .i64 i31, .int .i64 i33] = v ∧ L' = [Row Hp.nil 3 (.int .i64) (.slice ad27 l26.length cp28) l26]) ∧ K = K') := by
  refine Tr.k ?_
  refine Tr.of Try.func34 rfl Try.ntmps34 rfl (fun E F => ?_)
  unfold fn_ref19_taken at h
  refine CJ.seq ?_
  refine CJ.region ?_
  refine J.val (v := .slice none 0 0) rfl rfl (V.as rfl) ?_
  refine J.val (v := .int .i64 0) rfl rfl (V.as rfl) ?_
  refine J.val (v := .int .i64 0) rfl rfl (V.as rfl) ?_
  refine J.nil ?_
  refine CJ.seq ?_
  refine CJ.region ?_
  refine J.val (v := .string ⟨xa.toArray⟩) rfl rfl (V.mv rfl) ?_
  obtain ⟨r34, hr35, h⟩ := ob h
  refine J.op rfl (A.call (L1 := []) Try.call32 rfl (ref02_Take_ok hr35) rfl rfl) ?_
  rintro _ _ _ ⟨v39, _, rfl, ⟨⟨i36, i37, i38, rfl, rfl, rfl⟩, rfl⟩, _, rfl⟩
  refine J.val (v := .tuple #[.int .i64 i36, .int .i64 i37, .int .i64 i38]) rfl rfl (V.mv rfl) ?_
  refine J.val (v := .int .i64 i36) rfl rfl (V.ext rfl rfl) ?_
  refine J.val (v := .int .i64 i37) rfl rfl (V.ext rfl rfl) ?_
  refine J.val (v := .int .i64 i38) rfl rfl (V.ext rfl rfl) ?_
  refine J.val (v := .int .i64 i36) rfl rfl (V.as rfl) ?_
  refine J.val (v := .int .i64 i37) rfl rfl (V.as rfl) ?_
  refine J.val (v := .int .i64 i38) rfl rfl (V.as rfl) ?_
  refine J.nil ?_
  refine CJ.seq ?_
  refine CJ.seq ?_
  refine CJ.region ?_
  refine J.val (v := .int .i64 i38) rfl rfl (V.mv rfl) ?_
  refine J.val (v := .bool (!decide (i38 = 0))) rfl rfl (V.neq rfl rfl) ?_
  refine J.nil ?_
  refine CJ.cond rfl (fun hc42 => ?_) (fun hc42 => ?_)
  · have h := ct hc42 h
    refine CJ.seq ?_
    refine CJ.region ?_
    refine J.val (v := .int .i64 i38) rfl rfl (V.mv rfl) ?_
    refine J.val (v := .slice none 0 0) rfl rfl (V.as rfl) ?_
    refine J.val (v := .int .i64 0) rfl rfl (V.as rfl) ?_
    refine J.val (v := .int .i64 i38) rfl rfl (V.as rfl) ?_
    refine J.nil ?_
    refine CJ.by (fun w hs => Sep.rowNil (e := 3) (t := (.int .i64)) hs) ?_
    refine CJ.ret ?_
    have e := Option.some.inj h
    subst e
    exact ⟨_, [Row Hp.nil 3 (.int .i64) (.slice none (([] : List Int).length) 0) ([] : List Int)], Res.three rfl rfl rfl rfl, ⟨[], 0, i38, none, 0, rfl, rfl, rfl⟩, (Hp.le_refl _), fun w hs => hs⟩
  · have h := cf hc42 h
    refine CJ.skip ?_
    refine CJ.seq ?_
    refine CJ.seq ?_
    refine CJ.region ?_
    refine J.val (v := .int .i64 i36) rfl rfl (V.mv rfl) ?_
    refine J.val (v := .bool (decide (16 < i36))) rfl rfl (V.gtr rfl rfl) ?_
    refine J.nil ?_
    refine CJ.cond rfl (fun hc44 => ?_) (fun hc44 => ?_)
    · have h := ct hc44 h
      refine CJ.seq ?_
      refine CJ.region ?_
      refine J.val (v := .slice none 0 0) rfl rfl (V.as rfl) ?_
      refine J.val (v := .int .i64 0) rfl rfl (V.as rfl) ?_
      refine J.val (v := .int .i64 6) rfl rfl (V.as rfl) ?_
      refine J.nil ?_
      refine CJ.by (fun w hs => Sep.rowNil (e := 3) (t := (.int .i64)) hs) ?_
      refine CJ.ret ?_
      have e := Option.some.inj h
      subst e
      exact ⟨_, [Row Hp.nil 3 (.int .i64) (.slice none (([] : List Int).length) 0) ([] : List Int)], Res.three rfl rfl rfl rfl, ⟨[], 0, 6, none, 0, rfl, rfl, rfl⟩, (Hp.le_refl _), fun w hs => hs⟩
    · have h := cf hc44 h
      refine CJ.skip ?_
      refine CJ.seq ?_
      refine CJ.region ?_
      refine J.val (v := .string ⟨xa.toArray⟩) rfl rfl (V.mv rfl) ?_
      refine J.val (v := .int .i64 i37) rfl rfl (V.mv rfl) ?_
      obtain ⟨y46, hy47, h⟩ := ob h
      refine J.val (v := .string ⟨y46.toArray⟩) rfl rfl (V.subs Try.underlying9 rfl (fun _ h => by cases h; exact ⟨_, rfl⟩) nofun nofun (fun _ => rfl) hy47) ?_
      refine J.val (v := .int .i64 i36) rfl rfl (V.mv rfl) ?_
      obtain ⟨r48, hr49, h⟩ := ob h
      refine J.op rfl (A.call (L1 := []) Try.call33 rfl (ref19_numbers_ok hr49) rfl rfl) ?_
      rintro _ _ _ ⟨v56, _, rfl, ⟨⟨l50, i51, i52, ad53, cp54, rfl, rfl, rfl⟩, rfl⟩, _, rfl⟩
      refine J.wit Row.hn (fun hn55 => ?_)
      refine J.val (v := .tuple #[.slice ad53 l50.length cp54, .int .i64 i51, .int .i64 i52]) rfl rfl (V.mv rfl) ?_
      refine J.val (v := .slice ad53 l50.length cp54) rfl rfl (V.ext rfl rfl) ?_
      refine J.val (v := .int .i64 i51) rfl rfl (V.ext rfl rfl) ?_
      refine J.val (v := .int .i64 i52) rfl rfl (V.ext rfl rfl) ?_
      refine J.val (v := .slice ad53 l50.length cp54) rfl rfl (V.as rfl) ?_
      refine J.val (v := .int .i64 i51) rfl rfl (V.as rfl) ?_
      refine J.val (v := .int .i64 i52) rfl rfl (V.as rfl) ?_
      refine J.nil ?_
      refine CJ.seq ?_
      refine CJ.region ?_
      refine J.val (v := .slice ad53 l50.length cp54) rfl rfl (V.mv rfl) ?_
      refine J.val (v := .int .i64 i37) rfl rfl (V.mv rfl) ?_
      refine J.val (v := .int .i64 i51) rfl rfl (V.mv rfl) ?_
      refine J.val (v := .int .i64 (IntKind.wrap .i64 (i37 + i51))) rfl rfl (V.add rfl rfl) ?_
      refine J.val (v := .int .i64 i52) rfl rfl (V.mv rfl) ?_
      refine J.val (v := .slice ad53 l50.length cp54) rfl rfl (V.as rfl) ?_
      refine J.val (v := .int .i64 (IntKind.wrap .i64 (i37 + i51))) rfl rfl (V.as rfl) ?_
      refine J.val (v := .int .i64 i52) rfl rfl (V.as rfl) ?_
      refine J.nil ?_
      refine CJ.ret ?_
      have e := Option.some.inj h
      subst e
      exact ⟨_, [Row Hp.nil 3 (.int .i64) (.slice ad53 l50.length cp54) l50], Res.three rfl rfl rfl rfl, ⟨l50, IntKind.wrap .i64 (i37 + i51), i52, ad53, cp54, rfl, rfl, rfl⟩, (Hp.le_refl _), fun w hs => hs⟩
end Go.Proofs.Ytgeofnfjgjodgaa
