/- What Go functions answer: generated. -/
import Derived.Test.YtjhgiaafaahbjaaDt
import Derived.Test.YtjhgiaafaahbjaaRows
import Derived.Test.YtjhgiaafaahbjaaBd
import Derived.Test.YtjhgiaafaahbjaaFl
namespace Go.Proofs.Ytjhgiaafaahbjaa
open Go.RowKit
set_option linter.unusedVariables false
set_option linter.unnecessarySimpa false
set_option linter.unusedSimpArgs false
set_option maxRecDepth 20000
theorem inf26 : Inf Try.prog 26 (.agg #[.slice none 0 0]) 1 24 := by unfold Inf; kernel_rfl
theorem inf74 : Inf Try.prog 74 (.agg #[.string ⟨[].toArray⟩, .int .i64 0]) 2 24 := by unfold Inf; kernel_rfl
theorem places74 : Places Try.prog 74 [(0, 1), (1, 1)] := ⟨_, Try.underlying74, by kernel_rfl⟩
theorem sz74 : (Try.prog.info? 74).map (·.size) = some 2 := by kernel_rfl
theorem nz9 : Try.prog.cellsOf 9 ≠ 0 := by decide +kernel
theorem sc9 : scalar Try.prog 9 = true := by kernel_rfl
theorem nz3 : Try.prog.cellsOf 3 ≠ 0 := by decide +kernel
theorem sc3 : scalar Try.prog 3 = true := by kernel_rfl
theorem mixO : Try.prog.follows .mixedOrders = true := by kernel_rfl
theorem sz3 : (Try.prog.info? 3).map (·.size) = some 1 := by kernel_rfl
theorem nz24 : Try.prog.cellsOf 24 ≠ 0 := by decide +kernel
theorem sc24 : scalar Try.prog 24 = true := by kernel_rfl
theorem inf60 : Inf Try.prog 60 (.agg #[.int .i64 0, .bool false]) 2 16 := by unfold Inf; kernel_rfl
theorem places60 : Places Try.prog 60 [(0, 1), (1, 1)] := ⟨_, Try.underlying60, by kernel_rfl⟩
theorem sz24 : (Try.prog.info? 24).map (·.size) = some 1 := by kernel_rfl
theorem sz26 : (Try.prog.info? 26).map (·.size) = some 1 := by kernel_rfl
theorem places26 : Places Try.prog 26 [(0, 1)] := ⟨_, Try.underlying26, by kernel_rfl⟩
theorem inf3 : Inf Try.prog 3 (.int .i64 0) 1 8 := by unfold Inf; kernel_rfl
theorem sz60 : (Try.prog.info? 60).map (·.size) = some 2 := by kernel_rfl
theorem nz4 : Try.prog.cellsOf 4 ≠ 0 := by decide +kernel
theorem sc4 : scalar Try.prog 4 = true := by kernel_rfl
theorem inf89 : Inf Try.prog 89 (.agg #[.pointer none, .slice none 0 0]) 2 32 := by unfold Inf; kernel_rfl
theorem inf28 : Inf Try.prog 28 (.agg #[.int .i64 0, .slice none 0 0, .slice none 0 0, .slice none 0 0]) 4 80 := by unfold Inf; kernel_rfl
theorem places28 : Places Try.prog 28 [(0, 1), (1, 1), (2, 1), (3, 1)] := ⟨_, Try.underlying28, by kernel_rfl⟩
theorem nz22 : Try.prog.cellsOf 22 ≠ 0 := by decide +kernel
theorem sc22 : scalar Try.prog 22 = true := by kernel_rfl
theorem nz23 : Try.prog.cellsOf 23 ≠ 0 := by decide +kernel
theorem sc23 : scalar Try.prog 23 = true := by kernel_rfl
theorem sz63 : (Try.prog.info? 63).map (·.size) = some 2 := by kernel_rfl
theorem inf63 : Inf Try.prog 63 (.agg #[.int .i64 0, .int .i64 0]) 2 16 := by unfold Inf; kernel_rfl
theorem nz26 : Try.prog.cellsOf 26 ≠ 0 := by decide +kernel
theorem inf5 : Inf Try.prog 5 (.int .u8 0) 1 1 := by unfold Inf; kernel_rfl
theorem places63 : Places Try.prog 63 [(0, 1), (1, 1)] := ⟨_, Try.underlying63, by kernel_rfl⟩
theorem inf35 : Inf Try.prog 35 (.int .i64 0) 1 8 := by unfold Inf; kernel_rfl
theorem inf1 : Inf Try.prog 1 .nilFunc 1 8 := by unfold Inf; kernel_rfl
theorem sz1 : (Try.prog.info? 1).map (·.size) = some 1 := by kernel_rfl
theorem sc1 : scalar Try.prog 1 = true := by kernel_rfl
theorem sz35 : (Try.prog.info? 35).map (·.size) = some 1 := by kernel_rfl
theorem sc35 : scalar Try.prog 35 = true := by kernel_rfl
theorem sz28 : (Try.prog.info? 28).map (·.size) = some 4 := by kernel_rfl
theorem sz22 : (Try.prog.info? 22).map (·.size) = some 1 := by kernel_rfl
theorem sz23 : (Try.prog.info? 23).map (·.size) = some 1 := by kernel_rfl
theorem sih63 : Try.prog.stoodInHeld 63 = false := by kernel_rfl
theorem eqg63 : Try.prog.eqGuardType Try.prog.depth 63 = false := by kernel_rfl
noncomputable def fn_leb_digits_l1  : (Int × Int) → Option ((Int × Int) ⊕ Int) := fun ((i53, i54) : (Int × Int)) => cond (decide (0 < i53)) (some (.inl ((Int.fdiv i53 (2 ^ (min (Int.toNat 8) (IntKind.bits .i64))), IntKind.wrap .i64 (i54 + 1))))) (some (.inr (i54)))
noncomputable def fn_leb_digits (xa : Int) : Option Int :=
  (loop (fn_leb_digits_l1) (xa, 0) : Option Int).bind fun i47 => some (i47)
set_option maxRecDepth 100000 in
set_option maxHeartbeats 4000000 in
theorem leb_digits_ok {K : Hp} {xa : Int}   {r : Int} (h : fn_leb_digits xa = some r) :
    Tr Try.prog 71 #[.int .i64 xa] K [] (fun v K' L' => (∃ (i33 : Int), i33 = r ∧ .int .i64 i33 = v ∧ L' = []) ∧ K = K') := by
  refine Tr.k ?_
  refine Tr.of Try.func71 rfl Try.ntmps71 rfl (fun E F => ?_)
  unfold fn_leb_digits at h
  refine CJ.seq ?_
  refine CJ.region ?_
  refine J.val (v := .int .i64 0) rfl rfl (V.as rfl) ?_
  refine J.nil ?_
  refine CJ.seq ?_
  refine CJ.region ?_
  refine J.val (v := .int .i64 0) rfl rfl (V.as rfl) ?_
  refine J.nil ?_
  refine CJ.seq ?_
  obtain ⟨o48, ho49, h⟩ := ob h
  refine CJ.meetN (fun ρ K' L' => ∃ (i47 : Int), i47 = o48 ∧ Fits [(3, .int .i64 i47)] ρ ∧ K = K' ∧ F = L') ?_ ?_
  · skip
    refine CJ.block ?_
    refine CJ.loop (fun s ρ K' L' => ∃ (i53 : Int) (i54 : Int), (i53, i54) = s ∧ Fits [(0, .int .i64 i53), (3, .int .i64 i54)] ρ ∧ K = K' ∧ F = L') ho49 ⟨xa, 0, rfl, ⟨rfl, rfl, trivial⟩, rfl, rfl⟩ ?_
    rintro s ρ _ _ r61 ⟨i53, i54, rfl, hf59, rfl, rfl⟩ h58
    obtain ⟨ρ, rfl⟩ := hf59.ex
    refine CJ.seq ?_
    refine CJ.seq ?_
    refine CJ.region ?_
    refine J.val (v := .int .i64 i53) rfl rfl (V.mv rfl) ?_
    refine J.val (v := .bool (decide (0 < i53))) rfl rfl (V.gtr rfl rfl) ?_
    refine J.nil ?_
    refine CJ.cond rfl (fun hc62 => ?_) (fun hc62 => ?_)
    · have h58 := ct hc62 h58
      refine CJ.skip ?_
      refine CJ.seq ?_
      refine CJ.block ?_
      refine CJ.region ?_
      refine J.val (v := .int .i64 i54) rfl rfl (V.mv rfl) ?_
      refine J.val (v := .int .i64 (IntKind.wrap .i64 (i54 + 1))) rfl rfl (V.add rfl rfl) ?_
      refine J.val (v := .int .i64 (IntKind.wrap .i64 (i54 + 1))) rfl rfl (V.as rfl) ?_
      refine J.nil ?_
      refine CJ.region ?_
      refine J.val (v := .int .i64 i53) rfl rfl (V.mv rfl) ?_
      refine J.val (v := .int .i64 (Int.fdiv i53 (2 ^ (min (Int.toNat 8) (IntKind.bits .i64))))) rfl rfl (V.shr rfl rfl (by decide)) ?_
      refine J.val (v := .int .i64 (Int.fdiv i53 (2 ^ (min (Int.toNat 8) (IntKind.bits .i64))))) rfl rfl (V.as rfl) ?_
      refine J.nil ?_
      have e := Option.some.inj h58
      subst e
      exact ⟨rfl, ⟨Int.fdiv i53 (2 ^ (min (Int.toNat 8) (IntKind.bits .i64))), IntKind.wrap .i64 (i54 + 1), rfl, ⟨rfl, rfl, trivial⟩, rfl, rfl⟩⟩
    · have h58 := cf hc62 h58
      refine CJ.exit ?_
      have e := Option.some.inj h58
      subst e
      refine ⟨nofun, fun e => ?_⟩
      subst e
      exact ⟨rfl, ⟨i54, rfl, ⟨rfl, trivial⟩, rfl, rfl⟩⟩
  · rintro ρ _ _ ⟨i47, rfl, hf63, rfl, rfl⟩
    obtain ⟨ρ, rfl⟩ := hf63.ex
    refine PJ.done ?_
    refine CJ.seq ?_
    refine CJ.region ?_
    refine J.val (v := .int .i64 i47) rfl rfl (V.mv rfl) ?_
    refine J.val (v := .int .i64 i47) rfl rfl (V.as rfl) ?_
    refine J.nil ?_
    refine CJ.ret ?_
    have e := Option.some.inj h
    subst e
    exact ⟨_, [], Res.one rfl rfl, ⟨i47, rfl, rfl, rfl⟩, (Hp.le_refl _), fun w hs => hs⟩
noncomputable def fn_leb_Take_l1 (xa : (List UInt8)) (x100 : UInt8) : (Int × Int) → Option ((Int × Int) ⊕ Int) := fun ((i153, i154) : (Int × Int)) => cond (decide (i154 ≤ (IntKind.wrap .i64 ((IntKind.wrap .i64 (((x100.toNat : Nat) : Int))) - 247)))) ((getI xa i154).bind fun x168 => some (.inl ((IntKind.wrap .i64 ((BitVec.ofInt (IntKind.bits .i64) (IntKind.wrap .i64 (i153 * 2 ^ (min (Int.toNat 8) (IntKind.bits .i64)))) ||| BitVec.ofInt (IntKind.bits .i64) (IntKind.wrap .i64 (((x168.toNat : Nat) : Int)))).toNat : Int), IntKind.wrap .i64 (i154 + 1))))) (some (.inr (i153)))
noncomputable def fn_leb_Take (xa : (List UInt8)) : Option (Int × Int × Int) :=
  cond (decide (xa = ([] : List UInt8))) (some ((0, 0, 4))) ((getI xa 0).bind fun x100 => cond (decide ((IntKind.wrap .i64 (((x100.toNat : Nat) : Int))) < 248)) (some ((IntKind.wrap .i64 (((x100.toNat : Nat) : Int)), 1, 0))) ((fn_leb_digits 4294967295).bind fun i108 => cond (decide (i108 < (IntKind.wrap .i64 ((IntKind.wrap .i64 (((x100.toNat : Nat) : Int))) - 247)))) (some ((0, 0, 3))) (cond (decide ((((xa.length : Nat) : Int)) ≤ (IntKind.wrap .i64 ((IntKind.wrap .i64 (((x100.toNat : Nat) : Int))) - 247)))) (some ((0, 0, 4))) ((loop (fn_leb_Take_l1 xa x100) (0, 1) : Option Int).bind fun i142 => (cond (decide (i142 < 248)) (some (true)) ((fn_leb_digits i142).bind fun i187 => some (decide (i187 < (IntKind.wrap .i64 ((IntKind.wrap .i64 (((x100.toNat : Nat) : Int))) - 247)))))).bind fun t182 => cond (t182) (some ((0, 0, 3))) (some ((i142, IntKind.wrap .i64 (1 + (IntKind.wrap .i64 ((IntKind.wrap .i64 (((x100.toNat : Nat) : Int))) - 247))), 0)))))))
set_option maxRecDepth 100000 in
set_option maxHeartbeats 4000000 in
theorem leb_Take_ok {K : Hp} {xa : (List UInt8)}   {r : (Int × Int × Int)} (h : fn_leb_Take xa = some r) :
    Tr Try.prog 61 #[.string ⟨xa.toArray⟩] K [] (fun v K' L' => (∃ (i96 : Int) (i97 : Int) (i98 : Int), (i96, i97, i98) = r ∧ .tuple #[.int .i64 i96, .int .i64 i97, .int .i64 i98] = v ∧ L' = []) ∧ K = K') := by
  refine Tr.k ?_
  refine Tr.of Try.func61 rfl Try.ntmps61 rfl (fun E F => ?_)
  unfold fn_leb_Take at h
  refine CJ.seq ?_
  refine CJ.region ?_
  refine J.val (v := .int .i64 0) rfl rfl (V.as rfl) ?_
  refine J.val (v := .int .i64 0) rfl rfl (V.as rfl) ?_
  refine J.val (v := .int .i64 0) rfl rfl (V.as rfl) ?_
  refine J.nil ?_
  refine CJ.seq ?_
  refine CJ.seq ?_
  refine CJ.region ?_
  refine J.val (v := .string ⟨xa.toArray⟩) rfl rfl (V.mv rfl) ?_
  refine J.val (v := .bool (decide (xa = ([] : List UInt8)))) rfl rfl (V.eqs rfl rfl) ?_
  refine J.nil ?_
  refine CJ.cond rfl (fun hc99 => ?_) (fun hc99 => ?_)
  · have h := ct hc99 h
    refine CJ.seq ?_
    refine CJ.region ?_
    refine J.val (v := .int .i64 0) rfl rfl (V.as rfl) ?_
    refine J.val (v := .int .i64 0) rfl rfl (V.as rfl) ?_
    refine J.val (v := .int .i64 4) rfl rfl (V.as rfl) ?_
    refine J.nil ?_
    refine CJ.ret ?_
    have e := Option.some.inj h
    subst e
    exact ⟨_, [], Res.three rfl rfl rfl rfl, ⟨0, 0, 4, rfl, rfl, rfl⟩, (Hp.le_refl _), fun w hs => hs⟩
  · have h := cf hc99 h
    refine CJ.skip ?_
    refine CJ.seq ?_
    refine CJ.region ?_
    refine J.val (v := .string ⟨xa.toArray⟩) rfl rfl (V.mv rfl) ?_
    obtain ⟨x100, hx101, h⟩ := ob h
    obtain ⟨p102, p103, p104⟩ := getI_some hx101
    refine J.val (v := .int .u8 (((x100.toNat : Nat) : Int))) rfl rfl (V.ixs Try.underlying9 rfl rfl p102 p103) ?_
    refine J.val (v := .int .i64 (IntKind.wrap .i64 (((x100.toNat : Nat) : Int)))) rfl rfl (V.conv Try.underlying5 Try.underlying3 rfl) ?_
    refine J.val (v := .int .i64 (IntKind.wrap .i64 (((x100.toNat : Nat) : Int)))) rfl rfl (V.as rfl) ?_
    refine J.nil ?_
    refine CJ.seq ?_
    refine CJ.seq ?_
    refine CJ.region ?_
    refine J.val (v := .int .i64 (IntKind.wrap .i64 (((x100.toNat : Nat) : Int)))) rfl rfl (V.mv rfl) ?_
    refine J.val (v := .bool (decide ((IntKind.wrap .i64 (((x100.toNat : Nat) : Int))) < 248))) rfl rfl (V.lss rfl rfl) ?_
    refine J.nil ?_
    refine CJ.cond rfl (fun hc105 => ?_) (fun hc105 => ?_)
    · have h := ct hc105 h
      refine CJ.seq ?_
      refine CJ.region ?_
      refine J.val (v := .int .i64 (IntKind.wrap .i64 (((x100.toNat : Nat) : Int)))) rfl rfl (V.mv rfl) ?_
      refine J.val (v := .int .i64 (IntKind.wrap .i64 (((x100.toNat : Nat) : Int)))) rfl rfl (V.as rfl) ?_
      refine J.val (v := .int .i64 1) rfl rfl (V.as rfl) ?_
      refine J.val (v := .int .i64 0) rfl rfl (V.as rfl) ?_
      refine J.nil ?_
      refine CJ.ret ?_
      have e := Option.some.inj h
      subst e
      exact ⟨_, [], Res.three rfl rfl rfl rfl, ⟨IntKind.wrap .i64 (((x100.toNat : Nat) : Int)), 1, 0, rfl, rfl, rfl⟩, (Hp.le_refl _), fun w hs => hs⟩
    · have h := cf hc105 h
      refine CJ.skip ?_
      refine CJ.seq ?_
      refine CJ.region ?_
      refine J.val (v := .int .i64 (IntKind.wrap .i64 (((x100.toNat : Nat) : Int)))) rfl rfl (V.mv rfl) ?_
      refine J.val (v := .int .i64 (IntKind.wrap .i64 ((IntKind.wrap .i64 (((x100.toNat : Nat) : Int))) - 247))) rfl rfl (V.sub rfl rfl) ?_
      refine J.val (v := .int .i64 (IntKind.wrap .i64 ((IntKind.wrap .i64 (((x100.toNat : Nat) : Int))) - 247))) rfl rfl (V.as rfl) ?_
      refine J.nil ?_
      refine CJ.seq ?_
      refine CJ.seq ?_
      refine CJ.region ?_
      refine J.val (v := .int .i64 (IntKind.wrap .i64 ((IntKind.wrap .i64 (((x100.toNat : Nat) : Int))) - 247))) rfl rfl (V.mv rfl) ?_
      obtain ⟨r106, hr107, h⟩ := ob h
      refine J.op rfl (A.call (L1 := []) Try.call71 rfl (leb_digits_ok hr107) rfl rfl) ?_
      rintro _ _ _ ⟨v109, _, rfl, ⟨⟨i108, rfl, rfl, rfl⟩, rfl⟩, _, rfl⟩
      refine J.val (v := .bool (decide (i108 < (IntKind.wrap .i64 ((IntKind.wrap .i64 (((x100.toNat : Nat) : Int))) - 247))))) rfl rfl (V.gtr rfl rfl) ?_
      refine J.nil ?_
      refine CJ.cond rfl (fun hc112 => ?_) (fun hc112 => ?_)
      · have h := ct hc112 h
        refine CJ.seq ?_
        refine CJ.region ?_
        refine J.val (v := .int .i64 0) rfl rfl (V.as rfl) ?_
        refine J.val (v := .int .i64 0) rfl rfl (V.as rfl) ?_
        refine J.val (v := .int .i64 3) rfl rfl (V.as rfl) ?_
        refine J.nil ?_
        refine CJ.ret ?_
        have e := Option.some.inj h
        subst e
        exact ⟨_, [], Res.three rfl rfl rfl rfl, ⟨0, 0, 3, rfl, rfl, rfl⟩, (Hp.le_refl _), fun w hs => hs⟩
      · have h := cf hc112 h
        refine CJ.skip ?_
        refine CJ.seq ?_
        refine CJ.seq ?_
        refine CJ.region ?_
        refine J.val (v := .string ⟨xa.toArray⟩) rfl rfl (V.mv rfl) ?_
        refine J.val (v := .int .i64 (((xa.length : Nat) : Int))) rfl rfl (V.lens Try.underlying9 rfl) ?_
        refine J.val (v := .int .i64 (IntKind.wrap .i64 ((IntKind.wrap .i64 (((x100.toNat : Nat) : Int))) - 247))) rfl rfl (V.mv rfl) ?_
        refine J.val (v := .bool (decide ((((xa.length : Nat) : Int)) ≤ (IntKind.wrap .i64 ((IntKind.wrap .i64 (((x100.toNat : Nat) : Int))) - 247))))) rfl rfl (V.leq rfl rfl) ?_
        refine J.nil ?_
        refine CJ.cond rfl (fun hc113 => ?_) (fun hc113 => ?_)
        · have h := ct hc113 h
          refine CJ.seq ?_
          refine CJ.region ?_
          refine J.val (v := .int .i64 0) rfl rfl (V.as rfl) ?_
          refine J.val (v := .int .i64 0) rfl rfl (V.as rfl) ?_
          refine J.val (v := .int .i64 4) rfl rfl (V.as rfl) ?_
          refine J.nil ?_
          refine CJ.ret ?_
          have e := Option.some.inj h
          subst e
          exact ⟨_, [], Res.three rfl rfl rfl rfl, ⟨0, 0, 4, rfl, rfl, rfl⟩, (Hp.le_refl _), fun w hs => hs⟩
        · have h := cf hc113 h
          refine CJ.skip ?_
          refine CJ.seq ?_
          refine CJ.region ?_
          refine J.val (v := .int .i64 0) rfl rfl (V.as rfl) ?_
          refine J.nil ?_
          refine CJ.seq ?_
          refine CJ.seq ?_
          refine CJ.region ?_
          refine J.val (v := .int .i64 1) rfl rfl (V.as rfl) ?_
          refine J.nil ?_
          obtain ⟨o143, ho144, h⟩ := ob h
          refine CJ.meetN (fun ρ K' L' => ∃ (i142 : Int), i142 = o143 ∧ Fits [(6, .int .i64 (IntKind.wrap .i64 ((IntKind.wrap .i64 (((x100.toNat : Nat) : Int))) - 247))), (7, .int .i64 i142)] ρ ∧ K = K' ∧ F = L') ?_ ?_
          · skip
            refine CJ.block ?_
            refine CJ.loop (fun s ρ K' L' => ∃ (i153 : Int) (i154 : Int), (i153, i154) = s ∧ Fits [(0, .string ⟨xa.toArray⟩), (6, .int .i64 (IntKind.wrap .i64 ((IntKind.wrap .i64 (((x100.toNat : Nat) : Int))) - 247))), (7, .int .i64 i153), (8, .int .i64 i154)] ρ ∧ K = K' ∧ F = L') ho144 ⟨0, 1, rfl, ⟨rfl, rfl, rfl, rfl, trivial⟩, rfl, rfl⟩ ?_
            rintro s ρ _ _ r166 ⟨i153, i154, rfl, hf164, rfl, rfl⟩ h163
            obtain ⟨ρ, rfl⟩ := hf164.ex
            refine CJ.seq ?_
            refine CJ.seq ?_
            refine CJ.region ?_
            refine J.val (v := .int .i64 i154) rfl rfl (V.mv rfl) ?_
            refine J.val (v := .int .i64 (IntKind.wrap .i64 ((IntKind.wrap .i64 (((x100.toNat : Nat) : Int))) - 247))) rfl rfl (V.mv rfl) ?_
            refine J.val (v := .bool (decide (i154 ≤ (IntKind.wrap .i64 ((IntKind.wrap .i64 (((x100.toNat : Nat) : Int))) - 247))))) rfl rfl (V.leq rfl rfl) ?_
            refine J.nil ?_
            refine CJ.cond rfl (fun hc167 => ?_) (fun hc167 => ?_)
            · have h163 := ct hc167 h163
              refine CJ.skip ?_
              refine CJ.seq ?_
              refine CJ.block ?_
              refine CJ.region ?_
              refine J.val (v := .int .i64 i153) rfl rfl (V.mv rfl) ?_
              refine J.val (v := .int .i64 (IntKind.wrap .i64 (i153 * 2 ^ (min (Int.toNat 8) (IntKind.bits .i64))))) rfl rfl (V.shl rfl rfl (by decide)) ?_
              refine J.val (v := .string ⟨xa.toArray⟩) rfl rfl (V.mv rfl) ?_
              refine J.val (v := .int .i64 i154) rfl rfl (V.mv rfl) ?_
              obtain ⟨x168, hx169, h163⟩ := ob h163
              obtain ⟨p170, p171, p172⟩ := getI_some hx169
              refine J.val (v := .int .u8 (((x168.toNat : Nat) : Int))) rfl rfl (V.ixs Try.underlying9 rfl rfl p170 p171) ?_
              refine J.val (v := .int .i64 (IntKind.wrap .i64 (((x168.toNat : Nat) : Int)))) rfl rfl (V.conv Try.underlying5 Try.underlying3 rfl) ?_
              refine J.val (v := .int .i64 (IntKind.wrap .i64 ((BitVec.ofInt (IntKind.bits .i64) (IntKind.wrap .i64 (i153 * 2 ^ (min (Int.toNat 8) (IntKind.bits .i64)))) ||| BitVec.ofInt (IntKind.bits .i64) (IntKind.wrap .i64 (((x168.toNat : Nat) : Int)))).toNat : Int))) rfl rfl (V.or rfl rfl) ?_
              refine J.val (v := .int .i64 (IntKind.wrap .i64 ((BitVec.ofInt (IntKind.bits .i64) (IntKind.wrap .i64 (i153 * 2 ^ (min (Int.toNat 8) (IntKind.bits .i64)))) ||| BitVec.ofInt (IntKind.bits .i64) (IntKind.wrap .i64 (((x168.toNat : Nat) : Int)))).toNat : Int))) rfl rfl (V.as rfl) ?_
              refine J.nil ?_
              refine CJ.region ?_
              refine J.val (v := .int .i64 i154) rfl rfl (V.mv rfl) ?_
              refine J.val (v := .int .i64 (IntKind.wrap .i64 (i154 + 1))) rfl rfl (V.add rfl rfl) ?_
              refine J.val (v := .int .i64 (IntKind.wrap .i64 (i154 + 1))) rfl rfl (V.as rfl) ?_
              refine J.nil ?_
              have e := Option.some.inj h163
              subst e
              exact ⟨rfl, ⟨IntKind.wrap .i64 ((BitVec.ofInt (IntKind.bits .i64) (IntKind.wrap .i64 (i153 * 2 ^ (min (Int.toNat 8) (IntKind.bits .i64)))) ||| BitVec.ofInt (IntKind.bits .i64) (IntKind.wrap .i64 (((x168.toNat : Nat) : Int)))).toNat : Int), IntKind.wrap .i64 (i154 + 1), rfl, ⟨rfl, rfl, rfl, rfl, trivial⟩, rfl, rfl⟩⟩
            · have h163 := cf hc167 h163
              refine CJ.exit ?_
              have e := Option.some.inj h163
              subst e
              refine ⟨nofun, fun e => ?_⟩
              subst e
              exact ⟨rfl, ⟨i153, rfl, ⟨rfl, rfl, trivial⟩, rfl, rfl⟩⟩
          · rintro ρ _ _ ⟨i142, rfl, hf173, rfl, rfl⟩
            obtain ⟨ρ, rfl⟩ := hf173.ex
            refine PJ.done ?_
            refine CJ.seq ?_
            refine CJ.seq ?_
            refine CJ.region ?_
            refine J.val (v := .int .i64 i142) rfl rfl (V.mv rfl) ?_
            refine J.val (v := .bool (decide (i142 < 248))) rfl rfl (V.lss rfl rfl) ?_
            refine J.val (v := .bool (decide (i142 < 248))) rfl rfl (V.mv rfl) ?_
            refine J.cut 5 ?_
            obtain ⟨t182, ht183, h⟩ := ob h
            refine @J.meet _ _ _ _ _ _ _ _ _ _ (fun ρ K' L' => Fits [(45, .bool t182), (6, .int .i64 (IntKind.wrap .i64 ((IntKind.wrap .i64 (((x100.toNat : Nat) : Int))) - 247))), (7, .int .i64 i142)] ρ ∧ K = K' ∧ F = L') ?_ ?_
            · skip
              rcases bt (decide (i142 < 248)) with hc184 | hc184
              · have ht183 := ct hc184 ht183
                refine J.skip rfl rfl rfl rfl hc184 ?_
                refine J.skip rfl rfl rfl rfl hc184 ?_
                refine J.skip rfl rfl rfl rfl hc184 ?_
                refine J.skip rfl rfl rfl rfl hc184 ?_
                refine J.val (v := .bool true) rfl rfl (V.pickT rfl hc184 rfl) ?_
                refine J.nil ?_
                have e := Option.some.inj ht183
                subst e
                exact ⟨rfl, ⟨rfl, rfl, rfl, trivial⟩, rfl, rfl⟩
              · have ht183 := cf hc184 ht183
                refine J.run rfl rfl rfl hc184 ?_
                refine J.val (v := .int .i64 i142) rfl rfl (V.mv rfl) ?_
                refine J.run rfl rfl rfl hc184 ?_
                obtain ⟨r185, hr186, ht183⟩ := ob ht183
                refine J.op rfl (A.call (L1 := []) Try.call71 rfl (leb_digits_ok hr186) rfl rfl) ?_
                rintro _ _ _ ⟨v188, _, rfl, ⟨⟨i187, rfl, rfl, rfl⟩, rfl⟩, _, rfl⟩
                refine J.run rfl rfl rfl hc184 ?_
                refine J.val (v := .int .i64 (IntKind.wrap .i64 ((IntKind.wrap .i64 (((x100.toNat : Nat) : Int))) - 247))) rfl rfl (V.mv rfl) ?_
                refine J.run rfl rfl rfl hc184 ?_
                refine J.val (v := .bool (decide (i187 < (IntKind.wrap .i64 ((IntKind.wrap .i64 (((x100.toNat : Nat) : Int))) - 247))))) rfl rfl (V.lss rfl rfl) ?_
                refine J.val (v := .bool (decide (i187 < (IntKind.wrap .i64 ((IntKind.wrap .i64 (((x100.toNat : Nat) : Int))) - 247))))) rfl rfl (V.pickF rfl hc184 rfl) ?_
                refine J.nil ?_
                have e := Option.some.inj ht183
                subst e
                exact ⟨rfl, ⟨rfl, rfl, rfl, trivial⟩, rfl, rfl⟩
            · rintro ρ _ _ ⟨hf, rfl, rfl⟩
              obtain ⟨ρ, rfl⟩ := hf.ex
              refine J.nil ?_
              refine CJ.cond rfl (fun hc191 => ?_) (fun hc191 => ?_)
              · have h := ct hc191 h
                refine CJ.seq ?_
                refine CJ.region ?_
                refine J.val (v := .int .i64 0) rfl rfl (V.as rfl) ?_
                refine J.val (v := .int .i64 0) rfl rfl (V.as rfl) ?_
                refine J.val (v := .int .i64 3) rfl rfl (V.as rfl) ?_
                refine J.nil ?_
                refine CJ.ret ?_
                have e := Option.some.inj h
                subst e
                exact ⟨_, [], Res.three rfl rfl rfl rfl, ⟨0, 0, 3, rfl, rfl, rfl⟩, (Hp.le_refl _), fun w hs => hs⟩
              · have h := cf hc191 h
                refine CJ.skip ?_
                refine CJ.seq ?_
                refine CJ.region ?_
                refine J.val (v := .int .i64 i142) rfl rfl (V.mv rfl) ?_
                refine J.val (v := .int .i64 (IntKind.wrap .i64 ((IntKind.wrap .i64 (((x100.toNat : Nat) : Int))) - 247))) rfl rfl (V.mv rfl) ?_
                refine J.val (v := .int .i64 (IntKind.wrap .i64 (1 + (IntKind.wrap .i64 ((IntKind.wrap .i64 (((x100.toNat : Nat) : Int))) - 247))))) rfl rfl (V.add rfl rfl) ?_
                refine J.val (v := .int .i64 i142) rfl rfl (V.as rfl) ?_
                refine J.val (v := .int .i64 (IntKind.wrap .i64 (1 + (IntKind.wrap .i64 ((IntKind.wrap .i64 (((x100.toNat : Nat) : Int))) - 247))))) rfl rfl (V.as rfl) ?_
                refine J.val (v := .int .i64 0) rfl rfl (V.as rfl) ?_
                refine J.nil ?_
                refine CJ.ret ?_
                have e := Option.some.inj h
                subst e
                exact ⟨_, [], Res.three rfl rfl rfl rfl, ⟨i142, IntKind.wrap .i64 (1 + (IntKind.wrap .i64 ((IntKind.wrap .i64 (((x100.toNat : Nat) : Int))) - 247))), 0, rfl, rfl, rfl⟩, (Hp.le_refl _), fun w hs => hs⟩

noncomputable def fn_sig_reader_number_p0_si (qa0 : List UInt8) (qa1 : Int) : Option (Int × Int × Int) :=
  (subL qa0 qa1 (((qa0.length : Nat) : Int))).bind fun y35 => (fn_leb_Take y35).bind fun (i39, i40, i41) => some ((i39, i41, IntKind.wrap .i64 (qa1 + i40)))
set_option maxRecDepth 100000 in
set_option maxHeartbeats 4000000 in
theorem sig_reader_number_p0_si_ok {K : Hp} {qa0 : List UInt8} {qa1 : Int} {pba : Nat}  {r : (Int × Int × Int)} (h : fn_sig_reader_number_p0_si qa0 qa1 = some r) :
    Tr Try.prog 43 #[.pointer (some ⟨pba, 0, none⟩)] K [Cl pba 74 [.string ⟨qa0.toArray⟩, .int .i64 qa1]] (fun v K' L' => (∃ (i22 : Int) (i23 : Int) (i24 : Int), (i22, i23, i24) = r ∧ .tuple #[.int .i64 i22, .int .i64 i23] = v ∧ L' = [Cl pba 74 [.string ⟨qa0.toArray⟩, .int .i64 i24]]) ∧ K = K') := by
  refine Tr.k ?_
  refine Tr.of Try.func43 rfl Try.ntmps43 rfl (fun E F => ?_)
  unfold fn_sig_reader_number_p0_si at h
  refine CJ.seq ?_
  refine CJ.region ?_
  refine J.val (v := .int .i64 0) rfl rfl (V.as rfl) ?_
  refine J.val (v := .int .i64 0) rfl rfl (V.as rfl) ?_
  refine J.nil ?_
  refine CJ.seq ?_
  refine CJ.mix [Cl pba 74 [.string ⟨qa0.toArray⟩, .int .i64 qa1]] [([0, 1, 2, 3, 4, 5, 6, 7, 8], 9)] [10, 11, 12, 13, 14, 15, 16] [] mixO (by decide +kernel) ⟨0, rfl, trivial⟩ rfl rfl rfl ?_
  refine JM.cons ?_
  refine JQ.val rfl rfl (V.mv rfl) ?_
  refine JQ.val rfl rfl (V.nck rfl) ?_
  refine JQ.val rfl rfl (V.fad Try.underlying74 rfl nz9 rfl) ?_
  refine JQ.val (v := .string ⟨qa0.toArray⟩) rfl rfl (V.ld rfl (Ld.sc sc9 (Rd.cl 0 rfl rfl))) ?_
  refine JQ.val rfl rfl (V.mv rfl) ?_
  refine JQ.val rfl rfl (V.nck rfl) ?_
  refine JQ.val rfl rfl (V.fad Try.underlying74 rfl nz3 rfl) ?_
  refine JQ.val (v := .int .i64 qa1) rfl rfl (V.ld rfl (Ld.sc sc3 (Rd.cl 0 rfl rfl))) ?_
  obtain ⟨y35, hy36, h⟩ := ob h
  refine JQ.val (v := .string ⟨y35.toArray⟩) rfl rfl (V.subs Try.underlying9 rfl (fun _ h => by cases h; exact ⟨_, rfl⟩) nofun nofun (fun _ => rfl) hy36) ?_
  refine JQ.nil ?_
  obtain ⟨r37, hr38, h⟩ := ob h
  refine JA.op rfl (A.call (L1 := []) Try.call61 rfl (leb_Take_ok hr38) rfl rfl) ?_
  rintro _ _ _ ⟨v42, _, rfl, ⟨⟨i39, i40, i41, rfl, rfl, rfl⟩, rfl⟩, _, rfl⟩
  refine ⟨fun w hs => Hold.sub (Hp.le_refl _) ⟨0, rfl, trivial⟩ hs, ?_⟩
  refine JM.nil ?_
  refine JQ.val (v := .tuple #[.int .i64 i39, .int .i64 i40, .int .i64 i41]) rfl rfl (V.mv rfl) ?_
  refine JQ.val (v := .int .i64 i39) rfl rfl (V.ext rfl rfl) ?_
  refine JQ.val (v := .int .i64 i40) rfl rfl (V.ext rfl rfl) ?_
  refine JQ.val (v := .int .i64 i41) rfl rfl (V.ext rfl rfl) ?_
  refine JQ.val (v := .int .i64 i39) rfl rfl (V.as rfl) ?_
  refine JQ.val (v := .int .i64 i40) rfl rfl (V.as rfl) ?_
  refine JQ.val (v := .int .i64 i41) rfl rfl (V.as rfl) ?_
  refine JQ.nil ?_
  refine J.nil ?_
  refine CJ.seq ?_
  refine CJ.region ?_
  refine J.val rfl rfl (V.mv rfl) ?_
  refine J.val rfl rfl (V.nck rfl) ?_
  refine J.val rfl rfl (V.fad Try.underlying74 rfl nz3 rfl) ?_
  refine J.val (v := .int .i64 qa1) rfl rfl (V.ld rfl (Ld.sc sc3 (Rd.cl 0 rfl rfl))) ?_
  refine J.val (v := .int .i64 i40) rfl rfl (V.mv rfl) ?_
  refine J.val (v := .int .i64 (IntKind.wrap .i64 (qa1 + i40))) rfl rfl (V.add rfl rfl) ?_
  refine J.val rfl rfl (V.nck rfl) ?_
  refine J.val rfl rfl (V.fad Try.underlying74 rfl nz3 rfl) ?_
  refine J.op rfl (A.store1 (v := .int .i64 (IntKind.wrap .i64 (qa1 + i40))) (cs' := [.string ⟨qa0.toArray⟩, .int .i64 (IntKind.wrap .i64 (qa1 + i40))]) sz3 rfl rfl rfl rfl rfl rfl) ?_
  rintro _ _ _ ⟨rfl, rfl, rfl⟩
  refine J.nil ?_
  refine CJ.seq ?_
  refine CJ.region ?_
  refine J.val (v := .int .i64 i39) rfl rfl (V.mv rfl) ?_
  refine J.val (v := .int .i64 i41) rfl rfl (V.mv rfl) ?_
  refine J.val (v := .int .i64 i39) rfl rfl (V.as rfl) ?_
  refine J.val (v := .int .i64 i41) rfl rfl (V.as rfl) ?_
  refine J.nil ?_
  refine CJ.ret ?_
  have e := Option.some.inj h
  subst e
  exact ⟨_, [Cl pba 74 [.string ⟨qa0.toArray⟩, .int .i64 (IntKind.wrap .i64 (qa1 + i40))]], Res.two rfl rfl rfl, ⟨i39, i41, IntKind.wrap .i64 (qa1 + i40), rfl, rfl, rfl⟩, (Hp.le_refl _), fun w hs => hs⟩

noncomputable def fn_sig_reader_many_p0i_si (xb : Int) (qa0 : List UInt8) (qa1 : Int) : Option (Int × Int × Int) :=
  (fn_sig_reader_number_p0_si qa0 qa1).bind fun (i18, i19, i20) => cond ((decide (i19 = 0)) && (decide (xb < i18))) (some ((0, 6, i20))) (some ((i18, i19, i20)))
set_option maxRecDepth 100000 in
set_option maxHeartbeats 4000000 in
theorem sig_reader_many_p0i_si_ok {K : Hp} {xb : Int} {qa0 : List UInt8} {qa1 : Int} {pba : Nat}  {r : (Int × Int × Int)} (h : fn_sig_reader_many_p0i_si xb qa0 qa1 = some r) :
    Tr Try.prog 60 #[.pointer (some ⟨pba, 0, none⟩), .int .i64 xb] K [Cl pba 74 [.string ⟨qa0.toArray⟩, .int .i64 qa1]] (fun v K' L' => (∃ (i13 : Int) (i14 : Int) (i15 : Int), (i13, i14, i15) = r ∧ .tuple #[.int .i64 i13, .int .i64 i14] = v ∧ L' = [Cl pba 74 [.string ⟨qa0.toArray⟩, .int .i64 i15]]) ∧ K = K') := by
  refine Tr.k ?_
  refine Tr.of Try.func60 rfl Try.ntmps60 rfl (fun E F => ?_)
  unfold fn_sig_reader_many_p0i_si at h
  refine CJ.seq ?_
  refine CJ.region ?_
  refine J.val (v := .int .i64 0) rfl rfl (V.as rfl) ?_
  refine J.val (v := .int .i64 0) rfl rfl (V.as rfl) ?_
  refine J.nil ?_
  refine CJ.seq ?_
  refine CJ.region ?_
  refine J.val rfl rfl (V.mv rfl) ?_
  obtain ⟨r16, hr17, h⟩ := ob h
  refine J.op rfl (A.call (L1 := [Cl pba 74 [.string ⟨qa0.toArray⟩, .int .i64 qa1]]) Try.call43 rfl (sig_reader_number_p0_si_ok hr17) rfl rfl) ?_
  rintro _ _ _ ⟨v21, _, rfl, ⟨⟨i18, i19, i20, rfl, rfl, rfl⟩, rfl⟩, _, rfl⟩
  refine J.val (v := .tuple #[.int .i64 i18, .int .i64 i19]) rfl rfl (V.mv rfl) ?_
  refine J.val (v := .int .i64 i18) rfl rfl (V.ext rfl rfl) ?_
  refine J.val (v := .int .i64 i19) rfl rfl (V.ext rfl rfl) ?_
  refine J.val (v := .int .i64 i18) rfl rfl (V.as rfl) ?_
  refine J.val (v := .int .i64 i19) rfl rfl (V.as rfl) ?_
  refine J.nil ?_
  refine CJ.seq ?_
  refine CJ.seq ?_
  refine CJ.region ?_
  refine J.val (v := .int .i64 i19) rfl rfl (V.mv rfl) ?_
  refine J.val (v := .bool (decide (i19 = 0))) rfl rfl (V.eql rfl rfl) ?_
  refine J.val (v := .bool (decide (i19 = 0))) rfl rfl (V.mv rfl) ?_
  refine J.cut 4 ?_
  refine @J.meet _ _ _ _ _ _ _ _ _ _ (fun ρ K' L' => Fits [(19, .bool ((decide (i19 = 0)) && (decide (xb < i18)))), (6, .int .i64 i18), (7, .int .i64 i19)] ρ ∧ K = K' ∧ L' = Cl pba 74 [.string ⟨qa0.toArray⟩, .int .i64 i20] :: F) ?_ ?_
  · skip
    rcases bt (decide (i19 = 0)) with hc26 | hc26
    · skip
      refine J.run rfl rfl rfl hc26 ?_
      refine J.val (v := .int .i64 i18) rfl rfl (V.mv rfl) ?_
      refine J.run rfl rfl rfl hc26 ?_
      refine J.val (v := .int .i64 xb) rfl rfl (V.mv rfl) ?_
      refine J.run rfl rfl rfl hc26 ?_
      refine J.val (v := .bool (decide (xb < i18))) rfl rfl (V.gtr rfl rfl) ?_
      refine J.val (v := .bool (decide (xb < i18))) rfl rfl (V.pickT rfl hc26 rfl) ?_
      refine J.nil ?_
      exact ⟨rfl, ⟨(by simp only [hc26]; rfl), rfl, rfl, trivial⟩, rfl, rfl⟩
    · skip
      refine J.skip rfl rfl rfl rfl hc26 ?_
      refine J.skip rfl rfl rfl rfl hc26 ?_
      refine J.skip rfl rfl rfl rfl hc26 ?_
      refine J.val (v := .bool false) rfl rfl (V.pickF rfl hc26 rfl) ?_
      refine J.nil ?_
      exact ⟨rfl, ⟨(by simp only [hc26]; rfl), rfl, rfl, trivial⟩, rfl, rfl⟩
  · rintro ρ _ _ ⟨hf, rfl, rfl⟩
    obtain ⟨ρ, rfl⟩ := hf.ex
    refine J.nil ?_
    refine CJ.cond rfl (fun hc27 => ?_) (fun hc27 => ?_)
    · have h := ct hc27 h
      refine CJ.seq ?_
      refine CJ.region ?_
      refine J.val (v := .int .i64 0) rfl rfl (V.as rfl) ?_
      refine J.val (v := .int .i64 6) rfl rfl (V.as rfl) ?_
      refine J.nil ?_
      refine CJ.ret ?_
      have e := Option.some.inj h
      subst e
      exact ⟨_, [Cl pba 74 [.string ⟨qa0.toArray⟩, .int .i64 i20]], Res.two rfl rfl rfl, ⟨0, 6, i20, rfl, rfl, rfl⟩, (Hp.le_refl _), fun w hs => hs⟩
    · have h := cf hc27 h
      refine CJ.skip ?_
      refine CJ.seq ?_
      refine CJ.region ?_
      refine J.val (v := .int .i64 i18) rfl rfl (V.mv rfl) ?_
      refine J.val (v := .int .i64 i19) rfl rfl (V.mv rfl) ?_
      refine J.val (v := .int .i64 i18) rfl rfl (V.as rfl) ?_
      refine J.val (v := .int .i64 i19) rfl rfl (V.as rfl) ?_
      refine J.nil ?_
      refine CJ.ret ?_
      have e := Option.some.inj h
      subst e
      exact ⟨_, [Cl pba 74 [.string ⟨qa0.toArray⟩, .int .i64 i20]], Res.two rfl rfl rfl, ⟨i18, i19, i20, rfl, rfl, rfl⟩, (Hp.le_refl _), fun w hs => hs⟩
noncomputable def fn_sig_reader_typ_p0_si_l1 (qa0 : List UInt8) (i221 : Int) : (Int × Int × Int × (List (Int × Bool))) → Option ((Int × Int × Int × (List (Int × Bool))) ⊕ (Int × Int × (List (Int × Bool)))) := fun ((i361, i362, i363, l364) : (Int × Int × Int × (List (Int × Bool)))) => cond ((decide (i362 < i221)) && (decide (i361 = 0))) ((fn_sig_reader_number_p0_si qa0 i363).bind fun (i409, i410, i411) => (app l364 (([(IntKind.wrap .i64 (Int.tdiv i409 2), decide ((Int.tmod i409 2) = 1))] : List (Int × Bool)))).bind fun z418 => some (.inl ((i410, IntKind.wrap .i64 (i362 + 1), i411, z418)))) (some (.inr (((i361, i363, l364)))))
noncomputable def fn_sig_reader_typ_p0_si (qa0 : List UInt8) (qa1 : Int) : Option (((List (Int × Bool)) × Int × Int)) :=
  (fn_sig_reader_many_p0i_si 16 qa0 qa1).bind fun (i221, i222, i223) => (loop (fn_sig_reader_typ_p0_si_l1 qa0 i221) (i222, 0, i223, []) : Option ((Int × Int × (List (Int × Bool))))).bind fun (i321, i322, l323) => some ((l323, i321, i322))
set_option maxRecDepth 100000 in
set_option maxHeartbeats 4000000 in
theorem sig_reader_typ_p0_si_ok {K : Hp} {qa0 : List UInt8} {qa1 : Int} {pba : Nat}  {r : ((List (Int × Bool)) × Int × Int)} (h : fn_sig_reader_typ_p0_si qa0 qa1 = some r) :
    Tr Try.prog 39 #[.pointer (some ⟨pba, 0, none⟩)] K [Cl pba 74 [.string ⟨qa0.toArray⟩, .int .i64 qa1]] (fun v K' L' => (∃ (l210 : (List (Int × Bool))) (i215 : Int) (i216 : Int) (ad211 : Option Addr) (cp212 : Nat), (l210, i215, i216) = r ∧ .tuple #[.agg #[.slice ad211 l210.length cp212], .int .i64 i215] = v ∧ L' = [Cl pba 74 [.string ⟨qa0.toArray⟩, .int .i64 i216], Row Hp.nil 60 (.cons (.int .i64) (.one .bool)) (.slice ad211 l210.length cp212) l210]) ∧ K = K') := by
  refine Tr.k ?_
  refine Tr.of Try.func39 rfl Try.ntmps39 rfl (fun E F => ?_)
  unfold fn_sig_reader_typ_p0_si at h
  refine CJ.seq ?_
  refine CJ.region ?_
  refine J.op rfl (A.alloc (cs := [.slice none 0 0]) inf26 rfl) ?_
  rintro _ _ _ ⟨b217, rfl, rfl, rfl⟩
  refine J.val (v := .int .i64 0) rfl rfl (V.as rfl) ?_
  refine J.nil ?_
  refine CJ.seq ?_
  refine CJ.region ?_
  refine J.op rfl (A.alloc (cs := [.slice none 0 0]) inf26 rfl) ?_
  rintro _ _ _ ⟨b218, rfl, rfl, rfl⟩
  refine J.nil ?_
  refine CJ.seq ?_
  refine CJ.region ?_
  refine J.val rfl rfl (V.mv rfl) ?_
  obtain ⟨r219, hr220, h⟩ := ob h
  refine J.front 2 rfl ?_
  refine J.op rfl (A.call (L1 := [Cl pba 74 [.string ⟨qa0.toArray⟩, .int .i64 qa1]]) Try.call60 rfl (sig_reader_many_p0i_si_ok hr220) rfl rfl) ?_
  rintro _ _ _ ⟨v224, _, rfl, ⟨⟨i221, i222, i223, rfl, rfl, rfl⟩, rfl⟩, _, rfl⟩
  refine J.val (v := .tuple #[.int .i64 i221, .int .i64 i222]) rfl rfl (V.mv rfl) ?_
  refine J.val (v := .int .i64 i221) rfl rfl (V.ext rfl rfl) ?_
  refine J.val (v := .int .i64 i222) rfl rfl (V.ext rfl rfl) ?_
  refine J.val (v := .int .i64 i221) rfl rfl (V.as rfl) ?_
  refine J.val (v := .int .i64 i222) rfl rfl (V.as rfl) ?_
  refine J.nil ?_
  refine CJ.seq ?_
  refine CJ.seq ?_
  refine CJ.region ?_
  refine J.val (v := .int .i64 0) rfl rfl (V.as rfl) ?_
  refine J.nil ?_
  obtain ⟨o328, ho329, h⟩ := ob h
  refine CJ.meetN (fun ρ K' L' => ∃ (i321 : Int) (i322 : Int) (l323 : (List (Int × Bool))) (ad324 : Option Addr) (cp325 : Nat), (i321, i322, l323) = o328 ∧ Fits [(2, .pointer (some ⟨b217, 0, none⟩)), (4, .pointer (some ⟨b218, 0, none⟩)), (6, .int .i64 i321)] ρ ∧ K = K' ∧ L' = Cl pba 74 [.string ⟨qa0.toArray⟩, .int .i64 i322] :: Cl b217 26 [.slice none 0 0] :: Cl b218 26 [.slice ad324 l323.length cp325] :: Row Hp.nil 60 (.cons (.int .i64) (.one .bool)) (.slice ad324 l323.length cp325) l323 :: F) ?_ ?_
  · skip
    refine CJ.block ?_
    refine CJ.by (fun w hs => Sep.rowNil (e := 60) (t := (.cons (.int .i64) (.one .bool))) hs) ?_
    refine CJ.front 2 rfl ?_
    refine CJ.front 3 rfl ?_
    refine CJ.front 3 rfl ?_
    refine CJ.loop (fun s ρ K' L' => ∃ (i361 : Int) (i362 : Int) (i363 : Int) (l364 : (List (Int × Bool))) (ad365 : Option Addr) (cp366 : Nat), (i361, i362, i363, l364) = s ∧ Fits [(0, .pointer (some ⟨pba, 0, none⟩)), (2, .pointer (some ⟨b217, 0, none⟩)), (4, .pointer (some ⟨b218, 0, none⟩)), (5, .int .i64 i221), (6, .int .i64 i361), (7, .int .i64 i362)] ρ ∧ K = K' ∧ L' = Cl pba 74 [.string ⟨qa0.toArray⟩, .int .i64 i363] :: Cl b217 26 [.slice none 0 0] :: Cl b218 26 [.slice ad365 l364.length cp366] :: Row Hp.nil 60 (.cons (.int .i64) (.one .bool)) (.slice ad365 l364.length cp366) l364 :: F) ho329 ⟨i222, 0, i223, [], none, 0, rfl, ⟨rfl, rfl, rfl, rfl, rfl, rfl, trivial⟩, rfl, rfl⟩ ?_
    rintro s ρ _ _ r402 ⟨i361, i362, i363, l364, ad365, cp366, rfl, hf400, rfl, rfl⟩ h398
    obtain ⟨ρ, rfl⟩ := hf400.ex
    refine CJ.front 3 rfl ?_
    refine CJ.wit Row.hn (fun hn368 => ?_)
    refine CJ.seq ?_
    refine CJ.seq ?_
    refine CJ.region ?_
    refine J.val (v := .int .i64 i362) rfl rfl (V.mv rfl) ?_
    refine J.val (v := .int .i64 i221) rfl rfl (V.mv rfl) ?_
    refine J.val (v := .bool (decide (i362 < i221))) rfl rfl (V.lss rfl rfl) ?_
    refine J.val (v := .bool (decide (i362 < i221))) rfl rfl (V.mv rfl) ?_
    refine J.cut 3 ?_
    refine @J.meet _ _ _ _ _ _ _ _ _ _ (fun ρ K' L' => Fits [(20, .bool ((decide (i362 < i221)) && (decide (i361 = 0)))), (0, .pointer (some ⟨pba, 0, none⟩)), (2, .pointer (some ⟨b217, 0, none⟩)), (4, .pointer (some ⟨b218, 0, none⟩)), (5, .int .i64 i221), (6, .int .i64 i361), (7, .int .i64 i362)] ρ ∧ K = K' ∧ L' = Row Hp.nil 60 (.cons (.int .i64) (.one .bool)) (.slice ad365 l364.length cp366) l364 :: Cl pba 74 [.string ⟨qa0.toArray⟩, .int .i64 i363] :: Cl b217 26 [.slice none 0 0] :: Cl b218 26 [.slice ad365 l364.length cp366] :: F) ?_ ?_
    · skip
      rcases bt (decide (i362 < i221)) with hc405 | hc405
      · skip
        refine J.run rfl rfl rfl hc405 ?_
        refine J.val (v := .int .i64 i361) rfl rfl (V.mv rfl) ?_
        refine J.run rfl rfl rfl hc405 ?_
        refine J.val (v := .bool (decide (i361 = 0))) rfl rfl (V.eql rfl rfl) ?_
        refine J.val (v := .bool (decide (i361 = 0))) rfl rfl (V.pickT rfl hc405 rfl) ?_
        refine J.nil ?_
        exact ⟨rfl, ⟨(by simp only [hc405]; rfl), rfl, rfl, rfl, rfl, rfl, rfl, trivial⟩, rfl, rfl⟩
      · skip
        refine J.skip rfl rfl rfl rfl hc405 ?_
        refine J.skip rfl rfl rfl rfl hc405 ?_
        refine J.val (v := .bool false) rfl rfl (V.pickF rfl hc405 rfl) ?_
        refine J.nil ?_
        exact ⟨rfl, ⟨(by simp only [hc405]; rfl), rfl, rfl, rfl, rfl, rfl, rfl, trivial⟩, rfl, rfl⟩
    · rintro ρ _ _ ⟨hf, rfl, rfl⟩
      obtain ⟨ρ, rfl⟩ := hf.ex
      refine J.nil ?_
      refine CJ.cond rfl (fun hc406 => ?_) (fun hc406 => ?_)
      · have h398 := ct hc406 h398
        refine CJ.skip ?_
        refine CJ.seq ?_
        refine CJ.block ?_
        refine CJ.seq ?_
        refine CJ.region ?_
        refine J.val (v := .int .i64 0) rfl rfl (V.as rfl) ?_
        refine J.nil ?_
        refine CJ.seq ?_
        refine CJ.region ?_
        refine J.val rfl rfl (V.mv rfl) ?_
        obtain ⟨r407, hr408, h398⟩ := ob h398
        refine J.front 1 rfl ?_
        refine J.op rfl (A.call (L1 := [Cl pba 74 [.string ⟨qa0.toArray⟩, .int .i64 i363]]) Try.call43 rfl (sig_reader_number_p0_si_ok hr408) rfl rfl) ?_
        rintro _ _ _ ⟨v412, _, rfl, ⟨⟨i409, i410, i411, rfl, rfl, rfl⟩, rfl⟩, _, rfl⟩
        refine J.val (v := .tuple #[.int .i64 i409, .int .i64 i410]) rfl rfl (V.mv rfl) ?_
        refine J.val (v := .int .i64 i409) rfl rfl (V.ext rfl rfl) ?_
        refine J.val (v := .int .i64 i410) rfl rfl (V.ext rfl rfl) ?_
        refine J.val (v := .int .i64 i409) rfl rfl (V.as rfl) ?_
        refine J.val (v := .int .i64 i410) rfl rfl (V.as rfl) ?_
        refine J.nil ?_
        refine CJ.region ?_
        refine J.val rfl rfl (V.fad Try.underlying26 rfl nz24 rfl) ?_
        refine J.val (v := .slice ad365 l364.length cp366) rfl rfl (V.ld rfl (Ld.sc sc24 (Rd.cl 3 rfl rfl))) ?_
        refine J.val (v := .int .i64 i409) rfl rfl (V.mv rfl) ?_
        refine J.val (v := .int .i64 (IntKind.wrap .i64 (Int.tdiv i409 2))) rfl rfl (V.quo rfl rfl (by decide)) ?_
        refine J.val (v := .int .i64 i409) rfl rfl (V.mv rfl) ?_
        refine J.val (v := .int .i64 (Int.tmod i409 2)) rfl rfl (V.rem rfl rfl (by decide)) ?_
        refine J.val (v := .bool (decide ((Int.tmod i409 2) = 1))) rfl rfl (V.eql rfl rfl) ?_
        refine J.val (v := .agg #[.int .i64 (IntKind.wrap .i64 (Int.tdiv i409 2)), .bool (decide ((Int.tmod i409 2) = 1))]) rfl rfl (V.build inf60 places60 rfl rfl) ?_
        refine J.op rfl (A.lit (K0 := Hp.nil) (ty := (.cons (.int .i64) (.one .bool))) (xs := ([(IntKind.wrap .i64 (Int.tdiv i409 2), decide ((Int.tmod i409 2) = 1))] : List (Int × Bool))) Try.underlying24 inf60 rfl (by decide) rfl rfl rfl ⟨_, _, rfl, ⟨_, _, rfl, rfl, rfl, rfl⟩, rfl⟩ rfl (by decide)) ?_
        rintro _ _ _ ⟨b415, rfl, rfl, rfl⟩
        have hn416 : ([(IntKind.wrap .i64 (Int.tdiv i409 2), decide ((Int.tmod i409 2) = 1))] : List (Int × Bool)) ≠ [] → ∃ g, (some ⟨b415, 0, none⟩ : Option Addr) = some ⟨g, 0, none⟩ := fun _ => ⟨b415, rfl⟩
        obtain ⟨z418, hz419, h398⟩ := ob h398
        refine J.front 2 rfl ?_
        refine J.op rfl (A.appR (Kr := Hp.nil) Try.underlying24 inf60 rfl rfl (by decide) (by decide) rfl rfl (Els.flat rfl) (Els.flat rfl) hz419) ?_
        rintro _ _ _ ⟨v420, rfl, rfl, rfl⟩
        refine J.wit Row.form ?_
        rintro ⟨ad421, cp422, rfl, _, _, hn423⟩
        refine J.val rfl rfl (V.fad Try.underlying26 rfl nz24 rfl) ?_
        refine J.front 3 rfl ?_
        refine J.op rfl (A.store1 (v := .slice ad421 z418.length cp422) (cs' := [.slice ad421 z418.length cp422]) sz24 rfl rfl rfl rfl rfl rfl) ?_
        rintro _ _ _ ⟨rfl, rfl, rfl⟩
        refine J.nil ?_
        refine CJ.region ?_
        refine J.val (v := .int .i64 i362) rfl rfl (V.mv rfl) ?_
        refine J.val (v := .int .i64 (IntKind.wrap .i64 (i362 + 1))) rfl rfl (V.add rfl rfl) ?_
        refine J.val (v := .int .i64 (IntKind.wrap .i64 (i362 + 1))) rfl rfl (V.as rfl) ?_
        refine J.front 1 rfl ?_
        refine J.front 1 rfl ?_
        refine J.front 3 rfl ?_
        refine J.front 3 rfl ?_
        refine J.nil ?_
        have e := Option.some.inj h398
        subst e
        exact ⟨rfl, ⟨i410, IntKind.wrap .i64 (i362 + 1), i411, z418, ad421, cp422, rfl, ⟨rfl, rfl, rfl, rfl, rfl, rfl, trivial⟩, rfl, rfl⟩⟩
      · have h398 := cf hc406 h398
        refine CJ.front 3 rfl ?_
        refine CJ.front 3 rfl ?_
        refine CJ.front 3 rfl ?_
        refine CJ.exit ?_
        have e := Option.some.inj h398
        subst e
        refine ⟨nofun, fun e => ?_⟩
        subst e
        exact ⟨rfl, ⟨i361, i363, l364, ad365, cp366, rfl, ⟨rfl, rfl, rfl, trivial⟩, rfl, rfl⟩⟩
  · rintro ρ _ _ ⟨i321, i322, l323, ad324, cp325, rfl, hf424, rfl, rfl⟩
    obtain ⟨ρ, rfl⟩ := hf424.ex
    refine PJ.front 3 rfl ?_
    refine PJ.wit Row.hn (fun hn327 => ?_)
    refine PJ.done ?_
    refine CJ.seq ?_
    refine CJ.region ?_
    refine J.val (v := .agg #[.slice ad324 l323.length cp325]) rfl rfl (V.ld rfl (Ld.agg (cs := [.slice ad324 l323.length cp325]) Try.underlying26 sz26 rfl (Rd.cls 3 0 rfl rfl))) ?_
    refine J.val (v := .int .i64 i321) rfl rfl (V.mv rfl) ?_
    refine J.front 2 rfl ?_
    refine J.op rfl (A.store (v := .agg #[.slice ad324 l323.length cp325]) (cs' := [.slice ad324 l323.length cp325]) sz26 rfl rfl rfl rfl rfl rfl) ?_
    rintro _ _ _ ⟨rfl, rfl, rfl⟩
    refine J.val (v := .int .i64 i321) rfl rfl (V.as rfl) ?_
    refine J.nil ?_
    refine CJ.ret ?_
    have e := Option.some.inj h
    subst e
    exact ⟨_, [Cl pba 74 [.string ⟨qa0.toArray⟩, .int .i64 i322], Row Hp.nil 60 (.cons (.int .i64) (.one .bool)) (.slice ad324 l323.length cp325) l323], Res.two rfl ⟨_, _, rfl, Ld.agg (cs := [.slice ad324 l323.length cp325]) Try.underlying26 sz26 rfl (Rd.cls 0 0 rfl rfl)⟩ rfl, ⟨l323, i321, i322, ad324, cp325, rfl, rfl, rfl⟩, (Hp.le_refl _), fun w hs => (Sep.front 1 rfl (Sep.dropAt 2 rfl (Sep.dropAt 0 rfl hs)))⟩

noncomputable def fn_sig_TakeType (xa : (List UInt8)) : Option (((List (Int × Bool)) × Int × Int)) :=
  (fn_sig_reader_typ_p0_si xa 0).bind fun (l28, i29, i30) => cond (!decide (i29 = 0)) (some (([], 0, i29))) (some ((l28, i30, 0)))
set_option maxRecDepth 100000 in
set_option maxHeartbeats 4000000 in
theorem sig_TakeType_ok {K : Hp} {xa : (List UInt8)}   {r : ((List (Int × Bool)) × Int × Int)} (h : fn_sig_TakeType xa = some r) :
    Tr Try.prog 16 #[.string ⟨xa.toArray⟩] K [] (fun v K' L' => (∃ (l17 : (List (Int × Bool))) (i22 : Int) (i23 : Int) (ad18 : Option Addr) (cp19 : Nat), (l17, i22, i23) = r ∧ .tuple #[.agg #[.slice ad18 l17.length cp19], .int .i64 i22, .int .i64 i23] = v ∧ L' = [Row Hp.nil 60 (.cons (.int .i64) (.one .bool)) (.slice ad18 l17.length cp19) l17]) ∧ K = K') := by
  refine Tr.k ?_
  refine Tr.of Try.func16 rfl Try.ntmps16 rfl (fun E F => ?_)
  unfold fn_sig_TakeType at h
  refine CJ.seq ?_
  refine CJ.region ?_
  refine J.op rfl (A.alloc (cs := [.slice none 0 0]) inf26 rfl) ?_
  rintro _ _ _ ⟨b24, rfl, rfl, rfl⟩
  refine J.val (v := .int .i64 0) rfl rfl (V.as rfl) ?_
  refine J.val (v := .int .i64 0) rfl rfl (V.as rfl) ?_
  refine J.nil ?_
  refine CJ.seq ?_
  refine CJ.region ?_
  refine J.val (v := .string ⟨xa.toArray⟩) rfl rfl (V.mv rfl) ?_
  refine J.val (v := .agg #[.string ⟨xa.toArray⟩, .int .i64 0]) rfl rfl (V.build inf74 places74 rfl rfl) ?_
  refine J.op rfl (A.alloc (cs := [.string ⟨([] : List UInt8).toArray⟩, .int .i64 0]) inf74 rfl) ?_
  rintro _ _ _ ⟨b25, rfl, rfl, rfl⟩
  refine J.op rfl (A.store (v := .agg #[.string ⟨xa.toArray⟩, .int .i64 0]) (cs' := [.string ⟨xa.toArray⟩, .int .i64 0]) sz74 rfl rfl rfl rfl rfl rfl) ?_
  rintro _ _ _ ⟨rfl, rfl, rfl⟩
  refine J.nil ?_
  refine CJ.seq ?_
  refine CJ.region ?_
  obtain ⟨r26, hr27, h⟩ := ob h
  refine J.op rfl (A.call (L1 := [Cl b25 74 [.string ⟨xa.toArray⟩, .int .i64 0]]) Try.call39 rfl (sig_reader_typ_p0_si_ok hr27) rfl rfl) ?_
  rintro _ _ _ ⟨v34, _, rfl, ⟨⟨l28, i29, i30, ad31, cp32, rfl, rfl, rfl⟩, rfl⟩, _, rfl⟩
  refine J.front 1 rfl ?_
  refine J.wit Row.hn (fun hn33 => ?_)
  refine J.val (v := .tuple #[.agg #[.slice ad31 l28.length cp32], .int .i64 i29]) rfl rfl (V.mv rfl) ?_
  refine J.val (v := .agg #[.slice ad31 l28.length cp32]) rfl rfl (V.ext rfl rfl) ?_
  refine J.val (v := .int .i64 i29) rfl rfl (V.ext rfl rfl) ?_
  refine J.op rfl (A.alloc (cs := [.slice none 0 0]) inf26 rfl) ?_
  rintro _ _ _ ⟨b38, rfl, rfl, rfl⟩
  refine J.op rfl (A.store (v := .agg #[.slice ad31 l28.length cp32]) (cs' := [.slice ad31 l28.length cp32]) sz26 rfl rfl rfl rfl rfl rfl) ?_
  rintro _ _ _ ⟨rfl, rfl, rfl⟩
  refine J.val (v := .int .i64 i29) rfl rfl (V.as rfl) ?_
  refine J.nil ?_
  refine CJ.seq ?_
  refine CJ.seq ?_
  refine CJ.region ?_
  refine J.val (v := .int .i64 i29) rfl rfl (V.mv rfl) ?_
  refine J.val (v := .bool (!decide (i29 = 0))) rfl rfl (V.neq rfl rfl) ?_
  refine J.nil ?_
  refine CJ.cond rfl (fun hc39 => ?_) (fun hc39 => ?_)
  · have h := ct hc39 h
    refine CJ.seq ?_
    refine CJ.region ?_
    refine J.val (v := .agg #[.slice none 0 0]) rfl rfl (V.build inf26 places26 rfl rfl) ?_
    refine J.val (v := .int .i64 i29) rfl rfl (V.mv rfl) ?_
    refine J.front 3 rfl ?_
    refine J.op rfl (A.store (v := .agg #[.slice none 0 0]) (cs' := [.slice none 0 0]) sz26 rfl rfl rfl rfl rfl rfl) ?_
    rintro _ _ _ ⟨rfl, rfl, rfl⟩
    refine J.val (v := .int .i64 0) rfl rfl (V.as rfl) ?_
    refine J.val (v := .int .i64 i29) rfl rfl (V.as rfl) ?_
    refine J.nil ?_
    refine CJ.by (fun w hs => Sep.rowNil (e := 60) (t := (.cons (.int .i64) (.one .bool))) hs) ?_
    refine CJ.ret ?_
    have e := Option.some.inj h
    subst e
    exact ⟨_, [Row Hp.nil 60 (.cons (.int .i64) (.one .bool)) (.slice none ((([] : List (Int × Bool))).length) 0) (([] : List (Int × Bool)))], Res.three rfl ⟨_, _, rfl, Ld.agg (cs := [.slice none 0 0]) Try.underlying26 sz26 rfl (Rd.cls 1 0 rfl rfl)⟩ rfl rfl, ⟨[], 0, i29, none, 0, rfl, rfl, rfl⟩, (Hp.le_refl _), fun w hs => (Sep.dropAt 1 rfl (Sep.dropAt 1 rfl (Sep.dropAt 1 rfl (Sep.dropAt 1 rfl hs))))⟩
  · have h := cf hc39 h
    refine CJ.skip ?_
    refine CJ.seq ?_
    refine CJ.mix [Cl b38 26 [.slice ad31 l28.length cp32], Row Hp.nil 60 (.cons (.int .i64) (.one .bool)) (.slice ad31 l28.length cp32) l28, Cl b25 74 [.string ⟨xa.toArray⟩, .int .i64 i30]] [([0, 1, 2], 3)] [4, 5] [] mixO (by decide +kernel) ⟨0, rfl, 0, rfl, 0, rfl, trivial⟩ rfl rfl rfl ?_
    refine JM.cons ?_
    refine JQ.val (v := .agg #[.slice ad31 l28.length cp32]) rfl rfl (V.ld rfl (Ld.agg (cs := [.slice ad31 l28.length cp32]) Try.underlying26 sz26 rfl (Rd.cls 0 0 rfl rfl))) ?_
    refine JQ.val rfl rfl (V.fad Try.underlying74 rfl nz3 rfl) ?_
    refine JQ.val (v := .int .i64 i30) rfl rfl (V.ld rfl (Ld.sc sc3 (Rd.cl 2 rfl rfl))) ?_
    refine JQ.nil ?_
    refine JA.front 3 rfl ?_
    refine JA.op rfl (A.store (v := .agg #[.slice ad31 l28.length cp32]) (cs' := [.slice ad31 l28.length cp32]) sz26 rfl rfl rfl rfl rfl rfl) ?_
    rintro _ _ _ ⟨rfl, rfl, rfl⟩
    refine ⟨fun w hs => Hold.sub (Hp.le_refl _) ⟨1, rfl, 1, rfl, 1, rfl, trivial⟩ hs, ?_⟩
    refine JM.nil ?_
    refine JQ.val (v := .int .i64 i30) rfl rfl (V.as rfl) ?_
    refine JQ.val (v := .int .i64 0) rfl rfl (V.as rfl) ?_
    refine JQ.nil ?_
    refine J.nil ?_
    refine CJ.ret ?_
    have e := Option.some.inj h
    subst e
    exact ⟨_, [Row Hp.nil 60 (.cons (.int .i64) (.one .bool)) (.slice ad31 l28.length cp32) l28], Res.three rfl ⟨_, _, rfl, Ld.agg (cs := [.slice ad31 l28.length cp32]) Try.underlying26 sz26 rfl (Rd.cls 0 0 rfl rfl)⟩ rfl rfl, ⟨l28, i30, 0, ad31, cp32, rfl, rfl, rfl⟩, (Hp.le_refl _), fun w hs => (Sep.dropAt 1 rfl (Sep.dropAt 0 rfl (Sep.dropAt 0 rfl hs)))⟩

noncomputable def fn_leb_Size (xa : Int) : Option Int :=
  cond ((decide (xa < 0)) || (decide (4294967295 < xa))) (some (0)) (cond (decide (xa < 248)) (some (1)) ((fn_leb_digits xa).bind fun i21 => some (IntKind.wrap .i64 (1 + i21))))
set_option maxRecDepth 100000 in
set_option maxHeartbeats 4000000 in
theorem leb_Size_ok {K : Hp} {xa : Int}   {r : Int} (h : fn_leb_Size xa = some r) :
    Tr Try.prog 63 #[.int .i64 xa] K [] (fun v K' L' => (∃ (i13 : Int), i13 = r ∧ .int .i64 i13 = v ∧ L' = []) ∧ K = K') := by
  refine Tr.k ?_
  refine Tr.of Try.func63 rfl Try.ntmps63 rfl (fun E F => ?_)
  unfold fn_leb_Size at h
  refine CJ.seq ?_
  refine CJ.region ?_
  refine J.val (v := .int .i64 0) rfl rfl (V.as rfl) ?_
  refine J.nil ?_
  refine CJ.seq ?_
  refine CJ.block ?_
  refine CJ.seq ?_
  refine CJ.region ?_
  refine J.val (v := .int .i64 xa) rfl rfl (V.mv rfl) ?_
  refine J.val (v := .bool (decide (xa < 0))) rfl rfl (V.lss rfl rfl) ?_
  refine J.val (v := .bool (decide (xa < 0))) rfl rfl (V.mv rfl) ?_
  refine J.cut 3 ?_
  refine @J.meet _ _ _ _ _ _ _ _ _ _ (fun ρ K' L' => Fits [(9, .bool ((decide (xa < 0)) || (decide (4294967295 < xa)))), (0, .int .i64 xa)] ρ ∧ K = K' ∧ F = L') ?_ ?_
  · skip
    rcases bt (decide (xa < 0)) with hc16 | hc16
    · skip
      refine J.skip rfl rfl rfl rfl hc16 ?_
      refine J.skip rfl rfl rfl rfl hc16 ?_
      refine J.val (v := .bool true) rfl rfl (V.pickT rfl hc16 rfl) ?_
      refine J.nil ?_
      exact ⟨rfl, ⟨(by simp only [hc16]; rfl), rfl, trivial⟩, rfl, rfl⟩
    · skip
      refine J.run rfl rfl rfl hc16 ?_
      refine J.val (v := .int .i64 xa) rfl rfl (V.mv rfl) ?_
      refine J.run rfl rfl rfl hc16 ?_
      refine J.val (v := .bool (decide (4294967295 < xa))) rfl rfl (V.gtr rfl rfl) ?_
      refine J.val (v := .bool (decide (4294967295 < xa))) rfl rfl (V.pickF rfl hc16 rfl) ?_
      refine J.nil ?_
      exact ⟨rfl, ⟨(by simp only [hc16]; rfl), rfl, trivial⟩, rfl, rfl⟩
  · rintro ρ _ _ ⟨hf, rfl, rfl⟩
    obtain ⟨ρ, rfl⟩ := hf.ex
    refine J.val (v := .bool ((decide (xa < 0)) || (decide (4294967295 < xa)))) rfl rfl (V.as rfl) ?_
    refine J.nil ?_
    refine CJ.cond rfl (fun hc17 => ?_) (fun hc17 => ?_)
    · have h := ct hc17 h
      refine CJ.seq ?_
      refine CJ.region ?_
      refine J.val (v := .int .i64 0) rfl rfl (V.as rfl) ?_
      refine J.nil ?_
      refine CJ.ret ?_
      have e := Option.some.inj h
      subst e
      exact ⟨_, [], Res.one rfl rfl, ⟨0, rfl, rfl, rfl⟩, (Hp.le_refl _), fun w hs => hs⟩
    · have h := cf hc17 h
      refine CJ.seq ?_
      refine CJ.region ?_
      refine J.val (v := .int .i64 xa) rfl rfl (V.mv rfl) ?_
      refine J.val (v := .bool (decide (xa < 248))) rfl rfl (V.lss rfl rfl) ?_
      refine J.val (v := .bool (decide (xa < 248))) rfl rfl (V.as rfl) ?_
      refine J.nil ?_
      refine CJ.cond rfl (fun hc18 => ?_) (fun hc18 => ?_)
      · have h := ct hc18 h
        refine CJ.seq ?_
        refine CJ.region ?_
        refine J.val (v := .int .i64 1) rfl rfl (V.as rfl) ?_
        refine J.nil ?_
        refine CJ.ret ?_
        have e := Option.some.inj h
        subst e
        exact ⟨_, [], Res.one rfl rfl, ⟨1, rfl, rfl, rfl⟩, (Hp.le_refl _), fun w hs => hs⟩
      · have h := cf hc18 h
        refine CJ.skip ?_
        refine CJ.seq ?_
        refine CJ.region ?_
        refine J.val (v := .int .i64 xa) rfl rfl (V.mv rfl) ?_
        obtain ⟨r19, hr20, h⟩ := ob h
        refine J.op rfl (A.call (L1 := []) Try.call71 rfl (leb_digits_ok hr20) rfl rfl) ?_
        rintro _ _ _ ⟨v22, _, rfl, ⟨⟨i21, rfl, rfl, rfl⟩, rfl⟩, _, rfl⟩
        refine J.val (v := .int .i64 (IntKind.wrap .i64 (1 + i21))) rfl rfl (V.add rfl rfl) ?_
        refine J.val (v := .int .i64 (IntKind.wrap .i64 (1 + i21))) rfl rfl (V.as rfl) ?_
        refine J.nil ?_
        refine CJ.ret ?_
        have e := Option.some.inj h
        subst e
        exact ⟨_, [], Res.one rfl rfl, ⟨IntKind.wrap .i64 (1 + i21), rfl, rfl, rfl⟩, (Hp.le_refl _), fun w hs => hs⟩
noncomputable def fn_leb_All_l1 (x997 : Int) : (Int × List UInt8) → Option ((Int × List UInt8) ⊕ List UInt8) := fun ((i1059, s1060) : (Int × List UInt8)) => cond (decide (0 ≤ i1059)) ((ge0 i1059).bind fun u1074 => (wrB s1060 (IntKind.wrap .u8 (Int.fdiv x997 (2 ^ (min (Int.toNat i1059) (IntKind.bits .i64)))))).bind fun s1076 => some (.inl ((IntKind.wrap .i64 (i1059 - 8), s1076)))) (some (.inr (s1060)))
noncomputable def fn_leb_All_l2 (xa : (List Int)) : (Int × List UInt8) → Option ((Int × List UInt8) ⊕ List UInt8) := fun ((i903, s904) : (Int × List UInt8)) => cond (decide (i903 < (((xa.length : Nat) : Int)))) ((getI xa i903).bind fun x997 => (fn_leb_Size x997).bind fun i1008 => cond (decide (i1008 = 0)) (some (.inl ((IntKind.wrap .i64 (i903 + 1), s904)))) (cond (decide (i1008 = 1)) ((wrB s904 (IntKind.wrap .u8 x997)).bind fun s1014 => some (.inl ((IntKind.wrap .i64 (i903 + 1), s1014)))) ((wrB s904 (IntKind.wrap .u8 (IntKind.wrap .i64 ((IntKind.wrap .i64 (247 + i1008)) - 1)))).bind fun s1017 => (loop (fn_leb_All_l1 x997) ((IntKind.wrap .i64 (8 * (IntKind.wrap .i64 (i1008 - 2))), s1017)) : Option (List UInt8)).bind fun s1048 => some (.inl ((IntKind.wrap .i64 (i903 + 1), s1048)))))) (some (.inr (s904)))
noncomputable def fn_leb_All (xa : (List Int)) : Option (List UInt8) :=
  (loop (fn_leb_All_l2 xa) ((0, ([] : List UInt8))) : Option (List UInt8)).bind fun s813 => ((some s813 : Option (List UInt8))).bind fun s1083 => some (s1083)
set_option maxRecDepth 100000 in
set_option maxHeartbeats 4000000 in
theorem leb_All_ok {K : Hp} {xa : (List Int)} {adxa_0 : Option Addr} {cpxa_0 : Nat} (fxa_0 : Is K (.sl (.int .i64)) [.slice adxa_0 xa.length cpxa_0] xa) {r : List UInt8} (h : fn_leb_All xa = some r) :
    Tr Try.prog 53 #[.slice adxa_0 xa.length cpxa_0] K [] (fun v K' L' => (∃ (s546 : List UInt8), s546 = r ∧ .string ⟨s546.toArray⟩ = v ∧ L' = []) ∧ K = K') := by
  refine Tr.k ?_
  refine Tr.of Try.func53 rfl Try.ntmps53 rfl (fun E F => ?_)
  unfold fn_leb_All at h
  refine CJ.seq ?_
  refine CJ.region ?_
  refine J.val (v := .string ⟨([] : List UInt8).toArray⟩) rfl rfl (V.as rfl) ?_
  refine J.nil ?_
  refine CJ.seq ?_
  refine CJ.region ?_
  refine J.op rfl (A.alloc (cs := [.pointer none, .slice none 0 0]) inf89 rfl) ?_
  rintro _ _ _ ⟨b547, rfl, rfl, rfl⟩
  refine J.by (fun w hs => Bld.fresh hs) ?_
  refine J.nil ?_
  refine CJ.seq ?_
  refine CJ.seq ?_
  refine CJ.region ?_
  refine J.val (v := .slice adxa_0 xa.length cpxa_0) rfl rfl (V.mv rfl) ?_
  refine J.val (v := .int .i64 (((xa.length : Nat) : Int))) rfl rfl (V.len Try.underlying29 rfl) ?_
  refine J.val (v := .int .i64 0) rfl rfl (V.mv rfl) ?_
  refine J.nil ?_
  obtain ⟨o814, ho815, h⟩ := ob h
  refine CJ.meetN (fun ρ K' L' => ∃ (s813 : List UInt8), s813 = o814 ∧ Fits [(3, .pointer (some ⟨b547, 0, none⟩))] ρ ∧ K = K' ∧ L' = Bld b547 s813 :: F) ?_ ?_
  · skip
    refine CJ.block ?_
    refine CJ.loop (fun s ρ K' L' => ∃ (i903 : Int) (s904 : List UInt8), (i903, s904) = s ∧ Fits [(3, .pointer (some ⟨b547, 0, none⟩)), (8, .slice adxa_0 xa.length cpxa_0), (9, .int .i64 (((xa.length : Nat) : Int))), (10, .int .i64 i903)] ρ ∧ K = K' ∧ L' = Bld b547 s904 :: F) ho815 ⟨0, ([] : List UInt8), rfl, ⟨rfl, rfl, rfl, rfl, trivial⟩, rfl, rfl⟩ ?_
    rintro s ρ _ _ r995 ⟨i903, s904, rfl, hf993, rfl, rfl⟩ h992
    obtain ⟨ρ, rfl⟩ := hf993.ex
    refine CJ.seq ?_
    refine CJ.region ?_
    refine J.val (v := .bool (decide (i903 < (((xa.length : Nat) : Int))))) rfl rfl (V.lss rfl rfl) ?_
    refine J.nil ?_
    refine CJ.seq ?_
    refine CJ.cond rfl (fun hc996 => ?_) (fun hc996 => ?_)
    · have h992 := ct hc996 h992
      refine CJ.skip ?_
      refine CJ.seq ?_
      refine CJ.block ?_
      refine CJ.seq ?_
      refine CJ.region ?_
      obtain ⟨x997, hx998, h992⟩ := ob h992
      obtain ⟨p999, p1000, p1001⟩ := getI_some hx998
      obtain ⟨b1002, o1003, e1004, a1005⟩ := (fxa_0).at p1000
      refine J.val rfl rfl (V.iad Try.underlying29 sz3 rfl e1004 rfl p999 p1001) ?_
      refine J.val (v := .int .i64 x997) rfl rfl (V.ld rfl (Ld.sc sc3 (Rd.k (a1005).int (Hp.le_refl _)))) ?_
      refine J.val (v := .int .i64 x997) rfl rfl (V.as rfl) ?_
      refine J.nil ?_
      refine CJ.seq ?_
      refine CJ.region ?_
      refine J.val (v := .int .i64 x997) rfl rfl (V.mv rfl) ?_
      obtain ⟨r1006, hr1007, h992⟩ := ob h992
      refine J.op rfl (A.call (L1 := []) Try.call63 rfl (leb_Size_ok hr1007) rfl rfl) ?_
      rintro _ _ _ ⟨v1009, _, rfl, ⟨⟨i1008, rfl, rfl, rfl⟩, rfl⟩, _, rfl⟩
      refine J.val (v := .int .i64 i1008) rfl rfl (V.as rfl) ?_
      refine J.nil ?_
      refine CJ.seq ?_
      refine CJ.region ?_
      refine J.val (v := .int .i64 i1008) rfl rfl (V.mv rfl) ?_
      refine J.nil ?_
      refine CJ.block ?_
      refine CJ.seq ?_
      refine CJ.region ?_
      refine J.val (v := .bool (decide (i1008 = 0))) rfl rfl (V.eql rfl rfl) ?_
      refine J.val (v := .bool (decide (i1008 = 0))) rfl rfl (V.as rfl) ?_
      refine J.nil ?_
      refine CJ.cond rfl (fun hc1012 => ?_) (fun hc1012 => ?_)
      · have h992 := ct hc1012 h992
        refine CJ.skip ?_
        refine CJ.region ?_
        refine J.val (v := .int .i64 (IntKind.wrap .i64 (i903 + 1))) rfl rfl (V.add rfl rfl) ?_
        refine J.val (v := .int .i64 (IntKind.wrap .i64 (i903 + 1))) rfl rfl (V.mv rfl) ?_
        refine J.nil ?_
        have e := Option.some.inj h992
        subst e
        exact ⟨rfl, ⟨IntKind.wrap .i64 (i903 + 1), s904, rfl, ⟨rfl, rfl, rfl, rfl, trivial⟩, rfl, rfl⟩⟩
      · have h992 := cf hc1012 h992
        refine CJ.seq ?_
        refine CJ.region ?_
        refine J.val (v := .bool (decide (i1008 = 1))) rfl rfl (V.eql rfl rfl) ?_
        refine J.val (v := .bool (decide (i1008 = 1))) rfl rfl (V.as rfl) ?_
        refine J.nil ?_
        refine CJ.cond rfl (fun hc1013 => ?_) (fun hc1013 => ?_)
        · have h992 := ct hc1013 h992
          refine CJ.region ?_
          refine J.val (v := .int .i64 x997) rfl rfl (V.mv rfl) ?_
          refine J.val (v := .int .u8 (IntKind.wrap .u8 x997)) rfl rfl (V.conv Try.underlying3 Try.underlying5 rfl) ?_
          obtain ⟨s1014, hs1015, h992⟩ := ob h992
          refine J.op rfl (A.call (L1 := [Bld b547 s904]) Try.call64 rfl (WriteByte_ok hs1015) rfl rfl) ?_
          rintro _ _ _ ⟨v1016, _, rfl, ⟨⟨s1014, rfl, rfl, rfl⟩, rfl⟩, _, rfl⟩
          refine J.nil ?_
          refine CJ.region ?_
          refine J.val (v := .int .i64 (IntKind.wrap .i64 (i903 + 1))) rfl rfl (V.add rfl rfl) ?_
          refine J.val (v := .int .i64 (IntKind.wrap .i64 (i903 + 1))) rfl rfl (V.mv rfl) ?_
          refine J.nil ?_
          have e := Option.some.inj h992
          subst e
          exact ⟨rfl, ⟨IntKind.wrap .i64 (i903 + 1), s1014, rfl, ⟨rfl, rfl, rfl, rfl, trivial⟩, rfl, rfl⟩⟩
        · have h992 := cf hc1013 h992
          refine CJ.seq ?_
          refine CJ.region ?_
          refine J.val (v := .int .i64 i1008) rfl rfl (V.mv rfl) ?_
          refine J.val (v := .int .i64 (IntKind.wrap .i64 (247 + i1008))) rfl rfl (V.add rfl rfl) ?_
          refine J.val (v := .int .i64 (IntKind.wrap .i64 ((IntKind.wrap .i64 (247 + i1008)) - 1))) rfl rfl (V.sub rfl rfl) ?_
          refine J.val (v := .int .u8 (IntKind.wrap .u8 (IntKind.wrap .i64 ((IntKind.wrap .i64 (247 + i1008)) - 1)))) rfl rfl (V.conv Try.underlying3 Try.underlying5 rfl) ?_
          obtain ⟨s1017, hs1018, h992⟩ := ob h992
          refine J.op rfl (A.call (L1 := [Bld b547 s904]) Try.call64 rfl (WriteByte_ok hs1018) rfl rfl) ?_
          rintro _ _ _ ⟨v1019, _, rfl, ⟨⟨s1017, rfl, rfl, rfl⟩, rfl⟩, _, rfl⟩
          refine J.nil ?_
          refine CJ.seq ?_
          refine CJ.region ?_
          refine J.val (v := .int .i64 i1008) rfl rfl (V.mv rfl) ?_
          refine J.val (v := .int .i64 (IntKind.wrap .i64 (i1008 - 2))) rfl rfl (V.sub rfl rfl) ?_
          refine J.val (v := .int .i64 (IntKind.wrap .i64 (8 * (IntKind.wrap .i64 (i1008 - 2))))) rfl rfl (V.mul rfl rfl) ?_
          refine J.val (v := .int .i64 (IntKind.wrap .i64 (8 * (IntKind.wrap .i64 (i1008 - 2))))) rfl rfl (V.as rfl) ?_
          refine J.nil ?_
          obtain ⟨o1049, ho1050, h992⟩ := ob h992
          refine CJ.meetN (fun ρ K' L' => ∃ (s1048 : List UInt8), s1048 = o1049 ∧ Fits [(3, .pointer (some ⟨b547, 0, none⟩)), (8, .slice adxa_0 xa.length cpxa_0), (9, .int .i64 (((xa.length : Nat) : Int))), (10, .int .i64 i903)] ρ ∧ K = K' ∧ L' = Bld b547 s1048 :: F) ?_ ?_
          · skip
            refine CJ.block ?_
            refine CJ.loop (fun s ρ K' L' => ∃ (i1059 : Int) (s1060 : List UInt8), (i1059, s1060) = s ∧ Fits [(3, .pointer (some ⟨b547, 0, none⟩)), (5, .int .i64 x997), (7, .int .i64 i1059), (8, .slice adxa_0 xa.length cpxa_0), (9, .int .i64 (((xa.length : Nat) : Int))), (10, .int .i64 i903)] ρ ∧ K = K' ∧ L' = Bld b547 s1060 :: F) ho1050 ⟨IntKind.wrap .i64 (8 * (IntKind.wrap .i64 (i1008 - 2))), s1017, rfl, ⟨rfl, rfl, rfl, rfl, rfl, rfl, trivial⟩, rfl, rfl⟩ ?_
            rintro s ρ _ _ r1072 ⟨i1059, s1060, rfl, hf1070, rfl, rfl⟩ h1069
            obtain ⟨ρ, rfl⟩ := hf1070.ex
            refine CJ.seq ?_
            refine CJ.seq ?_
            refine CJ.region ?_
            refine J.val (v := .int .i64 i1059) rfl rfl (V.mv rfl) ?_
            refine J.val (v := .bool (decide (0 ≤ i1059))) rfl rfl (V.geq rfl rfl) ?_
            refine J.nil ?_
            refine CJ.cond rfl (fun hc1073 => ?_) (fun hc1073 => ?_)
            · have h1069 := ct hc1073 h1069
              refine CJ.skip ?_
              refine CJ.seq ?_
              refine CJ.block ?_
              refine CJ.region ?_
              refine J.val (v := .int .i64 x997) rfl rfl (V.mv rfl) ?_
              refine J.val (v := .int .i64 i1059) rfl rfl (V.mv rfl) ?_
              obtain ⟨u1074, hu1075, h1069⟩ := ob h1069
              refine J.val (v := .int .i64 (Int.fdiv x997 (2 ^ (min (Int.toNat i1059) (IntKind.bits .i64))))) rfl rfl (V.shr rfl rfl (ge0_some hu1075)) ?_
              refine J.val (v := .int .u8 (IntKind.wrap .u8 (Int.fdiv x997 (2 ^ (min (Int.toNat i1059) (IntKind.bits .i64)))))) rfl rfl (V.conv Try.underlying3 Try.underlying5 rfl) ?_
              obtain ⟨s1076, hs1077, h1069⟩ := ob h1069
              refine J.op rfl (A.call (L1 := [Bld b547 s1060]) Try.call64 rfl (WriteByte_ok hs1077) rfl rfl) ?_
              rintro _ _ _ ⟨v1078, _, rfl, ⟨⟨s1076, rfl, rfl, rfl⟩, rfl⟩, _, rfl⟩
              refine J.nil ?_
              refine CJ.region ?_
              refine J.val (v := .int .i64 i1059) rfl rfl (V.mv rfl) ?_
              refine J.val (v := .int .i64 (IntKind.wrap .i64 (i1059 - 8))) rfl rfl (V.sub rfl rfl) ?_
              refine J.val (v := .int .i64 (IntKind.wrap .i64 (i1059 - 8))) rfl rfl (V.as rfl) ?_
              refine J.nil ?_
              have e := Option.some.inj h1069
              subst e
              exact ⟨rfl, ⟨IntKind.wrap .i64 (i1059 - 8), s1076, rfl, ⟨rfl, rfl, rfl, rfl, rfl, rfl, trivial⟩, rfl, rfl⟩⟩
            · have h1069 := cf hc1073 h1069
              refine CJ.exit ?_
              have e := Option.some.inj h1069
              subst e
              refine ⟨nofun, fun e => ?_⟩
              subst e
              exact ⟨rfl, ⟨s1060, rfl, ⟨rfl, rfl, rfl, rfl, trivial⟩, rfl, rfl⟩⟩
          · rintro ρ _ _ ⟨s1048, rfl, hf1079, rfl, rfl⟩
            obtain ⟨ρ, rfl⟩ := hf1079.ex
            refine PJ.done ?_
            refine CJ.region ?_
            refine J.val (v := .int .i64 (IntKind.wrap .i64 (i903 + 1))) rfl rfl (V.add rfl rfl) ?_
            refine J.val (v := .int .i64 (IntKind.wrap .i64 (i903 + 1))) rfl rfl (V.mv rfl) ?_
            refine J.nil ?_
            have e := Option.some.inj h992
            subst e
            exact ⟨rfl, ⟨IntKind.wrap .i64 (i903 + 1), s1048, rfl, ⟨rfl, rfl, rfl, rfl, trivial⟩, rfl, rfl⟩⟩
    · have h992 := cf hc996 h992
      refine CJ.exit ?_
      have e := Option.some.inj h992
      subst e
      refine ⟨nofun, fun e => ?_⟩
      subst e
      exact ⟨rfl, ⟨s904, rfl, ⟨rfl, trivial⟩, rfl, rfl⟩⟩
  · rintro ρ _ _ ⟨s813, rfl, hf1081, rfl, rfl⟩
    obtain ⟨ρ, rfl⟩ := hf1081.ex
    refine PJ.done ?_
    refine CJ.seq ?_
    refine CJ.region ?_
    obtain ⟨s1083, hs1084, h⟩ := ob h
    refine J.op rfl (A.call (L1 := [Bld b547 s813]) Try.call52 rfl (BString_ok hs1084) rfl rfl) ?_
    rintro _ _ _ ⟨v1085, _, rfl, ⟨⟨s1083, rfl, rfl, rfl⟩, rfl⟩, _, rfl⟩
    refine J.val (v := .string ⟨s1083.toArray⟩) rfl rfl (V.as rfl) ?_
    refine J.nil ?_
    refine CJ.ret ?_
    have e := Option.some.inj h
    subst e
    exact ⟨_, [], Res.one rfl rfl, ⟨s1083, rfl, rfl, rfl⟩, (Hp.le_refl _), fun w hs => hs⟩
noncomputable def fn_sig_PutType_l1 (xa : (List (Int × Bool))) : ((List Int) × Int) → Option (((List Int) × Int) ⊕ (List Int)) := fun ((l384, i389) : ((List Int) × Int)) => cond (decide (i389 < (((xa.length : Nat) : Int)))) ((getI xa i389).bind fun x428 => (cond (x428.2) (some (IntKind.wrap .i64 ((IntKind.wrap .i64 (2 * x428.1)) + 1))) (some (IntKind.wrap .i64 (2 * x428.1))) : Option Int).bind fun i439 => (app l384 ([i439] : List Int)).bind fun z448 => some (.inl ((z448, IntKind.wrap .i64 (i389 + 1))))) (some (.inr (l384)))
noncomputable def fn_sig_PutType (xa : (List (Int × Bool))) : Option (List UInt8) :=
  (loop (fn_sig_PutType_l1 xa) ((([((xa.length : Nat) : Int)] : List Int), 0)) : Option (List Int)).bind fun l344 => (fn_leb_All l344).bind fun s461 => some (s461)
set_option maxRecDepth 100000 in
set_option maxHeartbeats 4000000 in
theorem sig_PutType_ok {K : Hp} {xa : (List (Int × Bool))} {adxa_0 : Option Addr} {cpxa_0 : Nat} (fxa_0 : Is K (.sl (.cons (.int .i64) (.one .bool))) [.slice adxa_0 xa.length cpxa_0] xa) {r : List UInt8} (h : fn_sig_PutType xa = some r) :
    Tr Try.prog 26 #[.agg #[.slice adxa_0 xa.length cpxa_0]] K [] (fun v K' L' => (∃ (s236 : List UInt8), s236 = r ∧ .string ⟨s236.toArray⟩ = v ∧ L' = []) ∧ K = K') := by
  refine Tr.k ?_
  refine Tr.of Try.func26 rfl Try.ntmps26 rfl (fun E F => ?_)
  unfold fn_sig_PutType at h
  refine CJ.seq ?_
  refine CJ.region ?_
  refine J.op rfl (A.box (v := .agg #[.slice adxa_0 xa.length cpxa_0]) (cs := [.slice adxa_0 xa.length cpxa_0]) rfl rfl) ?_
  rintro _ _ _ ⟨b237, rfl, rfl, rfl⟩
  refine J.val (v := .string ⟨([] : List UInt8).toArray⟩) rfl rfl (V.as rfl) ?_
  refine J.nil ?_
  refine CJ.seq ?_
  refine CJ.region ?_
  refine J.val rfl rfl (V.fad Try.underlying26 rfl nz24 rfl) ?_
  refine J.val (v := .slice adxa_0 xa.length cpxa_0) rfl rfl (V.ld rfl (Ld.sc sc24 (Rd.cl 0 rfl rfl))) ?_
  refine J.val (v := .int .i64 (((xa.length : Nat) : Int))) rfl rfl (V.len Try.underlying24 rfl) ?_
  refine J.op rfl (A.lit (K0 := Hp.nil) (ty := (.int .i64)) (xs := ([((xa.length : Nat) : Int)] : List Int)) Try.underlying29 inf3 rfl (by decide) rfl rfl rfl ⟨_, _, rfl, rfl, rfl⟩ rfl (by decide)) ?_
  rintro _ _ _ ⟨b238, rfl, rfl, rfl⟩
  have hn239 : ([((xa.length : Nat) : Int)] : List Int) ≠ [] → ∃ g, (some ⟨b238, 0, none⟩ : Option Addr) = some ⟨g, 0, none⟩ := fun _ => ⟨b238, rfl⟩
  refine J.val (v := .slice (some ⟨b238, 0, none⟩) ((([((xa.length : Nat) : Int)] : List Int)).length) 1) rfl rfl (V.as rfl) ?_
  refine J.nil ?_
  refine CJ.seq ?_
  refine CJ.seq ?_
  refine CJ.region ?_
  refine J.val rfl rfl (V.fad Try.underlying26 rfl nz24 rfl) ?_
  refine J.val (v := .slice adxa_0 xa.length cpxa_0) rfl rfl (V.ld rfl (Ld.sc sc24 (Rd.cl 1 rfl rfl))) ?_
  refine J.val (v := .int .i64 (((xa.length : Nat) : Int))) rfl rfl (V.len Try.underlying24 rfl) ?_
  refine J.val (v := .int .i64 0) rfl rfl (V.mv rfl) ?_
  refine J.nil ?_
  obtain ⟨o349, ho350, h⟩ := ob h
  refine CJ.meetN (fun ρ K' L' => ∃ (l344 : (List Int)) (ad345 : Option Addr) (cp346 : Nat), l344 = o349 ∧ Fits [(3, .slice ad345 l344.length cp346)] ρ ∧ K = K' ∧ L' = Row Hp.nil 3 (.int .i64) (.slice ad345 l344.length cp346) l344 :: F) ?_ ?_
  · skip
    refine CJ.block ?_
    refine CJ.dropAt 1 rfl ?_
    refine CJ.loop (fun s ρ K' L' => ∃ (l384 : (List Int)) (i389 : Int) (ad385 : Option Addr) (cp386 : Nat), (l384, i389) = s ∧ Fits [(3, .slice ad385 l384.length cp386), (12, .slice adxa_0 xa.length cpxa_0), (13, .int .i64 (((xa.length : Nat) : Int))), (14, .int .i64 i389)] ρ ∧ K = K' ∧ L' = Row Hp.nil 3 (.int .i64) (.slice ad385 l384.length cp386) l384 :: F) ho350 ⟨([((xa.length : Nat) : Int)] : List Int), 0, (some ⟨b238, 0, none⟩), 1, rfl, ⟨rfl, rfl, rfl, rfl, trivial⟩, rfl, rfl⟩ ?_
    rintro s ρ _ _ r426 ⟨l384, i389, ad385, cp386, rfl, hf424, rfl, rfl⟩ h423
    obtain ⟨ρ, rfl⟩ := hf424.ex
    refine CJ.wit Row.hn (fun hn388 => ?_)
    refine CJ.seq ?_
    refine CJ.region ?_
    refine J.val (v := .bool (decide (i389 < (((xa.length : Nat) : Int))))) rfl rfl (V.lss rfl rfl) ?_
    refine J.nil ?_
    refine CJ.seq ?_
    refine CJ.cond rfl (fun hc427 => ?_) (fun hc427 => ?_)
    · have h423 := ct hc427 h423
      refine CJ.skip ?_
      refine CJ.seq ?_
      refine CJ.block ?_
      refine CJ.seq ?_
      refine CJ.region ?_
      obtain ⟨x428, hx429, h423⟩ := ob h423
      obtain ⟨p430, p431, p432⟩ := getI_some hx429
      obtain ⟨b433, o434, e435, a436⟩ := (fxa_0).at p431
      refine J.val rfl rfl (V.iad Try.underlying24 sz60 rfl e435 rfl p430 p432) ?_
      refine J.val (v := .agg #[.int .i64 x428.1, .bool x428.2]) rfl rfl (V.ld rfl (Ld.aggK (cs := [.int .i64 x428.1, .bool x428.2]) Try.underlying60 sz60 rfl ⟨((a436).fst).int, (((a436).snd).one).bool, trivial⟩ (Hp.le_refl _))) ?_
      refine J.op rfl (A.alloc (cs := [.int .i64 0, .bool false]) inf60 rfl) ?_
      rintro _ _ _ ⟨b437, rfl, rfl, rfl⟩
      refine J.op rfl (A.store (v := .agg #[.int .i64 x428.1, .bool x428.2]) (cs' := [.int .i64 x428.1, .bool x428.2]) sz60 rfl rfl rfl rfl rfl rfl) ?_
      rintro _ _ _ ⟨rfl, rfl, rfl⟩
      refine J.nil ?_
      refine CJ.seq ?_
      refine CJ.region ?_
      refine J.val rfl rfl (V.fad Try.underlying60 rfl nz3 rfl) ?_
      refine J.val (v := .int .i64 x428.1) rfl rfl (V.ld rfl (Ld.sc sc3 (Rd.cl 0 rfl rfl))) ?_
      refine J.val (v := .int .i64 (IntKind.wrap .i64 (2 * x428.1))) rfl rfl (V.mul rfl rfl) ?_
      refine J.val (v := .int .i64 (IntKind.wrap .i64 (2 * x428.1))) rfl rfl (V.as rfl) ?_
      refine J.nil ?_
      refine CJ.seq ?_
      obtain ⟨o440, ho441, h423⟩ := ob h423
      refine CJ.meetN (fun ρ K' L' => ∃ (i439 : Int), i439 = o440 ∧ Fits [(3, .slice ad385 l384.length cp386), (6, .int .i64 i439), (12, .slice adxa_0 xa.length cpxa_0), (13, .int .i64 (((xa.length : Nat) : Int))), (14, .int .i64 i389)] ρ ∧ K = K' ∧ L' = Row Hp.nil 3 (.int .i64) (.slice ad385 l384.length cp386) l384 :: F) ?_ ?_
      · skip
        refine CJ.seq ?_
        refine CJ.region ?_
        refine J.val rfl rfl (V.fad Try.underlying60 rfl nz4 rfl) ?_
        refine J.val (v := .bool x428.2) rfl rfl (V.ld rfl (Ld.sc sc4 (Rd.cl 0 rfl rfl))) ?_
        refine J.nil ?_
        refine CJ.cond rfl (fun hc442 => ?_) (fun hc442 => ?_)
        · have ho441 := ct hc442 ho441
          refine CJ.region ?_
          refine J.val (v := .int .i64 (IntKind.wrap .i64 (2 * x428.1))) rfl rfl (V.mv rfl) ?_
          refine J.val (v := .int .i64 (IntKind.wrap .i64 ((IntKind.wrap .i64 (2 * x428.1)) + 1))) rfl rfl (V.add rfl rfl) ?_
          refine J.val (v := .int .i64 (IntKind.wrap .i64 ((IntKind.wrap .i64 (2 * x428.1)) + 1))) rfl rfl (V.as rfl) ?_
          refine J.dropAt 0 rfl ?_
          refine J.nil ?_
          have e := Option.some.inj ho441
          subst e
          exact ⟨rfl, ⟨IntKind.wrap .i64 ((IntKind.wrap .i64 (2 * x428.1)) + 1), rfl, ⟨rfl, rfl, rfl, rfl, rfl, trivial⟩, rfl, rfl⟩⟩
        · have ho441 := cf hc442 ho441
          refine CJ.dropAt 0 rfl ?_
          refine CJ.skip ?_
          have e := Option.some.inj ho441
          subst e
          exact ⟨rfl, ⟨IntKind.wrap .i64 (2 * x428.1), rfl, ⟨rfl, rfl, rfl, rfl, rfl, trivial⟩, rfl, rfl⟩⟩
      · rintro ρ _ _ ⟨i439, rfl, hf443, rfl, rfl⟩
        obtain ⟨ρ, rfl⟩ := hf443.ex
        refine PJ.done ?_
        refine CJ.region ?_
        refine J.val (v := .slice ad385 l384.length cp386) rfl rfl (V.mv rfl) ?_
        refine J.val (v := .int .i64 i439) rfl rfl (V.mv rfl) ?_
        refine J.op rfl (A.lit (K0 := Hp.nil) (ty := (.int .i64)) (xs := ([i439] : List Int)) Try.underlying29 inf3 rfl (by decide) rfl rfl rfl ⟨_, _, rfl, rfl, rfl⟩ rfl (by decide)) ?_
        rintro _ _ _ ⟨b445, rfl, rfl, rfl⟩
        have hn446 : ([i439] : List Int) ≠ [] → ∃ g, (some ⟨b445, 0, none⟩ : Option Addr) = some ⟨g, 0, none⟩ := fun _ => ⟨b445, rfl⟩
        obtain ⟨z448, hz449, h423⟩ := ob h423
        refine J.front 1 rfl ?_
        refine J.op rfl (A.appR (Kr := Hp.nil) Try.underlying29 inf3 rfl rfl (by decide) (by decide) rfl rfl (Els.flat rfl) (Els.flat rfl) hz449) ?_
        rintro _ _ _ ⟨v450, rfl, rfl, rfl⟩
        refine J.wit Row.form ?_
        rintro ⟨ad451, cp452, rfl, _, _, hn453⟩
        refine J.val (v := .slice ad451 z448.length cp452) rfl rfl (V.as rfl) ?_
        refine J.nil ?_
        refine CJ.region ?_
        refine J.val (v := .int .i64 (IntKind.wrap .i64 (i389 + 1))) rfl rfl (V.add rfl rfl) ?_
        refine J.val (v := .int .i64 (IntKind.wrap .i64 (i389 + 1))) rfl rfl (V.mv rfl) ?_
        refine J.nil ?_
        have e := Option.some.inj h423
        subst e
        exact ⟨rfl, ⟨z448, IntKind.wrap .i64 (i389 + 1), ad451, cp452, rfl, ⟨rfl, rfl, rfl, rfl, trivial⟩, rfl, rfl⟩⟩
    · have h423 := cf hc427 h423
      refine CJ.exit ?_
      have e := Option.some.inj h423
      subst e
      refine ⟨nofun, fun e => ?_⟩
      subst e
      exact ⟨rfl, ⟨l384, ad385, cp386, rfl, ⟨rfl, trivial⟩, rfl, rfl⟩⟩
  · rintro ρ _ _ ⟨l344, ad345, cp346, rfl, hf454, rfl, rfl⟩
    obtain ⟨ρ, rfl⟩ := hf454.ex
    refine PJ.wit Row.hn (fun hn348 => ?_)
    refine PJ.done ?_
    refine CJ.seq ?_
    refine CJ.region ?_
    refine J.val (v := .slice ad345 l344.length cp346) rfl rfl (V.mv rfl) ?_
    obtain ⟨r456, hr457, h⟩ := ob h
    refine J.op rfl (A.call (L1 := [Row Hp.nil 3 (.int .i64) (.slice ad345 l344.length cp346) l344]) Try.call53 rfl (Tr.lend (Hp.nil_le _) (by decide) (fun K458 hK459 f460 => leb_All_ok f460 hr457)) rfl rfl) ?_
    rintro _ _ _ ⟨v462, _, rfl, ⟨⟨_, ⟨s461, rfl, rfl, rfl⟩, rfl⟩, rfl⟩, _, rfl⟩
    refine J.val (v := .string ⟨s461.toArray⟩) rfl rfl (V.as rfl) ?_
    refine J.nil ?_
    refine CJ.ret ?_
    have e := Option.some.inj h
    subst e
    exact ⟨_, [], Res.one rfl rfl, ⟨s461, rfl, rfl, rfl⟩, (Hp.le_refl _), fun w hs => (Sep.dropAt 0 rfl hs)⟩

noncomputable def fn_sig_Check_1_ip0_ikkk (xa : Int) (qa0 : Int) (qa1 : (List (Int × Int))) (qa2 : (List (List (Int × Bool)))) (qa3 : (List (Int × Bool))) : Option ((Bool × Int × (List (Int × Int)) × (List (List (Int × Bool))) × (List (Int × Bool)))) :=
  some (((decide (0 ≤ xa)) && (decide (xa < qa0)), qa0, qa1, qa2, qa3))
set_option maxRecDepth 100000 in
set_option maxHeartbeats 4000000 in
theorem sig_Check_1_ip0_ikkk_ok {K : Hp} {xa : Int} {qa0 : Int} {qa1 : (List (Int × Int))} {qa2 : (List (List (Int × Bool)))} {qa3 : (List (Int × Bool))} {pba : Nat} {adqa1 : Option Addr} {cpqa1 : Nat} {adqa2 : Option Addr} {cpqa2 : Nat} {adqa3 : Option Addr} {cpqa3 : Nat} (fqa1 : Is K (.sl (.cons (.int .i64) (.one (.int .i64)))) [.slice adqa1 qa1.length cpqa1] qa1) (fqa2 : Is K (.sl (.one (.sl (.cons (.int .i64) (.one .bool))))) [.slice adqa2 qa2.length cpqa2] qa2) (fqa3 : Is K (.sl (.cons (.int .i64) (.one .bool))) [.slice adqa3 qa3.length cpqa3] qa3) {r : (Bool × Int × (List (Int × Int)) × (List (List (Int × Bool))) × (List (Int × Bool)))} (h : fn_sig_Check_1_ip0_ikkk xa qa0 qa1 qa2 qa3 = some r) :
    Tr Try.prog 36 #[.int .i64 xa, .pointer (some ⟨pba, 0, none⟩)] K [Cl pba 28 [.int .i64 qa0, .slice adqa1 qa1.length cpqa1, .slice adqa2 qa2.length cpqa2, .slice adqa3 qa3.length cpqa3]] (fun v K' L' => (∃ (t4 : Bool) (i5 : Int) (l6 : (List (Int × Int))) (l10 : (List (List (Int × Bool)))) (l14 : (List (Int × Bool))) (ad7 : Option Addr) (cp8 : Nat) (ad11 : Option Addr) (cp12 : Nat) (ad15 : Option Addr) (cp16 : Nat), (t4, i5, l6, l10, l14) = r ∧ .bool t4 = v ∧ Is K' (.sl (.cons (.int .i64) (.one (.int .i64)))) [.slice ad7 l6.length cp8] l6 ∧ Is K' (.sl (.one (.sl (.cons (.int .i64) (.one .bool))))) [.slice ad11 l10.length cp12] l10 ∧ Is K' (.sl (.cons (.int .i64) (.one .bool))) [.slice ad15 l14.length cp16] l14 ∧ L' = [Cl pba 28 [.int .i64 i5, .slice ad7 l6.length cp8, .slice ad11 l10.length cp12, .slice ad15 l14.length cp16]])) := by
  refine Tr.of Try.func36 rfl Try.ntmps36 rfl (fun E F => ?_)
  unfold fn_sig_Check_1_ip0_ikkk at h
  refine CJ.seq ?_
  refine CJ.region ?_
  refine J.val (v := .bool false) rfl rfl (V.as rfl) ?_
  refine J.nil ?_
  refine CJ.seq ?_
  refine CJ.region ?_
  refine J.val (v := .int .i64 xa) rfl rfl (V.mv rfl) ?_
  refine J.val (v := .bool (decide (0 ≤ xa))) rfl rfl (V.geq rfl rfl) ?_
  refine J.val (v := .bool (decide (0 ≤ xa))) rfl rfl (V.mv rfl) ?_
  refine J.cut 5 ?_
  refine @J.meet _ _ _ _ _ _ _ _ _ _ (fun ρ K' L' => Fits [(11, .bool ((decide (0 ≤ xa)) && (decide (xa < qa0))))] ρ ∧ K = K' ∧ L' = Cl pba 28 [.int .i64 qa0, .slice adqa1 qa1.length cpqa1, .slice adqa2 qa2.length cpqa2, .slice adqa3 qa3.length cpqa3] :: F) ?_ ?_
  · skip
    rcases bt (decide (0 ≤ xa)) with hc20 | hc20
    · skip
      refine J.run rfl rfl rfl hc20 ?_
      refine J.val (v := .int .i64 xa) rfl rfl (V.mv rfl) ?_
      refine J.run rfl rfl rfl hc20 ?_
      refine J.val rfl rfl (V.fad Try.underlying28 rfl nz3 rfl) ?_
      refine J.run rfl rfl rfl hc20 ?_
      refine J.val (v := .int .i64 qa0) rfl rfl (V.ld rfl (Ld.sc sc3 (Rd.cl 0 rfl rfl))) ?_
      refine J.run rfl rfl rfl hc20 ?_
      refine J.val (v := .bool (decide (xa < qa0))) rfl rfl (V.lss rfl rfl) ?_
      refine J.val (v := .bool (decide (xa < qa0))) rfl rfl (V.pickT rfl hc20 rfl) ?_
      refine J.nil ?_
      exact ⟨rfl, ⟨(by simp only [hc20]; rfl), trivial⟩, rfl, rfl⟩
    · skip
      refine J.skip rfl rfl rfl rfl hc20 ?_
      refine J.skip rfl rfl rfl rfl hc20 ?_
      refine J.skip rfl rfl rfl rfl hc20 ?_
      refine J.skip rfl rfl rfl rfl hc20 ?_
      refine J.val (v := .bool false) rfl rfl (V.pickF rfl hc20 rfl) ?_
      refine J.nil ?_
      exact ⟨rfl, ⟨(by simp only [hc20]; rfl), trivial⟩, rfl, rfl⟩
  · rintro ρ _ _ ⟨hf, rfl, rfl⟩
    obtain ⟨ρ, rfl⟩ := hf.ex
    refine J.val (v := .bool ((decide (0 ≤ xa)) && (decide (xa < qa0)))) rfl rfl (V.as rfl) ?_
    refine J.nil ?_
    refine CJ.ret ?_
    have e := Option.some.inj h
    subst e
    exact ⟨_, [Cl pba 28 [.int .i64 qa0, .slice adqa1 qa1.length cpqa1, .slice adqa2 qa2.length cpqa2, .slice adqa3 qa3.length cpqa3]], Res.one rfl rfl, ⟨(decide (0 ≤ xa)) && (decide (xa < qa0)), qa0, qa1, qa2, qa3, adqa1, cpqa1, adqa2, cpqa2, adqa3, cpqa3, rfl, rfl, fqa1, fqa2, fqa3, rfl⟩, (Hp.le_refl _), fun w hs => hs⟩

noncomputable def fn_row_within_1_ap0_i (xa : (Int × Bool)) (qa0 : Int) : Option (Bool × Int) :=
  some (((decide (xa.1 < 0)) || (decide (qa0 ≤ xa.1)), qa0))
set_option maxRecDepth 100000 in
set_option maxHeartbeats 4000000 in
theorem row_within_1_ap0_i_ok {K : Hp} {xa : (Int × Bool)} {qa0 : Int} {pba : Nat}  {r : (Bool × Int)} (h : fn_row_within_1_ap0_i xa qa0 = some r) :
    Tr Try.prog 69 #[.agg #[.int .i64 xa.1, .bool xa.2], .pointer (some ⟨pba, 0, none⟩)] K [Cl pba 3 [.int .i64 qa0]] (fun v K' L' => (∃ (t5 : Bool) (i6 : Int), (t5, i6) = r ∧ .bool t5 = v ∧ L' = [Cl pba 3 [.int .i64 i6]]) ∧ K = K') := by
  refine Tr.k ?_
  refine Tr.of Try.func69 rfl Try.ntmps69 rfl (fun E F => ?_)
  unfold fn_row_within_1_ap0_i at h
  refine CJ.seq ?_
  refine CJ.region ?_
  refine J.op rfl (A.box (v := .agg #[.int .i64 xa.1, .bool xa.2]) (cs := [.int .i64 xa.1, .bool xa.2]) rfl rfl) ?_
  rintro _ _ _ ⟨b7, rfl, rfl, rfl⟩
  refine J.val (v := .bool false) rfl rfl (V.as rfl) ?_
  refine J.nil ?_
  refine CJ.seq ?_
  refine CJ.region ?_
  refine J.val rfl rfl (V.fad Try.underlying60 rfl nz3 rfl) ?_
  refine J.val (v := .int .i64 xa.1) rfl rfl (V.ld rfl (Ld.sc sc3 (Rd.cl 0 rfl rfl))) ?_
  refine J.val (v := .bool (decide (xa.1 < 0))) rfl rfl (V.lss rfl rfl) ?_
  refine J.val (v := .bool (decide (xa.1 < 0))) rfl rfl (V.mv rfl) ?_
  refine J.cut 5 ?_
  refine @J.meet _ _ _ _ _ _ _ _ _ _ (fun ρ K' L' => Fits [(12, .bool ((decide (xa.1 < 0)) || (decide (qa0 ≤ xa.1))))] ρ ∧ K = K' ∧ L' = Cl b7 60 [.int .i64 xa.1, .bool xa.2] :: Cl pba 3 [.int .i64 qa0] :: F) ?_ ?_
  · skip
    rcases bt (decide (xa.1 < 0)) with hc10 | hc10
    · skip
      refine J.skip rfl rfl rfl rfl hc10 ?_
      refine J.skip rfl rfl rfl rfl hc10 ?_
      refine J.skip rfl rfl rfl rfl hc10 ?_
      refine J.skip rfl rfl rfl rfl hc10 ?_
      refine J.val (v := .bool true) rfl rfl (V.pickT rfl hc10 rfl) ?_
      refine J.nil ?_
      exact ⟨rfl, ⟨(by simp only [hc10]; rfl), trivial⟩, rfl, rfl⟩
    · skip
      refine J.run rfl rfl rfl hc10 ?_
      refine J.val rfl rfl (V.fad Try.underlying60 rfl nz3 rfl) ?_
      refine J.run rfl rfl rfl hc10 ?_
      refine J.val (v := .int .i64 xa.1) rfl rfl (V.ld rfl (Ld.sc sc3 (Rd.cl 0 rfl rfl))) ?_
      refine J.run rfl rfl rfl hc10 ?_
      refine J.val (v := .int .i64 qa0) rfl rfl (V.ld rfl (Ld.sc sc3 (Rd.cl 1 rfl rfl))) ?_
      refine J.run rfl rfl rfl hc10 ?_
      refine J.val (v := .bool (decide (qa0 ≤ xa.1))) rfl rfl (V.geq rfl rfl) ?_
      refine J.val (v := .bool (decide (qa0 ≤ xa.1))) rfl rfl (V.pickF rfl hc10 rfl) ?_
      refine J.nil ?_
      exact ⟨rfl, ⟨(by simp only [hc10]; rfl), trivial⟩, rfl, rfl⟩
  · rintro ρ _ _ ⟨hf, rfl, rfl⟩
    obtain ⟨ρ, rfl⟩ := hf.ex
    refine J.val (v := .bool ((decide (xa.1 < 0)) || (decide (qa0 ≤ xa.1)))) rfl rfl (V.as rfl) ?_
    refine J.nil ?_
    refine CJ.ret ?_
    have e := Option.some.inj h
    subst e
    exact ⟨_, [Cl pba 3 [.int .i64 qa0]], Res.one rfl rfl, ⟨(decide (xa.1 < 0)) || (decide (qa0 ≤ xa.1)), qa0, rfl, rfl, rfl⟩, (Hp.le_refl _), fun w hs => (Sep.dropAt 0 rfl hs)⟩
noncomputable def fn_slices_IndexFunc_api_Slot_api_Slot_k_row_within_1_p0_i_l1 (xa : (List (Int × Bool))) : (Int × Int) → Option ((Int × Int) ⊕ (Int ⊕ (Int × Int))) := fun ((i224, i225) : (Int × Int)) => cond (decide (i224 < (((xa.length : Nat) : Int)))) ((getI xa i224).bind fun x251 => (fn_row_within_1_ap0_i (x251.1, x251.2) i225).bind fun (t262, i263) => cond (t262) (some (.inr ((.inr ((i224, i263)))))) (some (.inl ((IntKind.wrap .i64 (i224 + 1), i263))))) (some (.inr (.inl i225)))
noncomputable def fn_slices_IndexFunc_api_Slot_api_Slot_k_row_within_1_p0_i (xa : (List (Int × Bool))) (qa0 : Int) : Option (Int × Int) :=
  (loop (fn_slices_IndexFunc_api_Slot_api_Slot_k_row_within_1_p0_i_l1 xa) (0, qa0) : Option (Int ⊕ (Int × Int))).bind fun o => match o with | .inr r => some r | .inl i201 => some (((-1), i201))
set_option maxRecDepth 100000 in
set_option maxHeartbeats 4000000 in
theorem slices_IndexFunc_api_Slot_api_Slot_k_row_within_1_p0_i_ok {K : Hp} {xa : (List (Int × Bool))} {qa0 : Int} {pba : Nat} {adxa_0 : Option Addr} {cpxa_0 : Nat} (fxa_0 : Is K (.sl (.cons (.int .i64) (.one .bool))) [.slice adxa_0 xa.length cpxa_0] xa) {r : (Int × Int)} (h : fn_slices_IndexFunc_api_Slot_api_Slot_k_row_within_1_p0_i xa qa0 = some r) :
    Tr Try.prog 73 #[.slice adxa_0 xa.length cpxa_0, .func (.func 69) #[] #[.pointer (some ⟨pba, 0, none⟩)]] K [Cl pba 3 [.int .i64 qa0]] (fun v K' L' => (∃ (i135 : Int) (i136 : Int), (i135, i136) = r ∧ .int .i64 i135 = v ∧ L' = [Cl pba 3 [.int .i64 i136]]) ∧ K = K') := by
  refine Tr.k ?_
  refine Tr.of Try.func73 rfl Try.ntmps73 rfl (fun E F => ?_)
  unfold fn_slices_IndexFunc_api_Slot_api_Slot_k_row_within_1_p0_i at h
  refine CJ.seq ?_
  refine CJ.region ?_
  refine J.val (v := .int .i64 0) rfl rfl (V.as rfl) ?_
  refine J.nil ?_
  refine CJ.seq ?_
  refine CJ.seq ?_
  refine CJ.region ?_
  refine J.val (v := .slice adxa_0 xa.length cpxa_0) rfl rfl (V.mv rfl) ?_
  refine J.val (v := .int .i64 (((xa.length : Nat) : Int))) rfl rfl (V.len Try.underlying24 rfl) ?_
  refine J.val (v := .int .i64 0) rfl rfl (V.mv rfl) ?_
  refine J.nil ?_
  obtain ⟨o202, ho203, h⟩ := ob h
  refine CJ.joinN (o := o202) (fun s ρ K' L' => ∃ (i201 : Int), i201 = s ∧ Fits [] ρ ∧ K = K' ∧ L' = Cl pba 3 [.int .i64 i201] :: F) ?_ ?_
  · skip
    refine CJ.block ?_
    refine CJ.loop (fun s ρ K' L' => ∃ (i224 : Int) (i225 : Int), (i224, i225) = s ∧ Fits [(0, .slice adxa_0 xa.length cpxa_0), (1, .func (.func 69) #[] #[.pointer (some ⟨pba, 0, none⟩)]), (7, .int .i64 (((xa.length : Nat) : Int))), (8, .int .i64 i224)] ρ ∧ K = K' ∧ L' = Cl pba 3 [.int .i64 i225] :: F) ho203 ⟨0, qa0, rfl, ⟨rfl, rfl, rfl, rfl, trivial⟩, rfl, rfl⟩ ?_
    rintro s ρ _ _ r249 ⟨i224, i225, rfl, hf247, rfl, rfl⟩ h246
    obtain ⟨ρ, rfl⟩ := hf247.ex
    refine CJ.seq ?_
    refine CJ.region ?_
    refine J.val (v := .bool (decide (i224 < (((xa.length : Nat) : Int))))) rfl rfl (V.lss rfl rfl) ?_
    refine J.nil ?_
    refine CJ.seq ?_
    refine CJ.cond rfl (fun hc250 => ?_) (fun hc250 => ?_)
    · have h246 := ct hc250 h246
      refine CJ.skip ?_
      refine CJ.seq ?_
      refine CJ.block ?_
      refine CJ.seq ?_
      refine CJ.region ?_
      refine J.val (v := .int .i64 i224) rfl rfl (V.mv rfl) ?_
      refine J.val (v := .int .i64 i224) rfl rfl (V.as rfl) ?_
      refine J.nil ?_
      refine CJ.seq ?_
      refine CJ.region ?_
      refine J.val (v := .func (.func 69) #[] #[.pointer (some ⟨pba, 0, none⟩)]) rfl rfl (V.mv rfl) ?_
      refine J.val (v := .slice adxa_0 xa.length cpxa_0) rfl rfl (V.mv rfl) ?_
      refine J.val (v := .int .i64 i224) rfl rfl (V.mv rfl) ?_
      obtain ⟨x251, hx252, h246⟩ := ob h246
      obtain ⟨p253, p254, p255⟩ := getI_some hx252
      obtain ⟨b256, o257, e258, a259⟩ := (fxa_0).at p254
      refine J.val rfl rfl (V.iad Try.underlying24 sz60 rfl e258 rfl p253 p255) ?_
      refine J.val (v := .agg #[.int .i64 x251.1, .bool x251.2]) rfl rfl (V.ld rfl (Ld.aggK (cs := [.int .i64 x251.1, .bool x251.2]) Try.underlying60 sz60 rfl ⟨((a259).fst).int, (((a259).snd).one).bool, trivial⟩ (Hp.le_refl _))) ?_
      obtain ⟨r260, hr261, h246⟩ := ob h246
      refine J.op rfl (A.call (L1 := [Cl pba 3 [.int .i64 i225]]) Try.call69 rfl (row_within_1_ap0_i_ok hr261) rfl rfl) ?_
      rintro _ _ _ ⟨v264, _, rfl, ⟨⟨t262, i263, rfl, rfl, rfl⟩, rfl⟩, _, rfl⟩
      refine J.nil ?_
      refine CJ.cond rfl (fun hc267 => ?_) (fun hc267 => ?_)
      · have h246 := ct hc267 h246
        refine CJ.seq ?_
        refine CJ.region ?_
        refine J.val (v := .int .i64 i224) rfl rfl (V.mv rfl) ?_
        refine J.val (v := .int .i64 i224) rfl rfl (V.as rfl) ?_
        refine J.nil ?_
        refine CJ.ret ?_
        have e := Option.some.inj h246
        subst e
        refine ⟨nofun, fun e => ?_⟩
        subst e
        refine .inr ⟨nofun, ?_⟩
        have e := Option.some.inj h
        subst e
        exact ⟨_, [Cl pba 3 [.int .i64 i263]], Res.one rfl rfl, ⟨i224, i263, rfl, rfl, rfl⟩, (Hp.le_refl _), fun w hs => hs⟩
      · have h246 := cf hc267 h246
        refine CJ.skip ?_
        refine CJ.region ?_
        refine J.val (v := .int .i64 (IntKind.wrap .i64 (i224 + 1))) rfl rfl (V.add rfl rfl) ?_
        refine J.val (v := .int .i64 (IntKind.wrap .i64 (i224 + 1))) rfl rfl (V.mv rfl) ?_
        refine J.nil ?_
        have e := Option.some.inj h246
        subst e
        exact ⟨rfl, ⟨IntKind.wrap .i64 (i224 + 1), i263, rfl, ⟨rfl, rfl, rfl, rfl, trivial⟩, rfl, rfl⟩⟩
    · have h246 := cf hc250 h246
      refine CJ.exit ?_
      have e := Option.some.inj h246
      subst e
      refine ⟨nofun, fun e => ?_⟩
      subst e
      exact .inl ⟨rfl, _, rfl, ⟨i225, rfl, trivial, rfl, rfl⟩⟩
  · rintro s ρ _ _ ho268 ⟨i201, rfl, hf269, rfl, rfl⟩
    subst ho268
    obtain ⟨ρ, rfl⟩ := hf269.ex
    refine PJ.done ?_
    refine CJ.seq ?_
    refine CJ.region ?_
    refine J.val (v := .int .i64 (-1)) rfl rfl (V.as rfl) ?_
    refine J.nil ?_
    refine CJ.ret ?_
    have e := Option.some.inj h
    subst e
    exact ⟨_, [Cl pba 3 [.int .i64 i201]], Res.one rfl rfl, ⟨(-1), i201, rfl, rfl, rfl⟩, (Hp.le_refl _), fun w hs => hs⟩

noncomputable def fn_slices_ContainsFunc_api_Slot_api_Slot_k_row_within_1_p0_i (xa : (List (Int × Bool))) (qa0 : Int) : Option (Bool × Int) :=
  (fn_slices_IndexFunc_api_Slot_api_Slot_k_row_within_1_p0_i xa qa0).bind fun (i12, i13) => some ((decide (0 ≤ i12), i13))
set_option maxRecDepth 100000 in
set_option maxHeartbeats 4000000 in
theorem slices_ContainsFunc_api_Slot_api_Slot_k_row_within_1_p0_i_ok {K : Hp} {xa : (List (Int × Bool))} {qa0 : Int} {pba : Nat} {adxa_0 : Option Addr} {cpxa_0 : Nat} (fxa_0 : Is K (.sl (.cons (.int .i64) (.one .bool))) [.slice adxa_0 xa.length cpxa_0] xa) {r : (Bool × Int)} (h : fn_slices_ContainsFunc_api_Slot_api_Slot_k_row_within_1_p0_i xa qa0 = some r) :
    Tr Try.prog 68 #[.slice adxa_0 xa.length cpxa_0, .func (.func 69) #[] #[.pointer (some ⟨pba, 0, none⟩)]] K [Cl pba 3 [.int .i64 qa0]] (fun v K' L' => (∃ (t8 : Bool) (i9 : Int), (t8, i9) = r ∧ .bool t8 = v ∧ L' = [Cl pba 3 [.int .i64 i9]]) ∧ K = K') := by
  refine Tr.k ?_
  refine Tr.of Try.func68 rfl Try.ntmps68 rfl (fun E F => ?_)
  unfold fn_slices_ContainsFunc_api_Slot_api_Slot_k_row_within_1_p0_i at h
  refine CJ.seq ?_
  refine CJ.region ?_
  refine J.val (v := .bool false) rfl rfl (V.as rfl) ?_
  refine J.nil ?_
  refine CJ.seq ?_
  refine CJ.region ?_
  refine J.val (v := .slice adxa_0 xa.length cpxa_0) rfl rfl (V.mv rfl) ?_
  refine J.val (v := .func (.func 69) #[] #[.pointer (some ⟨pba, 0, none⟩)]) rfl rfl (V.mv rfl) ?_
  obtain ⟨r10, hr11, h⟩ := ob h
  refine J.op rfl (A.call (L1 := [Cl pba 3 [.int .i64 qa0]]) Try.call73 rfl (slices_IndexFunc_api_Slot_api_Slot_k_row_within_1_p0_i_ok fxa_0 hr11) rfl rfl) ?_
  rintro _ _ _ ⟨v14, _, rfl, ⟨⟨i12, i13, rfl, rfl, rfl⟩, rfl⟩, _, rfl⟩
  refine J.val (v := .bool (decide (0 ≤ i12))) rfl rfl (V.geq rfl rfl) ?_
  refine J.val (v := .bool (decide (0 ≤ i12))) rfl rfl (V.as rfl) ?_
  refine J.nil ?_
  refine CJ.ret ?_
  have e := Option.some.inj h
  subst e
  exact ⟨_, [Cl pba 3 [.int .i64 i13]], Res.one rfl rfl, ⟨decide (0 ≤ i12), i13, rfl, rfl, rfl⟩, (Hp.le_refl _), fun w hs => hs⟩

noncomputable def fn_row_within (xa : (List (Int × Bool))) (xb : Int) : Option Bool :=
  (fn_slices_ContainsFunc_api_Slot_api_Slot_k_row_within_1_p0_i xa xb).bind fun (t15, i17) => some (!t15)
set_option maxRecDepth 100000 in
set_option maxHeartbeats 4000000 in
theorem row_within_ok {K : Hp} {xa : (List (Int × Bool))} {xb : Int} {adxa_0 : Option Addr} {cpxa_0 : Nat} (fxa_0 : Is K (.sl (.cons (.int .i64) (.one .bool))) [.slice adxa_0 xa.length cpxa_0] xa) {r : Bool} (h : fn_row_within xa xb = some r) :
    Tr Try.prog 56 #[.agg #[.slice adxa_0 xa.length cpxa_0], .int .i64 xb] K [] (fun v K' L' => (∃ (t10 : Bool), t10 = r ∧ .bool t10 = v ∧ L' = []) ∧ K = K') := by
  refine Tr.k ?_
  refine Tr.of Try.func56 rfl Try.ntmps56 rfl (fun E F => ?_)
  unfold fn_row_within at h
  refine CJ.seq ?_
  refine CJ.region ?_
  refine J.op rfl (A.box (v := .agg #[.slice adxa_0 xa.length cpxa_0]) (cs := [.slice adxa_0 xa.length cpxa_0]) rfl rfl) ?_
  rintro _ _ _ ⟨b11, rfl, rfl, rfl⟩
  refine J.op rfl (A.box (v := .int .i64 xb) (cs := [.int .i64 xb]) rfl rfl) ?_
  rintro _ _ _ ⟨b12, rfl, rfl, rfl⟩
  refine J.val (v := .bool false) rfl rfl (V.as rfl) ?_
  refine J.nil ?_
  refine CJ.seq ?_
  refine CJ.region ?_
  refine J.val rfl rfl (V.fad Try.underlying26 rfl nz24 rfl) ?_
  refine J.val (v := .slice adxa_0 xa.length cpxa_0) rfl rfl (V.ld rfl (Ld.sc sc24 (Rd.cl 1 rfl rfl))) ?_
  refine J.val (v := .func (.func 69) #[] #[.pointer (some ⟨b12, 0, none⟩)]) rfl rfl (V.mkf rfl) ?_
  obtain ⟨r13, hr14, h⟩ := ob h
  refine J.op rfl (A.call (L1 := [Cl b12 3 [.int .i64 xb]]) Try.call68 rfl (slices_ContainsFunc_api_Slot_api_Slot_k_row_within_1_p0_i_ok fxa_0 hr14) rfl rfl) ?_
  rintro _ _ _ ⟨v18, _, rfl, ⟨⟨t15, i17, rfl, rfl, rfl⟩, rfl⟩, _, rfl⟩
  refine J.val (v := .bool (!t15)) rfl rfl (V.not rfl) ?_
  refine J.val (v := .bool (!t15)) rfl rfl (V.as rfl) ?_
  refine J.nil ?_
  refine CJ.ret ?_
  have e := Option.some.inj h
  subst e
  exact ⟨_, [], Res.one rfl rfl, ⟨!t15, rfl, rfl, rfl⟩, (Hp.le_refl _), fun w hs => (Sep.dropAt 0 rfl (Sep.dropAt 0 rfl hs))⟩

noncomputable def fn_row_Check (xa : (List (Int × Bool))) (xb : Int) : Option Int :=
  cond (decide (16 < (((xa.length : Nat) : Int)))) (some (6)) ((fn_row_within xa xb).bind fun t15 => cond (!t15) (some (7)) (some (0)))
set_option maxRecDepth 100000 in
set_option maxHeartbeats 4000000 in
theorem row_Check_ok {K : Hp} {xa : (List (Int × Bool))} {xb : Int} {adxa_0 : Option Addr} {cpxa_0 : Nat} (fxa_0 : Is K (.sl (.cons (.int .i64) (.one .bool))) [.slice adxa_0 xa.length cpxa_0] xa) {r : Int} (h : fn_row_Check xa xb = some r) :
    Tr Try.prog 37 #[.agg #[.slice adxa_0 xa.length cpxa_0], .int .i64 xb] K [] (fun v K' L' => (∃ (i10 : Int), i10 = r ∧ .int .i64 i10 = v ∧ L' = []) ∧ K = K') := by
  refine Tr.k ?_
  refine Tr.of Try.func37 rfl Try.ntmps37 rfl (fun E F => ?_)
  unfold fn_row_Check at h
  refine CJ.seq ?_
  refine CJ.region ?_
  refine J.op rfl (A.box (v := .agg #[.slice adxa_0 xa.length cpxa_0]) (cs := [.slice adxa_0 xa.length cpxa_0]) rfl rfl) ?_
  rintro _ _ _ ⟨b11, rfl, rfl, rfl⟩
  refine J.val (v := .int .i64 0) rfl rfl (V.as rfl) ?_
  refine J.nil ?_
  refine CJ.seq ?_
  refine CJ.seq ?_
  refine CJ.region ?_
  refine J.val rfl rfl (V.fad Try.underlying26 rfl nz24 rfl) ?_
  refine J.val (v := .slice adxa_0 xa.length cpxa_0) rfl rfl (V.ld rfl (Ld.sc sc24 (Rd.cl 0 rfl rfl))) ?_
  refine J.val (v := .int .i64 (((xa.length : Nat) : Int))) rfl rfl (V.len Try.underlying24 rfl) ?_
  refine J.val (v := .bool (decide (16 < (((xa.length : Nat) : Int))))) rfl rfl (V.gtr rfl rfl) ?_
  refine J.nil ?_
  refine CJ.cond rfl (fun hc12 => ?_) (fun hc12 => ?_)
  · have h := ct hc12 h
    refine CJ.seq ?_
    refine CJ.region ?_
    refine J.val (v := .int .i64 6) rfl rfl (V.as rfl) ?_
    refine J.nil ?_
    refine CJ.ret ?_
    have e := Option.some.inj h
    subst e
    exact ⟨_, [], Res.one rfl rfl, ⟨6, rfl, rfl, rfl⟩, (Hp.le_refl _), fun w hs => (Sep.dropAt 0 rfl hs)⟩
  · have h := cf hc12 h
    refine CJ.skip ?_
    refine CJ.seq ?_
    refine CJ.seq ?_
    refine CJ.region ?_
    refine J.val (v := .agg #[.slice adxa_0 xa.length cpxa_0]) rfl rfl (V.ld rfl (Ld.agg (cs := [.slice adxa_0 xa.length cpxa_0]) Try.underlying26 sz26 rfl (Rd.cls 0 0 rfl rfl))) ?_
    refine J.val (v := .int .i64 xb) rfl rfl (V.mv rfl) ?_
    obtain ⟨r13, hr14, h⟩ := ob h
    refine J.op rfl (A.call (L1 := []) Try.call56 rfl (row_within_ok fxa_0 hr14) rfl rfl) ?_
    rintro _ _ _ ⟨v16, _, rfl, ⟨⟨t15, rfl, rfl, rfl⟩, rfl⟩, _, rfl⟩
    refine J.val (v := .bool (!t15)) rfl rfl (V.not rfl) ?_
    refine J.nil ?_
    refine CJ.cond rfl (fun hc19 => ?_) (fun hc19 => ?_)
    · have h := ct hc19 h
      refine CJ.seq ?_
      refine CJ.region ?_
      refine J.val (v := .int .i64 7) rfl rfl (V.as rfl) ?_
      refine J.nil ?_
      refine CJ.ret ?_
      have e := Option.some.inj h
      subst e
      exact ⟨_, [], Res.one rfl rfl, ⟨7, rfl, rfl, rfl⟩, (Hp.le_refl _), fun w hs => (Sep.dropAt 0 rfl hs)⟩
    · have h := cf hc19 h
      refine CJ.skip ?_
      refine CJ.seq ?_
      refine CJ.region ?_
      refine J.val (v := .int .i64 0) rfl rfl (V.as rfl) ?_
      refine J.nil ?_
      refine CJ.ret ?_
      have e := Option.some.inj h
      subst e
      exact ⟨_, [], Res.one rfl rfl, ⟨0, rfl, rfl, rfl⟩, (Hp.le_refl _), fun w hs => (Sep.dropAt 0 rfl hs)⟩
noncomputable def fn_sig_Check_l1 (xa : (Int × (List (Int × Int)) × (List (List (Int × Bool))) × (List (Int × Bool)))) : (Int × Int × (List (Int × Int)) × (List (List (Int × Bool))) × (List (Int × Bool))) → Option ((Int × Int × (List (Int × Int)) × (List (List (Int × Bool))) × (List (Int × Bool))) ⊕ ((Int × (List (Int × Int)) × (List (List (Int × Bool))) × (List (Int × Bool))) ⊕ Int)) := fun ((i1082, i1083, l1084, l1088, l1092) : (Int × Int × (List (Int × Int)) × (List (List (Int × Bool))) × (List (Int × Bool)))) => cond (decide (i1082 < (((xa.2.1.length : Nat) : Int)))) ((getI xa.2.1 i1082).bind fun x1187 => (fn_sig_Check_1_ip0_ikkk x1187.1 i1083 l1084 l1088 l1092).bind fun (t1199, i1200, l1201, l1202, l1203) => cond (!t1199) (some (.inr ((.inr (7))))) ((fn_sig_Check_1_ip0_ikkk x1187.2 i1200 l1201 l1202 l1203).bind fun (t1239, i1240, l1241, l1242, l1243) => cond (!t1239) (some (.inr ((.inr (7))))) (some (.inl ((IntKind.wrap .i64 (i1082 + 1), i1240, l1241, l1242, l1243)))))) (some (.inr ((.inl (i1083, l1084, l1088, l1092)))))
noncomputable def fn_sig_Check_l2 (i981 : Int) (l986 : (List (List (Int × Bool)))) : Int → Option (Int ⊕ (Unit ⊕ Int)) := fun (i1358 : Int) => cond (decide (i1358 < (((l986.length : Nat) : Int)))) ((getI l986 i1358).bind fun x1387 => (fn_row_Check x1387 i981).bind fun i1403 => cond (!decide (i1403 = 0)) (some (.inr ((.inr (i1403))))) (some (.inl (IntKind.wrap .i64 (i1358 + 1))))) (some (.inr ((.inl ()))))
noncomputable def fn_sig_Check (xa : (Int × (List (Int × Int)) × (List (List (Int × Bool))) × (List (Int × Bool)))) : Option Int :=
  cond (decide (xa.1 < 0)) (some (7)) (cond (((decide (16 < xa.1)) || (decide (16 < (((xa.2.1.length : Nat) : Int))))) || (decide (16 < (((xa.2.2.1.length : Nat) : Int))))) (some (6)) ((loop (fn_sig_Check_l1 xa) (0, xa.1, xa.2.1, xa.2.2.1, xa.2.2.2) : Option ((Int × (List (Int × Int)) × (List (List (Int × Bool))) × (List (Int × Bool))) ⊕ Int)).bind fun o => match o with | .inr r => some r | .inl (i981, l982, l986, l990) => (loop (fn_sig_Check_l2 i981 l986) 0 : Option (Unit ⊕ Int)).bind fun o => match o with | .inr r => some r | .inl () => (fn_row_Check l990 i981).bind fun i1413 => some (i1413)))
set_option maxRecDepth 100000 in
set_option maxHeartbeats 4000000 in
theorem sig_Check_ok {K : Hp} {xa : (Int × (List (Int × Int)) × (List (List (Int × Bool))) × (List (Int × Bool)))} {adxa_1 : Option Addr} {cpxa_1 : Nat} {adxa_2 : Option Addr} {cpxa_2 : Nat} {adxa_3 : Option Addr} {cpxa_3 : Nat} (fxa_1 : Is K (.sl (.cons (.int .i64) (.one (.int .i64)))) [.slice adxa_1 xa.2.1.length cpxa_1] xa.2.1) (fxa_2 : Is K (.sl (.one (.sl (.cons (.int .i64) (.one .bool))))) [.slice adxa_2 xa.2.2.1.length cpxa_2] xa.2.2.1) (fxa_3 : Is K (.sl (.cons (.int .i64) (.one .bool))) [.slice adxa_3 xa.2.2.2.length cpxa_3] xa.2.2.2) {r : Int} (h : fn_sig_Check xa = some r) :
    Tr Try.prog 12 #[.agg #[.int .i64 xa.1, .slice adxa_1 xa.2.1.length cpxa_1, .slice adxa_2 xa.2.2.1.length cpxa_2, .slice adxa_3 xa.2.2.2.length cpxa_3]] K [] (fun v K' L' => (∃ (i709 : Int), i709 = r ∧ .int .i64 i709 = v ∧ L' = []) ∧ K = K') := by
  refine Tr.k ?_
  refine Tr.of Try.func12 rfl Try.ntmps12 rfl (fun E F => ?_)
  unfold fn_sig_Check at h
  refine CJ.seq ?_
  refine CJ.region ?_
  refine J.op rfl (A.box (v := .agg #[.int .i64 xa.1, .slice adxa_1 xa.2.1.length cpxa_1, .slice adxa_2 xa.2.2.1.length cpxa_2, .slice adxa_3 xa.2.2.2.length cpxa_3]) (cs := [.int .i64 xa.1, .slice adxa_1 xa.2.1.length cpxa_1, .slice adxa_2 xa.2.2.1.length cpxa_2, .slice adxa_3 xa.2.2.2.length cpxa_3]) rfl rfl) ?_
  rintro _ _ _ ⟨b710, rfl, rfl, rfl⟩
  refine J.val (v := .int .i64 0) rfl rfl (V.as rfl) ?_
  refine J.nil ?_
  refine CJ.seq ?_
  refine CJ.seq ?_
  refine CJ.region ?_
  refine J.val rfl rfl (V.fad Try.underlying28 rfl nz3 rfl) ?_
  refine J.val (v := .int .i64 xa.1) rfl rfl (V.ld rfl (Ld.sc sc3 (Rd.cl 0 rfl rfl))) ?_
  refine J.val (v := .bool (decide (xa.1 < 0))) rfl rfl (V.lss rfl rfl) ?_
  refine J.nil ?_
  refine CJ.cond rfl (fun hc711 => ?_) (fun hc711 => ?_)
  · have h := ct hc711 h
    refine CJ.seq ?_
    refine CJ.region ?_
    refine J.val (v := .int .i64 7) rfl rfl (V.as rfl) ?_
    refine J.nil ?_
    refine CJ.ret ?_
    have e := Option.some.inj h
    subst e
    exact ⟨_, [], Res.one rfl rfl, ⟨7, rfl, rfl, rfl⟩, (Hp.le_refl _), fun w hs => (Sep.dropAt 0 rfl hs)⟩
  · have h := cf hc711 h
    refine CJ.skip ?_
    refine CJ.seq ?_
    refine CJ.seq ?_
    refine CJ.region ?_
    refine J.val rfl rfl (V.fad Try.underlying28 rfl nz3 rfl) ?_
    refine J.val (v := .int .i64 xa.1) rfl rfl (V.ld rfl (Ld.sc sc3 (Rd.cl 0 rfl rfl))) ?_
    refine J.val (v := .bool (decide (16 < xa.1))) rfl rfl (V.gtr rfl rfl) ?_
    refine J.val (v := .bool (decide (16 < xa.1))) rfl rfl (V.mv rfl) ?_
    refine J.cut 5 ?_
    refine @J.meet _ _ _ _ _ _ _ _ _ _ (fun ρ K' L' => Fits [(20, .bool ((decide (16 < xa.1)) || (decide (16 < (((xa.2.1.length : Nat) : Int)))))), (1, .pointer (some ⟨b710, 0, none⟩))] ρ ∧ K = K' ∧ L' = Cl b710 28 [.int .i64 xa.1, .slice adxa_1 xa.2.1.length cpxa_1, .slice adxa_2 xa.2.2.1.length cpxa_2, .slice adxa_3 xa.2.2.2.length cpxa_3] :: F) ?_ ?_
    · skip
      rcases bt (decide (16 < xa.1)) with hc714 | hc714
      · skip
        refine J.skip rfl rfl rfl rfl hc714 ?_
        refine J.skip rfl rfl rfl rfl hc714 ?_
        refine J.skip rfl rfl rfl rfl hc714 ?_
        refine J.skip rfl rfl rfl rfl hc714 ?_
        refine J.val (v := .bool true) rfl rfl (V.pickT rfl hc714 rfl) ?_
        refine J.nil ?_
        exact ⟨rfl, ⟨(by simp only [hc714]; rfl), rfl, trivial⟩, rfl, rfl⟩
      · skip
        refine J.run rfl rfl rfl hc714 ?_
        refine J.val rfl rfl (V.fad Try.underlying28 rfl nz22 rfl) ?_
        refine J.run rfl rfl rfl hc714 ?_
        refine J.val (v := .slice adxa_1 xa.2.1.length cpxa_1) rfl rfl (V.ld rfl (Ld.sc sc22 (Rd.cl 0 rfl rfl))) ?_
        refine J.run rfl rfl rfl hc714 ?_
        refine J.val (v := .int .i64 (((xa.2.1.length : Nat) : Int))) rfl rfl (V.len Try.underlying22 rfl) ?_
        refine J.run rfl rfl rfl hc714 ?_
        refine J.val (v := .bool (decide (16 < (((xa.2.1.length : Nat) : Int))))) rfl rfl (V.gtr rfl rfl) ?_
        refine J.val (v := .bool (decide (16 < (((xa.2.1.length : Nat) : Int))))) rfl rfl (V.pickF rfl hc714 rfl) ?_
        refine J.nil ?_
        exact ⟨rfl, ⟨(by simp only [hc714]; rfl), rfl, trivial⟩, rfl, rfl⟩
    · rintro ρ _ _ ⟨hf, rfl, rfl⟩
      obtain ⟨ρ, rfl⟩ := hf.ex
      refine J.val (v := .bool ((decide (16 < xa.1)) || (decide (16 < (((xa.2.1.length : Nat) : Int)))))) rfl rfl (V.mv rfl) ?_
      refine J.cut 5 ?_
      refine @J.meet _ _ _ _ _ _ _ _ _ _ (fun ρ K' L' => Fits [(26, .bool (((decide (16 < xa.1)) || (decide (16 < (((xa.2.1.length : Nat) : Int))))) || (decide (16 < (((xa.2.2.1.length : Nat) : Int)))))), (1, .pointer (some ⟨b710, 0, none⟩))] ρ ∧ K = K' ∧ L' = Cl b710 28 [.int .i64 xa.1, .slice adxa_1 xa.2.1.length cpxa_1, .slice adxa_2 xa.2.2.1.length cpxa_2, .slice adxa_3 xa.2.2.2.length cpxa_3] :: F) ?_ ?_
      · skip
        rcases bt ((decide (16 < xa.1)) || (decide (16 < (((xa.2.1.length : Nat) : Int))))) with hc717 | hc717
        · skip
          refine J.skip rfl rfl rfl rfl hc717 ?_
          refine J.skip rfl rfl rfl rfl hc717 ?_
          refine J.skip rfl rfl rfl rfl hc717 ?_
          refine J.skip rfl rfl rfl rfl hc717 ?_
          refine J.val (v := .bool true) rfl rfl (V.pickT rfl hc717 rfl) ?_
          refine J.nil ?_
          exact ⟨rfl, ⟨(by simp only [hc717]; rfl), rfl, trivial⟩, rfl, rfl⟩
        · skip
          refine J.run rfl rfl rfl hc717 ?_
          refine J.val rfl rfl (V.fad Try.underlying28 rfl nz23 rfl) ?_
          refine J.run rfl rfl rfl hc717 ?_
          refine J.val (v := .slice adxa_2 xa.2.2.1.length cpxa_2) rfl rfl (V.ld rfl (Ld.sc sc23 (Rd.cl 0 rfl rfl))) ?_
          refine J.run rfl rfl rfl hc717 ?_
          refine J.val (v := .int .i64 (((xa.2.2.1.length : Nat) : Int))) rfl rfl (V.len Try.underlying23 rfl) ?_
          refine J.run rfl rfl rfl hc717 ?_
          refine J.val (v := .bool (decide (16 < (((xa.2.2.1.length : Nat) : Int))))) rfl rfl (V.gtr rfl rfl) ?_
          refine J.val (v := .bool (decide (16 < (((xa.2.2.1.length : Nat) : Int))))) rfl rfl (V.pickF rfl hc717 rfl) ?_
          refine J.nil ?_
          exact ⟨rfl, ⟨(by simp only [hc717]; rfl), rfl, trivial⟩, rfl, rfl⟩
      · rintro ρ _ _ ⟨hf, rfl, rfl⟩
        obtain ⟨ρ, rfl⟩ := hf.ex
        refine J.nil ?_
        refine CJ.cond rfl (fun hc718 => ?_) (fun hc718 => ?_)
        · have h := ct hc718 h
          refine CJ.seq ?_
          refine CJ.region ?_
          refine J.val (v := .int .i64 6) rfl rfl (V.as rfl) ?_
          refine J.nil ?_
          refine CJ.ret ?_
          have e := Option.some.inj h
          subst e
          exact ⟨_, [], Res.one rfl rfl, ⟨6, rfl, rfl, rfl⟩, (Hp.le_refl _), fun w hs => (Sep.dropAt 0 rfl hs)⟩
        · have h := cf hc718 h
          refine CJ.skip ?_
          refine CJ.seq ?_
          refine CJ.region ?_
          refine J.val (v := .func (.func 36) #[] #[.pointer (some ⟨b710, 0, none⟩)]) rfl rfl (V.mkf rfl) ?_
          refine J.val (v := .func (.func 36) #[] #[.pointer (some ⟨b710, 0, none⟩)]) rfl rfl (V.as rfl) ?_
          refine J.nil ?_
          refine CJ.seq ?_
          refine CJ.seq ?_
          refine CJ.region ?_
          refine J.val rfl rfl (V.fad Try.underlying28 rfl nz22 rfl) ?_
          refine J.val (v := .slice adxa_1 xa.2.1.length cpxa_1) rfl rfl (V.ld rfl (Ld.sc sc22 (Rd.cl 0 rfl rfl))) ?_
          refine J.val (v := .int .i64 (((xa.2.1.length : Nat) : Int))) rfl rfl (V.len Try.underlying22 rfl) ?_
          refine J.val (v := .int .i64 0) rfl rfl (V.mv rfl) ?_
          refine J.nil ?_
          obtain ⟨o994, ho995, h⟩ := ob h
          refine CJ.joinN (o := o994) (fun s ρ K' L' => ∃ (i981 : Int) (l982 : (List (Int × Int))) (l986 : (List (List (Int × Bool)))) (l990 : (List (Int × Bool))) (ad983 : Option Addr) (cp984 : Nat) (ad987 : Option Addr) (cp988 : Nat) (ad991 : Option Addr) (cp992 : Nat), (i981, l982, l986, l990) = s ∧ Fits [(1, .pointer (some ⟨b710, 0, none⟩))] ρ ∧ Hp.le K K' ∧ Is K' (.sl (.cons (.int .i64) (.one (.int .i64)))) [.slice ad983 l982.length cp984] l982 ∧ Is K' (.sl (.one (.sl (.cons (.int .i64) (.one .bool))))) [.slice ad987 l986.length cp988] l986 ∧ Is K' (.sl (.cons (.int .i64) (.one .bool))) [.slice ad991 l990.length cp992] l990 ∧ L' = Cl b710 28 [.int .i64 i981, .slice ad983 l982.length cp984, .slice ad987 l986.length cp988, .slice ad991 l990.length cp992] :: F) ?_ ?_
          · skip
            refine CJ.block ?_
            refine CJ.loop (fun s ρ K' L' => ∃ (i1082 : Int) (i1083 : Int) (l1084 : (List (Int × Int))) (l1088 : (List (List (Int × Bool)))) (l1092 : (List (Int × Bool))) (ad1085 : Option Addr) (cp1086 : Nat) (ad1089 : Option Addr) (cp1090 : Nat) (ad1093 : Option Addr) (cp1094 : Nat), (i1082, i1083, l1084, l1088, l1092) = s ∧ Fits [(1, .pointer (some ⟨b710, 0, none⟩)), (3, .func (.func 36) #[] #[.pointer (some ⟨b710, 0, none⟩)]), (29, .slice adxa_1 xa.2.1.length cpxa_1), (30, .int .i64 (((xa.2.1.length : Nat) : Int))), (31, .int .i64 i1082)] ρ ∧ Hp.le K K' ∧ Is K' (.sl (.cons (.int .i64) (.one (.int .i64)))) [.slice ad1085 l1084.length cp1086] l1084 ∧ Is K' (.sl (.one (.sl (.cons (.int .i64) (.one .bool))))) [.slice ad1089 l1088.length cp1090] l1088 ∧ Is K' (.sl (.cons (.int .i64) (.one .bool))) [.slice ad1093 l1092.length cp1094] l1092 ∧ L' = Cl b710 28 [.int .i64 i1083, .slice ad1085 l1084.length cp1086, .slice ad1089 l1088.length cp1090, .slice ad1093 l1092.length cp1094] :: F) ho995 ⟨0, xa.1, xa.2.1, xa.2.2.1, xa.2.2.2, adxa_1, cpxa_1, adxa_2, cpxa_2, adxa_3, cpxa_3, rfl, ⟨rfl, rfl, rfl, rfl, rfl, trivial⟩, (Hp.le_refl _), fxa_1, fxa_2, fxa_3, rfl⟩ ?_
            rintro s ρ K1081 _ r1185 ⟨i1082, i1083, l1084, l1088, l1092, ad1085, cp1086, ad1089, cp1090, ad1093, cp1094, rfl, hf1183, hk1184, f1087, f1091, f1095, rfl⟩ h1182
            obtain ⟨ρ, rfl⟩ := hf1183.ex
            refine CJ.seq ?_
            refine CJ.region ?_
            refine J.val (v := .bool (decide (i1082 < (((xa.2.1.length : Nat) : Int))))) rfl rfl (V.lss rfl rfl) ?_
            refine J.nil ?_
            refine CJ.seq ?_
            refine CJ.cond rfl (fun hc1186 => ?_) (fun hc1186 => ?_)
            · have h1182 := ct hc1186 h1182
              refine CJ.skip ?_
              refine CJ.seq ?_
              refine CJ.block ?_
              refine CJ.seq ?_
              refine CJ.region ?_
              obtain ⟨x1187, hx1188, h1182⟩ := ob h1182
              obtain ⟨p1189, p1190, p1191⟩ := getI_some hx1188
              obtain ⟨b1192, o1193, e1194, a1195⟩ := ((fxa_1.mono hk1184)).at p1190
              refine J.val rfl rfl (V.iad Try.underlying22 sz63 rfl e1194 rfl p1189 p1191) ?_
              refine J.val (v := .agg #[.int .i64 x1187.1, .int .i64 x1187.2]) rfl rfl (V.ld rfl (Ld.aggK (cs := [.int .i64 x1187.1, .int .i64 x1187.2]) Try.underlying63 sz63 rfl ⟨((a1195).fst).int, (((a1195).snd).one).int, trivial⟩ (Hp.le_refl _))) ?_
              refine J.op rfl (A.alloc (cs := [.int .i64 0, .int .i64 0]) inf63 rfl) ?_
              rintro _ _ _ ⟨b1196, rfl, rfl, rfl⟩
              refine J.op rfl (A.store (v := .agg #[.int .i64 x1187.1, .int .i64 x1187.2]) (cs' := [.int .i64 x1187.1, .int .i64 x1187.2]) sz63 rfl rfl rfl rfl rfl rfl) ?_
              rintro _ _ _ ⟨rfl, rfl, rfl⟩
              refine J.nil ?_
              refine CJ.seq ?_
              refine CJ.region ?_
              refine J.val (v := .func (.func 36) #[] #[.pointer (some ⟨b710, 0, none⟩)]) rfl rfl (V.mv rfl) ?_
              refine J.val rfl rfl (V.fad Try.underlying63 rfl nz3 rfl) ?_
              refine J.val (v := .int .i64 x1187.1) rfl rfl (V.ld rfl (Ld.sc sc3 (Rd.cl 0 rfl rfl))) ?_
              obtain ⟨r1197, hr1198, h1182⟩ := ob h1182
              refine J.front 1 rfl ?_
              refine J.op rfl (A.call (L1 := [Cl b710 28 [.int .i64 i1083, .slice ad1085 l1084.length cp1086, .slice ad1089 l1088.length cp1090, .slice ad1093 l1092.length cp1094]]) Try.call36 rfl (sig_Check_1_ip0_ikkk_ok f1087 f1091 f1095 hr1198) rfl rfl) ?_
              rintro _ K1214 _ ⟨v1213, _, rfl, ⟨t1199, i1200, l1201, l1202, l1203, ad1204, cp1205, ad1206, cp1207, ad1208, cp1209, rfl, rfl, f1210, f1211, f1212, rfl⟩, hK1215, rfl⟩
              refine J.val (v := .bool (!t1199)) rfl rfl (V.not rfl) ?_
              refine J.val (v := .bool (!t1199)) rfl rfl (V.mv rfl) ?_
              rcases bt (!t1199) with hc1236 | hc1236
              · have h1182 := ct hc1236 h1182
                refine J.skip rfl rfl rfl rfl hc1236 ?_
                refine J.skip rfl rfl rfl rfl hc1236 ?_
                refine J.skip rfl rfl rfl rfl hc1236 ?_
                refine J.skip rfl rfl rfl rfl hc1236 ?_
                refine J.skip rfl rfl rfl rfl hc1236 ?_
                refine J.val (v := .bool true) rfl rfl (V.pickT rfl hc1236 rfl) ?_
                refine J.nil ?_
                refine CJ.condK (b := true) rfl rfl ?_
                refine CJ.seq ?_
                refine CJ.region ?_
                refine J.val (v := .int .i64 7) rfl rfl (V.as rfl) ?_
                refine J.nil ?_
                refine CJ.ret ?_
                have e := Option.some.inj h1182
                subst e
                refine ⟨nofun, fun e => ?_⟩
                subst e
                refine .inr ⟨nofun, ?_⟩
                have e := Option.some.inj h
                subst e
                exact ⟨_, [], Res.one rfl rfl, ⟨7, rfl, rfl, rfl⟩, (hk1184.trans hK1215), fun w hs => (Sep.dropAt 0 rfl (Sep.dropAt 0 rfl hs))⟩
              · have h1182 := cf hc1236 h1182
                refine J.run rfl rfl rfl hc1236 ?_
                refine J.val (v := .func (.func 36) #[] #[.pointer (some ⟨b710, 0, none⟩)]) rfl rfl (V.mv rfl) ?_
                refine J.run rfl rfl rfl hc1236 ?_
                refine J.val rfl rfl (V.fad Try.underlying63 rfl nz3 rfl) ?_
                refine J.run rfl rfl rfl hc1236 ?_
                refine J.val (v := .int .i64 x1187.2) rfl rfl (V.ld rfl (Ld.sc sc3 (Rd.cl 1 rfl rfl))) ?_
                refine J.run rfl rfl rfl hc1236 ?_
                obtain ⟨r1237, hr1238, h1182⟩ := ob h1182
                refine J.op rfl (A.call (L1 := [Cl b710 28 [.int .i64 i1200, .slice ad1204 l1201.length cp1205, .slice ad1206 l1202.length cp1207, .slice ad1208 l1203.length cp1209]]) Try.call36 rfl (sig_Check_1_ip0_ikkk_ok f1210 f1211 f1212 hr1238) rfl rfl) ?_
                rintro _ K1254 _ ⟨v1253, _, rfl, ⟨t1239, i1240, l1241, l1242, l1243, ad1244, cp1245, ad1246, cp1247, ad1248, cp1249, rfl, rfl, f1250, f1251, f1252, rfl⟩, hK1255, rfl⟩
                refine J.run rfl rfl rfl hc1236 ?_
                refine J.val (v := .bool (!t1239)) rfl rfl (V.not rfl) ?_
                refine J.val (v := .bool (!t1239)) rfl rfl (V.pickF rfl hc1236 rfl) ?_
                refine J.nil ?_
                refine CJ.cond rfl (fun hc1256 => ?_) (fun hc1256 => ?_)
                · have h1182 := ct hc1256 h1182
                  refine CJ.seq ?_
                  refine CJ.region ?_
                  refine J.val (v := .int .i64 7) rfl rfl (V.as rfl) ?_
                  refine J.nil ?_
                  refine CJ.ret ?_
                  have e := Option.some.inj h1182
                  subst e
                  refine ⟨nofun, fun e => ?_⟩
                  subst e
                  refine .inr ⟨nofun, ?_⟩
                  have e := Option.some.inj h
                  subst e
                  exact ⟨_, [], Res.one rfl rfl, ⟨7, rfl, rfl, rfl⟩, ((hk1184.trans hK1215).trans hK1255), fun w hs => (Sep.dropAt 0 rfl (Sep.dropAt 0 rfl hs))⟩
                · have h1182 := cf hc1256 h1182
                  refine CJ.skip ?_
                  refine CJ.region ?_
                  refine J.val (v := .int .i64 (IntKind.wrap .i64 (i1082 + 1))) rfl rfl (V.add rfl rfl) ?_
                  refine J.val (v := .int .i64 (IntKind.wrap .i64 (i1082 + 1))) rfl rfl (V.mv rfl) ?_
                  refine J.dropAt 1 rfl ?_
                  refine J.nil ?_
                  have e := Option.some.inj h1182
                  subst e
                  exact ⟨rfl, ⟨IntKind.wrap .i64 (i1082 + 1), i1240, l1241, l1242, l1243, ad1244, cp1245, ad1246, cp1247, ad1248, cp1249, rfl, ⟨rfl, rfl, rfl, rfl, rfl, trivial⟩, ((hk1184.trans hK1215).trans hK1255), f1250, f1251, f1252, rfl⟩⟩
            · have h1182 := cf hc1186 h1182
              refine CJ.exit ?_
              have e := Option.some.inj h1182
              subst e
              refine ⟨nofun, fun e => ?_⟩
              subst e
              exact .inl ⟨rfl, _, rfl, ⟨i1083, l1084, l1088, l1092, ad1085, cp1086, ad1089, cp1090, ad1093, cp1094, rfl, ⟨rfl, trivial⟩, hk1184, f1087, f1091, f1095, rfl⟩⟩
          · rintro s ρ K980 _ ho1257 ⟨i981, l982, l986, l990, ad983, cp984, ad987, cp988, ad991, cp992, rfl, hf1258, hk1259, f985, f989, f993, rfl⟩
            subst ho1257
            obtain ⟨ρ, rfl⟩ := hf1258.ex
            refine PJ.done ?_
            refine CJ.seq ?_
            refine CJ.seq ?_
            refine CJ.region ?_
            refine J.val rfl rfl (V.fad Try.underlying28 rfl nz23 rfl) ?_
            refine J.val (v := .slice ad987 l986.length cp988) rfl rfl (V.ld rfl (Ld.sc sc23 (Rd.cl 0 rfl rfl))) ?_
            refine J.val (v := .int .i64 (((l986.length : Nat) : Int))) rfl rfl (V.len Try.underlying23 rfl) ?_
            refine J.val (v := .int .i64 0) rfl rfl (V.mv rfl) ?_
            refine J.nil ?_
            obtain ⟨o1333, ho1334, h⟩ := ob h
            refine CJ.joinN (o := o1333) (fun s ρ K' L' => () = s ∧ Fits [(1, .pointer (some ⟨b710, 0, none⟩))] ρ ∧ K980 = K' ∧ L' = Cl b710 28 [.int .i64 i981, .slice ad983 l982.length cp984, .slice ad987 l986.length cp988, .slice ad991 l990.length cp992] :: F) ?_ ?_
            · skip
              refine CJ.block ?_
              refine CJ.loop (fun s ρ K' L' => ∃ (i1358 : Int), i1358 = s ∧ Fits [(1, .pointer (some ⟨b710, 0, none⟩)), (49, .slice ad987 l986.length cp988), (50, .int .i64 (((l986.length : Nat) : Int))), (51, .int .i64 i1358)] ρ ∧ K980 = K' ∧ L' = Cl b710 28 [.int .i64 i981, .slice ad983 l982.length cp984, .slice ad987 l986.length cp988, .slice ad991 l990.length cp992] :: F) ho1334 ⟨0, rfl, ⟨rfl, rfl, rfl, rfl, trivial⟩, rfl, rfl⟩ ?_
              rintro s ρ _ _ r1385 ⟨i1358, rfl, hf1383, rfl, rfl⟩ h1382
              obtain ⟨ρ, rfl⟩ := hf1383.ex
              refine CJ.seq ?_
              refine CJ.region ?_
              refine J.val (v := .bool (decide (i1358 < (((l986.length : Nat) : Int))))) rfl rfl (V.lss rfl rfl) ?_
              refine J.nil ?_
              refine CJ.seq ?_
              refine CJ.cond rfl (fun hc1386 => ?_) (fun hc1386 => ?_)
              · have h1382 := ct hc1386 h1382
                refine CJ.skip ?_
                refine CJ.seq ?_
                refine CJ.block ?_
                refine CJ.seq ?_
                refine CJ.region ?_
                obtain ⟨x1387, hx1388, h1382⟩ := ob h1382
                obtain ⟨p1389, p1390, p1391⟩ := getI_some hx1388
                obtain ⟨b1392, o1393, e1394, a1395⟩ := (f989).at p1390
                refine J.val rfl rfl (V.iad Try.underlying23 sz26 rfl e1394 rfl p1389 p1391) ?_
                obtain ⟨ad1396, cp1397, c1398, f1399⟩ := ((a1395).one).sl
                refine J.val (v := .agg #[.slice ad1396 x1387.length cp1397]) rfl rfl (V.ld rfl (Ld.aggK (cs := [.slice ad1396 x1387.length cp1397]) Try.underlying26 sz26 rfl ⟨c1398, trivial⟩ (Hp.le_refl _))) ?_
                refine J.op rfl (A.alloc (cs := [.slice none 0 0]) inf26 rfl) ?_
                rintro _ _ _ ⟨b1400, rfl, rfl, rfl⟩
                refine J.op rfl (A.store (v := .agg #[.slice ad1396 x1387.length cp1397]) (cs' := [.slice ad1396 x1387.length cp1397]) sz26 rfl rfl rfl rfl rfl rfl) ?_
                rintro _ _ _ ⟨rfl, rfl, rfl⟩
                refine J.nil ?_
                refine CJ.seq ?_
                refine CJ.region ?_
                refine J.val (v := .agg #[.slice ad1396 x1387.length cp1397]) rfl rfl (V.ld rfl (Ld.agg (cs := [.slice ad1396 x1387.length cp1397]) Try.underlying26 sz26 rfl (Rd.cls 0 0 rfl rfl))) ?_
                refine J.val rfl rfl (V.fad Try.underlying28 rfl nz3 rfl) ?_
                refine J.val (v := .int .i64 i981) rfl rfl (V.ld rfl (Ld.sc sc3 (Rd.cl 1 rfl rfl))) ?_
                obtain ⟨r1401, hr1402, h1382⟩ := ob h1382
                refine J.op rfl (A.call (L1 := []) Try.call37 rfl (row_Check_ok f1399 hr1402) rfl rfl) ?_
                rintro _ _ _ ⟨v1404, _, rfl, ⟨⟨i1403, rfl, rfl, rfl⟩, rfl⟩, _, rfl⟩
                refine J.val (v := .int .i64 i1403) rfl rfl (V.as rfl) ?_
                refine J.nil ?_
                refine CJ.seq ?_
                refine CJ.region ?_
                refine J.val (v := .int .i64 i1403) rfl rfl (V.mv rfl) ?_
                refine J.val (v := .bool (!decide (i1403 = 0))) rfl rfl (V.neq rfl rfl) ?_
                refine J.nil ?_
                refine CJ.cond rfl (fun hc1407 => ?_) (fun hc1407 => ?_)
                · have h1382 := ct hc1407 h1382
                  refine CJ.seq ?_
                  refine CJ.region ?_
                  refine J.val (v := .int .i64 i1403) rfl rfl (V.mv rfl) ?_
                  refine J.val (v := .int .i64 i1403) rfl rfl (V.as rfl) ?_
                  refine J.nil ?_
                  refine CJ.ret ?_
                  have e := Option.some.inj h1382
                  subst e
                  refine ⟨nofun, fun e => ?_⟩
                  subst e
                  refine .inr ⟨nofun, ?_⟩
                  have e := Option.some.inj h
                  subst e
                  exact ⟨_, [], Res.one rfl rfl, ⟨i1403, rfl, rfl, rfl⟩, hk1259, fun w hs => (Sep.dropAt 0 rfl (Sep.dropAt 0 rfl hs))⟩
                · have h1382 := cf hc1407 h1382
                  refine CJ.skip ?_
                  refine CJ.region ?_
                  refine J.val (v := .int .i64 (IntKind.wrap .i64 (i1358 + 1))) rfl rfl (V.add rfl rfl) ?_
                  refine J.val (v := .int .i64 (IntKind.wrap .i64 (i1358 + 1))) rfl rfl (V.mv rfl) ?_
                  refine J.dropAt 0 rfl ?_
                  refine J.nil ?_
                  have e := Option.some.inj h1382
                  subst e
                  exact ⟨rfl, ⟨IntKind.wrap .i64 (i1358 + 1), rfl, ⟨rfl, rfl, rfl, rfl, trivial⟩, rfl, rfl⟩⟩
              · have h1382 := cf hc1386 h1382
                refine CJ.exit ?_
                have e := Option.some.inj h1382
                subst e
                refine ⟨nofun, fun e => ?_⟩
                subst e
                exact .inl ⟨rfl, _, rfl, ⟨rfl, ⟨rfl, trivial⟩, rfl, rfl⟩⟩
            · rintro s ρ _ _ ho1408 ⟨rfl, hf1409, rfl, rfl⟩
              subst ho1408
              obtain ⟨ρ, rfl⟩ := hf1409.ex
              refine PJ.done ?_
              refine CJ.seq ?_
              refine CJ.region ?_
              refine J.val rfl rfl (V.fad Try.underlying28 rfl nz26 rfl) ?_
              refine J.val (v := .agg #[.slice ad991 l990.length cp992]) rfl rfl (V.ld rfl (Ld.agg (cs := [.slice ad991 l990.length cp992]) Try.underlying26 sz26 rfl (Rd.cls 0 3 rfl rfl))) ?_
              refine J.val rfl rfl (V.fad Try.underlying28 rfl nz3 rfl) ?_
              refine J.val (v := .int .i64 i981) rfl rfl (V.ld rfl (Ld.sc sc3 (Rd.cl 0 rfl rfl))) ?_
              obtain ⟨r1411, hr1412, h⟩ := ob h
              refine J.op rfl (A.call (L1 := []) Try.call37 rfl (row_Check_ok f993 hr1412) rfl rfl) ?_
              rintro _ _ _ ⟨v1414, _, rfl, ⟨⟨i1413, rfl, rfl, rfl⟩, rfl⟩, _, rfl⟩
              refine J.val (v := .int .i64 i1413) rfl rfl (V.as rfl) ?_
              refine J.nil ?_
              refine CJ.ret ?_
              have e := Option.some.inj h
              subst e
              exact ⟨_, [], Res.one rfl rfl, ⟨i1413, rfl, rfl, rfl⟩, hk1259, fun w hs => (Sep.dropAt 0 rfl hs)⟩

noncomputable def fn_law17_awake  : Option Bool :=
  (fn_sig_TakeType ([2, 6, 9] : List UInt8)).bind fun (l69, i70, i71) => (fn_sig_PutType l69).bind fun s85 => (cond ((((decide (s85 = ([2, 6, 9] : List UInt8))) && (decide (i70 = 3))) && (decide (i71 = 0))) && (decide ((((l69.length : Nat) : Int)) = 2))) ((getI l69 1).bind fun x109 => some (x109.2)) (some (false))).bind fun t106 => (cond (t106) ((fn_sig_Check (17, [], [], [])).bind fun i128 => some (decide (i128 = 6))) (some (false))).bind fun t123 => some (t123)
set_option maxRecDepth 100000 in
set_option maxHeartbeats 4000000 in
theorem law17_awake_ok {K : Hp}    {r : Bool} (h : fn_law17_awake = some r) :
    Tr Try.prog 9 #[] K [] (fun v K' L' => (∃ (t66 : Bool), t66 = r ∧ .bool t66 = v ∧ L' = []) ∧ K = K') := by
  refine Tr.k ?_
  refine Tr.of Try.func9 rfl Try.ntmps9 rfl (fun E F => ?_)
  unfold fn_law17_awake at h
  refine CJ.seq ?_
  refine CJ.region ?_
  refine J.val (v := .bool false) rfl rfl (V.as rfl) ?_
  refine J.nil ?_
  refine CJ.seq ?_
  refine CJ.region ?_
  obtain ⟨r67, hr68, h⟩ := ob h
  refine J.op rfl (A.call (L1 := []) Try.call16 rfl (sig_TakeType_ok hr68) rfl rfl) ?_
  rintro _ _ _ ⟨v75, _, rfl, ⟨⟨l69, i70, i71, ad72, cp73, rfl, rfl, rfl⟩, rfl⟩, _, rfl⟩
  refine J.wit Row.hn (fun hn74 => ?_)
  refine J.val (v := .tuple #[.agg #[.slice ad72 l69.length cp73], .int .i64 i70, .int .i64 i71]) rfl rfl (V.mv rfl) ?_
  refine J.val (v := .agg #[.slice ad72 l69.length cp73]) rfl rfl (V.ext rfl rfl) ?_
  refine J.val (v := .int .i64 i70) rfl rfl (V.ext rfl rfl) ?_
  refine J.val (v := .int .i64 i71) rfl rfl (V.ext rfl rfl) ?_
  refine J.op rfl (A.alloc (cs := [.slice none 0 0]) inf26 rfl) ?_
  rintro _ _ _ ⟨b79, rfl, rfl, rfl⟩
  refine J.op rfl (A.store (v := .agg #[.slice ad72 l69.length cp73]) (cs' := [.slice ad72 l69.length cp73]) sz26 rfl rfl rfl rfl rfl rfl) ?_
  rintro _ _ _ ⟨rfl, rfl, rfl⟩
  refine J.val (v := .int .i64 i70) rfl rfl (V.as rfl) ?_
  refine J.val (v := .int .i64 i71) rfl rfl (V.as rfl) ?_
  refine J.nil ?_
  refine CJ.seq ?_
  refine CJ.region ?_
  refine J.val (v := .agg #[.slice ad72 l69.length cp73]) rfl rfl (V.ld rfl (Ld.agg (cs := [.slice ad72 l69.length cp73]) Try.underlying26 sz26 rfl (Rd.cls 0 0 rfl rfl))) ?_
  obtain ⟨r80, hr81, h⟩ := ob h
  refine J.front 1 rfl ?_
  refine J.op rfl (A.call (L1 := [Row Hp.nil 60 (.cons (.int .i64) (.one .bool)) (.slice ad72 l69.length cp73) l69]) Try.call26 rfl (Tr.lend (Hp.nil_le _) (by decide) (fun K82 hK83 f84 => sig_PutType_ok f84 hr81)) rfl rfl) ?_
  rintro _ _ _ ⟨v86, _, rfl, ⟨⟨_, ⟨s85, rfl, rfl, rfl⟩, rfl⟩, rfl⟩, _, rfl⟩
  refine J.val (v := .bool (decide (s85 = ([2, 6, 9] : List UInt8)))) rfl rfl (V.eqs rfl rfl) ?_
  refine J.val (v := .bool (decide (s85 = ([2, 6, 9] : List UInt8)))) rfl rfl (V.mv rfl) ?_
  refine J.cut 3 ?_
  refine @J.meet _ _ _ _ _ _ _ _ _ _ (fun ρ K' L' => Fits [(15, .bool ((decide (s85 = ([2, 6, 9] : List UInt8))) && (decide (i70 = 3)))), (1, .pointer (some ⟨b79, 0, none⟩)), (3, .int .i64 i71)] ρ ∧ K = K' ∧ L' = Row Hp.nil 60 (.cons (.int .i64) (.one .bool)) (.slice ad72 l69.length cp73) l69 :: Cl b79 26 [.slice ad72 l69.length cp73] :: F) ?_ ?_
  · skip
    rcases bt (decide (s85 = ([2, 6, 9] : List UInt8))) with hc91 | hc91
    · skip
      refine J.run rfl rfl rfl hc91 ?_
      refine J.val (v := .int .i64 i70) rfl rfl (V.mv rfl) ?_
      refine J.run rfl rfl rfl hc91 ?_
      refine J.val (v := .bool (decide (i70 = 3))) rfl rfl (V.eql rfl rfl) ?_
      refine J.val (v := .bool (decide (i70 = 3))) rfl rfl (V.pickT rfl hc91 rfl) ?_
      refine J.nil ?_
      exact ⟨rfl, ⟨(by simp only [hc91]; rfl), rfl, rfl, trivial⟩, rfl, rfl⟩
    · skip
      refine J.skip rfl rfl rfl rfl hc91 ?_
      refine J.skip rfl rfl rfl rfl hc91 ?_
      refine J.val (v := .bool false) rfl rfl (V.pickF rfl hc91 rfl) ?_
      refine J.nil ?_
      exact ⟨rfl, ⟨(by simp only [hc91]; rfl), rfl, rfl, trivial⟩, rfl, rfl⟩
  · rintro ρ _ _ ⟨hf, rfl, rfl⟩
    obtain ⟨ρ, rfl⟩ := hf.ex
    refine J.val (v := .bool ((decide (s85 = ([2, 6, 9] : List UInt8))) && (decide (i70 = 3)))) rfl rfl (V.mv rfl) ?_
    refine J.cut 3 ?_
    refine @J.meet _ _ _ _ _ _ _ _ _ _ (fun ρ K' L' => Fits [(19, .bool (((decide (s85 = ([2, 6, 9] : List UInt8))) && (decide (i70 = 3))) && (decide (i71 = 0)))), (1, .pointer (some ⟨b79, 0, none⟩))] ρ ∧ K = K' ∧ L' = Row Hp.nil 60 (.cons (.int .i64) (.one .bool)) (.slice ad72 l69.length cp73) l69 :: Cl b79 26 [.slice ad72 l69.length cp73] :: F) ?_ ?_
    · skip
      rcases bt ((decide (s85 = ([2, 6, 9] : List UInt8))) && (decide (i70 = 3))) with hc94 | hc94
      · skip
        refine J.run rfl rfl rfl hc94 ?_
        refine J.val (v := .int .i64 i71) rfl rfl (V.mv rfl) ?_
        refine J.run rfl rfl rfl hc94 ?_
        refine J.val (v := .bool (decide (i71 = 0))) rfl rfl (V.eql rfl rfl) ?_
        refine J.val (v := .bool (decide (i71 = 0))) rfl rfl (V.pickT rfl hc94 rfl) ?_
        refine J.nil ?_
        exact ⟨rfl, ⟨(by simp only [hc94]; rfl), rfl, trivial⟩, rfl, rfl⟩
      · skip
        refine J.skip rfl rfl rfl rfl hc94 ?_
        refine J.skip rfl rfl rfl rfl hc94 ?_
        refine J.val (v := .bool false) rfl rfl (V.pickF rfl hc94 rfl) ?_
        refine J.nil ?_
        exact ⟨rfl, ⟨(by simp only [hc94]; rfl), rfl, trivial⟩, rfl, rfl⟩
    · rintro ρ _ _ ⟨hf, rfl, rfl⟩
      obtain ⟨ρ, rfl⟩ := hf.ex
      refine J.val (v := .bool (((decide (s85 = ([2, 6, 9] : List UInt8))) && (decide (i70 = 3))) && (decide (i71 = 0)))) rfl rfl (V.mv rfl) ?_
      refine J.cut 5 ?_
      refine @J.meet _ _ _ _ _ _ _ _ _ _ (fun ρ K' L' => Fits [(25, .bool ((((decide (s85 = ([2, 6, 9] : List UInt8))) && (decide (i70 = 3))) && (decide (i71 = 0))) && (decide ((((l69.length : Nat) : Int)) = 2)))), (1, .pointer (some ⟨b79, 0, none⟩))] ρ ∧ K = K' ∧ L' = Row Hp.nil 60 (.cons (.int .i64) (.one .bool)) (.slice ad72 l69.length cp73) l69 :: Cl b79 26 [.slice ad72 l69.length cp73] :: F) ?_ ?_
      · skip
        rcases bt (((decide (s85 = ([2, 6, 9] : List UInt8))) && (decide (i70 = 3))) && (decide (i71 = 0))) with hc97 | hc97
        · skip
          refine J.run rfl rfl rfl hc97 ?_
          refine J.val rfl rfl (V.fad Try.underlying26 rfl nz24 rfl) ?_
          refine J.run rfl rfl rfl hc97 ?_
          refine J.val (v := .slice ad72 l69.length cp73) rfl rfl (V.ld rfl (Ld.sc sc24 (Rd.cl 1 rfl rfl))) ?_
          refine J.run rfl rfl rfl hc97 ?_
          refine J.val (v := .int .i64 (((l69.length : Nat) : Int))) rfl rfl (V.len Try.underlying24 rfl) ?_
          refine J.run rfl rfl rfl hc97 ?_
          refine J.val (v := .bool (decide ((((l69.length : Nat) : Int)) = 2))) rfl rfl (V.eql rfl rfl) ?_
          refine J.val (v := .bool (decide ((((l69.length : Nat) : Int)) = 2))) rfl rfl (V.pickT rfl hc97 rfl) ?_
          refine J.nil ?_
          exact ⟨rfl, ⟨(by simp only [hc97]; rfl), rfl, trivial⟩, rfl, rfl⟩
        · skip
          refine J.skip rfl rfl rfl rfl hc97 ?_
          refine J.skip rfl rfl rfl rfl hc97 ?_
          refine J.skip rfl rfl rfl rfl hc97 ?_
          refine J.skip rfl rfl rfl rfl hc97 ?_
          refine J.val (v := .bool false) rfl rfl (V.pickF rfl hc97 rfl) ?_
          refine J.nil ?_
          exact ⟨rfl, ⟨(by simp only [hc97]; rfl), rfl, trivial⟩, rfl, rfl⟩
      · rintro ρ _ _ ⟨hf, rfl, rfl⟩
        obtain ⟨ρ, rfl⟩ := hf.ex
        refine J.val (v := .bool ((((decide (s85 = ([2, 6, 9] : List UInt8))) && (decide (i70 = 3))) && (decide (i71 = 0))) && (decide ((((l69.length : Nat) : Int)) = 2)))) rfl rfl (V.mv rfl) ?_
        refine J.cut 6 ?_
        obtain ⟨t106, ht107, h⟩ := ob h
        refine @J.meet _ _ _ _ _ _ _ _ _ _ (fun ρ K' L' => Fits [(32, .bool t106)] ρ ∧ K = K' ∧ L' = Row Hp.nil 60 (.cons (.int .i64) (.one .bool)) (.slice ad72 l69.length cp73) l69 :: Cl b79 26 [.slice ad72 l69.length cp73] :: F) ?_ ?_
        · skip
          rcases bt ((((decide (s85 = ([2, 6, 9] : List UInt8))) && (decide (i70 = 3))) && (decide (i71 = 0))) && (decide ((((l69.length : Nat) : Int)) = 2))) with hc108 | hc108
          · have ht107 := ct hc108 ht107
            refine J.run rfl rfl rfl hc108 ?_
            refine J.val rfl rfl (V.fad Try.underlying26 rfl nz24 rfl) ?_
            refine J.run rfl rfl rfl hc108 ?_
            refine J.val (v := .slice ad72 l69.length cp73) rfl rfl (V.ld rfl (Ld.sc sc24 (Rd.cl 1 rfl rfl))) ?_
            refine J.run rfl rfl rfl hc108 ?_
            obtain ⟨x109, hx110, ht107⟩ := ob ht107
            obtain ⟨p111, p112, p113⟩ := getI_some hx110
            obtain ⟨g114, e115⟩ := hn74 (fun e => by rw [e] at p112; simp at p112)
            refine J.val rfl rfl (V.iad Try.underlying24 sz60 rfl e115 rfl p111 p113) ?_
            refine J.run rfl rfl rfl hc108 ?_
            refine J.val rfl rfl (V.fad Try.underlying60 rfl nz4 rfl) ?_
            refine J.run rfl rfl rfl hc108 ?_
            refine J.val (v := .bool x109.2) rfl rfl (V.ld rfl (Ld.sc sc4 (Rd.row 0 rfl e115 p112 (q := 1) (by simp [Tp.size]) (by decide) (by rintro _ ⟨_, _, rfl, _, rfl, rfl⟩; rfl)))) ?_
            refine J.val (v := .bool x109.2) rfl rfl (V.pickT rfl hc108 rfl) ?_
            refine J.nil ?_
            have e := Option.some.inj ht107
            subst e
            exact ⟨rfl, ⟨rfl, trivial⟩, rfl, rfl⟩
          · have ht107 := cf hc108 ht107
            refine J.skip rfl rfl rfl rfl hc108 ?_
            refine J.skip rfl rfl rfl rfl hc108 ?_
            refine J.skip rfl rfl rfl rfl hc108 ?_
            refine J.skip rfl rfl rfl rfl hc108 ?_
            refine J.skip rfl rfl rfl rfl hc108 ?_
            refine J.val (v := .bool false) rfl rfl (V.pickF rfl hc108 rfl) ?_
            refine J.nil ?_
            have e := Option.some.inj ht107
            subst e
            exact ⟨rfl, ⟨rfl, trivial⟩, rfl, rfl⟩
        · rintro ρ _ _ ⟨hf, rfl, rfl⟩
          obtain ⟨ρ, rfl⟩ := hf.ex
          refine J.val (v := .bool t106) rfl rfl (V.mv rfl) ?_
          refine J.cut 4 ?_
          obtain ⟨t123, ht124, h⟩ := ob h
          refine @J.meet _ _ _ _ _ _ _ _ _ _ (fun ρ K' L' => Fits [(37, .bool t123)] ρ ∧ K = K' ∧ L' = Row Hp.nil 60 (.cons (.int .i64) (.one .bool)) (.slice ad72 l69.length cp73) l69 :: Cl b79 26 [.slice ad72 l69.length cp73] :: F) ?_ ?_
          · skip
            rcases bt (t106) with hc125 | hc125
            · have ht124 := ct hc125 ht124
              refine J.run rfl rfl rfl hc125 ?_
              refine J.val (v := .agg #[.int .i64 17, .slice none 0 0, .slice none 0 0, .slice none 0 0]) rfl rfl (V.build inf28 places28 rfl rfl) ?_
              refine J.run rfl rfl rfl hc125 ?_
              obtain ⟨r126, hr127, ht124⟩ := ob ht124
              refine J.op rfl (A.call (L1 := []) Try.call12 rfl (sig_Check_ok isNil isNil isNil hr127) rfl rfl) ?_
              rintro _ _ _ ⟨v129, _, rfl, ⟨⟨i128, rfl, rfl, rfl⟩, rfl⟩, _, rfl⟩
              refine J.run rfl rfl rfl hc125 ?_
              refine J.val (v := .bool (decide (i128 = 6))) rfl rfl (V.eql rfl rfl) ?_
              refine J.val (v := .bool (decide (i128 = 6))) rfl rfl (V.pickT rfl hc125 rfl) ?_
              refine J.nil ?_
              have e := Option.some.inj ht124
              subst e
              exact ⟨rfl, ⟨rfl, trivial⟩, rfl, rfl⟩
            · have ht124 := cf hc125 ht124
              refine J.skip rfl rfl rfl rfl hc125 ?_
              refine J.skip rfl rfl rfl rfl hc125 ?_
              refine J.skip rfl rfl rfl rfl hc125 ?_
              refine J.val (v := .bool false) rfl rfl (V.pickF rfl hc125 rfl) ?_
              refine J.nil ?_
              have e := Option.some.inj ht124
              subst e
              exact ⟨rfl, ⟨rfl, trivial⟩, rfl, rfl⟩
          · rintro ρ _ _ ⟨hf, rfl, rfl⟩
            obtain ⟨ρ, rfl⟩ := hf.ex
            refine J.val (v := .bool t123) rfl rfl (V.as rfl) ?_
            refine J.nil ?_
            refine CJ.ret ?_
            have e := Option.some.inj h
            subst e
            exact ⟨_, [], Res.one rfl rfl, ⟨t123, rfl, rfl, rfl⟩, (Hp.le_refl _), fun w hs => (Sep.dropAt 0 rfl (Sep.dropAt 0 rfl hs))⟩

noncomputable def fnr_ref02_digits : Nat → Int → Option (List UInt8)
  | 0, _ => none
  | fuel + 1, xa => cond (decide (xa < 256)) (some (toU8 ([IntKind.wrap .u8 xa] : List Int))) (((fnr_ref02_digits fuel (IntKind.wrap .i64 (Int.tdiv xa 256))).bind fun s212 => (app s212 (toU8 (([IntKind.wrap .u8 (Int.tmod xa 256)] : List Int)))).bind fun z222 => some (z222) : Option (List UInt8)).bind fun s182 => some (s182))
noncomputable def fn_ref02_digits (xa : Int) : Option (List UInt8) := lev (fun n => fnr_ref02_digits n xa)
set_option maxRecDepth 100000 in
set_option maxHeartbeats 4000000 in
theorem ref02_digits_okr : ∀ (fuel : Nat) {K : Hp} {xa : Int}   {r : List UInt8} (h : fnr_ref02_digits fuel xa = some r),
    Tr Try.prog 65 #[.int .i64 xa] K [] (fun v K' L' => (∃ (s123 : List UInt8), s123 = r ∧ .string ⟨s123.toArray⟩ = v ∧ L' = []) ∧ K = K') := by
  intro fuel
  induction fuel with
  | zero => intro K xa r h; rw [fnr_ref02_digits] at h; cases h
  | succ fuel ih =>
    intro K xa r h
    refine Tr.k ?_
    refine Tr.of Try.func65 rfl Try.ntmps65 rfl (fun E F => ?_)
    rw [fnr_ref02_digits] at h
    refine CJ.seq ?_
    refine CJ.region ?_
    refine J.val (v := .string ⟨([] : List UInt8).toArray⟩) rfl rfl (V.as rfl) ?_
    refine J.nil ?_
    refine CJ.seq ?_
    refine CJ.seq ?_
    refine CJ.region ?_
    refine J.val (v := .int .i64 xa) rfl rfl (V.mv rfl) ?_
    refine J.val (v := .bool (decide (xa < 256))) rfl rfl (V.lss rfl rfl) ?_
    refine J.nil ?_
    refine CJ.cond rfl (fun hc124 => ?_) (fun hc124 => ?_)
    · have h := ct hc124 h
      refine CJ.seq ?_
      refine CJ.region ?_
      refine J.val (v := .int .i64 xa) rfl rfl (V.mv rfl) ?_
      refine J.val (v := .int .u8 (IntKind.wrap .u8 xa)) rfl rfl (V.conv Try.underlying3 Try.underlying5 rfl) ?_
      refine J.op rfl (A.lit (K0 := Hp.nil) (ty := (.int .u8)) (xs := ([IntKind.wrap .u8 xa] : List Int)) Try.underlying87 inf5 rfl (by decide) rfl rfl rfl ⟨_, _, rfl, rfl, rfl⟩ rfl (by decide)) ?_
      rintro _ _ _ ⟨b125, rfl, rfl, rfl⟩
      have hn126 : ([IntKind.wrap .u8 xa] : List Int) ≠ [] → ∃ g, (some ⟨b125, 0, none⟩ : Option Addr) = some ⟨g, 0, none⟩ := fun _ => ⟨b125, rfl⟩
      refine J.val (v := .string ⟨(toU8 ([IntKind.wrap .u8 xa] : List Int)).toArray⟩) rfl rfl (V.b2sR 0 rfl Try.underlying87 Try.underlying5 Try.underlying9 rfl) ?_
      refine J.val (v := .string ⟨(toU8 ([IntKind.wrap .u8 xa] : List Int)).toArray⟩) rfl rfl (V.as rfl) ?_
      refine J.nil ?_
      refine CJ.ret ?_
      have e := Option.some.inj h
      subst e
      exact ⟨_, [], Res.one rfl rfl, ⟨toU8 ([IntKind.wrap .u8 xa] : List Int), rfl, rfl, rfl⟩, (Hp.le_refl _), fun w hs => (Sep.dropAt 0 rfl hs)⟩
    · have h := cf hc124 h
      refine CJ.skip ?_
      refine CJ.seq ?_
      obtain ⟨o183, ho184, h⟩ := ob h
      refine CJ.meetN (fun ρ K' L' => ∃ (s182 : List UInt8), s182 = o183 ∧ Fits [(2, .string ⟨s182.toArray⟩)] ρ ∧ K = K' ∧ F = L') ?_ ?_
      · skip
        refine CJ.tree [] (.still [0, 1, 3, 4, 5] (.alt 2 (.alt 6 (.alt 7 (.leaf [8, 9]) .done) .done) (.alt 6 (.alt 2 (.alt 7 (.leaf [8, 9]) .done) (.alt 7 (.alt 2 (.leaf [8, 9]) .done) .done)) .done))) [] mixO (by decide +kernel) trivial rfl ?_
        refine JT.still rfl ?_
        refine JQ.val (v := .int .i64 xa) rfl rfl (V.mv rfl) ?_
        refine JQ.val (v := .int .i64 (IntKind.wrap .i64 (Int.tdiv xa 256))) rfl rfl (V.quo rfl rfl (by decide)) ?_
        refine JQ.val (v := .int .i64 xa) rfl rfl (V.mv rfl) ?_
        refine JQ.val (v := .int .i64 (Int.tmod xa 256)) rfl rfl (V.rem rfl rfl (by decide)) ?_
        refine JQ.val (v := .int .u8 (IntKind.wrap .u8 (Int.tmod xa 256))) rfl rfl (V.conv Try.underlying3 Try.underlying5 rfl) ?_
        refine JQ.nil ?_
        obtain ⟨r213, hr214, ho184⟩ := ob ho184
        refine JT.alt rfl ?_ ?_
        · skip
          refine JB.op rfl (A.call (L1 := []) Try.call65 rfl (ih hr214) rfl rfl) ?_
          rintro _ _ _ ⟨v216, _, rfl, ⟨⟨s212, rfl, rfl, rfl⟩, rfl⟩, _, rfl⟩
          refine ⟨fun w hs => Hold.sub (Hp.le_refl _) trivial hs, ?_⟩
          refine JT.alt rfl ?_ JT.done
          refine JB.op rfl (A.lit (K0 := Hp.nil) (ty := (.int .u8)) (xs := ([IntKind.wrap .u8 (Int.tmod xa 256)] : List Int)) Try.underlying87 inf5 rfl (by decide) rfl rfl rfl ⟨_, _, rfl, rfl, rfl⟩ rfl (by decide)) ?_
          rintro _ _ _ ⟨b219, rfl, rfl, rfl⟩
          have hn220 : ([IntKind.wrap .u8 (Int.tmod xa 256)] : List Int) ≠ [] → ∃ g, (some ⟨b219, 0, none⟩ : Option Addr) = some ⟨g, 0, none⟩ := fun _ => ⟨b219, rfl⟩
          refine ⟨fun w hs => Hold.sub (Hp.le_refl _) trivial hs, ?_⟩
          refine JT.alt rfl ?_ JT.done
          refine JB.op rfl (A.val (v := .string ⟨(toU8 (([IntKind.wrap .u8 (Int.tmod xa 256)] : List Int))).toArray⟩) rfl (V.b2sR 0 rfl Try.underlying87 Try.underlying5 Try.underlying9 rfl)) ?_
          rintro _ _ _ ⟨rfl, rfl, rfl⟩
          refine ⟨fun w hs => Hold.sub (Hp.le_refl _) trivial hs, ?_⟩
          refine JT.leaf rfl ?_
          obtain ⟨z222, hz223, ho184⟩ := ob ho184
          refine JQ.val (v := .string ⟨z222.toArray⟩) rfl rfl (V.cat rfl rfl hz223) ?_
          refine JQ.val (v := .string ⟨z222.toArray⟩) rfl rfl (V.as rfl) ?_
          refine JQ.nil ?_
          refine J.dropAt 0 rfl ?_
          refine J.nil ?_
          have e := Option.some.inj ho184
          subst e
          exact ⟨rfl, ⟨z222, rfl, ⟨rfl, trivial⟩, rfl, rfl⟩⟩
        · skip
          refine JT.alt rfl ?_ JT.done
          refine JB.op rfl (A.lit (K0 := Hp.nil) (ty := (.int .u8)) (xs := ([IntKind.wrap .u8 (Int.tmod xa 256)] : List Int)) Try.underlying87 inf5 rfl (by decide) rfl rfl rfl ⟨_, _, rfl, rfl, rfl⟩ rfl (by decide)) ?_
          rintro _ _ _ ⟨b224, rfl, rfl, rfl⟩
          have hn225 : ([IntKind.wrap .u8 (Int.tmod xa 256)] : List Int) ≠ [] → ∃ g, (some ⟨b224, 0, none⟩ : Option Addr) = some ⟨g, 0, none⟩ := fun _ => ⟨b224, rfl⟩
          refine ⟨fun w hs => Hold.sub (Hp.le_refl _) trivial hs, ?_⟩
          refine JT.alt rfl ?_ ?_
          · skip
            refine JB.op rfl (A.call (L1 := []) Try.call65 rfl (ih hr214) rfl rfl) ?_
            rintro _ _ _ ⟨v228, _, rfl, ⟨⟨s212, rfl, rfl, rfl⟩, rfl⟩, _, rfl⟩
            refine ⟨fun w hs => Hold.sub (Hp.le_refl _) trivial hs, ?_⟩
            refine JT.alt rfl ?_ JT.done
            refine JB.op rfl (A.val (v := .string ⟨(toU8 (([IntKind.wrap .u8 (Int.tmod xa 256)] : List Int))).toArray⟩) rfl (V.b2sR 0 rfl Try.underlying87 Try.underlying5 Try.underlying9 rfl)) ?_
            rintro _ _ _ ⟨rfl, rfl, rfl⟩
            refine ⟨fun w hs => Hold.sub (Hp.le_refl _) trivial hs, ?_⟩
            refine JT.leaf rfl ?_
            obtain ⟨z231, hz232, ho184⟩ := ob ho184
            refine JQ.val (v := .string ⟨z231.toArray⟩) rfl rfl (V.cat rfl rfl hz232) ?_
            refine JQ.val (v := .string ⟨z231.toArray⟩) rfl rfl (V.as rfl) ?_
            refine JQ.nil ?_
            refine J.dropAt 0 rfl ?_
            refine J.nil ?_
            have e := Option.some.inj ho184
            subst e
            exact ⟨rfl, ⟨z231, rfl, ⟨rfl, trivial⟩, rfl, rfl⟩⟩
          · skip
            refine JT.alt rfl ?_ JT.done
            refine JB.op rfl (A.val (v := .string ⟨(toU8 (([IntKind.wrap .u8 (Int.tmod xa 256)] : List Int))).toArray⟩) rfl (V.b2sR 0 rfl Try.underlying87 Try.underlying5 Try.underlying9 rfl)) ?_
            rintro _ _ _ ⟨rfl, rfl, rfl⟩
            refine ⟨fun w hs => Hold.sub (Hp.le_refl _) trivial hs, ?_⟩
            refine JT.alt rfl ?_ JT.done
            refine JB.op rfl (A.call (L1 := []) Try.call65 rfl (ih hr214) rfl rfl) ?_
            rintro _ _ _ ⟨v234, _, rfl, ⟨⟨s212, rfl, rfl, rfl⟩, rfl⟩, _, rfl⟩
            refine ⟨fun w hs => Hold.sub (Hp.le_refl _) trivial hs, ?_⟩
            refine JT.leaf rfl ?_
            obtain ⟨z237, hz238, ho184⟩ := ob ho184
            refine JQ.val (v := .string ⟨z237.toArray⟩) rfl rfl (V.cat rfl rfl hz238) ?_
            refine JQ.val (v := .string ⟨z237.toArray⟩) rfl rfl (V.as rfl) ?_
            refine JQ.nil ?_
            refine J.dropAt 0 rfl ?_
            refine J.nil ?_
            have e := Option.some.inj ho184
            subst e
            exact ⟨rfl, ⟨z237, rfl, ⟨rfl, trivial⟩, rfl, rfl⟩⟩
      · rintro ρ _ _ ⟨s182, rfl, hf239, rfl, rfl⟩
        obtain ⟨ρ, rfl⟩ := hf239.ex
        refine PJ.done ?_
        refine CJ.ret ?_
        have e := Option.some.inj h
        subst e
        exact ⟨_, [], Res.one rfl rfl, ⟨s182, rfl, rfl, rfl⟩, (Hp.le_refl _), fun w hs => hs⟩
set_option maxRecDepth 100000 in
set_option maxHeartbeats 4000000 in
theorem ref02_digits_ok {K : Hp} {xa : Int}   {r : List UInt8} (h : fn_ref02_digits xa = some r) :
    Tr Try.prog 65 #[.int .i64 xa] K [] (fun v K' L' => (∃ (s123 : List UInt8), s123 = r ∧ .string ⟨s123.toArray⟩ = v ∧ L' = []) ∧ K = K') := by
  obtain ⟨n, hn⟩ := lev_some h
  exact ref02_digits_okr n  hn

noncomputable def fn_ref02_Put (xa : Int) : Option (List UInt8) :=
  cond ((decide (xa < 0)) || (decide (4294967295 < xa))) (some (([] : List UInt8))) (cond (decide (xa < 248)) (some (toU8 ([IntKind.wrap .u8 xa] : List Int))) ((fn_ref02_digits xa).bind fun s31 => (app (toU8 (([IntKind.wrap .u8 (IntKind.wrap .i64 (247 + (((s31.length : Nat) : Int))))] : List Int))) s31).bind fun z38 => some (z38)))
set_option maxRecDepth 100000 in
set_option maxHeartbeats 4000000 in
theorem ref02_Put_ok {K : Hp} {xa : Int}   {r : List UInt8} (h : fn_ref02_Put xa = some r) :
    Tr Try.prog 54 #[.int .i64 xa] K [] (fun v K' L' => (∃ (s20 : List UInt8), s20 = r ∧ .string ⟨s20.toArray⟩ = v ∧ L' = []) ∧ K = K') := by
  refine Tr.k ?_
  refine Tr.of Try.func54 rfl Try.ntmps54 rfl (fun E F => ?_)
  unfold fn_ref02_Put at h
  refine CJ.seq ?_
  refine CJ.region ?_
  refine J.val (v := .string ⟨([] : List UInt8).toArray⟩) rfl rfl (V.as rfl) ?_
  refine J.nil ?_
  refine CJ.seq ?_
  refine CJ.seq ?_
  refine CJ.region ?_
  refine J.val (v := .int .i64 xa) rfl rfl (V.mv rfl) ?_
  refine J.val (v := .bool (decide (xa < 0))) rfl rfl (V.lss rfl rfl) ?_
  refine J.val (v := .bool (decide (xa < 0))) rfl rfl (V.mv rfl) ?_
  refine J.cut 3 ?_
  refine @J.meet _ _ _ _ _ _ _ _ _ _ (fun ρ K' L' => Fits [(9, .bool ((decide (xa < 0)) || (decide (4294967295 < xa)))), (0, .int .i64 xa)] ρ ∧ K = K' ∧ F = L') ?_ ?_
  · skip
    rcases bt (decide (xa < 0)) with hc23 | hc23
    · skip
      refine J.skip rfl rfl rfl rfl hc23 ?_
      refine J.skip rfl rfl rfl rfl hc23 ?_
      refine J.val (v := .bool true) rfl rfl (V.pickT rfl hc23 rfl) ?_
      refine J.nil ?_
      exact ⟨rfl, ⟨(by simp only [hc23]; rfl), rfl, trivial⟩, rfl, rfl⟩
    · skip
      refine J.run rfl rfl rfl hc23 ?_
      refine J.val (v := .int .i64 xa) rfl rfl (V.mv rfl) ?_
      refine J.run rfl rfl rfl hc23 ?_
      refine J.val (v := .bool (decide (4294967295 < xa))) rfl rfl (V.gtr rfl rfl) ?_
      refine J.val (v := .bool (decide (4294967295 < xa))) rfl rfl (V.pickF rfl hc23 rfl) ?_
      refine J.nil ?_
      exact ⟨rfl, ⟨(by simp only [hc23]; rfl), rfl, trivial⟩, rfl, rfl⟩
  · rintro ρ _ _ ⟨hf, rfl, rfl⟩
    obtain ⟨ρ, rfl⟩ := hf.ex
    refine J.nil ?_
    refine CJ.cond rfl (fun hc24 => ?_) (fun hc24 => ?_)
    · have h := ct hc24 h
      refine CJ.seq ?_
      refine CJ.region ?_
      refine J.val (v := .string ⟨([] : List UInt8).toArray⟩) rfl rfl (V.as rfl) ?_
      refine J.nil ?_
      refine CJ.ret ?_
      have e := Option.some.inj h
      subst e
      exact ⟨_, [], Res.one rfl rfl, ⟨([] : List UInt8), rfl, rfl, rfl⟩, (Hp.le_refl _), fun w hs => hs⟩
    · have h := cf hc24 h
      refine CJ.skip ?_
      refine CJ.seq ?_
      refine CJ.seq ?_
      refine CJ.region ?_
      refine J.val (v := .int .i64 xa) rfl rfl (V.mv rfl) ?_
      refine J.val (v := .bool (decide (xa < 248))) rfl rfl (V.lss rfl rfl) ?_
      refine J.nil ?_
      refine CJ.cond rfl (fun hc25 => ?_) (fun hc25 => ?_)
      · have h := ct hc25 h
        refine CJ.seq ?_
        refine CJ.region ?_
        refine J.val (v := .int .i64 xa) rfl rfl (V.mv rfl) ?_
        refine J.val (v := .int .u8 (IntKind.wrap .u8 xa)) rfl rfl (V.conv Try.underlying3 Try.underlying5 rfl) ?_
        refine J.op rfl (A.lit (K0 := Hp.nil) (ty := (.int .u8)) (xs := ([IntKind.wrap .u8 xa] : List Int)) Try.underlying87 inf5 rfl (by decide) rfl rfl rfl ⟨_, _, rfl, rfl, rfl⟩ rfl (by decide)) ?_
        rintro _ _ _ ⟨b26, rfl, rfl, rfl⟩
        have hn27 : ([IntKind.wrap .u8 xa] : List Int) ≠ [] → ∃ g, (some ⟨b26, 0, none⟩ : Option Addr) = some ⟨g, 0, none⟩ := fun _ => ⟨b26, rfl⟩
        refine J.val (v := .string ⟨(toU8 ([IntKind.wrap .u8 xa] : List Int)).toArray⟩) rfl rfl (V.b2sR 0 rfl Try.underlying87 Try.underlying5 Try.underlying9 rfl) ?_
        refine J.val (v := .string ⟨(toU8 ([IntKind.wrap .u8 xa] : List Int)).toArray⟩) rfl rfl (V.as rfl) ?_
        refine J.nil ?_
        refine CJ.ret ?_
        have e := Option.some.inj h
        subst e
        exact ⟨_, [], Res.one rfl rfl, ⟨toU8 ([IntKind.wrap .u8 xa] : List Int), rfl, rfl, rfl⟩, (Hp.le_refl _), fun w hs => (Sep.dropAt 0 rfl hs)⟩
      · have h := cf hc25 h
        refine CJ.skip ?_
        refine CJ.seq ?_
        refine CJ.region ?_
        refine J.val (v := .int .i64 xa) rfl rfl (V.mv rfl) ?_
        obtain ⟨r29, hr30, h⟩ := ob h
        refine J.op rfl (A.call (L1 := []) Try.call65 rfl (ref02_digits_ok hr30) rfl rfl) ?_
        rintro _ _ _ ⟨v32, _, rfl, ⟨⟨s31, rfl, rfl, rfl⟩, rfl⟩, _, rfl⟩
        refine J.val (v := .string ⟨s31.toArray⟩) rfl rfl (V.as rfl) ?_
        refine J.nil ?_
        refine CJ.seq ?_
        refine CJ.region ?_
        refine J.val (v := .string ⟨s31.toArray⟩) rfl rfl (V.mv rfl) ?_
        refine J.val (v := .int .i64 (((s31.length : Nat) : Int))) rfl rfl (V.lens Try.underlying9 rfl) ?_
        refine J.val (v := .int .i64 (IntKind.wrap .i64 (247 + (((s31.length : Nat) : Int))))) rfl rfl (V.add rfl rfl) ?_
        refine J.val (v := .int .u8 (IntKind.wrap .u8 (IntKind.wrap .i64 (247 + (((s31.length : Nat) : Int)))))) rfl rfl (V.conv Try.underlying3 Try.underlying5 rfl) ?_
        refine J.op rfl (A.lit (K0 := Hp.nil) (ty := (.int .u8)) (xs := ([IntKind.wrap .u8 (IntKind.wrap .i64 (247 + (((s31.length : Nat) : Int))))] : List Int)) Try.underlying87 inf5 rfl (by decide) rfl rfl rfl ⟨_, _, rfl, rfl, rfl⟩ rfl (by decide)) ?_
        rintro _ _ _ ⟨b35, rfl, rfl, rfl⟩
        have hn36 : ([IntKind.wrap .u8 (IntKind.wrap .i64 (247 + (((s31.length : Nat) : Int))))] : List Int) ≠ [] → ∃ g, (some ⟨b35, 0, none⟩ : Option Addr) = some ⟨g, 0, none⟩ := fun _ => ⟨b35, rfl⟩
        refine J.val (v := .string ⟨(toU8 (([IntKind.wrap .u8 (IntKind.wrap .i64 (247 + (((s31.length : Nat) : Int))))] : List Int))).toArray⟩) rfl rfl (V.b2sR 0 rfl Try.underlying87 Try.underlying5 Try.underlying9 rfl) ?_
        refine J.val (v := .string ⟨s31.toArray⟩) rfl rfl (V.mv rfl) ?_
        obtain ⟨z38, hz39, h⟩ := ob h
        refine J.val (v := .string ⟨z38.toArray⟩) rfl rfl (V.cat rfl rfl hz39) ?_
        refine J.val (v := .string ⟨z38.toArray⟩) rfl rfl (V.as rfl) ?_
        refine J.nil ?_
        refine CJ.ret ?_
        have e := Option.some.inj h
        subst e
        exact ⟨_, [], Res.one rfl rfl, ⟨z38, rfl, rfl, rfl⟩, (Hp.le_refl _), fun w hs => (Sep.dropAt 0 rfl hs)⟩
noncomputable def fn_ref02_Take_l1 (xa : (List UInt8)) (x94 : UInt8) : (Int × Int) → Option ((Int × Int) ⊕ Int) := fun ((i141, i142) : (Int × Int)) => cond (decide (i142 ≤ (IntKind.wrap .i64 ((IntKind.wrap .i64 (((x94.toNat : Nat) : Int))) - 247)))) ((getI xa i142).bind fun x156 => some (.inl ((IntKind.wrap .i64 ((IntKind.wrap .i64 (i141 * 256)) + (IntKind.wrap .i64 (((x156.toNat : Nat) : Int)))), IntKind.wrap .i64 (i142 + 1))))) (some (.inr (i141)))
noncomputable def fn_ref02_Take (xa : (List UInt8)) : Option (Int × Int × Int) :=
  cond (decide (xa = ([] : List UInt8))) (some ((0, 0, 4))) ((getI xa 0).bind fun x94 => cond (decide ((IntKind.wrap .i64 (((x94.toNat : Nat) : Int))) < 248)) (some ((IntKind.wrap .i64 (((x94.toNat : Nat) : Int)), 1, 0))) (cond (decide (251 < (IntKind.wrap .i64 (((x94.toNat : Nat) : Int))))) (some ((0, 0, 3))) (cond (decide ((((xa.length : Nat) : Int)) < (IntKind.wrap .i64 (1 + (IntKind.wrap .i64 ((IntKind.wrap .i64 (((x94.toNat : Nat) : Int))) - 247)))))) (some ((0, 0, 4))) ((loop (fn_ref02_Take_l1 xa x94) (0, 1) : Option Int).bind fun i130 => (subL xa 0 (IntKind.wrap .i64 (1 + (IntKind.wrap .i64 ((IntKind.wrap .i64 (((x94.toNat : Nat) : Int))) - 247))))).bind fun y171 => (fn_ref02_Put i130).bind fun s175 => cond (!decide (s175 = y171)) (some ((0, 0, 3))) (some ((i130, IntKind.wrap .i64 (1 + (IntKind.wrap .i64 ((IntKind.wrap .i64 (((x94.toNat : Nat) : Int))) - 247))), 0)))))))
set_option maxRecDepth 100000 in
set_option maxHeartbeats 4000000 in
theorem ref02_Take_ok {K : Hp} {xa : (List UInt8)}   {r : (Int × Int × Int)} (h : fn_ref02_Take xa = some r) :
    Tr Try.prog 40 #[.string ⟨xa.toArray⟩] K [] (fun v K' L' => (∃ (i90 : Int) (i91 : Int) (i92 : Int), (i90, i91, i92) = r ∧ .tuple #[.int .i64 i90, .int .i64 i91, .int .i64 i92] = v ∧ L' = []) ∧ K = K') := by
  refine Tr.k ?_
  refine Tr.of Try.func40 rfl Try.ntmps40 rfl (fun E F => ?_)
  unfold fn_ref02_Take at h
  refine CJ.seq ?_
  refine CJ.region ?_
  refine J.val (v := .int .i64 0) rfl rfl (V.as rfl) ?_
  refine J.val (v := .int .i64 0) rfl rfl (V.as rfl) ?_
  refine J.val (v := .int .i64 0) rfl rfl (V.as rfl) ?_
  refine J.nil ?_
  refine CJ.seq ?_
  refine CJ.seq ?_
  refine CJ.region ?_
  refine J.val (v := .string ⟨xa.toArray⟩) rfl rfl (V.mv rfl) ?_
  refine J.val (v := .bool (decide (xa = ([] : List UInt8)))) rfl rfl (V.eqs rfl rfl) ?_
  refine J.nil ?_
  refine CJ.cond rfl (fun hc93 => ?_) (fun hc93 => ?_)
  · have h := ct hc93 h
    refine CJ.seq ?_
    refine CJ.region ?_
    refine J.val (v := .int .i64 0) rfl rfl (V.as rfl) ?_
    refine J.val (v := .int .i64 0) rfl rfl (V.as rfl) ?_
    refine J.val (v := .int .i64 4) rfl rfl (V.as rfl) ?_
    refine J.nil ?_
    refine CJ.ret ?_
    have e := Option.some.inj h
    subst e
    exact ⟨_, [], Res.three rfl rfl rfl rfl, ⟨0, 0, 4, rfl, rfl, rfl⟩, (Hp.le_refl _), fun w hs => hs⟩
  · have h := cf hc93 h
    refine CJ.skip ?_
    refine CJ.seq ?_
    refine CJ.region ?_
    refine J.val (v := .string ⟨xa.toArray⟩) rfl rfl (V.mv rfl) ?_
    obtain ⟨x94, hx95, h⟩ := ob h
    obtain ⟨p96, p97, p98⟩ := getI_some hx95
    refine J.val (v := .int .u8 (((x94.toNat : Nat) : Int))) rfl rfl (V.ixs Try.underlying9 rfl rfl p96 p97) ?_
    refine J.val (v := .int .i64 (IntKind.wrap .i64 (((x94.toNat : Nat) : Int)))) rfl rfl (V.conv Try.underlying5 Try.underlying3 rfl) ?_
    refine J.val (v := .int .i64 (IntKind.wrap .i64 (((x94.toNat : Nat) : Int)))) rfl rfl (V.as rfl) ?_
    refine J.nil ?_
    refine CJ.seq ?_
    refine CJ.seq ?_
    refine CJ.region ?_
    refine J.val (v := .int .i64 (IntKind.wrap .i64 (((x94.toNat : Nat) : Int)))) rfl rfl (V.mv rfl) ?_
    refine J.val (v := .bool (decide ((IntKind.wrap .i64 (((x94.toNat : Nat) : Int))) < 248))) rfl rfl (V.lss rfl rfl) ?_
    refine J.nil ?_
    refine CJ.cond rfl (fun hc99 => ?_) (fun hc99 => ?_)
    · have h := ct hc99 h
      refine CJ.seq ?_
      refine CJ.region ?_
      refine J.val (v := .int .i64 (IntKind.wrap .i64 (((x94.toNat : Nat) : Int)))) rfl rfl (V.mv rfl) ?_
      refine J.val (v := .int .i64 (IntKind.wrap .i64 (((x94.toNat : Nat) : Int)))) rfl rfl (V.as rfl) ?_
      refine J.val (v := .int .i64 1) rfl rfl (V.as rfl) ?_
      refine J.val (v := .int .i64 0) rfl rfl (V.as rfl) ?_
      refine J.nil ?_
      refine CJ.ret ?_
      have e := Option.some.inj h
      subst e
      exact ⟨_, [], Res.three rfl rfl rfl rfl, ⟨IntKind.wrap .i64 (((x94.toNat : Nat) : Int)), 1, 0, rfl, rfl, rfl⟩, (Hp.le_refl _), fun w hs => hs⟩
    · have h := cf hc99 h
      refine CJ.skip ?_
      refine CJ.seq ?_
      refine CJ.seq ?_
      refine CJ.region ?_
      refine J.val (v := .int .i64 (IntKind.wrap .i64 (((x94.toNat : Nat) : Int)))) rfl rfl (V.mv rfl) ?_
      refine J.val (v := .bool (decide (251 < (IntKind.wrap .i64 (((x94.toNat : Nat) : Int)))))) rfl rfl (V.gtr rfl rfl) ?_
      refine J.nil ?_
      refine CJ.cond rfl (fun hc100 => ?_) (fun hc100 => ?_)
      · have h := ct hc100 h
        refine CJ.seq ?_
        refine CJ.region ?_
        refine J.val (v := .int .i64 0) rfl rfl (V.as rfl) ?_
        refine J.val (v := .int .i64 0) rfl rfl (V.as rfl) ?_
        refine J.val (v := .int .i64 3) rfl rfl (V.as rfl) ?_
        refine J.nil ?_
        refine CJ.ret ?_
        have e := Option.some.inj h
        subst e
        exact ⟨_, [], Res.three rfl rfl rfl rfl, ⟨0, 0, 3, rfl, rfl, rfl⟩, (Hp.le_refl _), fun w hs => hs⟩
      · have h := cf hc100 h
        refine CJ.skip ?_
        refine CJ.seq ?_
        refine CJ.region ?_
        refine J.val (v := .int .i64 (IntKind.wrap .i64 (((x94.toNat : Nat) : Int)))) rfl rfl (V.mv rfl) ?_
        refine J.val (v := .int .i64 (IntKind.wrap .i64 ((IntKind.wrap .i64 (((x94.toNat : Nat) : Int))) - 247))) rfl rfl (V.sub rfl rfl) ?_
        refine J.val (v := .int .i64 (IntKind.wrap .i64 ((IntKind.wrap .i64 (((x94.toNat : Nat) : Int))) - 247))) rfl rfl (V.as rfl) ?_
        refine J.nil ?_
        refine CJ.seq ?_
        refine CJ.seq ?_
        refine CJ.region ?_
        refine J.val (v := .string ⟨xa.toArray⟩) rfl rfl (V.mv rfl) ?_
        refine J.val (v := .int .i64 (((xa.length : Nat) : Int))) rfl rfl (V.lens Try.underlying9 rfl) ?_
        refine J.val (v := .int .i64 (IntKind.wrap .i64 ((IntKind.wrap .i64 (((x94.toNat : Nat) : Int))) - 247))) rfl rfl (V.mv rfl) ?_
        refine J.val (v := .int .i64 (IntKind.wrap .i64 (1 + (IntKind.wrap .i64 ((IntKind.wrap .i64 (((x94.toNat : Nat) : Int))) - 247))))) rfl rfl (V.add rfl rfl) ?_
        refine J.val (v := .bool (decide ((((xa.length : Nat) : Int)) < (IntKind.wrap .i64 (1 + (IntKind.wrap .i64 ((IntKind.wrap .i64 (((x94.toNat : Nat) : Int))) - 247))))))) rfl rfl (V.lss rfl rfl) ?_
        refine J.nil ?_
        refine CJ.cond rfl (fun hc101 => ?_) (fun hc101 => ?_)
        · have h := ct hc101 h
          refine CJ.seq ?_
          refine CJ.region ?_
          refine J.val (v := .int .i64 0) rfl rfl (V.as rfl) ?_
          refine J.val (v := .int .i64 0) rfl rfl (V.as rfl) ?_
          refine J.val (v := .int .i64 4) rfl rfl (V.as rfl) ?_
          refine J.nil ?_
          refine CJ.ret ?_
          have e := Option.some.inj h
          subst e
          exact ⟨_, [], Res.three rfl rfl rfl rfl, ⟨0, 0, 4, rfl, rfl, rfl⟩, (Hp.le_refl _), fun w hs => hs⟩
        · have h := cf hc101 h
          refine CJ.skip ?_
          refine CJ.seq ?_
          refine CJ.region ?_
          refine J.val (v := .int .i64 0) rfl rfl (V.as rfl) ?_
          refine J.nil ?_
          refine CJ.seq ?_
          refine CJ.seq ?_
          refine CJ.region ?_
          refine J.val (v := .int .i64 1) rfl rfl (V.as rfl) ?_
          refine J.nil ?_
          obtain ⟨o131, ho132, h⟩ := ob h
          refine CJ.meetN (fun ρ K' L' => ∃ (i130 : Int), i130 = o131 ∧ Fits [(0, .string ⟨xa.toArray⟩), (6, .int .i64 (IntKind.wrap .i64 ((IntKind.wrap .i64 (((x94.toNat : Nat) : Int))) - 247))), (7, .int .i64 i130)] ρ ∧ K = K' ∧ F = L') ?_ ?_
          · skip
            refine CJ.block ?_
            refine CJ.loop (fun s ρ K' L' => ∃ (i141 : Int) (i142 : Int), (i141, i142) = s ∧ Fits [(0, .string ⟨xa.toArray⟩), (6, .int .i64 (IntKind.wrap .i64 ((IntKind.wrap .i64 (((x94.toNat : Nat) : Int))) - 247))), (7, .int .i64 i141), (8, .int .i64 i142)] ρ ∧ K = K' ∧ F = L') ho132 ⟨0, 1, rfl, ⟨rfl, rfl, rfl, rfl, trivial⟩, rfl, rfl⟩ ?_
            rintro s ρ _ _ r154 ⟨i141, i142, rfl, hf152, rfl, rfl⟩ h151
            obtain ⟨ρ, rfl⟩ := hf152.ex
            refine CJ.seq ?_
            refine CJ.seq ?_
            refine CJ.region ?_
            refine J.val (v := .int .i64 i142) rfl rfl (V.mv rfl) ?_
            refine J.val (v := .int .i64 (IntKind.wrap .i64 ((IntKind.wrap .i64 (((x94.toNat : Nat) : Int))) - 247))) rfl rfl (V.mv rfl) ?_
            refine J.val (v := .bool (decide (i142 ≤ (IntKind.wrap .i64 ((IntKind.wrap .i64 (((x94.toNat : Nat) : Int))) - 247))))) rfl rfl (V.leq rfl rfl) ?_
            refine J.nil ?_
            refine CJ.cond rfl (fun hc155 => ?_) (fun hc155 => ?_)
            · have h151 := ct hc155 h151
              refine CJ.skip ?_
              refine CJ.seq ?_
              refine CJ.block ?_
              refine CJ.region ?_
              refine J.val (v := .int .i64 i141) rfl rfl (V.mv rfl) ?_
              refine J.val (v := .int .i64 (IntKind.wrap .i64 (i141 * 256))) rfl rfl (V.mul rfl rfl) ?_
              refine J.val (v := .string ⟨xa.toArray⟩) rfl rfl (V.mv rfl) ?_
              refine J.val (v := .int .i64 i142) rfl rfl (V.mv rfl) ?_
              obtain ⟨x156, hx157, h151⟩ := ob h151
              obtain ⟨p158, p159, p160⟩ := getI_some hx157
              refine J.val (v := .int .u8 (((x156.toNat : Nat) : Int))) rfl rfl (V.ixs Try.underlying9 rfl rfl p158 p159) ?_
              refine J.val (v := .int .i64 (IntKind.wrap .i64 (((x156.toNat : Nat) : Int)))) rfl rfl (V.conv Try.underlying5 Try.underlying3 rfl) ?_
              refine J.val (v := .int .i64 (IntKind.wrap .i64 ((IntKind.wrap .i64 (i141 * 256)) + (IntKind.wrap .i64 (((x156.toNat : Nat) : Int)))))) rfl rfl (V.add rfl rfl) ?_
              refine J.val (v := .int .i64 (IntKind.wrap .i64 ((IntKind.wrap .i64 (i141 * 256)) + (IntKind.wrap .i64 (((x156.toNat : Nat) : Int)))))) rfl rfl (V.as rfl) ?_
              refine J.nil ?_
              refine CJ.region ?_
              refine J.val (v := .int .i64 i142) rfl rfl (V.mv rfl) ?_
              refine J.val (v := .int .i64 (IntKind.wrap .i64 (i142 + 1))) rfl rfl (V.add rfl rfl) ?_
              refine J.val (v := .int .i64 (IntKind.wrap .i64 (i142 + 1))) rfl rfl (V.as rfl) ?_
              refine J.nil ?_
              have e := Option.some.inj h151
              subst e
              exact ⟨rfl, ⟨IntKind.wrap .i64 ((IntKind.wrap .i64 (i141 * 256)) + (IntKind.wrap .i64 (((x156.toNat : Nat) : Int)))), IntKind.wrap .i64 (i142 + 1), rfl, ⟨rfl, rfl, rfl, rfl, trivial⟩, rfl, rfl⟩⟩
            · have h151 := cf hc155 h151
              refine CJ.exit ?_
              have e := Option.some.inj h151
              subst e
              refine ⟨nofun, fun e => ?_⟩
              subst e
              exact ⟨rfl, ⟨i141, rfl, ⟨rfl, rfl, rfl, trivial⟩, rfl, rfl⟩⟩
          · rintro ρ _ _ ⟨i130, rfl, hf161, rfl, rfl⟩
            obtain ⟨ρ, rfl⟩ := hf161.ex
            refine PJ.done ?_
            refine CJ.seq ?_
            refine CJ.seq ?_
            refine CJ.mix [] [([0, 2, 3, 4, 5], 1)] [6] [] mixO (by decide +kernel) trivial rfl rfl rfl ?_
            refine JM.cons ?_
            refine JQ.val (v := .int .i64 i130) rfl rfl (V.mv rfl) ?_
            refine JQ.val (v := .string ⟨xa.toArray⟩) rfl rfl (V.mv rfl) ?_
            refine JQ.val (v := .int .i64 (IntKind.wrap .i64 ((IntKind.wrap .i64 (((x94.toNat : Nat) : Int))) - 247))) rfl rfl (V.mv rfl) ?_
            refine JQ.val (v := .int .i64 (IntKind.wrap .i64 (1 + (IntKind.wrap .i64 ((IntKind.wrap .i64 (((x94.toNat : Nat) : Int))) - 247))))) rfl rfl (V.add rfl rfl) ?_
            obtain ⟨y171, hy172, h⟩ := ob h
            refine JQ.val (v := .string ⟨y171.toArray⟩) rfl rfl (V.subs Try.underlying9 rfl nofun (fun _ => rfl) (fun _ h => by cases h; exact ⟨_, rfl⟩) nofun hy172) ?_
            refine JQ.nil ?_
            obtain ⟨r173, hr174, h⟩ := ob h
            refine JA.op rfl (A.call (L1 := []) Try.call54 rfl (ref02_Put_ok hr174) rfl rfl) ?_
            rintro _ _ _ ⟨v176, _, rfl, ⟨⟨s175, rfl, rfl, rfl⟩, rfl⟩, _, rfl⟩
            refine ⟨fun w hs => Hold.sub (Hp.le_refl _) trivial hs, ?_⟩
            refine JM.nil ?_
            refine JQ.val (v := .bool (!decide (s175 = y171))) rfl rfl (V.nes rfl rfl) ?_
            refine JQ.nil ?_
            refine J.nil ?_
            refine CJ.cond rfl (fun hc179 => ?_) (fun hc179 => ?_)
            · have h := ct hc179 h
              refine CJ.seq ?_
              refine CJ.region ?_
              refine J.val (v := .int .i64 0) rfl rfl (V.as rfl) ?_
              refine J.val (v := .int .i64 0) rfl rfl (V.as rfl) ?_
              refine J.val (v := .int .i64 3) rfl rfl (V.as rfl) ?_
              refine J.nil ?_
              refine CJ.ret ?_
              have e := Option.some.inj h
              subst e
              exact ⟨_, [], Res.three rfl rfl rfl rfl, ⟨0, 0, 3, rfl, rfl, rfl⟩, (Hp.le_refl _), fun w hs => hs⟩
            · have h := cf hc179 h
              refine CJ.skip ?_
              refine CJ.seq ?_
              refine CJ.region ?_
              refine J.val (v := .int .i64 i130) rfl rfl (V.mv rfl) ?_
              refine J.val (v := .int .i64 (IntKind.wrap .i64 ((IntKind.wrap .i64 (((x94.toNat : Nat) : Int))) - 247))) rfl rfl (V.mv rfl) ?_
              refine J.val (v := .int .i64 (IntKind.wrap .i64 (1 + (IntKind.wrap .i64 ((IntKind.wrap .i64 (((x94.toNat : Nat) : Int))) - 247))))) rfl rfl (V.add rfl rfl) ?_
              refine J.val (v := .int .i64 i130) rfl rfl (V.as rfl) ?_
              refine J.val (v := .int .i64 (IntKind.wrap .i64 (1 + (IntKind.wrap .i64 ((IntKind.wrap .i64 (((x94.toNat : Nat) : Int))) - 247))))) rfl rfl (V.as rfl) ?_
              refine J.val (v := .int .i64 0) rfl rfl (V.as rfl) ?_
              refine J.nil ?_
              refine CJ.ret ?_
              have e := Option.some.inj h
              subst e
              exact ⟨_, [], Res.three rfl rfl rfl rfl, ⟨i130, IntKind.wrap .i64 (1 + (IntKind.wrap .i64 ((IntKind.wrap .i64 (((x94.toNat : Nat) : Int))) - 247))), 0, rfl, rfl, rfl⟩, (Hp.le_refl _), fun w hs => hs⟩
noncomputable def fn_ref17_TakeType_l1 (xa : (List UInt8)) (i212 : Int) : (Int × (List (Int × Bool)) × Int) → Option ((Int × (List (Int × Bool)) × Int) ⊕ ((Int × (List (Int × Bool))) ⊕ ((List (Int × Bool)) × Int × Int))) := fun ((i349, l350, i355) : (Int × (List (Int × Bool)) × Int)) => cond (decide (i355 < i212)) ((subL xa i349 (((xa.length : Nat) : Int))).bind fun y389 => (fn_ref02_Take y389).bind fun (i393, i394, i395) => cond (!decide (i395 = 0)) (some (.inr ((.inr (([], 0, i395)))))) ((app l350 (([(IntKind.wrap .i64 (Int.tdiv i393 2), decide ((Int.tmod i393 2) = 1))] : List (Int × Bool)))).bind fun z404 => some (.inl ((IntKind.wrap .i64 (i349 + i394), z404, IntKind.wrap .i64 (i355 + 1)))))) (some (.inr ((.inl (i349, l350)))))
noncomputable def fn_ref17_TakeType (xa : (List UInt8)) : Option (((List (Int × Bool)) × Int × Int)) :=
  (fn_ref02_Take xa).bind fun (i212, i213, i214) => cond (!decide (i214 = 0)) (some (([], 0, i214))) (cond (decide (16 < i212)) (some (([], 0, 6))) ((loop (fn_ref17_TakeType_l1 xa i212) ((i213, ([] : List (Int × Bool)), 0)) : Option ((Int × (List (Int × Bool))) ⊕ ((List (Int × Bool)) × Int × Int))).bind fun o => match o with | .inr r => some r | .inl (i313, l314) => some ((l314, i313, 0))))
set_option maxRecDepth 100000 in
set_option maxHeartbeats 4000000 in
theorem ref17_TakeType_ok {K : Hp} {xa : (List UInt8)}   {r : ((List (Int × Bool)) × Int × Int)} (h : fn_ref17_TakeType xa = some r) :
    Tr Try.prog 17 #[.string ⟨xa.toArray⟩] K [] (fun v K' L' => (∃ (l202 : (List (Int × Bool))) (i207 : Int) (i208 : Int) (ad203 : Option Addr) (cp204 : Nat), (l202, i207, i208) = r ∧ .tuple #[.agg #[.slice ad203 l202.length cp204], .int .i64 i207, .int .i64 i208] = v ∧ L' = [Row Hp.nil 60 (.cons (.int .i64) (.one .bool)) (.slice ad203 l202.length cp204) l202]) ∧ K = K') := by
  refine Tr.k ?_
  refine Tr.of Try.func17 rfl Try.ntmps17 rfl (fun E F => ?_)
  unfold fn_ref17_TakeType at h
  refine CJ.seq ?_
  refine CJ.region ?_
  refine J.op rfl (A.alloc (cs := [.slice none 0 0]) inf26 rfl) ?_
  rintro _ _ _ ⟨b209, rfl, rfl, rfl⟩
  refine J.val (v := .int .i64 0) rfl rfl (V.as rfl) ?_
  refine J.val (v := .int .i64 0) rfl rfl (V.as rfl) ?_
  refine J.nil ?_
  refine CJ.seq ?_
  refine CJ.region ?_
  refine J.val (v := .string ⟨xa.toArray⟩) rfl rfl (V.mv rfl) ?_
  obtain ⟨r210, hr211, h⟩ := ob h
  refine J.op rfl (A.call (L1 := []) Try.call40 rfl (ref02_Take_ok hr211) rfl rfl) ?_
  rintro _ _ _ ⟨v215, _, rfl, ⟨⟨i212, i213, i214, rfl, rfl, rfl⟩, rfl⟩, _, rfl⟩
  refine J.val (v := .tuple #[.int .i64 i212, .int .i64 i213, .int .i64 i214]) rfl rfl (V.mv rfl) ?_
  refine J.val (v := .int .i64 i212) rfl rfl (V.ext rfl rfl) ?_
  refine J.val (v := .int .i64 i213) rfl rfl (V.ext rfl rfl) ?_
  refine J.val (v := .int .i64 i214) rfl rfl (V.ext rfl rfl) ?_
  refine J.val (v := .int .i64 i212) rfl rfl (V.as rfl) ?_
  refine J.val (v := .int .i64 i213) rfl rfl (V.as rfl) ?_
  refine J.val (v := .int .i64 i214) rfl rfl (V.as rfl) ?_
  refine J.nil ?_
  refine CJ.seq ?_
  refine CJ.seq ?_
  refine CJ.region ?_
  refine J.val (v := .int .i64 i214) rfl rfl (V.mv rfl) ?_
  refine J.val (v := .bool (!decide (i214 = 0))) rfl rfl (V.neq rfl rfl) ?_
  refine J.nil ?_
  refine CJ.cond rfl (fun hc218 => ?_) (fun hc218 => ?_)
  · have h := ct hc218 h
    refine CJ.seq ?_
    refine CJ.region ?_
    refine J.val (v := .agg #[.slice none 0 0]) rfl rfl (V.build inf26 places26 rfl rfl) ?_
    refine J.val (v := .int .i64 i214) rfl rfl (V.mv rfl) ?_
    refine J.op rfl (A.store (v := .agg #[.slice none 0 0]) (cs' := [.slice none 0 0]) sz26 rfl rfl rfl rfl rfl rfl) ?_
    rintro _ _ _ ⟨rfl, rfl, rfl⟩
    refine J.val (v := .int .i64 0) rfl rfl (V.as rfl) ?_
    refine J.val (v := .int .i64 i214) rfl rfl (V.as rfl) ?_
    refine J.nil ?_
    refine CJ.by (fun w hs => Sep.rowNil (e := 60) (t := (.cons (.int .i64) (.one .bool))) hs) ?_
    refine CJ.ret ?_
    have e := Option.some.inj h
    subst e
    exact ⟨_, [Row Hp.nil 60 (.cons (.int .i64) (.one .bool)) (.slice none ((([] : List (Int × Bool))).length) 0) (([] : List (Int × Bool)))], Res.three rfl ⟨_, _, rfl, Ld.agg (cs := [.slice none 0 0]) Try.underlying26 sz26 rfl (Rd.cls 1 0 rfl rfl)⟩ rfl rfl, ⟨[], 0, i214, none, 0, rfl, rfl, rfl⟩, (Hp.le_refl _), fun w hs => (Sep.dropAt 1 rfl hs)⟩
  · have h := cf hc218 h
    refine CJ.skip ?_
    refine CJ.seq ?_
    refine CJ.seq ?_
    refine CJ.region ?_
    refine J.val (v := .int .i64 i212) rfl rfl (V.mv rfl) ?_
    refine J.val (v := .bool (decide (16 < i212))) rfl rfl (V.gtr rfl rfl) ?_
    refine J.nil ?_
    refine CJ.cond rfl (fun hc220 => ?_) (fun hc220 => ?_)
    · have h := ct hc220 h
      refine CJ.seq ?_
      refine CJ.region ?_
      refine J.val (v := .agg #[.slice none 0 0]) rfl rfl (V.build inf26 places26 rfl rfl) ?_
      refine J.op rfl (A.store (v := .agg #[.slice none 0 0]) (cs' := [.slice none 0 0]) sz26 rfl rfl rfl rfl rfl rfl) ?_
      rintro _ _ _ ⟨rfl, rfl, rfl⟩
      refine J.val (v := .int .i64 0) rfl rfl (V.as rfl) ?_
      refine J.val (v := .int .i64 6) rfl rfl (V.as rfl) ?_
      refine J.nil ?_
      refine CJ.by (fun w hs => Sep.rowNil (e := 60) (t := (.cons (.int .i64) (.one .bool))) hs) ?_
      refine CJ.ret ?_
      have e := Option.some.inj h
      subst e
      exact ⟨_, [Row Hp.nil 60 (.cons (.int .i64) (.one .bool)) (.slice none ((([] : List (Int × Bool))).length) 0) (([] : List (Int × Bool)))], Res.three rfl ⟨_, _, rfl, Ld.agg (cs := [.slice none 0 0]) Try.underlying26 sz26 rfl (Rd.cls 1 0 rfl rfl)⟩ rfl rfl, ⟨[], 0, 6, none, 0, rfl, rfl, rfl⟩, (Hp.le_refl _), fun w hs => (Sep.dropAt 1 rfl hs)⟩
    · have h := cf hc220 h
      refine CJ.skip ?_
      refine CJ.seq ?_
      refine CJ.region ?_
      refine J.op rfl (A.lit (K0 := Hp.nil) (ty := (.cons (.int .i64) (.one .bool))) (xs := ([] : List (Int × Bool))) Try.underlying24 inf60 rfl (by decide) rfl rfl rfl rfl rfl (by decide)) ?_
      rintro _ _ _ ⟨b222, rfl, rfl, rfl⟩
      have hn223 : ([] : List (Int × Bool)) ≠ [] → ∃ g, (some ⟨b222, 0, none⟩ : Option Addr) = some ⟨g, 0, none⟩ := fun _ => ⟨b222, rfl⟩
      refine J.val (v := .slice (some ⟨b222, 0, none⟩) ((([] : List (Int × Bool))).length) 0) rfl rfl (V.as rfl) ?_
      refine J.nil ?_
      refine CJ.seq ?_
      refine CJ.seq ?_
      refine CJ.region ?_
      refine J.val (v := .int .i64 0) rfl rfl (V.as rfl) ?_
      refine J.nil ?_
      obtain ⟨o319, ho320, h⟩ := ob h
      refine CJ.joinN (o := o319) (fun s ρ K' L' => ∃ (i313 : Int) (l314 : (List (Int × Bool))) (ad315 : Option Addr) (cp316 : Nat), (i313, l314) = s ∧ Fits [(2, .pointer (some ⟨b209, 0, none⟩)), (6, .int .i64 i313), (8, .slice ad315 l314.length cp316)] ρ ∧ K = K' ∧ L' = Cl b209 26 [.slice none 0 0] :: Row Hp.nil 60 (.cons (.int .i64) (.one .bool)) (.slice ad315 l314.length cp316) l314 :: F) ?_ ?_
      · skip
        refine CJ.block ?_
        refine CJ.front 1 rfl ?_
        refine CJ.loop (fun s ρ K' L' => ∃ (i349 : Int) (l350 : (List (Int × Bool))) (i355 : Int) (ad351 : Option Addr) (cp352 : Nat), (i349, l350, i355) = s ∧ Fits [(0, .string ⟨xa.toArray⟩), (2, .pointer (some ⟨b209, 0, none⟩)), (5, .int .i64 i212), (6, .int .i64 i349), (8, .slice ad351 l350.length cp352), (9, .int .i64 i355)] ρ ∧ K = K' ∧ L' = Cl b209 26 [.slice none 0 0] :: Row Hp.nil 60 (.cons (.int .i64) (.one .bool)) (.slice ad351 l350.length cp352) l350 :: F) ho320 ⟨i213, ([] : List (Int × Bool)), 0, (some ⟨b222, 0, none⟩), 0, rfl, ⟨rfl, rfl, rfl, rfl, rfl, rfl, trivial⟩, rfl, rfl⟩ ?_
        rintro s ρ _ _ r387 ⟨i349, l350, i355, ad351, cp352, rfl, hf385, rfl, rfl⟩ h384
        obtain ⟨ρ, rfl⟩ := hf385.ex
        refine CJ.front 1 rfl ?_
        refine CJ.wit Row.hn (fun hn354 => ?_)
        refine CJ.seq ?_
        refine CJ.seq ?_
        refine CJ.region ?_
        refine J.val (v := .int .i64 i355) rfl rfl (V.mv rfl) ?_
        refine J.val (v := .int .i64 i212) rfl rfl (V.mv rfl) ?_
        refine J.val (v := .bool (decide (i355 < i212))) rfl rfl (V.lss rfl rfl) ?_
        refine J.nil ?_
        refine CJ.cond rfl (fun hc388 => ?_) (fun hc388 => ?_)
        · have h384 := ct hc388 h384
          refine CJ.skip ?_
          refine CJ.seq ?_
          refine CJ.block ?_
          refine CJ.seq ?_
          refine CJ.region ?_
          refine J.val (v := .string ⟨xa.toArray⟩) rfl rfl (V.mv rfl) ?_
          refine J.val (v := .int .i64 i349) rfl rfl (V.mv rfl) ?_
          obtain ⟨y389, hy390, h384⟩ := ob h384
          refine J.val (v := .string ⟨y389.toArray⟩) rfl rfl (V.subs Try.underlying9 rfl (fun _ h => by cases h; exact ⟨_, rfl⟩) nofun nofun (fun _ => rfl) hy390) ?_
          obtain ⟨r391, hr392, h384⟩ := ob h384
          refine J.op rfl (A.call (L1 := []) Try.call40 rfl (ref02_Take_ok hr392) rfl rfl) ?_
          rintro _ _ _ ⟨v396, _, rfl, ⟨⟨i393, i394, i395, rfl, rfl, rfl⟩, rfl⟩, _, rfl⟩
          refine J.val (v := .tuple #[.int .i64 i393, .int .i64 i394, .int .i64 i395]) rfl rfl (V.mv rfl) ?_
          refine J.val (v := .int .i64 i393) rfl rfl (V.ext rfl rfl) ?_
          refine J.val (v := .int .i64 i394) rfl rfl (V.ext rfl rfl) ?_
          refine J.val (v := .int .i64 i395) rfl rfl (V.ext rfl rfl) ?_
          refine J.val (v := .int .i64 i393) rfl rfl (V.as rfl) ?_
          refine J.val (v := .int .i64 i394) rfl rfl (V.as rfl) ?_
          refine J.val (v := .int .i64 i395) rfl rfl (V.as rfl) ?_
          refine J.nil ?_
          refine CJ.seq ?_
          refine CJ.seq ?_
          refine CJ.region ?_
          refine J.val (v := .int .i64 i395) rfl rfl (V.mv rfl) ?_
          refine J.val (v := .bool (!decide (i395 = 0))) rfl rfl (V.neq rfl rfl) ?_
          refine J.nil ?_
          refine CJ.cond rfl (fun hc399 => ?_) (fun hc399 => ?_)
          · have h384 := ct hc399 h384
            refine CJ.seq ?_
            refine CJ.region ?_
            refine J.val (v := .agg #[.slice none 0 0]) rfl rfl (V.build inf26 places26 rfl rfl) ?_
            refine J.val (v := .int .i64 i395) rfl rfl (V.mv rfl) ?_
            refine J.front 1 rfl ?_
            refine J.op rfl (A.store (v := .agg #[.slice none 0 0]) (cs' := [.slice none 0 0]) sz26 rfl rfl rfl rfl rfl rfl) ?_
            rintro _ _ _ ⟨rfl, rfl, rfl⟩
            refine J.val (v := .int .i64 0) rfl rfl (V.as rfl) ?_
            refine J.val (v := .int .i64 i395) rfl rfl (V.as rfl) ?_
            refine J.nil ?_
            refine CJ.by (fun w hs => Sep.rowNil (e := 60) (t := (.cons (.int .i64) (.one .bool))) hs) ?_
            refine CJ.ret ?_
            have e := Option.some.inj h384
            subst e
            refine ⟨nofun, fun e => ?_⟩
            subst e
            refine .inr ⟨nofun, ?_⟩
            have e := Option.some.inj h
            subst e
            exact ⟨_, [Row Hp.nil 60 (.cons (.int .i64) (.one .bool)) (.slice none ((([] : List (Int × Bool))).length) 0) (([] : List (Int × Bool)))], Res.three rfl ⟨_, _, rfl, Ld.agg (cs := [.slice none 0 0]) Try.underlying26 sz26 rfl (Rd.cls 1 0 rfl rfl)⟩ rfl rfl, ⟨[], 0, i395, none, 0, rfl, rfl, rfl⟩, (Hp.le_refl _), fun w hs => (Sep.dropAt 1 rfl (Sep.dropAt 1 rfl hs))⟩
          · have h384 := cf hc399 h384
            refine CJ.skip ?_
            refine CJ.seq ?_
            refine CJ.region ?_
            refine J.val (v := .slice ad351 l350.length cp352) rfl rfl (V.mv rfl) ?_
            refine J.val (v := .int .i64 i393) rfl rfl (V.mv rfl) ?_
            refine J.val (v := .int .i64 (IntKind.wrap .i64 (Int.tdiv i393 2))) rfl rfl (V.quo rfl rfl (by decide)) ?_
            refine J.val (v := .int .i64 i393) rfl rfl (V.mv rfl) ?_
            refine J.val (v := .int .i64 (Int.tmod i393 2)) rfl rfl (V.rem rfl rfl (by decide)) ?_
            refine J.val (v := .bool (decide ((Int.tmod i393 2) = 1))) rfl rfl (V.eql rfl rfl) ?_
            refine J.val (v := .agg #[.int .i64 (IntKind.wrap .i64 (Int.tdiv i393 2)), .bool (decide ((Int.tmod i393 2) = 1))]) rfl rfl (V.build inf60 places60 rfl rfl) ?_
            refine J.op rfl (A.lit (K0 := Hp.nil) (ty := (.cons (.int .i64) (.one .bool))) (xs := ([(IntKind.wrap .i64 (Int.tdiv i393 2), decide ((Int.tmod i393 2) = 1))] : List (Int × Bool))) Try.underlying24 inf60 rfl (by decide) rfl rfl rfl ⟨_, _, rfl, ⟨_, _, rfl, rfl, rfl, rfl⟩, rfl⟩ rfl (by decide)) ?_
            rintro _ _ _ ⟨b401, rfl, rfl, rfl⟩
            have hn402 : ([(IntKind.wrap .i64 (Int.tdiv i393 2), decide ((Int.tmod i393 2) = 1))] : List (Int × Bool)) ≠ [] → ∃ g, (some ⟨b401, 0, none⟩ : Option Addr) = some ⟨g, 0, none⟩ := fun _ => ⟨b401, rfl⟩
            obtain ⟨z404, hz405, h384⟩ := ob h384
            refine J.front 1 rfl ?_
            refine J.op rfl (A.appR (Kr := Hp.nil) Try.underlying24 inf60 rfl rfl (by decide) (by decide) rfl rfl (Els.flat rfl) (Els.flat rfl) hz405) ?_
            rintro _ _ _ ⟨v406, rfl, rfl, rfl⟩
            refine J.wit Row.form ?_
            rintro ⟨ad407, cp408, rfl, _, _, hn409⟩
            refine J.val (v := .slice ad407 z404.length cp408) rfl rfl (V.as rfl) ?_
            refine J.nil ?_
            refine CJ.region ?_
            refine J.val (v := .int .i64 i349) rfl rfl (V.mv rfl) ?_
            refine J.val (v := .int .i64 i394) rfl rfl (V.mv rfl) ?_
            refine J.val (v := .int .i64 (IntKind.wrap .i64 (i349 + i394))) rfl rfl (V.add rfl rfl) ?_
            refine J.val (v := .int .i64 (IntKind.wrap .i64 (i349 + i394))) rfl rfl (V.as rfl) ?_
            refine J.nil ?_
            refine CJ.region ?_
            refine J.val (v := .int .i64 i355) rfl rfl (V.mv rfl) ?_
            refine J.val (v := .int .i64 (IntKind.wrap .i64 (i355 + 1))) rfl rfl (V.add rfl rfl) ?_
            refine J.val (v := .int .i64 (IntKind.wrap .i64 (i355 + 1))) rfl rfl (V.as rfl) ?_
            refine J.front 1 rfl ?_
            refine J.nil ?_
            have e := Option.some.inj h384
            subst e
            exact ⟨rfl, ⟨IntKind.wrap .i64 (i349 + i394), z404, IntKind.wrap .i64 (i355 + 1), ad407, cp408, rfl, ⟨rfl, rfl, rfl, rfl, rfl, rfl, trivial⟩, rfl, rfl⟩⟩
        · have h384 := cf hc388 h384
          refine CJ.front 1 rfl ?_
          refine CJ.exit ?_
          have e := Option.some.inj h384
          subst e
          refine ⟨nofun, fun e => ?_⟩
          subst e
          exact .inl ⟨rfl, _, rfl, ⟨i349, l350, ad351, cp352, rfl, ⟨rfl, rfl, rfl, trivial⟩, rfl, rfl⟩⟩
      · rintro s ρ _ _ ho410 ⟨i313, l314, ad315, cp316, rfl, hf411, rfl, rfl⟩
        subst ho410
        obtain ⟨ρ, rfl⟩ := hf411.ex
        refine PJ.front 1 rfl ?_
        refine PJ.wit Row.hn (fun hn318 => ?_)
        refine PJ.done ?_
        refine CJ.seq ?_
        refine CJ.region ?_
        refine J.val (v := .slice ad315 l314.length cp316) rfl rfl (V.mv rfl) ?_
        refine J.val (v := .agg #[.slice ad315 l314.length cp316]) rfl rfl (V.build inf26 places26 rfl rfl) ?_
        refine J.val (v := .int .i64 i313) rfl rfl (V.mv rfl) ?_
        refine J.front 1 rfl ?_
        refine J.op rfl (A.store (v := .agg #[.slice ad315 l314.length cp316]) (cs' := [.slice ad315 l314.length cp316]) sz26 rfl rfl rfl rfl rfl rfl) ?_
        rintro _ _ _ ⟨rfl, rfl, rfl⟩
        refine J.val (v := .int .i64 i313) rfl rfl (V.as rfl) ?_
        refine J.val (v := .int .i64 0) rfl rfl (V.as rfl) ?_
        refine J.nil ?_
        refine CJ.ret ?_
        have e := Option.some.inj h
        subst e
        exact ⟨_, [Row Hp.nil 60 (.cons (.int .i64) (.one .bool)) (.slice ad315 l314.length cp316) l314], Res.three rfl ⟨_, _, rfl, Ld.agg (cs := [.slice ad315 l314.length cp316]) Try.underlying26 sz26 rfl (Rd.cls 0 0 rfl rfl)⟩ rfl rfl, ⟨l314, i313, 0, ad315, cp316, rfl, rfl, rfl⟩, (Hp.le_refl _), fun w hs => (Sep.dropAt 0 rfl hs)⟩
noncomputable def fn_sig_reader_bounds_p0i_si_l1 (qa0 : List UInt8) (i381 : Int) : ((List (Int × Int)) × Int × Int × Int) → Option (((List (Int × Int)) × Int × Int × Int) ⊕ ((List (Int × Int)) × Int × Int)) := fun ((l625, i630, i631, i632) : ((List (Int × Int)) × Int × Int × Int)) => cond ((decide (i631 < i381)) && (decide (i630 = 0))) ((fn_sig_reader_number_p0_si qa0 i632).bind fun (i700, i701, i702) => (cond (decide (i701 = 0)) ((fn_sig_reader_number_p0_si qa0 i702).bind fun (i723, i724, i725) => some ((i724, i725, i723))) (some ((i701, i702, 0))) : Option (Int × Int × Int)).bind fun (i715, i716, i717) => (app l625 (([(i700, i717)] : List (Int × Int)))).bind fun z734 => some (.inl ((z734, i715, IntKind.wrap .i64 (i631 + 1), i716)))) (some (.inr (((l625, i630, i632)))))
noncomputable def fn_sig_reader_bounds_p0i_si (xb : Int) (qa0 : List UInt8) (qa1 : Int) : Option (((List (Int × Int)) × Int × Int)) :=
  (fn_sig_reader_many_p0i_si xb qa0 qa1).bind fun (i381, i382, i383) => (loop (fn_sig_reader_bounds_p0i_si_l1 qa0 i381) ([], i382, 0, i383) : Option (((List (Int × Int)) × Int × Int))).bind fun (l559, i564, i565) => some ((l559, i564, i565))
set_option maxRecDepth 100000 in
set_option maxHeartbeats 4000000 in
theorem sig_reader_bounds_p0i_si_ok {K : Hp} {xb : Int} {qa0 : List UInt8} {qa1 : Int} {pba : Nat}  {r : ((List (Int × Int)) × Int × Int)} (h : fn_sig_reader_bounds_p0i_si xb qa0 qa1 = some r) :
    Tr Try.prog 41 #[.pointer (some ⟨pba, 0, none⟩), .int .i64 xb] K [Cl pba 74 [.string ⟨qa0.toArray⟩, .int .i64 qa1]] (fun v K' L' => (∃ (l372 : (List (Int × Int))) (i377 : Int) (i378 : Int) (ad373 : Option Addr) (cp374 : Nat), (l372, i377, i378) = r ∧ .tuple #[.slice ad373 l372.length cp374, .int .i64 i377] = v ∧ L' = [Cl pba 74 [.string ⟨qa0.toArray⟩, .int .i64 i378], Row Hp.nil 63 (.cons (.int .i64) (.one (.int .i64))) (.slice ad373 l372.length cp374) l372]) ∧ K = K') := by
  refine Tr.k ?_
  refine Tr.of Try.func41 rfl Try.ntmps41 rfl (fun E F => ?_)
  unfold fn_sig_reader_bounds_p0i_si at h
  refine CJ.seq ?_
  refine CJ.region ?_
  refine J.val (v := .slice none 0 0) rfl rfl (V.as rfl) ?_
  refine J.val (v := .int .i64 0) rfl rfl (V.as rfl) ?_
  refine J.nil ?_
  refine CJ.seq ?_
  refine CJ.region ?_
  refine J.val (v := .slice none 0 0) rfl rfl (V.as rfl) ?_
  refine J.nil ?_
  refine CJ.seq ?_
  refine CJ.region ?_
  refine J.val rfl rfl (V.mv rfl) ?_
  refine J.val (v := .int .i64 xb) rfl rfl (V.mv rfl) ?_
  obtain ⟨r379, hr380, h⟩ := ob h
  refine J.op rfl (A.call (L1 := [Cl pba 74 [.string ⟨qa0.toArray⟩, .int .i64 qa1]]) Try.call60 rfl (sig_reader_many_p0i_si_ok hr380) rfl rfl) ?_
  rintro _ _ _ ⟨v384, _, rfl, ⟨⟨i381, i382, i383, rfl, rfl, rfl⟩, rfl⟩, _, rfl⟩
  refine J.val (v := .tuple #[.int .i64 i381, .int .i64 i382]) rfl rfl (V.mv rfl) ?_
  refine J.val (v := .int .i64 i381) rfl rfl (V.ext rfl rfl) ?_
  refine J.val (v := .int .i64 i382) rfl rfl (V.ext rfl rfl) ?_
  refine J.val (v := .int .i64 i381) rfl rfl (V.as rfl) ?_
  refine J.val (v := .int .i64 i382) rfl rfl (V.as rfl) ?_
  refine J.nil ?_
  refine CJ.seq ?_
  refine CJ.seq ?_
  refine CJ.region ?_
  refine J.val (v := .int .i64 0) rfl rfl (V.as rfl) ?_
  refine J.nil ?_
  obtain ⟨o566, ho567, h⟩ := ob h
  refine CJ.meetN (fun ρ K' L' => ∃ (l559 : (List (Int × Int))) (i564 : Int) (i565 : Int) (ad560 : Option Addr) (cp561 : Nat), (l559, i564, i565) = o566 ∧ Fits [(6, .slice ad560 l559.length cp561), (8, .int .i64 i564)] ρ ∧ K = K' ∧ L' = Cl pba 74 [.string ⟨qa0.toArray⟩, .int .i64 i565] :: Row Hp.nil 63 (.cons (.int .i64) (.one (.int .i64))) (.slice ad560 l559.length cp561) l559 :: F) ?_ ?_
  · skip
    refine CJ.block ?_
    refine CJ.by (fun w hs => Sep.rowNil (e := 63) (t := (.cons (.int .i64) (.one (.int .i64)))) hs) ?_
    refine CJ.front 1 rfl ?_
    refine CJ.loop (fun s ρ K' L' => ∃ (l625 : (List (Int × Int))) (i630 : Int) (i631 : Int) (i632 : Int) (ad626 : Option Addr) (cp627 : Nat), (l625, i630, i631, i632) = s ∧ Fits [(0, .pointer (some ⟨pba, 0, none⟩)), (6, .slice ad626 l625.length cp627), (7, .int .i64 i381), (8, .int .i64 i630), (9, .int .i64 i631)] ρ ∧ K = K' ∧ L' = Cl pba 74 [.string ⟨qa0.toArray⟩, .int .i64 i632] :: Row Hp.nil 63 (.cons (.int .i64) (.one (.int .i64))) (.slice ad626 l625.length cp627) l625 :: F) ho567 ⟨[], i382, 0, i383, none, 0, rfl, ⟨rfl, rfl, rfl, rfl, rfl, trivial⟩, rfl, rfl⟩ ?_
    rintro s ρ _ _ r692 ⟨l625, i630, i631, i632, ad626, cp627, rfl, hf690, rfl, rfl⟩ h688
    obtain ⟨ρ, rfl⟩ := hf690.ex
    refine CJ.front 1 rfl ?_
    refine CJ.wit Row.hn (fun hn629 => ?_)
    refine CJ.seq ?_
    refine CJ.seq ?_
    refine CJ.region ?_
    refine J.val (v := .int .i64 i631) rfl rfl (V.mv rfl) ?_
    refine J.val (v := .int .i64 i381) rfl rfl (V.mv rfl) ?_
    refine J.val (v := .bool (decide (i631 < i381))) rfl rfl (V.lss rfl rfl) ?_
    refine J.val (v := .bool (decide (i631 < i381))) rfl rfl (V.mv rfl) ?_
    refine J.cut 3 ?_
    refine @J.meet _ _ _ _ _ _ _ _ _ _ (fun ρ K' L' => Fits [(23, .bool ((decide (i631 < i381)) && (decide (i630 = 0)))), (0, .pointer (some ⟨pba, 0, none⟩)), (6, .slice ad626 l625.length cp627), (7, .int .i64 i381), (8, .int .i64 i630), (9, .int .i64 i631)] ρ ∧ K = K' ∧ L' = Row Hp.nil 63 (.cons (.int .i64) (.one (.int .i64))) (.slice ad626 l625.length cp627) l625 :: Cl pba 74 [.string ⟨qa0.toArray⟩, .int .i64 i632] :: F) ?_ ?_
    · skip
      rcases bt (decide (i631 < i381)) with hc695 | hc695
      · skip
        refine J.run rfl rfl rfl hc695 ?_
        refine J.val (v := .int .i64 i630) rfl rfl (V.mv rfl) ?_
        refine J.run rfl rfl rfl hc695 ?_
        refine J.val (v := .bool (decide (i630 = 0))) rfl rfl (V.eql rfl rfl) ?_
        refine J.val (v := .bool (decide (i630 = 0))) rfl rfl (V.pickT rfl hc695 rfl) ?_
        refine J.nil ?_
        exact ⟨rfl, ⟨(by simp only [hc695]; rfl), rfl, rfl, rfl, rfl, rfl, trivial⟩, rfl, rfl⟩
      · skip
        refine J.skip rfl rfl rfl rfl hc695 ?_
        refine J.skip rfl rfl rfl rfl hc695 ?_
        refine J.val (v := .bool false) rfl rfl (V.pickF rfl hc695 rfl) ?_
        refine J.nil ?_
        exact ⟨rfl, ⟨(by simp only [hc695]; rfl), rfl, rfl, rfl, rfl, rfl, trivial⟩, rfl, rfl⟩
    · rintro ρ _ _ ⟨hf, rfl, rfl⟩
      obtain ⟨ρ, rfl⟩ := hf.ex
      refine J.nil ?_
      refine CJ.cond rfl (fun hc696 => ?_) (fun hc696 => ?_)
      · have h688 := ct hc696 h688
        refine CJ.skip ?_
        refine CJ.seq ?_
        refine CJ.block ?_
        refine CJ.seq ?_
        refine CJ.region ?_
        refine J.op rfl (A.alloc (cs := [.int .i64 0, .int .i64 0]) inf63 rfl) ?_
        rintro _ _ _ ⟨b697, rfl, rfl, rfl⟩
        refine J.nil ?_
        refine CJ.seq ?_
        refine CJ.region ?_
        refine J.val rfl rfl (V.mv rfl) ?_
        obtain ⟨r698, hr699, h688⟩ := ob h688
        refine J.front 2 rfl ?_
        refine J.op rfl (A.call (L1 := [Cl pba 74 [.string ⟨qa0.toArray⟩, .int .i64 i632]]) Try.call43 rfl (sig_reader_number_p0_si_ok hr699) rfl rfl) ?_
        rintro _ _ _ ⟨v703, _, rfl, ⟨⟨i700, i701, i702, rfl, rfl, rfl⟩, rfl⟩, _, rfl⟩
        refine J.val (v := .tuple #[.int .i64 i700, .int .i64 i701]) rfl rfl (V.mv rfl) ?_
        refine J.val (v := .int .i64 i700) rfl rfl (V.ext rfl rfl) ?_
        refine J.val (v := .int .i64 i701) rfl rfl (V.ext rfl rfl) ?_
        refine J.val rfl rfl (V.fad Try.underlying63 rfl nz3 rfl) ?_
        refine J.front 1 rfl ?_
        refine J.op rfl (A.store1 (v := .int .i64 i700) (cs' := [.int .i64 i700, .int .i64 0]) sz3 rfl rfl rfl rfl rfl rfl) ?_
        rintro _ _ _ ⟨rfl, rfl, rfl⟩
        refine J.val (v := .int .i64 i701) rfl rfl (V.as rfl) ?_
        refine J.nil ?_
        refine CJ.seq ?_
        obtain ⟨o718, ho719, h688⟩ := ob h688
        refine CJ.meetN (fun ρ K' L' => ∃ (i715 : Int) (i716 : Int) (i717 : Int), (i715, i716, i717) = o718 ∧ Fits [(0, .pointer (some ⟨pba, 0, none⟩)), (6, .slice ad626 l625.length cp627), (7, .int .i64 i381), (8, .int .i64 i715), (9, .int .i64 i631), (10, .pointer (some ⟨b697, 0, none⟩))] ρ ∧ K = K' ∧ L' = Cl pba 74 [.string ⟨qa0.toArray⟩, .int .i64 i716] :: Cl b697 63 [.int .i64 i700, .int .i64 i717] :: Row Hp.nil 63 (.cons (.int .i64) (.one (.int .i64))) (.slice ad626 l625.length cp627) l625 :: F) ?_ ?_
        · skip
          refine CJ.seq ?_
          refine CJ.region ?_
          refine J.val (v := .int .i64 i701) rfl rfl (V.mv rfl) ?_
          refine J.val (v := .bool (decide (i701 = 0))) rfl rfl (V.eql rfl rfl) ?_
          refine J.nil ?_
          refine CJ.cond rfl (fun hc720 => ?_) (fun hc720 => ?_)
          · have ho719 := ct hc720 ho719
            refine CJ.region ?_
            refine J.val rfl rfl (V.mv rfl) ?_
            obtain ⟨r721, hr722, ho719⟩ := ob ho719
            refine J.front 1 rfl ?_
            refine J.op rfl (A.call (L1 := [Cl pba 74 [.string ⟨qa0.toArray⟩, .int .i64 i702]]) Try.call43 rfl (sig_reader_number_p0_si_ok hr722) rfl rfl) ?_
            rintro _ _ _ ⟨v726, _, rfl, ⟨⟨i723, i724, i725, rfl, rfl, rfl⟩, rfl⟩, _, rfl⟩
            refine J.val (v := .tuple #[.int .i64 i723, .int .i64 i724]) rfl rfl (V.mv rfl) ?_
            refine J.val (v := .int .i64 i723) rfl rfl (V.ext rfl rfl) ?_
            refine J.val (v := .int .i64 i724) rfl rfl (V.ext rfl rfl) ?_
            refine J.val rfl rfl (V.fad Try.underlying63 rfl nz3 rfl) ?_
            refine J.front 1 rfl ?_
            refine J.op rfl (A.store1 (v := .int .i64 i723) (cs' := [.int .i64 i700, .int .i64 i723]) sz3 rfl rfl rfl rfl rfl rfl) ?_
            rintro _ _ _ ⟨rfl, rfl, rfl⟩
            refine J.val (v := .int .i64 i724) rfl rfl (V.as rfl) ?_
            refine J.front 2 rfl ?_
            refine J.front 1 rfl ?_
            refine J.front 2 rfl ?_
            refine J.nil ?_
            have e := Option.some.inj ho719
            subst e
            exact ⟨rfl, ⟨i724, i725, i723, rfl, ⟨rfl, rfl, rfl, rfl, rfl, rfl, trivial⟩, rfl, rfl⟩⟩
          · have ho719 := cf hc720 ho719
            refine CJ.front 2 rfl ?_
            refine CJ.front 1 rfl ?_
            refine CJ.front 2 rfl ?_
            refine CJ.skip ?_
            have e := Option.some.inj ho719
            subst e
            exact ⟨rfl, ⟨i701, i702, 0, rfl, ⟨rfl, rfl, rfl, rfl, rfl, rfl, trivial⟩, rfl, rfl⟩⟩
        · rintro ρ _ _ ⟨i715, i716, i717, rfl, hf729, rfl, rfl⟩
          obtain ⟨ρ, rfl⟩ := hf729.ex
          refine PJ.done ?_
          refine CJ.region ?_
          refine J.val (v := .slice ad626 l625.length cp627) rfl rfl (V.mv rfl) ?_
          refine J.val (v := .agg #[.int .i64 i700, .int .i64 i717]) rfl rfl (V.ld rfl (Ld.agg (cs := [.int .i64 i700, .int .i64 i717]) Try.underlying63 sz63 rfl (Rd.cls 1 0 rfl rfl))) ?_
          refine J.op rfl (A.lit (K0 := Hp.nil) (ty := (.cons (.int .i64) (.one (.int .i64)))) (xs := ([(i700, i717)] : List (Int × Int))) Try.underlying22 inf63 rfl (by decide) rfl rfl rfl ⟨_, _, rfl, ⟨_, _, rfl, rfl, rfl, rfl⟩, rfl⟩ rfl (by decide)) ?_
          rintro _ _ _ ⟨b731, rfl, rfl, rfl⟩
          have hn732 : ([(i700, i717)] : List (Int × Int)) ≠ [] → ∃ g, (some ⟨b731, 0, none⟩ : Option Addr) = some ⟨g, 0, none⟩ := fun _ => ⟨b731, rfl⟩
          obtain ⟨z734, hz735, h688⟩ := ob h688
          refine J.front 3 rfl ?_
          refine J.op rfl (A.appR (Kr := Hp.nil) Try.underlying22 inf63 rfl rfl (by decide) (by decide) rfl rfl (Els.flat rfl) (Els.flat rfl) hz735) ?_
          rintro _ _ _ ⟨v736, rfl, rfl, rfl⟩
          refine J.wit Row.form ?_
          rintro ⟨ad737, cp738, rfl, _, _, hn739⟩
          refine J.val (v := .slice ad737 z734.length cp738) rfl rfl (V.as rfl) ?_
          refine J.nil ?_
          refine CJ.region ?_
          refine J.val (v := .int .i64 i631) rfl rfl (V.mv rfl) ?_
          refine J.val (v := .int .i64 (IntKind.wrap .i64 (i631 + 1))) rfl rfl (V.add rfl rfl) ?_
          refine J.val (v := .int .i64 (IntKind.wrap .i64 (i631 + 1))) rfl rfl (V.as rfl) ?_
          refine J.dropAt 2 rfl ?_
          refine J.front 1 rfl ?_
          refine J.nil ?_
          have e := Option.some.inj h688
          subst e
          exact ⟨rfl, ⟨z734, i715, IntKind.wrap .i64 (i631 + 1), i716, ad737, cp738, rfl, ⟨rfl, rfl, rfl, rfl, rfl, trivial⟩, rfl, rfl⟩⟩
      · have h688 := cf hc696 h688
        refine CJ.front 1 rfl ?_
        refine CJ.exit ?_
        have e := Option.some.inj h688
        subst e
        refine ⟨nofun, fun e => ?_⟩
        subst e
        exact ⟨rfl, ⟨l625, i630, i632, ad626, cp627, rfl, ⟨rfl, rfl, trivial⟩, rfl, rfl⟩⟩
  · rintro ρ _ _ ⟨l559, i564, i565, ad560, cp561, rfl, hf740, rfl, rfl⟩
    obtain ⟨ρ, rfl⟩ := hf740.ex
    refine PJ.front 1 rfl ?_
    refine PJ.wit Row.hn (fun hn563 => ?_)
    refine PJ.done ?_
    refine CJ.seq ?_
    refine CJ.region ?_
    refine J.val (v := .slice ad560 l559.length cp561) rfl rfl (V.mv rfl) ?_
    refine J.val (v := .int .i64 i564) rfl rfl (V.mv rfl) ?_
    refine J.val (v := .slice ad560 l559.length cp561) rfl rfl (V.as rfl) ?_
    refine J.val (v := .int .i64 i564) rfl rfl (V.as rfl) ?_
    refine J.nil ?_
    refine CJ.ret ?_
    have e := Option.some.inj h
    subst e
    exact ⟨_, [Cl pba 74 [.string ⟨qa0.toArray⟩, .int .i64 i565], Row Hp.nil 63 (.cons (.int .i64) (.one (.int .i64))) (.slice ad560 l559.length cp561) l559], Res.two rfl rfl rfl, ⟨l559, i564, i565, ad560, cp561, rfl, rfl, rfl⟩, (Hp.le_refl _), fun w hs => (Sep.front 1 rfl hs)⟩

noncomputable def fn_sig_TakeBounds (xa : (List UInt8)) (xb : Int) : Option (((List (Int × Int)) × Int × Int)) :=
  (fn_sig_reader_bounds_p0i_si xb xa 0).bind fun (l25, i26, i27) => cond (!decide (i26 = 0)) (some (([], 0, i26))) (some ((l25, i27, 0)))
set_option maxRecDepth 100000 in
set_option maxHeartbeats 4000000 in
theorem sig_TakeBounds_ok {K : Hp} {xa : (List UInt8)} {xb : Int}   {r : ((List (Int × Int)) × Int × Int)} (h : fn_sig_TakeBounds xa xb = some r) :
    Tr Try.prog 18 #[.string ⟨xa.toArray⟩, .int .i64 xb] K [] (fun v K' L' => (∃ (l15 : (List (Int × Int))) (i20 : Int) (i21 : Int) (ad16 : Option Addr) (cp17 : Nat), (l15, i20, i21) = r ∧ .tuple #[.slice ad16 l15.length cp17, .int .i64 i20, .int .i64 i21] = v ∧ L' = [Row Hp.nil 63 (.cons (.int .i64) (.one (.int .i64))) (.slice ad16 l15.length cp17) l15]) ∧ K = K') := by
  refine Tr.k ?_
  refine Tr.of Try.func18 rfl Try.ntmps18 rfl (fun E F => ?_)
  unfold fn_sig_TakeBounds at h
  refine CJ.seq ?_
  refine CJ.region ?_
  refine J.val (v := .slice none 0 0) rfl rfl (V.as rfl) ?_
  refine J.val (v := .int .i64 0) rfl rfl (V.as rfl) ?_
  refine J.val (v := .int .i64 0) rfl rfl (V.as rfl) ?_
  refine J.nil ?_
  refine CJ.seq ?_
  refine CJ.region ?_
  refine J.val (v := .string ⟨xa.toArray⟩) rfl rfl (V.mv rfl) ?_
  refine J.val (v := .agg #[.string ⟨xa.toArray⟩, .int .i64 0]) rfl rfl (V.build inf74 places74 rfl rfl) ?_
  refine J.op rfl (A.alloc (cs := [.string ⟨([] : List UInt8).toArray⟩, .int .i64 0]) inf74 rfl) ?_
  rintro _ _ _ ⟨b22, rfl, rfl, rfl⟩
  refine J.op rfl (A.store (v := .agg #[.string ⟨xa.toArray⟩, .int .i64 0]) (cs' := [.string ⟨xa.toArray⟩, .int .i64 0]) sz74 rfl rfl rfl rfl rfl rfl) ?_
  rintro _ _ _ ⟨rfl, rfl, rfl⟩
  refine J.nil ?_
  refine CJ.seq ?_
  refine CJ.region ?_
  refine J.val (v := .int .i64 xb) rfl rfl (V.mv rfl) ?_
  obtain ⟨r23, hr24, h⟩ := ob h
  refine J.op rfl (A.call (L1 := [Cl b22 74 [.string ⟨xa.toArray⟩, .int .i64 0]]) Try.call41 rfl (sig_reader_bounds_p0i_si_ok hr24) rfl rfl) ?_
  rintro _ _ _ ⟨v31, _, rfl, ⟨⟨l25, i26, i27, ad28, cp29, rfl, rfl, rfl⟩, rfl⟩, _, rfl⟩
  refine J.front 1 rfl ?_
  refine J.wit Row.hn (fun hn30 => ?_)
  refine J.val (v := .tuple #[.slice ad28 l25.length cp29, .int .i64 i26]) rfl rfl (V.mv rfl) ?_
  refine J.val (v := .slice ad28 l25.length cp29) rfl rfl (V.ext rfl rfl) ?_
  refine J.val (v := .int .i64 i26) rfl rfl (V.ext rfl rfl) ?_
  refine J.val (v := .slice ad28 l25.length cp29) rfl rfl (V.as rfl) ?_
  refine J.val (v := .int .i64 i26) rfl rfl (V.as rfl) ?_
  refine J.nil ?_
  refine CJ.seq ?_
  refine CJ.seq ?_
  refine CJ.region ?_
  refine J.val (v := .int .i64 i26) rfl rfl (V.mv rfl) ?_
  refine J.val (v := .bool (!decide (i26 = 0))) rfl rfl (V.neq rfl rfl) ?_
  refine J.nil ?_
  refine CJ.cond rfl (fun hc35 => ?_) (fun hc35 => ?_)
  · have h := ct hc35 h
    refine CJ.seq ?_
    refine CJ.region ?_
    refine J.val (v := .int .i64 i26) rfl rfl (V.mv rfl) ?_
    refine J.val (v := .slice none 0 0) rfl rfl (V.as rfl) ?_
    refine J.val (v := .int .i64 0) rfl rfl (V.as rfl) ?_
    refine J.val (v := .int .i64 i26) rfl rfl (V.as rfl) ?_
    refine J.nil ?_
    refine CJ.by (fun w hs => Sep.rowNil (e := 63) (t := (.cons (.int .i64) (.one (.int .i64)))) hs) ?_
    refine CJ.ret ?_
    have e := Option.some.inj h
    subst e
    exact ⟨_, [Row Hp.nil 63 (.cons (.int .i64) (.one (.int .i64))) (.slice none ((([] : List (Int × Int))).length) 0) (([] : List (Int × Int)))], Res.three rfl rfl rfl rfl, ⟨[], 0, i26, none, 0, rfl, rfl, rfl⟩, (Hp.le_refl _), fun w hs => (Sep.dropAt 1 rfl (Sep.dropAt 1 rfl hs))⟩
  · have h := cf hc35 h
    refine CJ.skip ?_
    refine CJ.seq ?_
    refine CJ.mix [Row Hp.nil 63 (.cons (.int .i64) (.one (.int .i64))) (.slice ad28 l25.length cp29) l25, Cl b22 74 [.string ⟨xa.toArray⟩, .int .i64 i27]] [] [0, 1, 2, 3, 4, 5] [] mixO (by decide +kernel) ⟨0, rfl, 0, rfl, trivial⟩ rfl rfl rfl ?_
    refine JM.nil ?_
    refine JQ.val (v := .slice ad28 l25.length cp29) rfl rfl (V.mv rfl) ?_
    refine JQ.val rfl rfl (V.fad Try.underlying74 rfl nz3 rfl) ?_
    refine JQ.val (v := .int .i64 i27) rfl rfl (V.ld rfl (Ld.sc sc3 (Rd.cl 1 rfl rfl))) ?_
    refine JQ.val (v := .slice ad28 l25.length cp29) rfl rfl (V.as rfl) ?_
    refine JQ.val (v := .int .i64 i27) rfl rfl (V.as rfl) ?_
    refine JQ.val (v := .int .i64 0) rfl rfl (V.as rfl) ?_
    refine JQ.nil ?_
    refine J.nil ?_
    refine CJ.ret ?_
    have e := Option.some.inj h
    subst e
    exact ⟨_, [Row Hp.nil 63 (.cons (.int .i64) (.one (.int .i64))) (.slice ad28 l25.length cp29) l25], Res.three rfl rfl rfl rfl, ⟨l25, i27, 0, ad28, cp29, rfl, rfl, rfl⟩, (Hp.le_refl _), fun w hs => (Sep.dropAt 1 rfl hs)⟩
end Go.Proofs.Ytjhgiaafaahbjaa
