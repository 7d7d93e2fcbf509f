import Derived.Test.YtmdmdmaekjpfjaaGreatF5
import Derived.Test.YtmdmdmaekjpfjaaGreatPv
namespace Go.Proofs.YtmdmdmaekjpfjaaGreat
open Go.RowKit
set_option linter.unusedVariables false
set_option linter.unnecessarySimpa false
set_option linter.unusedSimpArgs false
abbrev St := Int × Bool
def shp (xa xb : List St) : Bool := decide (xa.map (·.2) = xb.map (·.2))
theorem shp_of_loop (xa xb : List St) {body : Int → Option (Int ⊕ (Unit ⊕ Bool))} (hl : xa.length = xb.length) (hb : ∀ (k : Nat) (h : k < xa.length), body (k : Int) = some (if xa[k].2 = (xb[k]'(by omega)).2 then .inl ((k + 1 : Nat) : Int) else .inr (.inr false))) (he : body (xa.length : Int) = some (.inr (.inl ()))) :
    loop body 0 = some (if shp xa xb then .inl () else .inr false) := by
  have := loop_alike (body := body) (xa.map (·.2)) (xb.map (·.2)) (.inr false) (.inl ()) (by simp [hl]) (fun k h => by simpa using hb k (by simpa using h)) (by simpa using he)
  rw [this]; unfold shp
  by_cases h : xa.map (·.2) = xb.map (·.2) <;> simp [h]
theorem shp_len {xa xb : List St} (h : ¬ xa.length = xb.length) : shp xa xb = false := by
  unfold shp; simp only [decide_eq_false_iff_not]
  intro e; exact h (by simpa using congrArg List.length e)
theorem shp_len' {xa xb : List St} (h : shp xa xb = true) : xa.length = xb.length := by
  unfold shp at h; simpa using congrArg List.length (of_decide_eq_true h)
theorem Few_eq (xa : List St) (n : Int) : fn_ref15_Few xa n = some (decide ((xa.length : Int) ≤ n)) := rfl
theorem refShape_eq (xa xb : List St) (hn : xa.length ≤ 1073741824) : fn_ref15_Shape xa xb = some (shp xa xb) := by
  unfold fn_ref15_Shape
  by_cases hl : xa.length = xb.length
  · rw [dlen hl, cond_false, shp_of_loop xa xb hl ?_ ?_]
    · cases shp xa xb <;> rfl
    · intro k h; unfold fn_ref15_Shape_l1
      have h2 : k < xb.length := by omega
      by_cases q : xa[k].2 = xb[k].2 <;> simp [getN h, getN h2, h, q, w64s h (by omega), beq_dec]
    · simp [fn_ref15_Shape_l1]
  · rw [dlen' hl, cond_true, shp_len hl]
end Go.Proofs.YtmdmdmaekjpfjaaGreat
