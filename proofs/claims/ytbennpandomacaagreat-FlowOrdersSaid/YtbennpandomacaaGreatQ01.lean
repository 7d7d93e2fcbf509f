/- Lists held against each other (layer 1's reference). -/
import Derived.Test.YtbennpandomacaaGreatF7
import Derived.Test.YtbennpandomacaaGreatPv
namespace Go.Proofs.YtbennpandomacaaGreat
open Go.RowKit
set_option linter.unusedVariables false
theorem same01_eq (xa xb : List Int) (hn : xa.length ≤ 1073741824) : fn_ref01_Same xa xb = some (decide (xa = xb)) := by
  unfold fn_ref01_Same
  by_cases hl : xa.length = xb.length
  · rw [dlen hl, cond_false, loop_alike (body := fn_ref01_Same_l1 xa xb) xa xb (.inr false) (.inl ()) hl ?_ ?_]
    · by_cases h : xa = xb <;> simp [h]
    · intro k h; unfold fn_ref01_Same_l1
      have h2 : k < xb.length := by omega
      by_cases q : xa[k] = xb[k] <;> simp [getN h, getN h2, h, q, w64s h (by omega)]
    · simp [fn_ref01_Same_l1]
  · rw [dlen' hl, cond_true]
    have : ¬ xa = xb := fun h => hl (by rw [h])
    simp [this]
end Go.Proofs.YtbennpandomacaaGreat
