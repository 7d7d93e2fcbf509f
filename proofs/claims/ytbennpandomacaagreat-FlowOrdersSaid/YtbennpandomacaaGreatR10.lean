/- What layer 10's reference computes (graphs), in plain words. -/
import Derived.Test.YtbennpandomacaaGreatQ10
import Derived.Test.YtbennpandomacaaGreatQ01
namespace Go.Proofs.YtbennpandomacaaGreat
open Go.RowKit
set_option linter.unusedVariables false
theorem refNext_eq (xb : List (Int × Int)) (v : Int) (hn : xb.length ≤ 1000000) : fn_ref10_Next xb v = some ((xb.filter (fun a => decide (a.1 = v))).map (·.2)) := by
  unfold fn_ref10_Next
  have h := loop_carry (body := fn_ref10_Next_l1 xb v) xb (fun k => ((xb.take k).filter (fun a => decide (a.1 = v))).map (·.2)) ((xb.filter (fun a => decide (a.1 = v))).map (·.2)) ?_ ?_
  · simp only [List.take_zero, List.filter_nil, List.map_nil] at h
    rw [h]; rfl
  · intro k h
    have hl := List.length_filter_le (fun a : Int × Int => decide (a.1 = v)) (xb.take k)
    simp only [List.length_take] at hl
    rw [take_snoc h, List.filter_append]
    generalize (xb.take k).filter (fun a => decide (a.1 = v)) = A at hl
    unfold fn_ref10_Next_l1
    simp only [dlt h, cond_true, getN h, Option.bind_some, w64s h (by omega : xb.length ≤ 9223372036854775807)]
    by_cases hv : xb[k].1 = v
    · have ha : app (A.map (·.2)) [xb[k].2] = some (A.map (·.2) ++ [xb[k].2]) := app_eq (by simp; omega)
      simp only [hv, decide_true, cond_true, ha, Option.bind_some, List.filter_cons, if_true, List.filter_nil, List.map_append, List.map_cons, List.map_nil]
    · simp only [hv, decide_false, cond_false, List.filter_cons, Bool.false_eq_true, if_false, List.filter_nil, List.append_nil]
  · simp [fn_ref10_Next_l1]
theorem nxt_eq (E : ArG) (v : Nat) : nxt E v = (E.filter (fun e => decide (e.1 = v))).map (·.2) := by
  have hE : E = (List.range E.length).map (fun i => E.getD i (0, 0)) := by
    apply List.ext_getElem
    · simp
    · intro i h1 h2; simp [h1]
  unfold nxt occ
  rw [List.length_map]
  conv => rhs; rw [hE]
  rw [List.filter_map, List.map_map]
  congr 1
  refine List.filter_congr (fun i hi => ?_)
  have hi' := List.mem_range.1 hi
  simp [hi']
theorem refNext_nat (E : ArG) (v : Nat) : ((ai E).filter (fun a => decide (a.1 = (v : Int)))).map (·.2) = li (nxt E v) := by
  rw [nxt_eq]
  unfold ai li
  rw [List.filter_map, List.map_map, List.map_map]
  congr 1
  refine List.filter_congr (fun e _ => ?_)
  simp [Int.ofNat_inj]
end Go.Proofs.YtbennpandomacaaGreat
