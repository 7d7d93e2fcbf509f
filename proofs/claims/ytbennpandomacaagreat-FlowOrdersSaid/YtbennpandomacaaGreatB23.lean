/- Layer 23: its example; what is told of a flow. -/
import Derived.Test.YtbennpandomacaaGreatV23
import Derived.Test.YtbennpandomacaaGreatQ01
namespace Go.Proofs.YtbennpandomacaaGreat
open Go.RowKit
set_option linter.unusedVariables false
set_option linter.unnecessarySimpa false
set_option linter.unusedSimpArgs false
set_option maxRecDepth 20000
abbrev b23 : Bo := (1, 1, [], [[]], [], [], [([(0, 0, 0, 0, false)], (1, 0, 0, [0], [], []))])
theorem sm23 : Sm b23 := ⟨by decide, by decide, by decide, by decide, by decide, by decide, by decide, by decide, by decide⟩
theorem tE_goto {a : Ar} (h : 0 < a.1) : tE a (1, 0, 0, [0], [], []) = 0 := by
  have hf : fn_ref19_Form (1, 0, 0, [0], [], []) = some 0 := by
    have := refTForm_eq (1, 0, 0, [0], [], [])
    rwa [show tForm (1, 0, 0, [0], [], []) = 0 from by decide] at this
  unfold tE fn_ref19_Needs
  simp only [hf, Option.bind_some]
  have h1 : bad a.1 [0] = false := by unfold bad; simp; omega
  have h2 : ∀ n, bad n [] = false := fun n => rfl
  simp only [refWithin_eq _ _ (show ([0] : List Int).length ≤ 1000 by simp), refWithin_eq _ _ (show ([] : List Int).length ≤ 1000 by simp), h1, h2]
  rfl
theorem vck23 : (vck b23).1 = 0 := by
  have hc : vCode b23 = (0, 0, 0, 0) := by
    have h1 : blkE b23 ([(0, 0, 0, 0, false)], (1, 0, 0, [0], [], [])) = none := by
      unfold blkE
      simp only [List.findIdx?_cons, sE_nop, tE_goto (a := arOf b23) (by decide)]
      rfl
    unfold vCode
    simp only [List.findIdx?_cons, h1]
    rfl
  unfold vck
  rw [hc]; rfl
abbrev E23 : ArG := [(0, 1), (1, 0)]
theorem new23 : fn_flow_New b23 = some (flG (ptsOf b23.2.2.2.2.2.2) 2 E23) := by
  rw [flowNew_eq sm23]
  have hx : xs b23 = b23.2.2.2.2.2.2 := by unfold xs; rw [if_pos vck23]
  rw [hx]
  have h1 : bg b23.2.2.2.2.2.2 b23.2.2.2.2.2.2.length = 2 := by decide
  have h2 : arcs b23.2.2.2.2.2.2 = E23 := by decide
  rw [h2, h1]
theorem thr23 : Thr E23 [] [] (List.range 2) [1, 0] [0, 1] := by
  have n0 : nxt E23 0 = [1] := by decide
  have n1 : nxt E23 1 = [0] := by decide
  show Thr E23 [] [] [0, 1] [1, 0] [0, 1]
  refine .step (o1 := [1]) (m1 := [0, 1]) (by simp) ?_ (.skip (by simp) .nil)
  rw [n0]
  refine .step (o1 := []) (m1 := [0, 1]) (by simp) ?_ .nil
  rw [n1]
  exact .skip (by simp) .nil
theorem awake23 : fn_law23_awake = some true := by
  have hE : inN 2 E23 := by intro e he; simp at he; rcases he with rfl | rfl <;> decide
  unfold fn_law23_awake
  rw [show fn_flow_New (1, 1, [], [[]], [], [], [([(0, 0, 0, 0, false)], (1, 0, 0, [0], [], []))]) = _ from new23]
  have h0 := flNext_of (P := ptsOf b23.2.2.2.2.2.2) (N := 2) (E := E23) (by decide) (by decide) (v := 0) (by decide)
  have h1 := flNext_of (P := ptsOf b23.2.2.2.2.2.2) (N := 2) (E := E23) (by decide) (by decide) (v := 1) (by decide)
  have h2 := order_eq (P := ptsOf b23.2.2.2.2.2.2) hE (by decide) (by decide) thr23
  rw [show nxt E23 0 = [1] by decide] at h0
  rw [show nxt E23 1 = [0] by decide] at h1
  simp only [Option.bind_some]
  rw [show fn_flow_Flow_Next (flG (ptsOf b23.2.2.2.2.2.2) 2 E23) 0 = _ from h0, show fn_flow_Flow_Next (flG (ptsOf b23.2.2.2.2.2.2) 2 E23) 1 = _ from h1, h2]
  simp only [Option.bind_some]
  rw [same01_eq _ _ (by decide), same01_eq _ _ (by decide), same01_eq _ _ (by decide)]
  rfl
section
variable {P : Pts} {N : Nat} {E : ArG}
theorem refNextE (he : E.length ≤ 1000000) (v : Nat) : fn_ref10_Next (ai E) (v : Int) = some (li (nxt E v)) := by rw [refNext_eq _ _ (by rw [ai_len]; exact he), refNext_nat]
end
end Go.Proofs.YtbennpandomacaaGreat
