/- Layer 23's law of what is told. -/
import Derived.Test.YtbennpandomacaaGreatB23
namespace Go.Proofs.YtbennpandomacaaGreat
open Go.RowKit
set_option linter.unusedVariables false
set_option linter.unnecessarySimpa false
set_option linter.unusedSimpArgs false
set_option maxRecDepth 20000
theorem tells23_loop {A : List (Int × Int × Bool)} {E : ArG} (he : E.length ≤ 1000000) (hA : A.length ≤ 1000000) : loop (fn_law23_FlowTells_l1 A) (ai E, [], 0) = some (ai E, li (stops E A.length)) := by
  have hl := loop_nat (body := fn_law23_FlowTells_l1 A) (fun k : Nat => (ai E, li (stops E k), (k : Int))) A.length (b := (ai E, li (stops E A.length))) ?_ ?_
  · exact hl
  · intro k hk
    have hsl : (stops E k).length ≤ k := by unfold stops; exact Nat.le_trans (List.length_filter_le _ _) (by simp)
    unfold fn_law23_FlowTells_l1
    simp only [dlt hk, cond_true, refNextE he, Option.bind_some, li_len, w64s hk (by omega : A.length ≤ 9223372036854775807)]
    have e : stops E (k + 1) = stops E k ++ (if (nxt E k).length = 0 then [k] else []) := by
      unfold stops; rw [List.range_succ, List.filter_append]
      by_cases q : nxt E k = []
      · rw [if_pos (by rw [q]; rfl)]; simp [q]
      · rw [if_neg (fun h => q (List.length_eq_zero_iff.1 h))]; simp [q]
    by_cases q : (nxt E k).length = 0
    · rw [e, if_pos q, decide_eq_true (by omega), cond_true, app_eq (by rw [li_len]; simp; omega), li_app]; rfl
    · rw [e, if_neg q, decide_eq_false (by omega), cond_false, List.append_nil]
  · unfold fn_law23_FlowTells_l1
    simp only [dge (show ¬ A.length < A.length by omega), cond_false]
theorem FlowTells_true (xa : Bo) (xb : Int) (k0 : Tp.Ok tyBody xa) (k1 : Tp.Ok (.int .i64) xb) (q0 : Tp.Fit tyBody xa) (q1 : Tp.Fit (.int .i64) xb) : fn_law23_FlowTells xa xb = some true := by
  unfold fn_law23_FlowTells
  rcases small20 xa (fit_body q0) with h | ⟨h, hs⟩
  · rw [show fn_ref20_Small (xa.1, xa.2.1, xa.2.2.1, xa.2.2.2.1, xa.2.2.2.2.1, xa.2.2.2.2.2.1, xa.2.2.2.2.2.2) = some false from h, awake23]; rfl
  · have hT := xs_tos hs
    have h32 := hT.pts
    have hin := arcN_in (xs xa) _ (Nat.le_refl _)
    have hb := arcs_bound hT (Nat.le_refl _)
    have hal := alls_len (xs xa)
    rw [show fn_ref20_Small (xa.1, xa.2.1, xa.2.2.1, xa.2.2.2.1, xa.2.2.2.2.1, xa.2.2.2.2.2.1, xa.2.2.2.2.2.2) = some true from h, show fn_flow_New (xa.1, xa.2.1, xa.2.2.1, xa.2.2.2.1, xa.2.2.2.2.1, xa.2.2.2.2.2.1, xa.2.2.2.2.2.2) = _ from flowNew_eq hs, show fn_ref22_All (xa.1, xa.2.1, xa.2.2.1, xa.2.2.2.1, xa.2.2.2.2.1, xa.2.2.2.2.2.1, xa.2.2.2.2.2.2) = _ from refAll_eq hs, show fn_ref23_Arcs (xa.1, xa.2.1, xa.2.2.1, xa.2.2.2.1, xa.2.2.2.2.1, xa.2.2.2.2.2.1, xa.2.2.2.2.2.2) = _ from refArcs23_eq hs]
    have e1 : fn_point_Points_Len (ptsOf (xs xa)) = some ((bg (xs xa) (xs xa).length : Nat) : Int) := rfl
    simp only [Option.bind_some, Bool.not_true, cond_false, flPoints, e1, hal, decide_true]
    show cond _ _ ((loop (fn_law23_FlowTells_l1 (alls (xs xa))) (ai (arcs (xs xa)), [], 0)).bind _) = _
    rw [tells23_loop (A := alls (xs xa)) (E := arcs (xs xa)) (by exact Nat.le_trans hb (by decide)) (by omega), hal]
    generalize hE : arcs (xs xa) = E at *
    replace hin : inN (bg (xs xa) (xs xa).length) E := hE ▸ hin
    replace hb : E.length ≤ 1024 := hE ▸ hb
    generalize bg (xs xa) (xs xa).length = N at *
    generalize ptsOf (xs xa) = P at *
    by_cases hz : N = 0
    · subst hz
      have hv : xb < 0 ∨ ((0 : Nat) : Int) ≤ xb := by omega
      obtain rfl : E = [] := by
        cases E with
        | nil => rfl
        | cons e E => exact absurd (hin e (List.mem_cons_self ..)).1 (by omega)
      have ho : fn_flow_Flow_Order (flG P 0 []) = some (li []) := order_eq (m := []) hin (by decide) (by decide) .nil
      rw [flNext_not hv, flBack_not hv, flReached_zero, flStops_eq (by decide) (by decide), ho, awake23]
      rfl
    · have h0 : decide (((N : Nat) : Int) = 0) = false := decide_eq_false (by omega)
      rw [h0, cond_false, Option.bind_some]
      have hr := refReach_eq hin (by omega) (by omega) (v := 0) (by omega)
      rw [show ((0 : Nat) : Int) = 0 from rfl] at hr
      simp only [flReached_of (P := P) hin (by omega) (by omega) (show 0 < N by omega), flStops_eq (P := P) (N := N) (E := E) (by omega) (by omega), hr, Option.bind_some, refNodes_eq (rl N E 0) (show N ≤ 1000 by omega), rl_filter, refTurnE (show E.length ≤ 1000000 by omega), awake23]
      have s1 : ∀ l : List Nat, l.length ≤ 1000000 → fn_ref01_Same (li l) (li l) = some true := fun l hl => by rw [same01_eq _ _ (by rw [li_len]; omega)]; simp
      have l1 : (rl N E 0).length ≤ N := by unfold rl; exact Nat.le_trans (List.length_filter_le _ _) (by simp)
      have l2 : (stops E N).length ≤ N := by unfold stops; exact Nat.le_trans (List.length_filter_le _ _) (by simp)
      rw [s1 _ (by omega), s1 _ (by omega)]
      by_cases hv : xb < 0 ∨ (N : Int) ≤ xb
      · rw [flNext_not hv, flBack_not hv, refNextE_not hin (by omega) hv, refNextE_not (tn_in hin) (by rw [tn_len]; omega) hv]
        simp only [Option.bind_some]
        rw [show fn_ref01_Same [] [] = _ from s1 [] (by simp)]
        rfl
      · obtain ⟨v, rfl⟩ : ∃ v : Nat, xb = (v : Int) := ⟨xb.toNat, by omega⟩
        have hvN : v < N := by omega
        have n1 : (nxt E v).length ≤ E.length := by unfold nxt; rw [List.length_map]; have := occ_bound (E.map (·.1)) v; rw [List.length_map] at this; exact this
        have n2 : (nxt (tn E) v).length ≤ E.length := by unfold nxt; rw [List.length_map]; have := occ_bound ((tn E).map (·.1)) v; rw [List.length_map, tn_len] at this; exact this
        rw [flNext_of (by omega) (by omega) hvN, flBack_of (by omega) (by omega) hvN, refNextE (by omega), refNextE (by rw [tn_len]; omega)]
        simp only [Option.bind_some]
        rw [s1 _ (by omega), s1 _ (by omega)]
        rfl
end Go.Proofs.YtbennpandomacaaGreat
