/- Layer 27's law of the graph of constraints. -/
import Derived.Test.YtelekeapfgfknaaP27a
import Derived.Test.YtelekeapfgfknaaQ10
namespace Go.Proofs.Ytelekeapfgfknaa
open Go.RowKit Nu
set_option linter.unusedVariables false
set_option linter.unnecessarySimpa false
set_option linter.unusedSimpArgs false
theorem Check_eq (n : Int) (xb : List (Int × Int)) (he : xb.length ≤ 1000000) : fn_ref10_Check n xb = some (if n < 0 then 2 else if 1048576 < n then 5 else if xb.any (outA n) then 7 else 0) := by
  unfold fn_ref10_Check
  by_cases h0 : n < 0
  · simp [h0]
  · by_cases h1 : 1048576 < n
    · simp [h0, h1]
    · have h2 : (decide ((1048576 : Int) < n) || decide ((67108864 : Int) < ((xb.length : Nat) : Int))) = false := by simp; omega
      rw [show decide (n < 0) = false from decide_eq_false h0, cond_false, h2, cond_false, loop_some xb (outA n) (.inr 7) (.inl ()) ?_ ?_]
      · simp only [h0, h1, if_false]
        cases xb.any (outA n) <;> rfl
      · intro k h
        unfold fn_ref10_Check_l1
        rw [dlt h, cond_true, getN h, w64s h (by omega : xb.length ≤ 9223372036854775807)]
        simp only [Option.bind_some]
        unfold outA
        by_cases a1 : xb[k].1 < 0 <;> by_cases a2 : n ≤ xb[k].1 <;> by_cases a3 : xb[k].2 < 0 <;> by_cases a4 : n ≤ xb[k].2 <;> simp [a1, a2, a3, a4]
      · simp [fn_ref10_Check_l1]
def arcsOf (l : List Eg) : List (Int × Int) := l.map (fun e => (e.1, e.2.1))
theorem refArcs_eq (l : List Eg) (hl : l.length ≤ 1000000) : fn_ref27_Arcs l = some (arcsOf l) := by
  unfold fn_ref27_Arcs
  have := loop_map l (fun e : Eg => (e.1, e.2.1)) [] (by simp; omega) (body := fn_ref27_Arcs_l1 l) (fun c i => by
    unfold fn_ref27_Arcs_l1
    cases hg : getI l i with
    | none => simp [hg]
    | some x => simp [hg])
  rw [this]; simp [arcsOf]
theorem graphArcs_eq (l : List Eg) (hl : l.length ≤ 1000000) : (loop (fn_cons_Graph_l1 l) (List.replicate l.length (0, 0), 0) : Option (List (Int × Int))) = some (arcsOf l) := by
  have h := loop_nat (body := fn_cons_Graph_l1 l) (fun k : Nat => ((arcsOf l).take k ++ List.replicate (l.length - k) ((0 : Int), (0 : Int)), (k : Int))) l.length (b := arcsOf l) ?_ ?_
  · simpa using h
  · intro k hk
    have hA : k < (arcsOf l).length := by simpa [arcsOf] using hk
    have hp : ((arcsOf l).take k).length = k := by simp; omega
    have hr : List.replicate (l.length - k) ((0 : Int), (0 : Int)) = (0, 0) :: List.replicate (l.length - (k + 1)) (0, 0) := by
      rw [show l.length - k = (l.length - (k + 1)) + 1 by omega, List.replicate_succ]
    unfold fn_cons_Graph_l1
    have hq : k < ((arcsOf l).take k ++ List.replicate (l.length - k) ((0 : Int), (0 : Int))).length := by simp; omega
    simp only [dlt hk, cond_true, getN hk, getN hq, Option.bind_some, w64s hk (by omega : l.length ≤ 9223372036854775807)]
    have hs : ((arcsOf l).take k ++ List.replicate (l.length - k) ((0 : Int), (0 : Int))).set (k : Int).toNat (l[k].1, l[k].2.1) = (arcsOf l).take (k + 1) ++ List.replicate (l.length - (k + 1)) (0, 0) := by
      rw [show (k : Int).toNat = k from rfl, List.set_append_right _ _ (by omega), hp, Nat.sub_self, hr, List.set_cons_zero, take_snoc hA, List.append_assoc]
      simp [arcsOf]
    rw [hs]
  · unfold fn_cons_Graph_l1
    have hT : (arcsOf l).take l.length = arcsOf l := by rw [List.take_of_length_le]; simp [arcsOf]
    simp only [dge (show ¬ l.length < l.length by omega), cond_false, hT, Nat.sub_self, List.replicate_zero, List.append_nil]
theorem mkArcs {n : Nat} (h : n ≤ 1000000) : (mk ((n : Nat) : Int) ((n : Nat) : Int) ((0 : Int), (0 : Int)) : Option (List (Int × Int))) = some (List.replicate n (0, 0)) := by
  unfold mk
  simp; omega
theorem consGraph_eq (xa : Int) (l : List Eg) (hl : l.length ≤ 1000000) : fn_cons_Graph (0, xa, [], [], [], [], []) l = (fn_graph_New xa (arcsOf l)).bind fun r => some r.1 := by
  unfold fn_cons_Graph
  rw [mkArcs hl, Option.bind_some, graphArcs_eq l hl, Option.bind_some]
theorem graphs_loop (l : List Eg) (hl : l.length ≤ 1000000) {N : Nat} {E : ArG} (hE : arcsOf l = ai E) : loop (fn_law27_ConsGraphs_l1 l (some (mkG N E))) 0 = some (.inl ()) := by
  have hlen : l.length = E.length := by have := congrArg List.length hE; simpa [arcsOf, ai] using this
  have := loop_nat (body := fn_law27_ConsGraphs_l1 l (some (mkG N E))) (fun k : Nat => (k : Int)) l.length (b := .inl ()) ?_ ?_
  · exact this
  · intro k hk
    have hk2 : k < (ai E).length := by rw [ai_len]; omega
    have ha : fn_graph_Graph_Arc (some (mkG N E)) (k : Int) = some ((ai E)[k].1, (ai E)[k].2, true) := by
      unfold fn_graph_Graph_Arc
      rw [show decide ((k : Int) < 0) = false from decide_eq_false (by omega), cond_false, Arcs_eq, Option.bind_some, Option.bind_some, show decide (((E.length : Nat) : Int) ≤ (k : Int)) = false from decide_eq_false (by omega), cond_false, Option.bind_some]
      show (getI (ai E) (k : Int)).bind _ = _
      rw [getN hk2]; rfl
    have he : (ai E)[k] = (l[k].1, l[k].2.1) := by
      have hk3 : k < (arcsOf l).length := by simpa [arcsOf] using hk
      have : (arcsOf l)[k] = (ai E)[k] := by simp only [hE]
      rw [← this]; simp [arcsOf]
    unfold fn_law27_ConsGraphs_l1
    simp only [dlt hk, cond_true, ha, he, getN hk, Option.bind_some, decide_true, Bool.not_true, cond_false, w64s hk (by omega : l.length ≤ 9223372036854775807)]
  · unfold fn_law27_ConsGraphs_l1
    simp only [dge (show ¬ l.length < l.length by omega), cond_false]
theorem ConsGraphs_true (xa : Int) (xb : List Eg) (k0 : Tp.Ok (.int .i64) xa) (k1 : Tp.Ok (.sl (.cons (.int .i64) (.cons (.int .i64) (.one (.cons (.int .i64) (.cons (.int .i64) (.cons (.int .i64) (.cons (.int .i64) (.one .bool))))))))) xb) (q0 : Tp.Fit (.int .i64) xa) (q1 : Tp.Fit (.sl (.cons (.int .i64) (.cons (.int .i64) (.one (.cons (.int .i64) (.cons (.int .i64) (.cons (.int .i64) (.cons (.int .i64) (.one .bool))))))))) xb) : fn_law27_ConsGraphs xa xb = some true := by
  unfold fn_law27_ConsGraphs
  by_cases hb : (decide (20 < xa) || decide (40 < ((xb.length : Nat) : Int))) = true
  · rw [hb, cond_true, awake27]; rfl
  · have hb' := Bool.eq_false_iff.2 hb
    rw [hb', cond_false]
    have hl : xb.length ≤ 40 := by simp at hb; omega
    have hx : xa ≤ 20 := by simp at hb; omega
    have hal : (arcsOf xb).length = xb.length := by simp [arcsOf]
    rw [consGraph_eq xa xb (by omega), refArcs_eq xb (by omega)]
    simp only [Option.bind_some]
    rw [Check_eq xa (arcsOf xb) (by omega)]
    rcases New_eq xa (arcsOf xb) (by omega) with ⟨h0, hN⟩ | ⟨h0, hN⟩ | ⟨h0, h1, h2, hN⟩ | ⟨N, E, hn, h1, hE, hin, h2, hN⟩
    · rw [hN, if_pos h0, awake27]; rfl
    · omega
    · rw [hN, if_neg (by omega), if_neg (by omega), if_pos h2, awake27]; rfl
    · have hlen : E.length = xb.length := by have := congrArg List.length hE; rw [ai_len] at this; omega
      rw [hN, if_neg (by omega), if_neg (by omega), h2]
      subst hn
      simp only [Option.bind_some, Bool.false_eq_true, if_false, decide_true, Bool.not_true, cond_false, Option.isNone_some, Nodes_eq, Arcs_eq, hlen, graphs_loop xb (by omega) hE, awake27]
end Go.Proofs.Ytelekeapfgfknaa
