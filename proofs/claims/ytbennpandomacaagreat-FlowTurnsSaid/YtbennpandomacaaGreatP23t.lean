/- Layer 23's law of what turns. -/
import Derived.Test.YtbennpandomacaaGreatB23
namespace Go.Proofs.YtbennpandomacaaGreat
open Go.RowKit
set_option linter.unusedVariables false
set_option linter.unnecessarySimpa false
set_option linter.unusedSimpArgs false
set_option maxRecDepth 20000
def plc (o : List Nat) (k : Nat) (v : Nat) : Int := if v ∈ o.take k then ((o.idxOf v + 1 : Nat) : Int) else 0
def place (N : Nat) (o : List Nat) (k : Nat) : List Int := (List.range N).map (plc o k)
theorem idx_at {o : List Nat} (hd : o.Nodup) {k : Nat} (hk : k < o.length) : o.idxOf o[k] = k := hd.idxOf_getElem k hk
theorem mem_take_iff {o : List Nat} (hd : o.Nodup) {k : Nat} (hk : k < o.length) (v : Nat) : v ∈ o.take (k + 1) ↔ v ∈ o.take k ∨ v = o[k] := by
  rw [take_snoc hk, List.mem_append, List.mem_singleton]
theorem not_before {o : List Nat} (hd : o.Nodup) {k : Nat} (hk : k < o.length) : o[k] ∉ o.take k := by
  intro h
  obtain ⟨i, hi, e⟩ := List.getElem_of_mem h
  simp at hi
  rw [List.getElem_take] at e
  exact List.pairwise_iff_getElem.1 hd i k (by omega) hk (by omega) e
theorem turns_place {N : Nat} {o : List Nat} (hp : o.Perm (List.range N)) (hN : N ≤ 1000000) : loop (fn_law23_FlowTurns_l1 (N : Int) (li o)) (List.replicate N 0, 0) = some (.inl (place N o N)) := by
  have hl : o.length = N := by have := hp.length_eq; simpa using this
  have hd : o.Nodup := hp.nodup_iff.2 List.nodup_range
  have hm : ∀ x ∈ o, x < N := fun x hx => List.mem_range.1 (hp.mem_iff.1 hx)
  have h0 : List.replicate N (0 : Int) = place N o 0 := by rw [replicate_map]; unfold place plc; exact map_congr_range (fun v _ => by simp)
  rw [h0]
  have h := loop_nat (body := fn_law23_FlowTurns_l1 (N : Int) (li o)) (fun k : Nat => (place N o k, (k : Int))) N (b := .inl (place N o N)) ?_ ?_
  · exact h
  · intro k hk
    have hk2 : k < o.length := by omega
    have hx : o[k] < N := hm _ (List.getElem_mem hk2)
    have g : getI (place N o k) ((o[k] : Nat) : Int) = some 0 := by
      unfold place; rw [getI_map hx]; unfold plc; rw [if_neg (not_before hd hk2)]
    have s : (place N o k).set o[k] ((k + 1 : Nat) : Int) = place N o (k + 1) := by
      unfold place; rw [set_map]
      refine map_congr_range (fun v hv => ?_)
      unfold plc
      by_cases q : v = o[k]
      · rw [if_pos q, if_pos ((mem_take_iff hd hk2 v).2 (.inr q)), q, idx_at hd hk2]
      · rw [if_neg q]
        by_cases q2 : v ∈ o.take k
        · rw [if_pos q2, if_pos ((mem_take_iff hd hk2 v).2 (.inl q2))]
        · rw [if_neg q2, if_neg (fun h => by rcases (mem_take_iff hd hk2 v).1 h with h | h; exact q2 h; exact q h)]
    unfold fn_law23_FlowTurns_l1
    simp only [dlt hk, cond_true, getI_li hk2, Option.bind_some, g, Int.toNat_natCast, w64s hk (by omega : N ≤ 9223372036854775807)]
    rw [show decide (((o[k] : Nat) : Int) < 0) = false from decide_eq_false (by omega), cond_false]
    simp only [Option.bind_some]
    rw [show decide (((N : Nat) : Int) ≤ ((o[k] : Nat) : Int)) = false from decide_eq_false (by omega), cond_false]
    simp only [Option.bind_some, decide_true, Bool.not_true, cond_false, s]
  · unfold fn_law23_FlowTurns_l1
    simp only [dge (show ¬ N < N by omega), cond_false]
theorem place_get {N : Nat} {o : List Nat} (hp : o.Perm (List.range N)) {v : Nat} (hv : v < N) : getI (place N o N) (v : Int) = some ((o.idxOf v + 1 : Nat) : Int) := by
  have hl : o.length = N := by have := hp.length_eq; simpa using this
  have hm : v ∈ o := hp.mem_iff.2 (List.mem_range.2 hv)
  unfold place; rw [getI_map hv]; unfold plc; rw [← hl, List.take_length, if_pos hm]
theorem back23 (v : Nat) (L : List Nat) (hL : L.length ≤ 1000000) : loop (fn_law23_FlowTurns_l2 (v : Int) (li L)) (false, 0) = some (decide (v ∈ L)) := by
  have h := loop_carry (body := fn_law23_FlowTurns_l2 (v : Int) (li L)) (li L) (fun k => decide (v ∈ L.take k)) (decide (v ∈ L)) ?_ ?_
  · simpa using h
  · intro k h
    have hk : k < L.length := by rw [li_len] at h; exact h
    unfold fn_law23_FlowTurns_l2
    have e : decide (v ∈ L.take (k + 1)) = (decide (v ∈ L.take k) || decide (v = L[k])) := by
      rw [← Bool.decide_or]; refine decide_eq_decide.2 ?_; rw [take_snoc hk, List.mem_append, List.mem_singleton]
    rw [e]
    simp only [dlt h, cond_true, getI_li hk, w64s h (by rw [li_len]; omega)]
    by_cases hv : v ∈ L.take k
    · simp [hv]
    · by_cases hv2 : v = L[k]
      · simp [hv, hv2]
      · have : ¬ ((L[k] : Nat) : Int) = (v : Int) := by omega
        simp [hv, hv2, this]
  · rw [li_len, List.take_length]; simp [fn_law23_FlowTurns_l2, li_len]
theorem ok_idx {E : ArG} {N : Nat} {o : List Nat} (hp : o.Perm (List.range N)) (hE : inN N E) (h : OkO E o) {k u : Nat} (he : (k, u) ∈ E) (hi : o.idxOf k < o.idxOf u) : Rch E u k := by
  have hd : o.Nodup := hp.nodup_iff.2 List.nodup_range
  have hk : k ∈ o := hp.mem_iff.2 (List.mem_range.2 (hE _ he).1)
  obtain ⟨A, B, e⟩ := List.append_of_mem hk
  rcases h A k B e u he with q | q
  · exfalso
    have hkA : k ∉ A := by
      intro hkA
      rw [e, List.nodup_append] at hd
      exact hd.2.2 k hkA k (by simp) rfl
    have e1 : o.idxOf k = A.length := by rw [e, List.idxOf_append, if_neg hkA]; simp
    have e2 : o.idxOf u < A.length := by rw [e, List.idxOf_append, if_pos q]; exact List.idxOf_lt_length_of_mem q
    omega
  · exact q
section
variable {P : Pts} {N : Nat} {E : ArG} {o : List Nat}
theorem turns_in (hE : inN N E) (hN : N ≤ 1000) (he : E.length ≤ 2000) (hp : o.Perm (List.range N)) (ho : OkO E o) {k : Nat} (hk : k < N) : loop (fn_law23_FlowTurns_l3 (flG P N E) (N : Int) (place N o N) (ai E) (k : Int) (li (nxt E k))) 0 = some (.inl ()) := by
  have n1 : (nxt E k).length ≤ E.length := by unfold nxt; rw [List.length_map]; have := occ_bound (E.map (·.1)) k; rw [List.length_map] at this; exact this
  have h := loop_nat (body := fn_law23_FlowTurns_l3 (flG P N E) (N : Int) (place N o N) (ai E) (k : Int) (li (nxt E k))) (fun i : Nat => (i : Int)) (nxt E k).length (b := .inl ()) ?_ ?_
  · exact h
  · intro i hi
    have hu : (k, (nxt E k)[i]) ∈ E := nxt_mem.1 (List.getElem_mem hi)
    have huN := (hE _ hu).2
    have hi2 : i < (li (nxt E k)).length := by rw [li_len]; exact hi
    have hbk : k ∈ nxt (tn E) (nxt E k)[i] := nxt_mem.2 (tn_mem.2 hu)
    have n2 : (nxt (tn E) (nxt E k)[i]).length ≤ E.length := by unfold nxt; rw [List.length_map]; have := occ_bound ((tn E).map (·.1)) ((occ (E.map (·.1)) k).map (fun i => (E.getD i (0, 0)).2))[i]; rw [List.length_map, tn_len] at this; exact this
    unfold fn_law23_FlowTurns_l3
    simp only [dlt hi2, cond_true, getI_li hi, Option.bind_some, flBack_of (P := P) (N := N) (E := E) (by omega) (by omega) huN, back23 k _ (show (nxt (tn E) (nxt E k)[i]).length ≤ 1000000 by omega), hbk, decide_true, Bool.not_true, cond_false, place_get hp huN, place_get hp hk, w64s hi2 (by rw [li_len]; omega)]
    by_cases q : o.idxOf k < o.idxOf (nxt E k)[i]
    · rw [decide_eq_true (by omega), cond_true, refReach_eq hE (by omega) (by omega) huN]
      have hr := ok_idx hp hE ho hu q
      have hin : k ∈ rl N E (nxt E k)[i] := (rl_mem hE huN).2 hr
      have g : getI (inL N (rl N E (nxt E k)[i])) (k : Int) = some 1 := by unfold inL; rw [getI_map hk, if_pos hin]
      simp only [Option.bind_some, g]; rfl
    · rw [decide_eq_false (by omega), cond_false]
  · unfold fn_law23_FlowTurns_l3
    simp only [li_len, dge (show ¬ (nxt E k).length < (nxt E k).length by omega), cond_false]
theorem turns_out (hE : inN N E) (hN : N ≤ 1000) (he : E.length ≤ 2000) (hp : o.Perm (List.range N)) (ho : OkO E o) : loop (fn_law23_FlowTurns_l4 (flG P N E) (N : Int) (place N o N)) (ai E, 0) = some (.inl ()) := by
  have h := loop_nat (body := fn_law23_FlowTurns_l4 (flG P N E) (N : Int) (place N o N)) (fun i : Nat => (ai E, (i : Int))) N (b := .inl ()) ?_ ?_
  · exact h
  · intro k hk
    unfold fn_law23_FlowTurns_l4
    simp only [dlt hk, cond_true, flNext_of (P := P) (N := N) (E := E) (by omega) (by omega) hk, Option.bind_some, turns_in hE hN he hp ho hk, w64s hk (by omega : N ≤ 9223372036854775807)]
  · unfold fn_law23_FlowTurns_l4
    simp only [dge (show ¬ N < N by omega), cond_false]
end
theorem none_next : fn_flow_Flow_Next none 0 = some [] := by
  unfold fn_flow_Flow_Next fn_flow_Flow_ways
  simp only [Option.isNone_none, cond_true, Option.bind_some]; rw [Next_none]; rfl
theorem none_back : fn_flow_Flow_Back none 0 = some [] := by
  unfold fn_flow_Flow_Back fn_flow_Flow_ways
  simp only [Option.isNone_none, cond_true, Option.bind_some]; rw [In_none, Option.bind_some, loop_end (b := ([] : List Int)) (by simp [fn_flow_Flow_Back_l1])]; rfl
theorem none_reached : fn_flow_Flow_Reached none = some [] := by
  unfold fn_flow_Flow_Reached fn_flow_Flow_ways
  simp only [Option.isNone_none, cond_true, Option.bind_some]; rw [Reach_none]; rfl
theorem none_stops : fn_flow_Flow_Stops none = some [] := by
  unfold fn_flow_Flow_Stops fn_flow_Flow_ways
  simp only [Option.isNone_none, cond_true, Option.bind_some]; rw [Nodes_none, Option.bind_some, loop_end (b := ([] : List Int)) (by simp [fn_flow_Flow_Stops_l1])]; rfl
theorem none_order : fn_flow_Flow_Order none = some [] := by
  unfold fn_flow_Flow_Order fn_flow_Flow_ways
  simp only [Option.isNone_none, cond_true, Option.bind_some]; rw [Nodes_none]
  simp only [Option.bind_some]
  rw [show (mk 0 0 [] : Option (List (List Int))) = some [] from mkN (k := 0) (by omega)]
  simp only [Option.bind_some, List.length_nil]
  rw [show (mk ((0 : Nat) : Int) ((0 : Nat) : Int) false : Option (List Bool)) = some [] from mkN (k := 0) (by omega)]
  simp only [Option.bind_some]
  rw [loop_end (b := ([] : List Int)) (by simp [fn_flow_Flow_Order_l3])]; rfl
theorem FlowTurns_true (xa : Bo) (k0 : Tp.Ok tyBody xa) (q0 : Tp.Fit tyBody xa) : fn_law23_FlowTurns xa = some true := by
  unfold fn_law23_FlowTurns
  rcases small20 xa (fit_body q0) with h | ⟨h, hs⟩
  · rw [show fn_ref20_Small (xa.1, xa.2.1, xa.2.2.1, xa.2.2.2.1, xa.2.2.2.2.1, xa.2.2.2.2.2.1, xa.2.2.2.2.2.2) = some false from h, awake23]; rfl
  · have hT := xs_tos hs
    have h32 := hT.pts
    have hin := arcN_in (xs xa) _ (Nat.le_refl _)
    have hb := arcs_bound hT (Nat.le_refl _)
    rw [show fn_ref20_Small (xa.1, xa.2.1, xa.2.2.1, xa.2.2.2.1, xa.2.2.2.2.1, xa.2.2.2.2.2.1, xa.2.2.2.2.2.2) = some true from h, show fn_flow_New (xa.1, xa.2.1, xa.2.2.1, xa.2.2.2.1, xa.2.2.2.2.1, xa.2.2.2.2.2.1, xa.2.2.2.2.2.2) = _ from flowNew_eq hs, show fn_ref23_Arcs (xa.1, xa.2.1, xa.2.2.1, xa.2.2.2.1, xa.2.2.2.2.1, xa.2.2.2.2.2.1, xa.2.2.2.2.2.2) = _ from refArcs23_eq hs]
    have e1 : fn_point_Points_Len (ptsOf (xs xa)) = some ((bg (xs xa) (xs xa).length : Nat) : Int) := rfl
    simp only [Option.bind_some, Bool.not_true, cond_false, flPoints, e1]
    generalize hE : arcs (xs xa) = E at *
    replace hin : inN (bg (xs xa) (xs xa).length) E := hE ▸ hin
    replace hb : E.length ≤ 1024 := hE ▸ hb
    generalize bg (xs xa) (xs xa).length = N at *
    generalize ptsOf (xs xa) = P at *
    obtain ⟨o, m, hthr, hp, ho⟩ := Thr.all hin
    have hl : o.length = N := by have := hp.length_eq; simpa using this
    rw [order_eq hin (by omega) (by omega) hthr]
    simp only [Option.bind_some, li_len, hl, decide_true, Bool.not_true, cond_false]
    rw [mkN (by omega), Option.bind_some, turns_place hp (by omega)]
    simp only [Option.bind_some]
    rw [turns_out hin (by omega) (by omega) hp ho]
    simp only [Option.bind_some, none_next, none_back, none_reached, none_stops, none_order, awake23, show fn_flow_Flow_Points none = some none from rfl]
    rfl
end Go.Proofs.YtbennpandomacaaGreat
