/- Layer 23's law of the order: the reference's recursion. -/
import Derived.Test.YtbennpandomacaaGreatB23
namespace Go.Proofs.YtbennpandomacaaGreat
open Go.RowKit
set_option linter.unusedVariables false
set_option linter.unnecessarySimpa false
set_option linter.unusedSimpArgs false
set_option maxRecDepth 20000
theorem been23 (L M : List Nat) {i : Nat} (hi : i < L.length) (hM : M.length ≤ 1000000) : loop (fn_ref23_through_krri_l1 (li L) (li M) (i : Int)) (false, 0) = some (decide (L[i] ∈ M)) := by
  have h := loop_carry (body := fn_ref23_through_krri_l1 (li L) (li M) (i : Int)) (li M) (fun k => decide (L[i] ∈ M.take k)) (decide (L[i] ∈ M)) ?_ ?_
  · simpa using h
  · intro k h
    have hk : k < M.length := by rw [li_len] at h; exact h
    unfold fn_ref23_through_krri_l1
    have e : decide (L[i] ∈ M.take (k + 1)) = (decide (L[i] ∈ M.take k) || decide (L[i] = M[k])) := by
      rw [← Bool.decide_or]; refine decide_eq_decide.2 ?_; rw [take_snoc hk, List.mem_append, List.mem_singleton]
    rw [e]
    simp only [dlt h, cond_true, getI_li hk, getI_li hi, w64s h (by rw [li_len]; omega)]
    by_cases hv : L[i] ∈ M.take k
    · simp [hv]
    · by_cases hv2 : L[i] = M[k]
      · simp [hv, hv2]
      · have : ¬ ((M[k] : Nat) : Int) = ((L[i] : Nat) : Int) := by omega
        simp [hv, hv2, this]
  · rw [li_len, List.take_length]; simp [fn_ref23_through_krri_l1, li_len]
/-- A round of the reference's loop, with so much fuel behind. -/
noncomputable def thB (E : ArG) (f : Nat) (L : List Nat) : (List Int × List Int × Int) → Option ((List Int × List Int × Int) ⊕ (List Int × List Int)) := fun (o, m, i) =>
  cond (decide (i < (((li L).length : Nat) : Int))) ((loop (fn_ref23_through_krri_l1 (li L) m i) (false, 0)).bind fun t => cond (!t) ((getI (li L) i).bind fun x => (fnr_ref23_through_krri f (ai E) x o m).bind fun (a, b) => some (.inl (a, b, IntKind.wrap .i64 (i + 1)))) (some (.inl (o, m, IntKind.wrap .i64 (i + 1))))) (some (.inr (o, m)))
theorem th_succ {E : ArG} (he : E.length ≤ 1000000) {f n : Nat} {o m : List Nat} (hm : m.length ≤ 1000000) : fnr_ref23_through_krri (f + 1) (ai E) (n : Int) (li o) (li m) = (loop (thB E f (nxt E n)) (li o, li (m ++ [n]), 0)).bind fun (a, b) => (app a [(n : Int)]).bind fun z => some (z, b) := by
  rw [fnr_ref23_through_krri]
  rw [app_eq (by rw [li_len]; simp; omega), Option.bind_some, refNextE he, Option.bind_some, ← li_single, ← li_app]
  rfl
theorem th_run {E : ArG} {N : Nat} (hE : inN N E) (hN : N ≤ 1000) (he : E.length ≤ 2000) {o m r o' m' : List Nat} (h : Thr E o m r o' m') :
    ∀ (L : List Nat) (i : Nat), L.drop i = r → L.length ≤ 1000000 → m.Nodup → (∀ x ∈ m, x < N) → (∀ x ∈ r, x < N) → o.length ≤ m.length → ∃ f0, ∀ f, f0 ≤ f → loop (thB E f L) (li o, li m, (i : Int)) = some (li o', li m') := by
  induction h with
  | nil =>
    rename_i o m
    intro L i hL hl hd hm hr ho
    have hi : L.length ≤ i := List.drop_eq_nil_iff.1 hL
    refine ⟨0, fun f _ => loop_end ?_⟩
    unfold thB
    simp only [li_len, dge (show ¬ i < L.length by omega), cond_false]
  | skip hu h ih =>
    rename_i o m r o' m' u
    intro L i hL hl hd hm hr ho
    have hi : i < L.length := by
      rcases Nat.lt_or_ge i L.length with q | q
      · exact q
      · rw [List.drop_eq_nil_iff.2 q] at hL; cases hL
    rw [List.drop_eq_getElem_cons hi] at hL
    obtain ⟨e1, e2⟩ := List.cons.inj hL
    have hmn := nodup_lt hd hm
    obtain ⟨f0, h0⟩ := ih L (i + 1) e2 hl hd hm (fun x hx => hr x (List.mem_cons_of_mem _ hx)) ho
    refine ⟨f0, fun f hf => ?_⟩
    rw [← h0 f hf]
    refine loop_next ?_
    unfold thB
    have hu' : L[i] ∈ m := by rw [e1]; exact hu
    simp only [li_len, dlt hi, cond_true, been23 L m hi (show m.length ≤ 1000000 by omega), Option.bind_some, hu', decide_true, Bool.not_true, cond_false, w64s hi (by omega : L.length ≤ 9223372036854775807)]
  | step hu h1 h2 ih1 ih2 =>
    rename_i o m r o1 m1 o' m' u
    intro L i hL hl hd hm hr ho
    have hi : i < L.length := by
      rcases Nat.lt_or_ge i L.length with q | q
      · exact q
      · rw [List.drop_eq_nil_iff.2 q] at hL; cases hL
    rw [List.drop_eq_getElem_cons hi] at hL
    obtain ⟨e1, e2⟩ := List.cons.inj hL
    have hmn := nodup_lt hd hm
    have huN := hr u (List.mem_cons_self ..)
    have hd1 : (m ++ [u]).Nodup := by
      rw [List.nodup_append]; refine ⟨hd, by simp, ?_⟩
      intro x hx y hy; simp at hy; subst hy; intro e; subst e; exact hu hx
    have hl1 : ∀ x ∈ m ++ [u], x < N := fun x hx => by
      rcases List.mem_append.1 hx with q | q
      · exact hm x q
      · simp at q; omega
    have hn1 : ∀ x ∈ nxt E u, x < N := fun x hx => (hE _ (nxt_mem.1 hx)).2
    have n1 : (nxt E u).length ≤ E.length := by unfold nxt; rw [List.length_map]; have := occ_bound (E.map (·.1)) u; rw [List.length_map] at this; exact this
    obtain ⟨f1, k1⟩ := ih1 (nxt E u) 0 rfl (by omega) hd1 hl1 hn1 (by simp; omega)
    obtain ⟨D, O, rfl, rfl, hp, _⟩ := h1.grow
    obtain ⟨c1, c2⟩ := h1.inv hE hd1 hl1 hn1
    have hlen := hp.length_eq
    have hmn1 := nodup_lt c1 c2
    obtain ⟨f2, k2⟩ := ih2 L (i + 1) e2 hl c1 c2 (fun x hx => hr x (List.mem_cons_of_mem _ hx)) (by simp; omega)
    refine ⟨max (f1 + 1) f2, fun f hf => ?_⟩
    rw [← k2 f (by omega)]
    refine loop_next ?_
    obtain ⟨f', rfl⟩ : ∃ f', f = f' + 1 := ⟨f - 1, by omega⟩
    have hth : fnr_ref23_through_krri (f' + 1) (ai E) (u : Int) (li o) (li m) = some (li (o ++ O ++ [u]), li (m ++ [u] ++ D)) := by
      rw [th_succ (by omega) (by omega), show (0 : Int) = ((0 : Nat) : Int) from rfl, k1 f' (by omega), Option.bind_some]
      dsimp only
      rw [app_eq (by rw [li_len]; simp at hmn1 ⊢; omega), Option.bind_some, ← li_single, ← li_app]
    unfold thB
    have hu' : ¬ L[i] ∈ m := by rw [e1]; exact hu
    simp only [li_len, dlt hi, cond_true, been23 L m hi (show m.length ≤ 1000000 by omega), Option.bind_some, hu', decide_false, Bool.not_false, getI_li hi, w64s hi (by omega : L.length ≤ 9223372036854775807)]
    rw [e1, hth]; rfl
theorem through_eq {E : ArG} {N : Nat} (hE : inN N E) (hN : N ≤ 1000) (he : E.length ≤ 2000) {o m o1 m1 : List Nat} {u : Nat} (h : Thr E o (m ++ [u]) (nxt E u) o1 m1) (hu : u ∉ m) (huN : u < N) (hd : m.Nodup) (hm : ∀ x ∈ m, x < N) (ho : o.length ≤ m.length) :
    fn_ref23_through_krri (ai E) (u : Int) (li o) (li m) = some (li (o1 ++ [u]), li m1) := by
  have hmn := nodup_lt hd hm
  have hd1 : (m ++ [u]).Nodup := by
    rw [List.nodup_append]; refine ⟨hd, by simp, ?_⟩
    intro x hx y hy; simp at hy; subst hy; intro e; subst e; exact hu hx
  have hl1 : ∀ x ∈ m ++ [u], x < N := fun x hx => by
    rcases List.mem_append.1 hx with q | q
    · exact hm x q
    · simp at q; omega
  have hn1 : ∀ x ∈ nxt E u, x < N := fun x hx => (hE _ (nxt_mem.1 hx)).2
  have n1 : (nxt E u).length ≤ E.length := by unfold nxt; rw [List.length_map]; have := occ_bound (E.map (·.1)) u; rw [List.length_map] at this; exact this
  obtain ⟨f1, k1⟩ := th_run hE hN he h (nxt E u) 0 rfl (by omega) hd1 hl1 hn1 (by simp; omega)
  obtain ⟨D, O, rfl, rfl, hp, _⟩ := h.grow
  obtain ⟨c1, c2⟩ := h.inv hE hd1 hl1 hn1
  have hlen := hp.length_eq
  have hmn1 := nodup_lt c1 c2
  unfold fn_ref23_through_krri
  refine lev_eq (f1 + 1) (fun f hf => ?_)
  obtain ⟨f', rfl⟩ : ∃ f', f = f' + 1 := ⟨f - 1, by omega⟩
  rw [th_succ (by omega) (by omega), show (0 : Int) = ((0 : Nat) : Int) from rfl, k1 f' (by omega), Option.bind_some]
  dsimp only
  rw [app_eq (by rw [li_len]; simp at hmn1 ⊢; omega), Option.bind_some, ← li_single, ← li_app]
theorem been23' (M : List Nat) (v : Nat) (hM : M.length ≤ 1000000) : loop (fn_ref23_Order_l1 (li M) (v : Int)) (false, 0) = some (decide (v ∈ M)) := by
  have h := loop_carry (body := fn_ref23_Order_l1 (li M) (v : Int)) (li M) (fun k => decide (v ∈ M.take k)) (decide (v ∈ M)) ?_ ?_
  · simpa using h
  · intro k h
    have hk : k < M.length := by rw [li_len] at h; exact h
    unfold fn_ref23_Order_l1
    have e : decide (v ∈ M.take (k + 1)) = (decide (v ∈ M.take k) || decide (v = M[k])) := by
      rw [← Bool.decide_or]; refine decide_eq_decide.2 ?_; rw [take_snoc hk, List.mem_append, List.mem_singleton]
    rw [e]
    simp only [dlt h, cond_true, getI_li hk, w64s h (by rw [li_len]; omega)]
    by_cases hv : v ∈ M.take k
    · simp [hv]
    · by_cases hv2 : v = M[k]
      · simp [hv, hv2]
      · have : ¬ ((M[k] : Nat) : Int) = (v : Int) := by omega
        simp [hv, hv2, this]
  · rw [li_len, List.take_length]; simp [fn_ref23_Order_l1, li_len]
theorem ref_all {E : ArG} {N : Nat} (hE : inN N E) (hN : N ≤ 1000) (he : E.length ≤ 2000) {o m r o' m' : List Nat} (h : Thr E o m r o' m') :
    ∀ (k : Nat), r = List.range' k (N - k) → k ≤ N → m.Nodup → (∀ x ∈ m, x < N) → o.length ≤ m.length → loop (fn_ref23_Order_l2 (N : Int) (ai E)) (li o, li m, (k : Int)) = some (li o') := by
  induction h with
  | nil =>
    rename_i o m
    intro k hr hk hd hl ho
    have : N ≤ k := by
      have := congrArg List.length hr
      simp at this; omega
    refine loop_end ?_
    unfold fn_ref23_Order_l2
    simp only [dge (show ¬ k < N by omega), cond_false]
  | skip hu h ih =>
    rename_i o m r o' m' u
    intro k hr hk hd hl ho
    have hkN : k < N := by
      have := congrArg List.length hr
      simp at this; omega
    rw [show N - k = (N - (k + 1)) + 1 by omega, List.range'_succ] at hr
    simp only [List.cons.injEq] at hr
    obtain ⟨rfl, hr⟩ := hr
    have hmn := nodup_lt hd hl
    rw [← ih (u + 1) hr (by omega) hd hl ho]
    refine loop_next ?_
    unfold fn_ref23_Order_l2
    simp only [dlt hkN, cond_true, been23' m u (show m.length ≤ 1000000 by omega), Option.bind_some, hu, decide_true, Bool.not_true, cond_false, w64s hkN (by omega : N ≤ 9223372036854775807)]
  | step hu h1 h2 ih1 ih2 =>
    rename_i o m r o1 m1 o' m' u
    intro k hr hk hd hl ho
    have hkN : k < N := by
      have := congrArg List.length hr
      simp at this; omega
    rw [show N - k = (N - (k + 1)) + 1 by omega, List.range'_succ] at hr
    simp only [List.cons.injEq] at hr
    obtain ⟨rfl, hr⟩ := hr
    have hmn := nodup_lt hd hl
    have hd1 : (m ++ [u]).Nodup := by
      rw [List.nodup_append]; refine ⟨hd, by simp, ?_⟩
      intro x hx y hy; simp at hy; subst hy; intro e; subst e; exact hu hx
    have hl1 : ∀ x ∈ m ++ [u], x < N := fun x hx => by
      rcases List.mem_append.1 hx with q | q
      · exact hl x q
      · simp at q; omega
    have hn1 : ∀ x ∈ nxt E u, x < N := fun x hx => (hE _ (nxt_mem.1 hx)).2
    have hth := through_eq hE hN he h1 hu hkN hd hl ho
    obtain ⟨D, O, rfl, rfl, hp, _⟩ := h1.grow
    obtain ⟨c1, c2⟩ := h1.inv hE hd1 hl1 hn1
    have hlen := hp.length_eq
    rw [← ih2 (u + 1) hr (by omega) c1 c2 (by simp; omega)]
    refine loop_next ?_
    unfold fn_ref23_Order_l2
    simp only [dlt hkN, cond_true, been23' m u (show m.length ≤ 1000000 by omega), Option.bind_some, hu, decide_false, Bool.not_false, hth, w64s hkN (by omega : N ≤ 9223372036854775807)]
theorem refOrder_eq {E : ArG} {N : Nat} (hE : inN N E) (hN : N ≤ 1000) (he : E.length ≤ 2000) {o m : List Nat} (h : Thr E [] [] (List.range N) o m) : fn_ref23_Order (N : Int) (ai E) = some (li o) := by
  unfold fn_ref23_Order
  have := ref_all hE hN he h 0 (by rw [List.range_eq_range']; rfl) (by omega) (by simp) (by simp) (by simp)
  rw [show loop (fn_ref23_Order_l2 (N : Int) (ai E)) ([], [], 0) = _ from this]; rfl
theorem FlowOrders_true (xa : Bo) (k0 : Tp.Ok tyBody xa) (q0 : Tp.Fit tyBody xa) : fn_law23_FlowOrders xa = some true := by
  unfold fn_law23_FlowOrders
  rcases small20 xa (fit_body q0) with h | ⟨h, hs⟩
  · rw [show fn_ref20_Small (xa.1, xa.2.1, xa.2.2.1, xa.2.2.2.1, xa.2.2.2.2.1, xa.2.2.2.2.2.1, xa.2.2.2.2.2.2) = some false from h, awake23]; rfl
  · have hT := xs_tos hs
    have h32 := hT.pts
    have hin := arcN_in (xs xa) _ (Nat.le_refl _)
    have hb := arcs_bound hT (Nat.le_refl _)
    have hal := alls_len (xs xa)
    rw [show fn_ref20_Small (xa.1, xa.2.1, xa.2.2.1, xa.2.2.2.1, xa.2.2.2.2.1, xa.2.2.2.2.2.1, xa.2.2.2.2.2.2) = some true from h, show fn_flow_New (xa.1, xa.2.1, xa.2.2.1, xa.2.2.2.1, xa.2.2.2.2.1, xa.2.2.2.2.2.1, xa.2.2.2.2.2.2) = _ from flowNew_eq hs, show fn_ref22_All (xa.1, xa.2.1, xa.2.2.1, xa.2.2.2.1, xa.2.2.2.2.1, xa.2.2.2.2.2.1, xa.2.2.2.2.2.2) = _ from refAll_eq hs, show fn_ref23_Arcs (xa.1, xa.2.1, xa.2.2.1, xa.2.2.2.1, xa.2.2.2.2.1, xa.2.2.2.2.2.1, xa.2.2.2.2.2.2) = _ from refArcs23_eq hs]
    obtain ⟨o, m, hthr, hp, ho⟩ := Thr.all hin
    have hl : o.length = bg (xs xa) (xs xa).length := by have := hp.length_eq; simpa using this
    simp only [Option.bind_some, Bool.not_true, cond_false, hal, order_eq (P := ptsOf (xs xa)) hin (by omega) (Nat.le_trans hb (by decide)) hthr, refOrder_eq hin (by omega) (Nat.le_trans hb (by decide)) hthr]
    rw [same01_eq _ _ (by rw [li_len]; omega), awake23]
    simp
end Go.Proofs.YtbennpandomacaaGreat
