/- The order of a flow's points: the program's way through them, and the reference's, in plain words. -/
import Derived.Test.YtbennpandomacaaGreatG23
import Derived.Test.YtbennpandomacaaGreatR10
namespace Go.Proofs.YtbennpandomacaaGreat
open Go.RowKit
set_option linter.unusedVariables false
set_option linter.unnecessarySimpa false
set_option linter.unusedSimpArgs false
set_option maxRecDepth 20000
abbrev Pts := Option (List Int × Int)
abbrev flG (P : Pts) (N : Nat) (E : ArG) : Option (Pts × Option Gr) := some (P, some (mkG N E))
theorem flNext_of {P : Pts} {N : Nat} {E : ArG} (hn : N ≤ 1048576) (he : E.length ≤ 67108864) {v : Nat} (h : v < N) : fn_flow_Flow_Next (flG P N E) (v : Int) = some (li (nxt E v)) := by
  unfold fn_flow_Flow_Next fn_flow_Flow_ways flG
  simp only [Option.isNone_some, cond_false, Option.bind_some]
  rw [Next_of hn he h]; rfl
theorem metL_get {N : Nat} {m : List Nat} {u : Nat} (h : u < N) : getI (metL N m) (u : Int) = some (decide (u ∈ m)) := getI_map h
theorem metL_set {N : Nat} {m : List Nat} {u : Nat} : (metL N m).set u true = metL N (m ++ [u]) := by
  unfold metL
  rw [set_map]
  refine map_congr_range (fun v _ => ?_)
  by_cases q : v = u <;> simp [q]
theorem li_app (a b : List Nat) : li (a ++ b) = li a ++ li b := by simp [li]
theorem li_single (u : Nat) : li [u] = [(u : Int)] := rfl
section
variable {P : Pts} {N : Nat} {E : ArG}
theorem ord_skip {out : List Int} {m : List Nat} {way : List Int} {n u : Nat} {r : List Nat} {nx : List (List Int)} (hn : n < N) (hu : u < N) (hl : nx.length = N) (hx : nx[n]? = some (li (u :: r))) (hm : u ∈ m) :
    fn_flow_Flow_Order_l1 (flG P N E) out (metL N m) way (n : Int) nx = some (.inl (nx.set n (li r))) := by
  have g0 : getI nx (n : Int) = some (li (u :: r)) := by unfold getI; rw [if_pos (by omega), Int.toNat_natCast, hx]
  have g1 : getI (li (u :: r)) 0 = some (u : Int) := rfl
  have g2 : subL (li (u :: r)) 1 (((li (u :: r)).length : Nat) : Int) = some (li r) := by
    rw [subL_eq (by omega) (by simp [li_len]; omega) (Int.le_refl _)]
    rw [Int.toNat_natCast, List.take_length]; rfl
  have g3 : decide (0 < (((li (u :: r)).length : Nat) : Int)) = true := by simp [li_len]
  unfold fn_flow_Flow_Order_l1
  simp only [g0, Option.bind_some, g3, cond_true, g1, g2, metL_get hu, hm, decide_true, Bool.not_true, cond_false, Int.toNat_natCast]
theorem ord_push (hN : N ≤ 1048576) (he : E.length ≤ 67108864) {out : List Int} {m : List Nat} {way : List Int} {n u : Nat} {r : List Nat} {nx : List (List Int)} (hn : n < N) (hu : u < N) (hl : nx.length = N) (hx : nx[n]? = some (li (u :: r))) (hm : u ∉ m) (hw : way.length ≤ 1000000000) :
    fn_flow_Flow_Order_l1 (flG P N E) out (metL N m) way (n : Int) nx = some (.inr (.inr (.inl (out, (nx.set n (li r)).set u (li (nxt E u)), metL N (m ++ [u]), way ++ [(u : Int)])))) := by
  have g0 : getI nx (n : Int) = some (li (u :: r)) := by unfold getI; rw [if_pos (by omega), Int.toNat_natCast, hx]
  have g1 : getI (li (u :: r)) 0 = some (u : Int) := rfl
  have g2 : subL (li (u :: r)) 1 (((li (u :: r)).length : Nat) : Int) = some (li r) := by
    rw [subL_eq (by omega) (by simp [li_len]; omega) (Int.le_refl _)]
    rw [Int.toNat_natCast, List.take_length]; rfl
  have g3 : decide (0 < (((li (u :: r)).length : Nat) : Int)) = true := by simp [li_len]
  have g4 : ∃ y, getI (nx.set n (li r)) (u : Int) = some y := ⟨_, getN (by rw [List.length_set]; omega)⟩
  obtain ⟨y, g4⟩ := g4
  unfold fn_flow_Flow_Order_l1
  simp only [g0, Option.bind_some, g3, cond_true, g1, g2, metL_get hu, hm, decide_false, Bool.not_false, Int.toNat_natCast, flNext_of hN he hu, metL_set, g4]
  rw [app_eq (by simp; omega)]; rfl
theorem ord_done {out : List Int} {m : List Nat} {way : List Int} {n : Nat} {nx : List (List Int)} (hx : nx[n]? = some []) :
    fn_flow_Flow_Order_l1 (flG P N E) out (metL N m) way (n : Int) nx = some (.inr (.inl nx)) := by
  have g0 : getI nx (n : Int) = some [] := by unfold getI; rw [if_pos (by omega), Int.toNat_natCast, hx]
  unfold fn_flow_Flow_Order_l1
  simp only [g0, Option.bind_some, List.length_nil]; rfl
/-- A step of the middle loop, at a way that is not empty. -/
theorem ord_l2 {out : List Int} {m : List Nat} {w : List Nat} {n : Nat} {nx : List (List Int)} (hw : w.length ≤ 1000000000) : fn_flow_Flow_Order_l2 (flG P N E) (out, nx, metL N m, li (w ++ [n])) =
    (loop (fn_flow_Flow_Order_l1 (flG P N E) out (metL N m) (li (w ++ [n])) (n : Int)) nx).bind fun o => match o with | .inr r => some r | .inl nx' => (app out [(n : Int)]).bind fun z => some (.inl (z, nx', metL N m, li w)) := by
  have h1 : (li (w ++ [n])).length = w.length + 1 := by simp [li_len]
  have g1 : IntKind.wrap .i64 ((((li (w ++ [n])).length : Nat) : Int) - 1) = (w.length : Int) := by rw [h1, w64 (by omega) (by omega)]; omega
  have g2 : getI (li (w ++ [n])) (w.length : Int) = some (n : Int) := by rw [getI_li (by simp)]; simp
  have g3 : subL (li (w ++ [n])) 0 (w.length : Int) = some (li w) := by
    rw [subL_eq (by omega) (by omega) (by rw [h1]; omega)]
    simp [li_app, li_len, List.take_append_of_le_length, List.take_of_length_le]
  have g0 : decide (0 < (((li (w ++ [n])).length : Nat) : Int)) = true := by rw [h1]; simp
  unfold fn_flow_Flow_Order_l2
  simp only [g0, cond_true, g1, g2, g3, Option.bind_some]
  rfl
theorem loop_same {σ β : Type} {body : σ → Option (σ ⊕ β)} {s s' : σ} (h : body s = body s') : loop body s = loop body s' := by
  unfold loop
  congr 1
  funext n
  cases n with
  | zero => rfl
  | succ n => unfold iter; rw [h]
theorem ord_run (hE : inN N E) (hN : N ≤ 1048576) (he : E.length ≤ 67108864) {o m r o' m' : List Nat} (h : Thr E o m r o' m') :
    ∀ (w : List Nat) (n : Nat) (nx : List (List Int)), m.Nodup → (∀ x ∈ m, x < N) → (∀ x ∈ r, x < N) → n ∈ m → nx.length = N → nx[n]? = some (li r) → w.length + 1 ≤ m.length → o.length + 1 ≤ m.length →
    ∃ nx', nx'.length = N ∧ (∀ v ∈ m, v ≠ n → nx'[v]? = nx[v]?) ∧ loop (fn_flow_Flow_Order_l2 (flG P N E)) (li o, nx, metL N m, li (w ++ [n])) = loop (fn_flow_Flow_Order_l2 (flG P N E)) (li (o' ++ [n]), nx', metL N m', li w) := by
  induction h with
  | nil =>
    rename_i o m
    intro w n nx hd hl hr hn hx hxn hw ho
    have hm := nodup_lt hd hl
    refine ⟨nx, hx, fun v _ _ => rfl, loop_next ?_⟩
    rw [ord_l2 (by omega), loop_end (ord_done hxn)]
    simp only [Option.bind_some]
    rw [app_eq (by simp [li_len]; omega)]
    simp [li_app, li]
  | skip hu h ih =>
    rename_i o m r o' m' u
    intro w n nx hd hl hr hn hx hxn hw ho
    have hm := nodup_lt hd hl
    have hnN := hl n hn
    obtain ⟨nx', a1, a2, a3⟩ := ih w n (nx.set n (li r)) hd hl (fun x hx => hr x (List.mem_cons_of_mem _ hx)) hn (by simpa using hx) (by rw [List.getElem?_set_self (by omega)]) hw ho
    refine ⟨nx', a1, fun v hv hvn => by rw [a2 v hv hvn, List.getElem?_set_ne (by omega)], ?_⟩
    rw [← a3]
    have hb : fn_flow_Flow_Order_l2 (flG P N E) (li o, nx, metL N m, li (w ++ [n])) = fn_flow_Flow_Order_l2 (flG P N E) (li o, nx.set n (li r), metL N m, li (w ++ [n])) := by
      rw [ord_l2 (by omega), ord_l2 (by omega), loop_next (ord_skip hnN (hr u (List.mem_cons_self ..)) hx hxn hu)]
    exact loop_same hb
  | step hu h1 h2 ih1 ih2 =>
    rename_i o m r o1 m1 o' m' u
    intro w n nx hd hl hr hn hx hxn hw ho
    have hm := nodup_lt hd hl
    have hnN := hl n hn
    have huN := hr u (List.mem_cons_self ..)
    have hd1 : (m ++ [u]).Nodup := by
      rw [List.nodup_append]; refine ⟨hd, by simp, ?_⟩
      intro x hx y hy; simp at hy; subst hy; intro e; subst e; exact hu hx
    have hl1 : ∀ x ∈ m ++ [u], x < N := fun x hx => by
      rcases List.mem_append.1 hx with q | q
      · exact hl x q
      · simp at q; omega
    have hn1 : ∀ x ∈ nxt E u, x < N := fun x hx => (hE _ (nxt_mem.1 hx)).2
    have hnl : (nxt E u).length ≤ 67108864 := by
      unfold nxt; rw [List.length_map]; have := occ_bound (E.map (·.1)) u; rw [List.length_map] at this; omega
    have hun : u ≠ n := fun e => hu (e ▸ hn)
    have hnx1 : ((nx.set n (li r)).set u (li (nxt E u))).length = N := by simpa using hx
    obtain ⟨nx1, b1, b2, b3⟩ := ih1 (w ++ [n]) u ((nx.set n (li r)).set u (li (nxt E u))) hd1 hl1 hn1 (by simp) hnx1 (by rw [List.getElem?_set_self (by rw [List.length_set]; omega)]) (by simp; omega) (by simp; omega)
    obtain ⟨D, O, rfl, rfl, hp, _⟩ := h1.grow
    obtain ⟨c1, c2⟩ := h1.inv hE hd1 hl1 hn1
    have hlen := hp.length_eq
    have hnn : nx1[n]? = some (li r) := by
      rw [b2 n (List.mem_append_left _ hn) (fun e => hun e.symm), List.getElem?_set_ne hun, List.getElem?_set_self (by omega)]
    obtain ⟨nx2, d1, d2, d3⟩ := ih2 w n nx1 c1 c2 (fun x hx => hr x (List.mem_cons_of_mem _ hx)) (by simp [hn]) b1 hnn (by simp; omega) (by simp; omega)
    refine ⟨nx2, d1, fun v hv hvn => ?_, ?_⟩
    · rw [d2 v (by simp [hv]) hvn, b2 v (List.mem_append_left _ hv) (fun e : v = u => hu (by rw [← e]; exact hv)), List.getElem?_set_ne (fun e : u = v => hu (by rw [e]; exact hv)), List.getElem?_set_ne (fun e => hvn e.symm)]
    · rw [← d3, ← b3]
      refine loop_next ?_
      rw [ord_l2 (by omega), loop_end (ord_push hN he hnN huN hx hxn hu (by simp [li_len]; omega))]
      simp only [Option.bind_some]
      rw [← li_single, ← li_app]
theorem ord_all (hE : inN N E) (hN : N ≤ 1048576) (he : E.length ≤ 67108864) {z : List (List Int)} (hz : z.length = N) {o m r o' m' : List Nat} (h : Thr E o m r o' m') :
    ∀ (k : Nat) (nx : List (List Int)), r = List.range' k (N - k) → k ≤ N → m.Nodup → (∀ x ∈ m, x < N) → nx.length = N → o.length ≤ m.length → loop (fn_flow_Flow_Order_l3 (flG P N E) z) (li o, nx, metL N m, (k : Int)) = some (li o') := by
  induction h with
  | nil =>
    rename_i o m
    intro k nx hr hk hd hl hx ho
    have : N ≤ k := by
      have := congrArg List.length hr
      simp at this; omega
    refine loop_end ?_
    unfold fn_flow_Flow_Order_l3
    simp only [hz, dge (show ¬ k < N by omega), cond_false]
  | skip hu h ih =>
    rename_i o m r o' m' u
    intro k nx hr hk hd hl hx ho
    have hkN : k < N := by
      have := congrArg List.length hr
      simp at this; omega
    rw [show N - k = (N - (k + 1)) + 1 by omega, List.range'_succ] at hr
    simp only [List.cons.injEq] at hr
    obtain ⟨rfl, hr⟩ := hr
    rw [← ih (u + 1) nx hr (by omega) hd hl hx ho]
    refine loop_next ?_
    unfold fn_flow_Flow_Order_l3
    simp only [hz, dlt hkN, cond_true, metL_get hkN, Option.bind_some, hu, decide_true, w64s hkN (by omega : N ≤ 9223372036854775807)]
  | step hu h1 h2 ih1 ih2 =>
    rename_i o m r o1 m1 o' m' u
    intro k nx hr hk hd hl hx ho
    have hkN : k < N := by
      have := congrArg List.length hr
      simp at this; omega
    rw [show N - k = (N - (k + 1)) + 1 by omega, List.range'_succ] at hr
    simp only [List.cons.injEq] at hr
    obtain ⟨rfl, hr⟩ := hr
    have hd1 : (m ++ [u]).Nodup := by
      rw [List.nodup_append]; refine ⟨hd, by simp, ?_⟩
      intro x hx y hy; simp at hy; subst hy; intro e; subst e; exact hu hx
    have hl1 : ∀ x ∈ m ++ [u], x < N := fun x hx => by
      rcases List.mem_append.1 hx with q | q
      · exact hl x q
      · simp at q; omega
    have hn1 : ∀ x ∈ nxt E u, x < N := fun x hx => (hE _ (nxt_mem.1 hx)).2
    obtain ⟨nx1, b1, _, b3⟩ := ord_run (P := P) hE hN he h1 [] u (nx.set u (li (nxt E u))) hd1 hl1 hn1 (by simp) (by simpa using hx) (by rw [List.getElem?_set_self (by omega)]) (by simp) (by simp; omega)
    obtain ⟨D, O, rfl, rfl, hp, _⟩ := h1.grow
    obtain ⟨c1, c2⟩ := h1.inv hE hd1 hl1 hn1
    have hlen := hp.length_eq
    rw [← ih2 (u + 1) nx1 hr (by omega) c1 c2 b1 (by simp; omega)]
    refine loop_next ?_
    obtain ⟨y, g4⟩ : ∃ y, getI nx (u : Int) = some y := ⟨_, getN (by omega)⟩
    have e3 : loop (fn_flow_Flow_Order_l2 (flG P N E)) (li o, nx.set u (li (nxt E u)), metL N (m ++ [u]), [(u : Int)]) = some (li (o ++ O ++ [u]), nx1, metL N (m ++ [u] ++ D)) := by
      rw [show ([(u : Int)] : List Int) = li ([] ++ [u]) from rfl, b3]
      refine loop_end ?_
      unfold fn_flow_Flow_Order_l2
      rfl
    unfold fn_flow_Flow_Order_l3
    simp only [hz, dlt hkN, cond_true, metL_get hkN, Option.bind_some, hu, decide_false, cond_false, flNext_of hN he hkN, Int.toNat_natCast, metL_set, g4, e3, w64s hkN (by omega : N ≤ 9223372036854775807)]
theorem order_eq (hE : inN N E) (hN : N ≤ 1048576) (he : E.length ≤ 67108864) {o m : List Nat} (h : Thr E [] [] (List.range N) o m) : fn_flow_Flow_Order (flG P N E) = some (li o) := by
  unfold fn_flow_Flow_Order fn_flow_Flow_ways flG
  simp only [Option.isNone_some, cond_false, Option.bind_some, Nodes_eq]
  rw [mkN (by omega)]
  simp only [Option.bind_some, List.length_replicate]
  rw [mkN (by omega)]
  simp only [Option.bind_some]
  have h0 : List.replicate N false = metL N [] := by rw [replicate_map]; unfold metL; exact map_congr_range (fun v _ => by simp)
  rw [h0, show ([] : List Int) = li [] from rfl, show (0 : Int) = ((0 : Nat) : Int) from rfl]
  have := ord_all (P := P) (z := List.replicate N ([] : List Int)) hE hN he (by simp) h 0 (List.replicate N []) (by rw [List.range_eq_range']; rfl) (by omega) (by simp) (by simp) (by simp) (by simp)
  rw [show loop (fn_flow_Flow_Order_l3 (some (P, some (mkG N E))) (List.replicate N (li []))) (li [], List.replicate N (li []), metL N [], ((0 : Nat) : Int)) = _ from this]; rfl
end
end Go.Proofs.YtbennpandomacaaGreat
