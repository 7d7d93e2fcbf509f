/- 'easement/easementlaw33.BlameComes' returns true for every input, and each argument reads afterwards as it read before: the row's frame round the walk. -/
import Derived.Test.YthoclljhjcfemaaGreatZ4
import Derived.Lib.SplitLaws
import Derived.Lib.IndexMore
import Derived.Lib.Join
namespace Go.Proofs.YthoclljhjcfemaaGreat
open Go.RowKit
set_option linter.unusedVariables false
set_option linter.unusedSimpArgs false
set_option linter.unnecessarySimpa false
/-- A ring holds the list Q. -/
structure RQ (q : List Int) (f m : Int) (Q : List Int) : Prop where
  hm : m = (Q.length : Nat)
  hl : Q.length ≤ q.length
  h0 : 0 ≤ f
  h1 : f = 0 ∨ f < (q.length : Nat)
  hq : ∀ i, i < Q.length → q[(f.toNat + i) % q.length]? = Q[i]?
theorem RQ.nil : RQ [] 0 0 [] := ⟨rfl, Nat.le_refl _, by omega, .inl rfl, fun i h => by cases h⟩
def grown (q : List Int) (f : Nat) : List Int := q.drop f ++ (q.take f ++ List.replicate (q.length + 1) 0)
theorem grown_len {q : List Int} {f : Nat} (h : f ≤ q.length) : (grown q f).length = 2 * q.length + 1 := by
  unfold grown; rw [List.length_append, List.length_append, List.length_drop, List.length_take, List.length_replicate]; omega
theorem RQ.grown {q : List Int} {f m : Int} {Q : List Int} (h : RQ q f m Q) (hf : Q.length = q.length) : RQ (grown q f.toNat) 0 m Q := by
  have hfl : f.toNat ≤ q.length := by rcases h.h1 with e | e <;> omega
  refine ⟨h.hm, by rw [grown_len hfl]; omega, by omega, .inl rfl, fun i hi => ?_⟩
  rw [grown_len hfl, ← h.hq i hi, show (0 : Int).toNat + i = i by simp, Nat.mod_eq_of_lt (by omega)]
  have h1 := h.h1
  unfold Proofs.YthoclljhjcfemaaGreat.grown
  by_cases c : i < q.length - f.toNat
  · rw [List.getElem?_append_left (by rw [List.length_drop]; exact c), List.getElem?_drop, Nat.mod_eq_of_lt (by omega)]
  · rw [List.getElem?_append_right (by rw [List.length_drop]; omega), List.length_drop, List.getElem?_append_left (by rw [List.length_take]; omega), List.getElem?_take, if_pos (by omega)]
    congr 1
    rw [Nat.mod_eq_sub_mod (by omega), Nat.mod_eq_of_lt (by omega)]
    omega
theorem RQ.snoc {q : List Int} {f m : Int} {Q : List Int} (h : RQ q f m Q) (hf : Q.length < q.length) (v : Int) : RQ (q.set ((f.toNat + Q.length) % q.length) v) f (m + 1) (Q ++ [v]) := by
  have h1 := h.h1
  have h0 := h.h0
  refine ⟨by rw [h.hm, List.length_append]; simp, by rw [List.length_set, List.length_append]; simp; omega, h.h0, by rw [List.length_set]; exact h.h1, fun i hi => ?_⟩
  rw [List.length_append, List.length_singleton] at hi
  rw [List.length_set]
  by_cases c : i = Q.length
  · subst c
    rw [List.getElem?_set_self (Nat.mod_lt _ (by omega)), List.getElem?_append_right (Nat.le_refl _), Nat.sub_self]; rfl
  · have hi : i < Q.length := by omega
    rw [List.getElem?_append_left hi, ← h.hq i hi, List.getElem?_set_ne]
    intro e
    have a1 : f.toNat ≤ q.length := by rcases h1 with e | e <;> omega
    by_cases c1 : f.toNat + Q.length < q.length
    · rw [Nat.mod_eq_of_lt c1, Nat.mod_eq_of_lt (by omega)] at e; omega
    · rw [Nat.mod_eq_sub_mod (a := f.toNat + Q.length) (by omega), Nat.mod_eq_of_lt (a := f.toNat + Q.length - q.length) (by omega)] at e
      by_cases c2 : f.toNat + i < q.length
      · rw [Nat.mod_eq_of_lt c2] at e; omega
      · rw [Nat.mod_eq_sub_mod (a := f.toNat + i) (by omega), Nat.mod_eq_of_lt (a := f.toNat + i - q.length) (by omega)] at e; omega
theorem RQ.tail {q : List Int} {f m : Int} {x : Int} {Q : List Int} (h : RQ q f m (x :: Q)) : RQ (q.set f.toNat 0) (((f.toNat + 1) % q.length : Nat) : Int) (m - 1) Q := by
  have hl := h.hl
  have h1 := h.h1
  have h0 := h.h0
  rw [List.length_cons] at hl
  refine ⟨by rw [h.hm, List.length_cons]; omega, by rw [List.length_set]; omega, by omega, .inr (by rw [List.length_set]; exact Int.ofNat_lt.2 (Nat.mod_lt _ (by omega))), fun i hi => ?_⟩
  rw [List.length_set]
  have := h.hq (i + 1) (by rw [List.length_cons]; omega)
  rw [List.getElem?_cons_succ] at this
  rw [← this, Int.toNat_natCast, Nat.mod_add_mod, show f.toNat + 1 + i = f.toNat + (i + 1) by omega, List.getElem?_set_ne]
  intro e
  by_cases c2 : f.toNat + (i + 1) < q.length
  · rw [Nat.mod_eq_of_lt c2] at e; omega
  · rw [Nat.mod_eq_sub_mod (by omega), Nat.mod_eq_of_lt (by omega)] at e; omega
theorem RQ.head {q : List Int} {f m : Int} {x : Int} {Q : List Int} (h : RQ q f m (x :: Q)) : getI q f = some x := by
  have hl := h.hl
  have h1 := h.h1
  have h0 := h.h0
  rw [List.length_cons] at hl
  have := h.hq 0 (by simp)
  rw [Nat.add_zero, Nat.mod_eq_of_lt (by omega)] at this
  unfold getI
  rw [if_pos h0, this]; rfl
theorem grow_eq {q : List Int} {f m : Int} (h0 : 0 ≤ f) (h1 : f ≤ (q.length : Nat)) (hl : q.length ≤ 1048576) : fn_stack_Queue_int_grow_p0_rii q f m = some (grown q f.toNat) := by
  unfold fn_stack_Queue_int_grow_p0_rii
  obtain ⟨k, rfl⟩ := Int.eq_ofNat_of_zero_le h0
  have hk : k ≤ q.length := by omega
  rw [w64 (x := 2 * _) (by omega) (by omega), w64 (by omega) (by omega)]
  have e1 : mk (2 * ((q.length : Nat) : Int) + 1) (2 * ((q.length : Nat) : Int) + 1) (0 : Int) = some (List.replicate (2 * q.length + 1) 0) := by
    unfold mk
    rw [if_pos (by omega), show (2 * ((q.length : Nat) : Int) + 1).toNat = 2 * q.length + 1 by omega]
  rw [e1, Option.bind_some, subL_eq h0 h1 (Int.le_refl _), Option.bind_some, Option.bind_some]
  have e2 : List.drop (k : Int).toNat (List.take ((q.length : Nat) : Int).toNat q) = q.drop k := by simp
  have e3 : List.drop (0 : Int).toNat (List.take (k : Int).toNat q) = q.take k := by simp
  rw [e2, e3, List.length_replicate, List.length_drop]
  have e4 : (min (q.length - k) (2 * q.length + 1 - (0 : Int).toNat) : Nat) = q.length - k := by simp; omega
  rw [e4]
  have e5 : cpy (List.replicate (2 * q.length + 1) (0 : Int)) (0 : Int).toNat ((q.drop k).take (2 * q.length + 1 - (0 : Int).toNat)) = q.drop k ++ List.replicate (q.length + k + 1) 0 := by
    unfold cpy
    rw [List.take_of_length_le (l := q.drop k) (by rw [List.length_drop]; simp; omega), List.length_drop, List.drop_replicate]
    simp
    omega
  rw [e5]
  have e6 : (q.drop k ++ List.replicate (q.length + k + 1) (0 : Int)).length = 2 * q.length + 1 := by rw [List.length_append, List.length_drop, List.length_replicate]; omega
  rw [subL_eq (by omega) (by omega) (by rw [e6]; omega), Option.bind_some, subL_eq (by omega) h0 h1, Option.bind_some, Option.bind_some]
  have e7 : (q.take k).take (((2 * q.length + 1 : Nat) : Int).toNat - ((q.length - k : Nat) : Int).toNat) = q.take k := List.take_of_length_le (by rw [List.length_take]; omega)
  rw [e7, Int.toNat_natCast, Int.toNat_natCast]
  unfold cpy grown
  have d1 : (q.drop k).length = q.length - k := List.length_drop
  rw [List.take_append_of_le_length (by omega), List.take_of_length_le (l := q.drop k) (by omega), List.length_take, Nat.min_eq_left hk, List.drop_append, d1, List.drop_of_length_le (l := q.drop k) (by omega), List.nil_append, List.drop_replicate]
  congr 4
  omega
theorem Push_eq {q : List Int} {f m : Int} {Q : List Int} {v : Int} {B : Nat} (h : RQ q f m Q) (hB : Q.length ≤ B) (hq : q.length ≤ 2 * B + 1) (hb : B ≤ 262144) :
    ∃ q' f', fn_stack_Queue_int_Push_p0k_rii [v] q f m = some (q', f', m + 1) ∧ RQ q' f' (m + 1) (Q ++ [v]) ∧ q'.length ≤ 2 * B + 1 := by
  have hl := h.hl
  have hm := h.hm
  have go : ∀ (q : List Int) (f : Int), RQ q f m Q → Q.length < q.length → q.length ≤ 2 * B + 1 →
      (nz ((q.length : Nat) : Int)).bind (fun _ => (getI q (Int.tmod (IntKind.wrap .i64 (f + m)) ((q.length : Nat) : Int))).bind fun _ => (some (q.set (Int.tmod (IntKind.wrap .i64 (f + m)) ((q.length : Nat) : Int)).toNat v)).bind fun z => (some (Sum.inl (IntKind.wrap .i64 ((0 : Int) + 1), z, f, IntKind.wrap .i64 (m + 1))) : Option ((Int × List Int × Int × Int) ⊕ (List Int × Int × Int)))) = some (.inl (1, q.set ((f.toNat + Q.length) % q.length) v, f, m + 1)) := by
    intro q f h hlt hq
    have h0 := h.h0
    have h1 := h.h1
    have e1 : IntKind.wrap .i64 (f + m) = ((f.toNat + Q.length : Nat) : Int) := by rw [w64 (by omega) (by omega)]; omega
    have e2 : Int.tmod ((f.toNat + Q.length : Nat) : Int) ((q.length : Nat) : Int) = (((f.toNat + Q.length) % q.length : Nat) : Int) := (Int.ofNat_tmod _ _).symm
    rw [e1, e2, nz_eq (by omega), Option.bind_some, getN (Nat.mod_lt _ (by omega)), Option.bind_some, Option.bind_some, Int.toNat_natCast, w64 (x := m + 1) (by omega) (by omega)]
    rfl
  unfold fn_stack_Queue_int_Push_p0k_rii
  by_cases c : Q.length = q.length
  · have hg := h.grown c
    have hfl : f.toNat ≤ q.length := by have := h.h1; have := h.h0; rcases h.h1 with e | e <;> omega
    have hgl := grown_len (q := q) hfl
    have hs := hg.snoc (by rw [hgl]; omega) v
    refine ⟨_, _, ?_, hs, by rw [List.length_set, hgl]; omega⟩
    rw [loop_next (s' := (1, _, 0, m + 1)), loop_end (b := (_, 0, m + 1))]
    · rfl
    · unfold fn_stack_Queue_int_Push_p0k_rii_l1; rfl
    · have := go _ _ hg (by rw [hgl]; omega) (by rw [hgl]; omega)
      unfold fn_stack_Queue_int_Push_p0k_rii_l1
      simp only [show decide ((0 : Int) < (([v] : List Int).length : Nat)) = true from rfl, cond_true, show getI [v] 0 = some v from rfl, Option.bind_some]
      rw [show decide (m = ((q.length : Nat) : Int)) = true by simp; omega, cond_true, grow_eq h.h0 (by have := h.h0; omega) (by omega)]
      simp only [Option.bind_some]
      exact this
  · have hs := h.snoc (by omega) v
    refine ⟨_, _, ?_, hs, by rw [List.length_set]; omega⟩
    rw [loop_next (s' := (1, _, f, m + 1)), loop_end (b := (_, f, m + 1))]
    · rfl
    · unfold fn_stack_Queue_int_Push_p0k_rii_l1; rfl
    · have := go _ _ h (by omega) hq
      unfold fn_stack_Queue_int_Push_p0k_rii_l1
      simp only [show decide ((0 : Int) < (([v] : List Int).length : Nat)) = true from rfl, cond_true, show getI [v] 0 = some v from rfl, Option.bind_some]
      rw [show decide (m = ((q.length : Nat) : Int)) = false by simp; omega, cond_false]
      simp only [Option.bind_some]
      exact this
theorem Pop_eq {q : List Int} {f m : Int} {x : Int} {Q : List Int} (h : RQ q f m (x :: Q)) (hq : q.length ≤ 1048576) :
    ∃ q' f', fn_stack_Queue_int_Pop_p0_rii q f m = some (x, true, q', f', m - 1) ∧ RQ q' f' (m - 1) Q ∧ q'.length = q.length := by
  have hl := h.hl
  have hm := h.hm
  have h0 := h.h0
  have h1 := h.h1
  rw [List.length_cons] at hl hm
  refine ⟨_, _, ?_, h.tail, List.length_set⟩
  unfold fn_stack_Queue_int_Pop_p0_rii fn_stack_Queue_int_Len_p0_rii
  have e1 : IntKind.wrap .i64 (f + 1) = ((f.toNat + 1 : Nat) : Int) := by rw [w64 (by omega) (by omega)]; omega
  have e2 : Int.tmod ((f.toNat + 1 : Nat) : Int) ((q.length : Nat) : Int) = (((f.toNat + 1) % q.length : Nat) : Int) := (Int.ofNat_tmod _ _).symm
  simp only [Option.bind_some]
  rw [show decide (m = 0) = false by simp; omega, cond_false, h.head]
  simp only [Option.bind_some]
  rw [nz_eq (by omega), Option.bind_some, e1, e2, w64 (x := m - 1) (by omega) (by omega)]
/-- The first push, onto a queue without a ring. -/
theorem Push_first (v : Int) : fn_stack_Queue_int_Push_p0k_nii [v] 0 0 = some ([v], 0, 1) := by
  have h : RQ [] 0 0 [] := .nil
  unfold fn_stack_Queue_int_Push_p0k_nii
  have hg : fn_stack_Queue_int_grow_p0_rii [] 0 0 = some [0] := by rw [grow_eq (by omega) (by simp) (by simp)]; rfl
  rw [loop_next (s' := (1, [v], 0, 1)), loop_end (b := ([v], 0, 1))]
  · rfl
  · unfold fn_stack_Queue_int_Push_p0k_nii_l1; rfl
  · unfold fn_stack_Queue_int_Push_p0k_nii_l1
    simp only [show decide ((0 : Int) < (([v] : List Int).length : Nat)) = true from rfl, cond_true, show getI [v] 0 = some v from rfl, Option.bind_some, show decide ((0 : Int) = ((([] : List Int).length : Nat) : Int)) = true from rfl, hg]
    rfl
theorem RQ.one (v : Int) : RQ [v] 0 1 [v] := ⟨rfl, Nat.le_refl _, by omega, .inl rfl, fun i h => by
  obtain rfl : i = 0 := by simpa using h
  rfl⟩
end Go.Proofs.YthoclljhjcfemaaGreat
namespace Go.Proofs.YthoclljhjcfemaaGreat
open Go.RowKit
set_option linter.unusedVariables false
set_option linter.unusedSimpArgs false
set_option linter.unnecessarySimpa false
def dN : Option Nat → Int
  | some k => (k : Int)
  | none => -1
/-- Distances, as they are kept. -/
def dl (N : Nat) (d : Nat → Option Nat) : List Int := (List.range N).map fun w => dN (d w)
/-- Layers, as they are kept: in the order of finding. -/
def ly (m : Nat) (L : List Nat) (d : Nat → Option Nat) : List (List Int) := (List.range m).map fun k => li (L.filter fun w => decide (d w = some k))
/-- There are m layers, and none is empty. -/
structure Lm (d : Nat → Option Nat) (m : Nat) : Prop where
  top : ∀ w k : Nat, d w = some k → k < m
  full : ∀ k : Nat, k < m → ∃ w : Nat, d w = some k
theorem dl_len (N : Nat) (d : Nat → Option Nat) : (dl N d).length = N := by simp [dl]
theorem ly_len (m : Nat) (L : List Nat) (d : Nat → Option Nat) : (ly m L d).length = m := by simp [ly]
theorem dl_get {N w : Nat} {d : Nat → Option Nat} (h : w < N) : getI (dl N d) (w : Int) = some (dN (d w)) := getI_map h
theorem dl_set {N w k : Nat} {d : Nat → Option Nat} (h : w < N) : (dl N d).set w ((k : Nat) : Int) = dl N (fun x => if x = w then some k else d x) := by
  unfold dl
  rw [set_map]
  apply map_congr_range
  intro v hv
  by_cases c : v = w <;> simp [c, dN]
theorem ly_more {m : Nat} {L : List Nat} {d : Nat → Option Nat} (h : ∀ w k : Nat, d w = some k → k < m) : ly m L d ++ [[]] = ly (m + 1) L d := by
  unfold ly
  rw [List.range_succ, List.map_append]
  congr 1
  simp only [List.map_cons, List.map_nil]
  rw [List.filter_eq_nil_iff.2 (fun w _ => by
    intro hw
    have := h w m (of_decide_eq_true hw)
    omega)]
  rfl
theorem ly_set {m k b : Nat} {L : List Nat} {d : Nat → Option Nat} (hb : b ∉ L) (hk : k < m) : (ly m L d).set k (li (L.filter fun w => decide (d w = some k)) ++ [(b : Int)]) = ly m (L ++ [b]) (fun x => if x = b then some k else d x) := by
  unfold ly
  rw [set_map]
  apply map_congr_range
  intro j hj
  have hL : ∀ j, L.filter (fun w => decide ((if w = b then some k else d w) = some j)) = L.filter fun w => decide (d w = some j) := fun j => by
    apply List.filter_congr
    intro w hw
    have hne : w ≠ b := fun e => hb (e ▸ hw)
    rw [if_neg hne]
  rw [List.filter_append, hL]
  by_cases c : j = k
  · subst c
    rw [if_pos rfl]
    simp [li]
  · rw [if_neg c]
    simp [li]
    omega
/-- A node is reached. -/
theorem reach_ok {N m k b : Nat} {L : List Nat} {d : Nat → Option Nat} (hm : Lm d m) (hb : b < N) (hbL : b ∉ L) (hk : k ≤ m) (hLl : L.length ≤ 1000000) (hml : m ≤ 1000000) (bk : List Int) :
    fn_bfs_Tree_reach_p0ii_rrod (b : Int) (k : Int) (dl N d) bk (ly m L d) = some (dl N (fun x => if x = b then some k else d x), bk, ly (if k = m then m + 1 else m) (L ++ [b]) (fun x => if x = b then some k else d x)) := by
  unfold fn_bfs_Tree_reach_p0ii_rrod
  rw [dl_get hb]
  simp only [Option.bind_some, Int.toNat_natCast]
  rw [dl_set hb]
  have e1 : (cond (decide ((k : Int) = (((ly m L d).length : Nat) : Int))) ((app (ly m L d : List (List Int)) ([[]] : List (List Int))).bind fun z => some z) (some (ly m L d)) : Option (List (List Int))) = some (ly (if k = m then m + 1 else m) L d) := by
    rw [ly_len]
    by_cases c : k = m
    · rw [show decide ((k : Int) = (m : Int)) = true by simp [c], cond_true, if_pos c, app_eq (by rw [ly_len]; simp; omega), Option.bind_some, ly_more hm.top]
    · rw [show decide ((k : Int) = (m : Int)) = false by simp; omega, cond_false, if_neg c]
  rw [e1]
  have hk2 : k < (if k = m then m + 1 else m) := by split <;> omega
  have e2 : getI (ly (if k = m then m + 1 else m) L d) (k : Int) = some (li (L.filter fun w => decide (d w = some k))) := getI_map hk2
  have hfl : (L.filter fun w => decide (d w = some k)).length ≤ L.length := List.length_filter_le _ _
  simp only [Option.bind_some, e2]
  have e3 : chkI (k : Int) (k : Int) = some () := by simp [chkI]
  rw [e3]
  simp only [Option.bind_some]
  rw [app_eq (by rw [li_len]; simp; omega)]
  simp only [Option.bind_some]
  rw [ly_set hbL hk2]
theorem Lm.reach {d : Nat → Option Nat} {m k b : Nat} (h : Lm d m) (hb : d b = none) (hk : k ≤ m) : Lm (fun x => if x = b then some k else d x) (if k = m then m + 1 else m) where
  top := fun w l hw => by
    split at hw
    · cases hw; split <;> omega
    · have := h.top w l hw; split <;> omega
  full := fun l hl => by
    by_cases c : l = k
    · exact ⟨b, by simp [c]⟩
    · obtain ⟨w, hw⟩ := h.full l (by split at hl <;> omega)
      refine ⟨w, ?_⟩
      rw [if_neg (fun e => by rw [e, hb] at hw; cases hw), hw]
/-- The arcs that lead, as they are kept: least of those told. -/
def less (i : Nat) : Option Nat → Nat
  | none => i
  | some j => if i < j then i else j
theorem lead_ok {N b i : Nat} {β : Nat → Option Nat} (hb : b < N) (ds : List Int) (ls : List (List Int)) :
    fn_bfs_Tree_lead_p0ii_rrod (b : Int) (i : Int) ds (dl N β) ls = some (ds, dl N (fun x => if x = b then some (less i (β b)) else β x), ls) := by
  unfold fn_bfs_Tree_lead_p0ii_rrod
  rw [dl_get hb]
  simp only [Option.bind_some, Int.toNat_natCast]
  cases hβ : β b with
  | none =>
    rw [show decide (dN none < 0) = true from rfl, cond_true, Option.bind_some, cond_true, dl_set hb]
    rfl
  | some j =>
    rw [show decide (dN (some j) < 0) = false from decide_eq_false (by show ¬ ((j : Int) < 0); omega), cond_false, Option.bind_some]
    by_cases c : i < j
    · rw [show decide ((i : Int) < dN (some j)) = true by simp [dN]; omega, cond_true, dl_set hb]
      simp [less, c]
    · rw [show decide ((i : Int) < dN (some j)) = false by simp [dN]; omega, cond_false]
      congr 3
      unfold dl
      apply map_congr_range
      intro w hw
      by_cases e : w = b
      · subst e; simp [less, c, hβ]
      · simp [e]
/-- Arc i leads to w, one step farther. -/
def Lead (E : ArG) (d : Nat → Option Nat) (i w : Nat) : Prop := ∃ (h : i < E.length) (k : Nat), E[i].2 = w ∧ d E[i].1 = some k ∧ d w = some (k + 1)
/-- The least of the arcs told that lead. -/
structure Bck (E : ArG) (T : List Nat) (d : Nat → Option Nat) (β : Nat → Option Nat) : Prop where
  yes : ∀ w i : Nat, β w = some i → i ∈ T ∧ Lead E d i w
  low : ∀ w i : Nat, i ∈ T → Lead E d i w → ∃ j, β w = some j ∧ j ≤ i
  tf : ∀ i : Nat, i ∈ T → ∃ h : i < E.length, (d E[i].1).isSome ∧ (d E[i].2).isSome
theorem Bck.start (E : ArG) (d : Nat → Option Nat) : Bck E [] d (fun _ => none) := ⟨fun _ _ h => (by cases h), fun _ _ h => (by cases h), fun _ h => (by cases h)⟩
/-- A node is found: nothing changes for what is told. -/
theorem Bck.find {E : ArG} {T : List Nat} {d β : Nat → Option Nat} {b k : Nat} (h : Bck E T d β) (hb : d b = none) : Bck E T (fun x => if x = b then some k else d x) β := by
  have key : ∀ w i : Nat, i ∈ T → (Lead E (fun x => if x = b then some k else d x) i w ↔ Lead E d i w) := by
    intro w i hi
    obtain ⟨hlt, h1, h2⟩ := h.tf i hi
    have n1 : E[i].1 ≠ b := fun e => by rw [e, hb] at h1; cases h1
    have n2 : E[i].2 ≠ b := fun e => by rw [e, hb] at h2; cases h2
    constructor
    · rintro ⟨q, l, e1, e2, e3⟩
      dsimp only at e2 e3
      rw [if_neg n1] at e2
      rw [if_neg (fun e => n2 (e1.trans e))] at e3
      exact ⟨q, l, e1, e2, e3⟩
    · rintro ⟨q, l, e1, e2, e3⟩
      exact ⟨q, l, e1, by dsimp only; rw [if_neg n1, e2], by dsimp only; rw [if_neg (fun e => n2 (e1.trans e)), e3]⟩
  refine ⟨fun w i hw => ?_, fun w i hi hl => h.low w i hi ((key w i hi).1 hl), fun i hi => ?_⟩
  · obtain ⟨h1, h2⟩ := h.yes w i hw
    exact ⟨h1, (key w i h1).2 h2⟩
  · obtain ⟨hlt, h1, h2⟩ := h.tf i hi
    refine ⟨hlt, ?_, ?_⟩
    · split
      · rfl
      · exact h1
    · split
      · rfl
      · exact h2
/-- An arc is told that leads. -/
theorem Bck.tell {E : ArG} {T : List Nat} {d β : Nat → Option Nat} {i : Nat} (h : Bck E T d β) (hi : i < E.length) (hl : Lead E d i E[i].2) : Bck E (T ++ [i]) d (fun x => if x = E[i].2 then some (less i (β E[i].2)) else β x) := by
  refine ⟨fun w j hw => ?_, fun w j hj hjl => ?_, fun j hj => ?_⟩
  · split at hw
    · rename_i e
      subst e
      cases hw
      cases hβ : β E[i].2 with
      | none => exact ⟨by simp [less], hl⟩
      | some q =>
        obtain ⟨h1, h2⟩ := h.yes _ _ hβ
        unfold less
        dsimp only
        split
        · exact ⟨by simp, hl⟩
        · exact ⟨List.mem_append_left _ h1, h2⟩
    · obtain ⟨h1, h2⟩ := h.yes w j hw
      exact ⟨List.mem_append_left _ h1, h2⟩
  · by_cases e : w = E[i].2
    · subst e
      rw [if_pos rfl]
      refine ⟨_, rfl, ?_⟩
      rcases List.mem_append.1 hj with hj | hj
      · obtain ⟨q, h1, h2⟩ := h.low _ j hj hjl
        rw [h1]; unfold less; dsimp only; split <;> omega
      · simp at hj; subst hj
        cases β E[j].2 with
        | none => exact Nat.le_refl _
        | some q => unfold less; dsimp only; split <;> omega
    · rw [if_neg e]
      rcases List.mem_append.1 hj with hj | hj
      · exact h.low w j hj hjl
      · simp at hj; subst hj
        obtain ⟨_, _, e1, _⟩ := hjl
        exact absurd e1.symm e
  · rcases List.mem_append.1 hj with hj | hj
    · exact h.tf j hj
    · simp at hj; subst hj
      obtain ⟨q, k, _, e2, e3⟩ := hl
      exact ⟨hi, by rw [e2]; rfl, by rw [e3]; rfl⟩
/-- An arc is told that leads nowhere. -/
theorem Bck.pass {E : ArG} {T : List Nat} {d β : Nat → Option Nat} {i : Nat} (h : Bck E T d β) (hi : i < E.length) (hl : ¬ Lead E d i E[i].2) (h1 : (d E[i].1).isSome) (h2 : (d E[i].2).isSome) : Bck E (T ++ [i]) d β := by
  refine ⟨fun w j hw => ?_, fun w j hj hjl => ?_, fun j hj => ?_⟩
  · obtain ⟨g1, g2⟩ := h.yes w j hw
    exact ⟨List.mem_append_left _ g1, g2⟩
  · rcases List.mem_append.1 hj with hj | hj
    · exact h.low w j hj hjl
    · simp at hj; subst hj
      obtain ⟨_, _, e1, _⟩ := id hjl
      subst e1
      exact absurd hjl hl
  · rcases List.mem_append.1 hj with hj | hj
    · exact h.tf j hj
    · simp at hj; subst hj
      exact ⟨hi, h1, h2⟩
end Go.Proofs.YthoclljhjcfemaaGreat
namespace Go.Proofs.YthoclljhjcfemaaGreat
open Go.RowKit
set_option linter.unusedVariables false
end Go.Proofs.YthoclljhjcfemaaGreat
namespace Go.Proofs.YthoclljhjcfemaaGreat
open Go.RowKit
set_option linter.unusedVariables false
theorem Check_eq (n : Int) (xb : List (Int × Int)) (he : xb.length ≤ 67108864) : fn_ref10_Check n xb = some (if n < 0 then 2 else if 1048576 < n then 5 else if xb.any (outA n) then 7 else 0) := by
  unfold fn_ref10_Check
  by_cases h0 : n < 0
  · simp [h0]
  · by_cases h1 : 1048576 < n
    · simp [h0, h1]
    · have h2 : (decide ((1048576 : Int) < n) || decide ((67108864 : Int) < ((xb.length : Nat) : Int))) = false := by simp; omega
      rw [show decide (n < 0) = false from decide_eq_false h0, cond_false, h2, cond_false, loop_some xb (outA n) (.inr 7) (.inl ()) ?_ ?_]
      · simp only [h0, h1, if_false]
        cases xb.any (outA n) <;> rfl
      · intro k h
        unfold fn_ref10_Check_l1
        rw [dlt h, cond_true, getN h, w64s h (by omega : xb.length ≤ 9223372036854775807)]
        simp only [Option.bind_some]
        unfold outA
        by_cases a1 : xb[k].1 < 0 <;> by_cases a2 : n ≤ xb[k].1 <;> by_cases a3 : xb[k].2 < 0 <;> by_cases a4 : n ≤ xb[k].2 <;> simp [a1, a2, a3, a4]
      · simp [fn_ref10_Check_l1]
theorem Arc_of {N : Nat} {E : ArG} {i : Int} : fn_graph_Graph_Arc (some (mkG N E)) i = some (if h : 0 ≤ i ∧ i < (E.length : Int) then (((E[i.toNat]'(by omega)).1 : Int), ((E[i.toNat]'(by omega)).2 : Int), true) else (0, 0, false)) := by
  unfold fn_graph_Graph_Arc
  rw [Arcs_eq]
  by_cases h0 : i < 0
  · simp [h0, show ¬ (0 ≤ i ∧ i < (E.length : Int)) by omega]
  · by_cases h1 : (E.length : Int) ≤ i
    · simp [h0, h1, show ¬ (0 ≤ i ∧ i < (E.length : Int)) by omega]
    · have h2 : 0 ≤ i ∧ i < (E.length : Int) := by omega
      obtain ⟨k, rfl⟩ := Int.eq_ofNat_of_zero_le h2.1
      have hk : k < E.length := by omega
      simp only [h0, h1, decide_false, cond_false, Option.bind_some, mkG, getI_ai hk]
      simp [hk]
def inL (N : Nat) (M : List Nat) : List Int := (List.range N).map (fun w => if w ∈ M then (1 : Int) else 0)
theorem ref1 {N : Nat} {E : ArG} (hE : inN N E) (he : E.length ≤ 67108864) (M : List Nat) (hM : M.Nodup) :
    ∃ r, loop (fn_ref10_Reach_l1 (ai E)) (inL N M, false, 0) = some r ∧ ∃ more : List Nat, (M ++ more).Nodup ∧ r.1 = inL N (M ++ more) ∧ (∀ w ∈ more, ∃ a ∈ M ++ more, Rch E a w ∧ a ∈ M) ∧ ((r.2 = false ∧ more = [] ∧ ∀ e ∈ E, e.1 ∈ M → e.2 ∈ M) ∨ (r.2 = true ∧ more ≠ [])) := by
  refine loop_inv (fun s => ∃ (k : Nat) (more : List Nat), k ≤ E.length ∧ (M ++ more).Nodup ∧ s.1 = inL N (M ++ more) ∧ s.2.2 = (k : Int) ∧ (∀ w ∈ more, ∃ a ∈ M ++ more, Rch E a w ∧ a ∈ M) ∧ ((s.2.1 = false ∧ more = [] ∧ ∀ e ∈ E.take k, e.1 ∈ M → e.2 ∈ M) ∨ (s.2.1 = true ∧ more ≠ []))) (fun s => E.length - s.2.2.toNat) ?_ ⟨0, [], by omega, by simpa using hM, by simp, rfl, by simp, .inl ⟨rfl, rfl, by simp⟩⟩
  rintro ⟨l, b, i⟩ ⟨k, more, hk, hnd, h1, h2, hr, h3⟩
  dsimp only at h1 h2 h3
  subst h1 h2
  by_cases hlt : k < E.length
  · left
    have hk2 : k < (ai E).length := by rw [ai_len]; exact hlt
    obtain ⟨ha, hb⟩ := hE _ (List.getElem_mem hlt)
    unfold fn_ref10_Reach_l1
    dsimp only
    rw [dlt hk2, cond_true, getI_ai hlt, w64s hk2 (by rw [ai_len]; omega)]
    generalize hA : E[k].1 = a at ha
    generalize hB : E[k].2 = c at hb
    have hmem : (a, c) ∈ E := by rw [← hA, ← hB]; exact List.getElem_mem hlt
    have ga : getI (inL N (M ++ more)) (a : Int) = some (if a ∈ M ++ more then (1 : Int) else 0) := getI_map ha
    have gc : getI (inL N (M ++ more)) (c : Int) = some (if c ∈ M ++ more then (1 : Int) else 0) := getI_map hb
    simp only [Option.bind_some, ga, gc, Int.toNat_natCast]
    by_cases hc : a ∈ M ++ more ∧ c ∉ M ++ more
    · have hset : (inL N (M ++ more)).set c 1 = inL N (M ++ (more ++ [c])) := by
        unfold inL; rw [set_map]
        refine map_congr_range (fun w hw => ?_)
        by_cases hwc : w = c
        · simp [hwc]
        · simp [hwc]
      rw [if_pos hc.1, if_neg hc.2]
      simp only [decide_true, cond_true, Option.bind_some, hset]
      refine ⟨_, rfl, ⟨k + 1, more ++ [c], by omega, ?_, rfl, rfl, ?_, .inr ⟨rfl, by simp⟩⟩, by dsimp only; omega⟩
      · rw [← List.append_assoc, List.nodup_append]
        refine ⟨hnd, by simp, ?_⟩
        intro x hx y hy; simp at hy; subst hy; intro e; subst e; exact hc.2 hx
      · intro w hw
        rcases List.mem_append.1 hw with q | q
        · obtain ⟨x, x1, x2, x3⟩ := hr w q; exact ⟨x, by simp [x3], x2, x3⟩
        · simp at q; subst q
          rcases List.mem_append.1 hc.1 with q | q
          · exact ⟨a, by simp [q], (Rch.refl a).step hmem, q⟩
          · obtain ⟨x, x1, x2, x3⟩ := hr a q; exact ⟨x, by simp [x3], x2.step hmem, x3⟩
    · have hcond : (cond (decide ((if a ∈ M ++ more then (1 : Int) else 0) = 1)) (some (decide ((if c ∈ M ++ more then (1 : Int) else 0) = 0))) (some false)) = some false := by
        by_cases h4 : a ∈ M ++ more
        · have h5 : c ∈ M ++ more := Classical.byContradiction fun h => hc ⟨h4, h⟩
          rw [if_pos h4, if_pos h5]; rfl
        · rw [if_neg h4]; rfl
      rw [hcond]
      simp only [Option.bind_some, cond_false]
      refine ⟨_, rfl, ⟨k + 1, more, by omega, hnd, rfl, rfl, hr, ?_⟩, by dsimp only; omega⟩
      rcases h3 with ⟨rfl, rfl, h5⟩ | h5
      · refine .inl ⟨rfl, rfl, fun e he1 he2 => ?_⟩
        rw [take_snoc hlt] at he1
        rcases List.mem_append.1 he1 with q | q
        · exact h5 e q he2
        · simp at q; subst q
          simp only [List.append_nil] at hc
          rw [hA] at he2; rw [hB]
          exact Classical.byContradiction fun h => hc ⟨he2, h⟩
      · exact .inr h5
  · right
    have hke : k = E.length := by omega
    refine ⟨(inL N (M ++ more), b), ?_, more, hnd, rfl, hr, ?_⟩
    · unfold fn_ref10_Reach_l1; simp [hke, ai_len]
    · rw [hke, List.take_length] at h3; exact h3
theorem ref2 {N : Nat} {E : ArG} (hE : inN N E) (he : E.length ≤ 67108864) {v : Nat} (hv : v < N) : loop (fn_ref10_Reach_l2 (ai E)) (inL N [v], true) = some (inL N (rl N E v)) := by
  have key : ∃ r, loop (fn_ref10_Reach_l2 (ai E)) (inL N [v], true) = some r ∧ ∃ M : List Nat, r = inL N M ∧ ∀ w, w ∈ M ↔ Rch E v w := by
    refine loop_inv (fun s => ∃ M : List Nat, s.1 = inL N M ∧ M.Nodup ∧ v ∈ M ∧ (∀ w ∈ M, Rch E v w) ∧ (s.2 = false → ∀ e ∈ E, e.1 ∈ M → e.2 ∈ M) ∧ (s.2 = false ∨ s.2 = true)) (fun s => 2 * (s.1.countP (fun x => decide (x = 0))) + (if s.2 then 1 else 0)) ?_ ⟨[v], rfl, by simp, by simp, by simp; exact .refl v, by simp, .inr rfl⟩
    rintro ⟨l, b⟩ ⟨M, h1, h2, h3, h4, h5, _⟩
    dsimp only at h1 h5
    subst h1
    cases b with
    | true =>
      left
      obtain ⟨r, r1, more, r2, r3, r4, r5⟩ := ref1 hE he M h2
      obtain ⟨r6, r7⟩ := r
      dsimp only at r3 r5
      subst r3
      unfold fn_ref10_Reach_l2
      dsimp only
      rw [cond_true, r1]
      refine ⟨_, rfl, ⟨M ++ more, rfl, r2, by simp [h3], ?_, ?_, ?_⟩, ?_⟩
      · intro w hw
        rcases List.mem_append.1 hw with q | q
        · exact h4 w q
        · obtain ⟨a, a1, a2, a3⟩ := r4 w q; exact (h4 a a3).trans a2
      · intro hf
        rcases r5 with ⟨_, rfl, r5⟩ | ⟨r5, _⟩
        · simpa using r5
        · dsimp only at hf; rw [r5] at hf; cases hf
      · rcases r5 with ⟨r5, _⟩ | ⟨r5, _⟩
        · exact .inl r5
        · exact .inr r5
      · dsimp only
        rcases r5 with ⟨r5, rfl, _⟩ | ⟨r5, r8⟩
        · rw [r5]; simp
        · rw [r5]
          have : (inL N (M ++ more)).countP (fun x => decide (x = 0)) < (inL N M).countP (fun x => decide (x = 0)) := by
            obtain ⟨c, more', rfl⟩ := List.exists_cons_of_ne_nil r8
            have hcM : c ∉ M := fun h => by
              rw [List.nodup_append] at r2
              exact r2.2.2 c h c (by simp) rfl
            have hcN : c < N := by
              obtain ⟨a, a1, a2, a3⟩ := r4 c (by simp); exact ((h4 a a3).trans a2).lt hE hv
            unfold inL
            rw [List.countP_map, List.countP_map]
            have gen : ∀ m, c < m → (List.range m).countP ((fun x : Int => decide (x = 0)) ∘ fun w => if w ∈ M ++ c :: more' then (1 : Int) else 0) < (List.range m).countP ((fun x : Int => decide (x = 0)) ∘ fun w => if w ∈ M then (1 : Int) else 0) := by
              intro m hm
              induction m with
              | zero => omega
              | succ m ih =>
                have mono : (List.range m).countP ((fun x : Int => decide (x = 0)) ∘ fun w => if w ∈ M ++ c :: more' then (1 : Int) else 0) ≤ (List.range m).countP ((fun x : Int => decide (x = 0)) ∘ fun w => if w ∈ M then (1 : Int) else 0) := by
                  apply List.countP_mono_left
                  intro z _ hz
                  by_cases hzM : z ∈ M
                  · simp [hzM] at hz
                  · simp [hzM]
                rw [List.range_succ, List.countP_append, List.countP_append]
                by_cases hcm : c = m
                · subst hcm
                  have a1 : [c].countP ((fun x : Int => decide (x = 0)) ∘ fun w => if w ∈ M ++ c :: more' then (1 : Int) else 0) = 0 := by simp
                  have a2 : [c].countP ((fun x : Int => decide (x = 0)) ∘ fun w => if w ∈ M then (1 : Int) else 0) = 1 := by simp [hcM]
                  rw [a1, a2]; omega
                · have := ih (by omega)
                  have a3 : [m].countP ((fun x : Int => decide (x = 0)) ∘ fun w => if w ∈ M ++ c :: more' then (1 : Int) else 0) ≤ [m].countP ((fun x : Int => decide (x = 0)) ∘ fun w => if w ∈ M then (1 : Int) else 0) := by
                    apply List.countP_mono_left
                    intro z _ hz
                    by_cases hzM : z ∈ M
                    · simp [hzM] at hz
                    · simp [hzM]
                  omega
            exact gen N hcN
          simp; omega
    | false =>
      right
      refine ⟨inL N M, rfl, M, rfl, fun w => ⟨h4 w, fun h => ?_⟩⟩
      exact Rch.closed (p := fun w => w ∈ M) h3 (fun a c e ha => h5 rfl (a, c) e ha) h
  obtain ⟨r, h1, M, rfl, h2⟩ := key
  rw [h1]
  congr 1
  unfold inL
  refine map_congr_range (fun w hw => ?_)
  have := (h2 w).trans (rl_mem hE hv).symm
  by_cases hm : w ∈ M
  · rw [if_pos hm, if_pos (this.1 hm)]
  · rw [if_neg hm, if_neg (fun h => hm (this.2 h))]
theorem refReach_eq {N : Nat} {E : ArG} (hE : inN N E) (hn : N ≤ 1000) (he : E.length ≤ 67108864) {v : Nat} (hv : v < N) : fn_ref10_Reach (N : Int) (ai E) (v : Int) = some (inL N (rl N E v)) := by
  unfold fn_ref10_Reach
  have hm : (List.replicate N (0 : Int)).set v 1 = inL N [v] := by
    rw [replicate_map, set_map]; unfold inL
    refine map_congr_range (fun w hw => ?_)
    by_cases h : w = v <;> simp [h]
  have hg : getI (List.replicate N (0 : Int)) (v : Int) = some 0 := by rw [replicate_map]; exact getI_map hv
  rw [mkN (by omega)]
  simp only [Option.bind_some, hg, Int.toNat_natCast, hm]
  rw [ref2 hE he hv]; rfl
end Go.Proofs.YthoclljhjcfemaaGreat
namespace Go.Proofs.YthoclljhjcfemaaGreat
open Go.RowKit
set_option linter.unusedVariables false
set_option linter.unusedSimpArgs false
set_option linter.unnecessarySimpa false
/-- The search under way: L in the order of finding, p at hand, T told. -/
structure Sr (N : Nat) (E : ArG) (v : Nat) (L : List Nat) (p : Nat) (d : Nat → Option Nat) (m : Nat) (β : Nat → Option Nat) (T : List Nat) (q : List Int) (f : Int) (c : Nat) : Prop where
  b : Bfs N E v L p d
  l : Lm d m
  k : Bck E T d β
  r : RQ q f ((L.length - c : Nat) : Int) (li (L.drop c))
  ql : q.length ≤ 2 * N + 1
theorem Bfs.len {N : Nat} {E : ArG} {v : Nat} {L : List Nat} {p : Nat} {d : Nat → Option Nat} (h : Bfs N E v L p d) : L.length ≤ N := nodup_lt h.nd h.lt
theorem Lm.le {d : Nat → Option Nat} {m N : Nat} {L : List Nat} (h : Lm d m) (hL : ∀ w, w ∈ L ↔ (d w).isSome) (hN : L.length ≤ N) : m ≤ N := by
  have : ∀ j, j ≤ m → ∃ M : List Nat, M.length = j ∧ M.Nodup ∧ (∀ x ∈ M, x ∈ L ∧ ∃ k, k < j ∧ d x = some k) := by
    intro j
    induction j with
    | zero => intro _; exact ⟨[], rfl, List.nodup_nil, fun x hx => by cases hx⟩
    | succ j ih =>
      intro hj
      obtain ⟨M, h1, h2, h3⟩ := ih (by omega)
      obtain ⟨w, hw⟩ := h.full j (by omega)
      refine ⟨w :: M, by simp [h1], List.nodup_cons.2 ⟨fun hm => ?_, h2⟩, fun x hx => ?_⟩
      · obtain ⟨_, k, hk, e⟩ := h3 w hm
        rw [hw] at e; cases e; omega
      · rcases List.mem_cons.1 hx with rfl | hx
        · exact ⟨(hL x).2 (by rw [hw]; rfl), j, by omega, hw⟩
        · obtain ⟨a1, k, a2, a3⟩ := h3 x hx
          exact ⟨a1, k, by omega, a3⟩
  obtain ⟨M, h1, h2, h3⟩ := this m (Nat.le_refl _)
  have := nodup_le h2 (fun x hx => (h3 x hx).1)
  omega
theorem inner_step {N : Nat} {E : ArG} {v : Nat} {L : List Nat} {p : Nat} {d : Nat → Option Nat} {m : Nat} {β : Nat → Option Nat} {T : List Nat} {q : List Int} {f : Int} (hE : inN N E) (hn : N ≤ 1000) (he : E.length ≤ 67108864) (s : Sr N E v L p d m β T q f (p + 1)) {a k : Nat} (ha : L[p]? = some a) (hk : d a = some k) {O : List Nat} (hO : ∀ i ∈ O, ∃ h : i < E.length, E[i].1 = a) (hOl : O.length ≤ 67108864) {j : Nat} (hj : j < O.length) :
    ∃ L' d' m' β' q' f', fn_bfs_From_kpiz_l1 (some (mkG N E)) (a : Int) (li O) ((j : Int), dl N d, dl N β, ly m L d, q, f, ((L.length - (p + 1) : Nat) : Int)) = some (.inl (((j + 1 : Nat) : Int), dl N d', dl N β', ly m' L' d', q', f', ((L'.length - (p + 1) : Nat) : Int)))
      ∧ Sr N E v L' p d' m' β' (T ++ [O[j]]) q' f' (p + 1) ∧ L'[p]? = some a ∧ d' a = some k ∧ (∀ h : O[j] < E.length, (d' E[O[j]].2).isSome) ∧ (∀ x, (d x).isSome → (d' x).isSome) ∧ L <+: L' := by
  obtain ⟨hi, hia⟩ := hO O[j] (List.getElem_mem hj)
  have hpl : p < L.length := (List.getElem?_eq_some_iff.1 ha).1
  have hLN := s.b.len
  have haN : a < N := s.b.lt a (List.mem_of_getElem? ha)
  have hbN : E[O[j]].2 < N := (hE _ (List.getElem_mem hi)).2
  have hmN := s.l.le s.b.mem hLN
  have hkm := s.l.top a k hk
  have hmem : (a, E[O[j]].2) ∈ E := by rw [← hia]; exact List.getElem_mem hi
  unfold fn_bfs_From_kpiz_l1
  dsimp only
  rw [li_len, dlt hj, cond_true, getI_li hj, Option.bind_some, Arc_of, dif_pos ⟨by omega, by omega⟩]
  simp only [Int.toNat_natCast, Option.bind_some]
  rw [dl_get hbN]
  simp only [Option.bind_some]
  rw [dl_get haN, hk, w64s hj (by omega)]
  simp only [Option.bind_some]
  have hw : IntKind.wrap .i64 (dN (some k) + 1) = ((k + 1 : Nat) : Int) := by rw [show dN (some k) = (k : Int) from rfl, w64 (by omega) (by omega)]; rfl
  rw [hw]
  cases hb : d E[O[j]].2 with
  | none =>
    have hbL : E[O[j]].2 ∉ L := fun hm => by have := (s.b.mem _).1 hm; rw [hb] at this; cases this
    have hB := s.b.find hE ha hmem hk hb
    have hLN2 := hB.len
    rw [List.length_append, List.length_singleton] at hLN2
    rw [show decide (dN none < 0) = true from rfl, cond_true, reach_ok s.l hbN hbL (by omega) (by omega) (by omega)]
    simp only [Option.bind_some]
    have hd1 : (li (L.drop (p + 1))).length = L.length - (p + 1) := by rw [li_len, List.length_drop]
    obtain ⟨q', f', e1, e2, e3⟩ := Push_eq (v := ((E[O[j]].2 : Nat) : Int)) (B := N) s.r (by rw [hd1]; omega) s.ql (by omega)
    rw [e1]
    simp only [Option.bind_some]
    rw [dl_get hbN, dl_get haN]
    simp only [Option.bind_some]
    have hne : a ≠ E[O[j]].2 := fun e => by rw [← e, hk] at hb; cases hb
    rw [if_pos trivial, if_neg hne, hk, hw, show decide (dN (some (k + 1)) = ((k + 1 : Nat) : Int)) = true from decide_eq_true rfl, cond_true, lead_ok hbN]
    simp only [Option.bind_some]
    have hlen : ((L ++ [E[O[j]].2]).length - (p + 1) : Nat) = L.length - (p + 1) + 1 := by rw [List.length_append, List.length_singleton]; omega
    refine ⟨L ++ [E[O[j]].2], fun x => if x = E[O[j]].2 then some (k + 1) else d x, if k + 1 = m then m + 1 else m, fun x => if x = E[O[j]].2 then some (less O[j] (β E[O[j]].2)) else β x, q', f', ?_, ⟨hB, s.l.reach hb (by omega), (s.k.find hb).tell hi ⟨hi, k, rfl, ?_, ?_⟩, ?_, e3⟩, ?_, ?_, ?_, ?_, ⟨_, rfl⟩⟩
    · rw [hlen]; rfl
    · dsimp only; rw [hia, if_neg hne, hk]
    · dsimp only; rw [if_pos rfl]
    · rw [hlen, List.drop_append_of_le_length (by omega)]
      simpa [li] using e2
    · rw [List.getElem?_append_left hpl, ha]
    · dsimp only; rw [if_neg hne, hk]
    · intro _; simp
    · intro x hx; dsimp only; split
      · rfl
      · exact hx
  | some l =>
    rw [show decide (dN (some l) < 0) = false from decide_eq_false (by show ¬ ((l : Int) < 0); omega), cond_false, Option.bind_some]
    simp only []
    rw [dl_get hbN, dl_get haN]
    simp only [Option.bind_some]
    rw [hk, hb, hw]
    by_cases c : l = k + 1
    · subst c
      rw [show decide (dN (some (k + 1)) = ((k + 1 : Nat) : Int)) = true from decide_eq_true rfl, cond_true, lead_ok hbN]
      simp only [Option.bind_some]
      exact ⟨_, _, _, _, _, _, rfl, ⟨s.b, s.l, s.k.tell hi ⟨hi, k, rfl, by rw [hia, hk], hb⟩, s.r, s.ql⟩, ha, hk, fun _ => by rw [hb]; rfl, fun _ h => h, List.prefix_refl _⟩
    · rw [show decide (dN (some l) = ((k + 1 : Nat) : Int)) = false from decide_eq_false (by show ¬ ((l : Int) = ((k + 1 : Nat) : Int)); omega), cond_false]
      refine ⟨_, _, _, _, _, _, rfl, ⟨s.b, s.l, s.k.pass hi ?_ (by rw [hia, hk]; rfl) (by rw [hb]; rfl), s.r, s.ql⟩, ha, hk, fun _ => by rw [hb]; rfl, fun _ h => h, List.prefix_refl _⟩
      rintro ⟨_, k2, _, e2, e3⟩
      rw [hia, hk] at e2
      rw [hb] at e3
      cases e2; cases e3
      exact c rfl
theorem inner_from {N : Nat} {E : ArG} {v p a k : Nat} (hE : inN N E) (hn : N ≤ 1000) (he : E.length ≤ 67108864) {O : List Nat} (hO : ∀ i ∈ O, ∃ h : i < E.length, E[i].1 = a) (hOl : O.length ≤ 67108864) :
    ∀ (r j : Nat) (L : List Nat) (d : Nat → Option Nat) (m : Nat) (β : Nat → Option Nat) (T : List Nat) (q : List Int) (f : Int), j + r = O.length → Sr N E v L p d m β T q f (p + 1) → L[p]? = some a → d a = some k → (∀ i ∈ O.take j, ∀ h : i < E.length, (d E[i].2).isSome) →
    ∃ L' d' m' β' q' f', loop (fn_bfs_From_kpiz_l1 (some (mkG N E)) (a : Int) (li O)) ((j : Int), dl N d, dl N β, ly m L d, q, f, ((L.length - (p + 1) : Nat) : Int)) = some (dl N d', dl N β', ly m' L' d', q', f', ((L'.length - (p + 1) : Nat) : Int))
      ∧ Sr N E v L' p d' m' β' (T ++ O.drop j) q' f' (p + 1) ∧ L'[p]? = some a ∧ d' a = some k ∧ (∀ i ∈ O, ∀ h : i < E.length, (d' E[i].2).isSome) ∧ L <+: L' := by
  intro r
  induction r with
  | zero =>
    intro j L d m β T q f hj s ha hk ht
    refine ⟨L, d, m, β, q, f, ?_, ?_, ha, hk, ?_, List.prefix_refl _⟩
    · apply loop_end
      unfold fn_bfs_From_kpiz_l1
      dsimp only
      rw [li_len, dge (by omega), cond_false]
    · rw [List.drop_of_length_le (by omega), List.append_nil]; exact s
    · rw [List.take_of_length_le (by omega)] at ht; exact ht
  | succ r ih =>
    intro j L d m β T q f hj s ha hk ht
    have hjl : j < O.length := by omega
    obtain ⟨L1, d1, m1, β1, q1, f1, e1, s1, a1, k1, t1, mo, pf⟩ := inner_step hE hn he s ha hk hO hOl hjl
    obtain ⟨L2, d2, m2, β2, q2, f2, e2, s2, a2, k2, t2, pf2⟩ := ih (j + 1) L1 d1 m1 β1 (T ++ [O[j]]) q1 f1 (by omega) s1 a1 k1 (fun i hi h => by
      rw [take_snoc hjl] at hi
      rcases List.mem_append.1 hi with hi | hi
      · exact mo _ (ht i hi h)
      · simp only [List.mem_singleton] at hi; subst hi; exact t1 h)
    refine ⟨L2, d2, m2, β2, q2, f2, by rw [loop_next e1]; exact e2, ?_, a2, k2, t2, pf.trans pf2⟩
    rw [List.append_assoc, List.singleton_append, ← List.drop_eq_getElem_cons hjl] at s2
    exact s2
/-- What has been told when the first p are done. -/
def told (E : ArG) (L : List Nat) (p : Nat) (T : List Nat) : Prop := ∀ i : Nat, i ∈ T ↔ ∃ h : i < E.length, E[i].1 ∈ L.take p
theorem outer_step {N : Nat} {E : ArG} {v : Nat} {L : List Nat} {p : Nat} {d : Nat → Option Nat} {m : Nat} {β : Nat → Option Nat} {T : List Nat} {q : List Int} {f : Int} (hE : inN N E) (hn : N ≤ 1000) (he : E.length ≤ 67108864) (s : Sr N E v L p d m β T q f p) (ht : told E L p T) (hp : p < L.length) :
    ∃ L' d' m' β' T' q' f', fn_bfs_From_kpiz_l2 (some (mkG N E)) (dl N d, dl N β, ly m L d, q, f, ((L.length - p : Nat) : Int)) = some (.inl (dl N d', dl N β', ly m' L' d', q', f', ((L'.length - (p + 1) : Nat) : Int)))
      ∧ Sr N E v L' (p + 1) d' m' β' T' q' f' (p + 1) ∧ told E L' (p + 1) T' := by
  have hLN := s.b.len
  have ha : L[p]? = some L[p] := List.getElem?_eq_getElem hp
  have haL : L[p] ∈ L := List.getElem_mem hp
  have haN := s.b.lt _ haL
  obtain ⟨k, hk⟩ := Option.isSome_iff_exists.1 ((s.b.mem _).1 haL)
  have hr := s.r
  have hdrop : li (L.drop p) = ((L[p] : Nat) : Int) :: li (L.drop (p + 1)) := by rw [List.drop_eq_getElem_cons hp]; rfl
  rw [hdrop] at hr
  obtain ⟨q1, f1, e1, r1, l1⟩ := Pop_eq hr (by have := s.ql; omega)
  have hm1 : ((L.length - p : Nat) : Int) - 1 = ((L.length - (p + 1) : Nat) : Int) := by omega
  rw [hm1] at e1 r1
  have hOl : (occ (E.map (·.1)) L[p]).length ≤ 67108864 := by have := occ_bound (E.map (·.1)) L[p]; rw [List.length_map] at this; omega
  obtain ⟨L2, d2, m2, β2, q2, f2, e2, s2, a2, k2, t2, pf⟩ := inner_from (v := v) (p := p) (k := k) hE hn he (O := occ (E.map (·.1)) L[p]) (fun i hi => occ_arc hi) hOl _ 0 L d m β T q1 f1 (Nat.zero_add _) ⟨s.b, s.l, s.k, r1, by rw [l1]; exact s.ql⟩ ha hk (fun i hi => by simp at hi)
  have hnext := s2.b.next a2 k2 (fun b hb => by
    obtain ⟨i, hi, e⟩ := List.mem_iff_getElem.1 hb
    have := t2 i (occ_mem.2 ⟨by rw [List.length_map]; exact hi, by simp [e]⟩) hi
    rw [e] at this; exact this)
  refine ⟨L2, d2, m2, β2, _, q2, f2, ?_, ⟨hnext, s2.l, s2.k, s2.r, s2.ql⟩, ?_⟩
  · unfold fn_bfs_From_kpiz_l2 fn_stack_Queue_int_Len_p0_rii
    simp only [Option.bind_some]
    rw [show decide ((0 : Int) < ((L.length - p : Nat) : Int)) = true by simp; omega, cond_true, e1]
    simp only [Option.bind_some]
    rw [Out_of (by omega) (by omega) haN]
    simp only [Option.bind_some]
    rw [show fn_tick_Counter_Add_zii 6 _ = some () from rfl, Option.bind_some]
    have e2' : loop (fn_bfs_From_kpiz_l1 (some (mkG N E)) ((L[p] : Nat) : Int) ((occ (E.map (·.1)) L[p]).map (fun i : Nat => (i : Int)))) (0, dl N d, dl N β, ly m L d, q1, f1, ((L.length - (p + 1) : Nat) : Int)) = _ := e2
    rw [e2']
    rfl
  · intro i
    have hp2 : p < L2.length := (List.getElem?_eq_some_iff.1 a2).1
    have hLp : L2[p] = L[p] := by rw [List.getElem?_eq_getElem hp2] at a2; exact Option.some.inj a2
    have hpre : L2.take p = L.take p := by
      obtain ⟨M, rfl⟩ := pf
      rw [List.take_append_of_le_length (by omega)]
    rw [take_snoc hp2, hpre, hLp, List.drop_zero, List.mem_append, ht i, occ_mem]
    constructor
    · rintro (⟨h, h1⟩ | ⟨h, h1⟩)
      · exact ⟨h, List.mem_append_left _ h1⟩
      · rw [List.length_map] at h
        exact ⟨h, List.mem_append_right _ (by simp at h1; simp [h1])⟩
    · rintro ⟨h, h1⟩
      rcases List.mem_append.1 h1 with h1 | h1
      · exact .inl ⟨h, h1⟩
      · simp at h1
        exact .inr ⟨by rw [List.length_map]; exact h, by simp [h1]⟩
/-- What a search that has ended knows. -/
structure Bend (N : Nat) (E : ArG) (v : Nat) (L : List Nat) (d : Nat → Option Nat) (m : Nat) (β : Nat → Option Nat) : Prop where
  b : Bfs N E v L L.length d
  l : Lm d m
  yes : ∀ w i : Nat, β w = some i → Lead E d i w
  low : ∀ w i : Nat, Lead E d i w → ∃ j, β w = some j ∧ j ≤ i
theorem outer_loop {N : Nat} {E : ArG} {v : Nat} (hE : inN N E) (hn : N ≤ 1000) (he : E.length ≤ 67108864) : ∀ (r p : Nat) (L : List Nat) (d : Nat → Option Nat) (m : Nat) (β : Nat → Option Nat) (T : List Nat) (q : List Int) (f : Int), N ≤ p + r → Sr N E v L p d m β T q f p → told E L p T →
    ∃ L' d' m' β', loop (fn_bfs_From_kpiz_l2 (some (mkG N E))) (dl N d, dl N β, ly m L d, q, f, ((L.length - p : Nat) : Int)) = some (dl N d', dl N β', ly m' L' d') ∧ Bend N E v L' d' m' β' := by
  have fin : ∀ (p : Nat) (L : List Nat) (d : Nat → Option Nat) (m : Nat) (β : Nat → Option Nat) (T : List Nat) (q : List Int) (f : Int), Sr N E v L p d m β T q f p → told E L p T → ¬ p < L.length →
      ∃ L' d' m' β', loop (fn_bfs_From_kpiz_l2 (some (mkG N E))) (dl N d, dl N β, ly m L d, q, f, ((L.length - p : Nat) : Int)) = some (dl N d', dl N β', ly m' L' d') ∧ Bend N E v L' d' m' β' := by
    intro p L d m β T q f s ht hp
    obtain rfl : p = L.length := by have := s.b.pl; omega
    refine ⟨L, d, m, β, ?_, s.b, s.l, fun w i h => (s.k.yes w i h).2, fun w i h => s.k.low w i ?_ h⟩
    · apply loop_end
      unfold fn_bfs_From_kpiz_l2 fn_stack_Queue_int_Len_p0_rii
      simp only [Option.bind_some]
      rw [Nat.sub_self]
      rfl
    · obtain ⟨hi, k, _, e2, _⟩ := h
      refine (ht i).2 ⟨hi, ?_⟩
      rw [List.take_length]
      exact (s.b.mem _).2 (by rw [e2]; rfl)
  intro r
  induction r with
  | zero =>
    intro p L d m β T q f hr s ht
    exact fin p L d m β T q f s ht (by have := s.b.len; omega)
  | succ r ih =>
    intro p L d m β T q f hr s ht
    by_cases hp : p < L.length
    · obtain ⟨L1, d1, m1, β1, T1, q1, f1, e1, s1, t1⟩ := outer_step hE hn he s ht hp
      obtain ⟨L2, d2, m2, β2, e2, b2⟩ := ih (p + 1) L1 d1 m1 β1 T1 q1 f1 (by omega) s1 t1
      exact ⟨L2, d2, m2, β2, by rw [loop_next e1]; exact e2, b2⟩
    · exact fin p L d m β T q f s ht hp
/-- Layers, each rising. -/
def lyS (N m : Nat) (d : Nat → Option Nat) : List (List Int) := (List.range m).map fun k => li ((List.range N).filter fun w => decide (d w = some k))
theorem sort_loop {N : Nat} {E : ArG} {v : Nat} {L : List Nat} {d : Nat → Option Nat} {m : Nat} {β : Nat → Option Nat} (h : Bend N E v L d m β) (hn : N ≤ 1000) : loop (fn_bfs_From_kpiz_l3 (ly m L d)) (0, ly m L d) = some (lyS N m d) := by
  have hLN := h.b.len
  have hm := h.l.le h.b.mem hLN
  have hsrt : ∀ k, srt (li (L.filter fun w => decide (d w = some k))) = some (li ((List.range N).filter fun w => decide (d w = some k))) := fun k =>
    srt_set (h.b.nd.filter _) (range_strict N _) (fun w => by
      rw [List.mem_filter, List.mem_filter, List.mem_range]
      constructor
      · rintro ⟨a, b⟩; exact ⟨h.b.lt w a, b⟩
      · rintro ⟨a, b⟩
        refine ⟨(h.b.mem w).2 ?_, b⟩
        rw [of_decide_eq_true b]; rfl) (by have := List.length_filter_le (fun w => decide (d w = some k)) L; omega)
  have := loop_nat (body := fn_bfs_From_kpiz_l3 (ly m L d)) (fun k => ((k : Int), (List.range m).map fun j => if j < k then li ((List.range N).filter fun w => decide (d w = some j)) else li (L.filter fun w => decide (d w = some j)))) m (b := lyS N m d) ?_ ?_
  · simpa [ly] using this
  · intro k hk
    unfold fn_bfs_From_kpiz_l3
    dsimp only
    rw [ly_len, dlt hk, cond_true, getI_map hk, if_neg (Nat.lt_irrefl k)]
    simp only [Option.bind_some]
    rw [show chkI (k : Int) (k : Int) = some () by simp [chkI], Option.bind_some, hsrt, Option.bind_some, Int.toNat_natCast, set_map, w64s hk (by omega)]
    congr 3
    apply map_congr_range
    intro j hj
    by_cases c : j = k
    · subst c; simp
    · by_cases c2 : j < k
      · simp [c, c2, show j < k + 1 by omega]
      · simp [c, c2, show ¬ j < k + 1 by omega]
  · unfold fn_bfs_From_kpiz_l3
    dsimp only
    rw [ly_len, dge (Nat.lt_irrefl m), cond_false]
    congr 2
    unfold lyS
    apply map_congr_range
    intro j hj
    simp [hj]
end Go.Proofs.YthoclljhjcfemaaGreat
namespace Go.Proofs.YthoclljhjcfemaaGreat
open Go.RowKit
set_option linter.unusedVariables false
set_option linter.unusedSimpArgs false
set_option linter.unnecessarySimpa false
theorem Mul_small : ∀ n : Fin 21, fn_math_bits_Mul 1 (n.val : Int) = some (0, (n.val : Int)) := by decide +kernel
theorem Rep_small : ∀ n : Fin 21, iter fn_slices_Repeat_int_int_l1 7 (cpy (List.replicate n.val (0 : Int)) ((0 : Int).toNat) (([-1] : List Int).take (n.val - (0 : Int).toNat)), ((min ([-1] : List Int).length (n.val - (0 : Int).toNat) : Nat) : Int)) = some (List.replicate n.val (-1)) := by decide +kernel
theorem Repeat_eq {n : Nat} (hn : n ≤ 20) : fn_slices_Repeat_int_int [-1] (n : Int) = some (List.replicate n (-1)) := by
  unfold fn_slices_Repeat_int_int
  rw [show decide ((n : Int) < 0) = false from decide_eq_false (by omega), cond_false]
  have hw : ∀ x : Int, 0 ≤ x → x < 1000 → IntKind.wrap .u64 x = x := fun x h0 h1 => by unfold IntKind.wrap; simp [IntKind.bits, IntKind.signed] <;> omega
  simp only [Option.bind_some]
  rw [show IntKind.wrap .u64 ((([-1] : List Int).length : Nat) : Int) = 1 from rfl, hw _ (by omega) (by omega), Mul_small ⟨n, by omega⟩]
  simp only [Option.bind_some]
  rw [show (decide ((0 : Int) < 0) || decide ((9223372036854775807 : Int) < (n : Int))) = false by simp; omega, cond_false]
  simp only [Option.bind_some]
  rw [w64 (x := (n : Int)) (by omega) (by omega)]
  have e1 : mk (n : Int) (n : Int) (0 : Int) = some (List.replicate n 0) := by unfold mk; rw [if_pos (by omega), Int.toNat_natCast]
  rw [e1]
  simp only [Option.bind_some]
  rw [List.length_replicate, loop_of (Rep_small ⟨n, by omega⟩)]
  rfl
theorem rep_dl (N : Nat) : List.replicate N (-1 : Int) = dl N fun _ => none := replicate_map N _
theorem Lm.start (v : Nat) : Lm (fun w => if w = v then some 0 else none) 1 where
  top := fun w k h => by
    split at h
    · cases h; omega
    · cases h
  full := fun k hk => ⟨v, by simp; omega⟩
theorem start_ok {N v : Nat} (hv : v < N) (bk : List Int) : fn_bfs_Tree_reach_p0ii_rrn (v : Int) 0 (dl N fun _ => none) bk = some (dl N (fun w => if w = v then some 0 else none), bk, ly 1 [v] (fun w => if w = v then some 0 else none)) := by
  unfold fn_bfs_Tree_reach_p0ii_rrn
  rw [dl_get hv]
  simp only [Option.bind_some, Int.toNat_natCast]
  have e := dl_set (k := 0) (d := fun _ => none) hv
  rw [show ((0 : Nat) : Int) = 0 from rfl] at e
  rw [e]
  rw [show (bif decide True then (app ([] : List (List Int)) [[]]).bind fun z => some z else some []) = some [[]] by simp [app]]
  have e1 : ly 1 [v] (fun w => if w = v then some 0 else none) = [[(v : Int)]] := by simp [ly, li]
  rw [e1]
  rfl
theorem From_ok {N : Nat} {E : ArG} {v : Nat} (hE : inN N E) (hn : N ≤ 20) (he : E.length ≤ 67108864) (hv : v < N) : ∃ L d m β, fn_bfs_From_kpiz (some (mkG N E)) (v : Int) = some (some (dl N d, dl N β, lyS N m d)) ∧ Bend N E v L d m β := by
  obtain ⟨L, d, m, β, e, b⟩ := outer_loop (v := v) hE (by omega) he N 0 [v] (fun w => if w = v then some 0 else none) 1 (fun _ => none) [] [(v : Int)] 0 (by omega) ⟨Bfs.start hv, Lm.start v, Bck.start E _, RQ.one _, by simp⟩ (fun i => by simp)
  refine ⟨L, d, m, β, ?_, b⟩
  unfold fn_bfs_From_kpiz
  rw [Nodes_eq]
  simp only [Option.bind_some]
  rw [Repeat_eq hn, rep_dl]
  simp only [Option.bind_some]
  rw [show decide (0 ≤ (v : Int)) = true by simp, cond_true, Option.bind_some, show decide ((v : Int) < (N : Int)) = true by simp; omega, cond_true, start_ok hv]
  simp only [Option.bind_some]
  rw [Push_first]
  simp only [Option.bind_some]
  have e' : loop (fn_bfs_From_kpiz_l2 (some (mkG N E))) (dl N (fun w => if w = v then some 0 else none), dl N (fun _ => none), ly 1 [v] (fun w => if w = v then some 0 else none), [(v : Int)], 0, 1) = _ := e
  rw [e']
  simp only [Option.bind_some]
  rw [sort_loop b (by omega)]
  rfl
end Go.Proofs.YthoclljhjcfemaaGreat
namespace Go.Proofs.YthoclljhjcfemaaGreat
open Go.RowKit
set_option linter.unusedVariables false
set_option linter.unusedSimpArgs false
set_option linter.unnecessarySimpa false
theorem Dist_of {N w : Nat} {d : Nat → Option Nat} {bk : List Int} {ls : List (List Int)} (h : w < N) : fn_bfs_Tree_Dist (some (dl N d, bk, ls)) (w : Int) = some (dN (d w)) := by
  unfold fn_bfs_Tree_Dist fn_bfs_Tree_isNode
  rw [show ((!(some (dl N d, bk, ls)).isNone) && decide (0 ≤ (w : Int))) = true by simp, cond_true, Option.bind_some, dl_len, show decide ((w : Int) < (N : Int)) = true from decide_eq_true (by omega)]
  simp only [Option.bind_some, Bool.not_true, cond_false]
  rw [dl_get h]
  rfl
theorem Back_of {N w : Nat} {d β : Nat → Option Nat} {ls : List (List Int)} (h : w < N) : fn_bfs_Tree_Back (some (dl N d, dl N β, ls)) (w : Int) = some (dN (β w)) := by
  unfold fn_bfs_Tree_Back fn_bfs_Tree_isNode
  rw [show ((!(some (dl N d, dl N β, ls)).isNone) && decide (0 ≤ (w : Int))) = true by simp, cond_true, Option.bind_some, dl_len, show decide ((w : Int) < (N : Int)) = true from decide_eq_true (by omega)]
  simp only [Option.bind_some, Bool.not_true, cond_false]
  rw [dl_get h]
  rfl
/-- What rises by at most one over an arc is a bound from below. -/
theorem Wk.pot {E : ArG} {v k w : Nat} (h : Nat → Nat) (h0 : h v = 0) (hE : ∀ a b, (a, b) ∈ E → h b ≤ h a + 1) (hw : Wk E v k w) : h w ≤ k := by
  induction hw with
  | zero => omega
  | step _ e ih => have := hE _ _ e; omega
theorem Bend.lt {N : Nat} {E : ArG} {v : Nat} {L : List Nat} {d : Nat → Option Nat} {m : Nat} {β : Nat → Option Nat} (h : Bend N E v L d m β) {w k : Nat} (hw : d w = some k) : k < N := by
  have h1 := h.l.top w k hw
  have h2 := h.l.le h.b.mem h.b.len
  omega
end Go.Proofs.YthoclljhjcfemaaGreat
namespace Go.Proofs.YthoclljhjcfemaaGreat
open Go.RowKit
set_option linter.unusedVariables false
set_option linter.unusedSimpArgs false
set_option linter.unnecessarySimpa false
theorem Bend.closed {N : Nat} {E : ArG} {v : Nat} {L : List Nat} {d : Nat → Option Nat} {m : Nat} {β : Nat → Option Nat} (h : Bend N E v L d m β) {a b k : Nat} (e : (a, b) ∈ E) (ha : d a = some k) : ∃ j, d b = some j ∧ j ≤ k + 1 := by
  obtain ⟨i, hi, e2⟩ := List.mem_iff_getElem.1 ((h.b.mem a).2 (by rw [ha]; rfl))
  exact h.b.done i a b k hi (by rw [List.getElem?_eq_getElem hi, e2]) e ha
theorem Bend.back {N : Nat} {E : ArG} {v : Nat} {L : List Nat} {d : Nat → Option Nat} {m : Nat} {β : Nat → Option Nat} (h : Bend N E v L d m β) {x k : Nat} (hx : d x = some (k + 1)) : ∃ (j : Nat) (hj : j < E.length), β x = some j ∧ E[j].2 = x ∧ d E[j].1 = some k := by
  have hf := (h.b.far x (k + 1)).1 hx
  have : ∃ a, Wk E v k a ∧ (a, x) ∈ E := by
    cases hf.1 with
    | step g e => exact ⟨_, g, e⟩
  obtain ⟨a, g, e⟩ := this
  have hda : d a = some k := by
    cases ha : d a with
    | none => exact absurd g.rch ((h.b.far_not a).1 ha)
    | some j =>
      obtain ⟨i, h1, h2⟩ := h.closed e ha
      rw [hx] at h1; cases h1
      have := ((h.b.far a j).1 ha).2 _ g
      congr 1; omega
  obtain ⟨i, hi, ei⟩ := List.mem_iff_getElem.1 e
  obtain ⟨j, h1, _⟩ := h.low x i ⟨hi, k, by rw [ei], by rw [ei]; exact hda, hx⟩
  obtain ⟨hj, l, h2, h3, h4⟩ := h.yes x j h1
  rw [hx] at h4; cases h4
  exact ⟨j, hj, h1, h2, h3⟩
end Go.Proofs.YthoclljhjcfemaaGreat
namespace Go.Proofs.YthoclljhjcfemaaGreat
open Go.RowKit
set_option linter.unusedVariables false
set_option linter.unusedSimpArgs false
set_option linter.unnecessarySimpa false
end Go.Proofs.YthoclljhjcfemaaGreat
namespace Go.Proofs.YthoclljhjcfemaaGreat
open Go.RowKit
set_option linter.unusedVariables false
set_option linter.unusedSimpArgs false
set_option linter.unnecessarySimpa false
/-- Where arcs lead, one behind the other. -/
def goW (E : ArG) : Int → List Int → Option Int
  | x, [] => some x
  | x, i :: l => if h : (0 ≤ i ∧ i < (E.length : Int)) ∧ ((E.getD i.toNat (0, 0)).1 : Int) = x then goW E ((E.getD i.toNat (0, 0)).2 : Int) l else none
theorem goW_cons {E : ArG} {x i : Int} {l : List Int} : goW E x (i :: l) = if h : (0 ≤ i ∧ i < (E.length : Int)) ∧ ((E.getD i.toNat (0, 0)).1 : Int) = x then goW E ((E.getD i.toNat (0, 0)).2 : Int) l else none := rfl
theorem goW_nil {E : ArG} {x : Int} : goW E x [] = some x := rfl
theorem goW_app {E : ArG} : ∀ {a b : List Int} {x : Int}, goW E x (a ++ b) = (goW E x a).bind fun y => goW E y b
  | [], b, x => rfl
  | i :: a, b, x => by
    show goW E x (i :: (a ++ b)) = _
    rw [goW_cons, goW_cons]
    split
    · exact goW_app
    · rfl
theorem goW_one {E : ArG} {j : Nat} (hj : j < E.length) {x : Nat} (hx : E[j].1 = x) : goW E (x : Int) [(j : Int)] = some (E[j].2 : Int) := by
  rw [goW_cons, dif_pos ⟨⟨by omega, by omega⟩, by simp [hj, hx]⟩, goW_nil]
  simp [hj]
/-- The walk that is told: by the arcs that lead. -/
def sw (E : ArG) (β : Nat → Option Nat) : Nat → Nat → List Nat
  | 0, _ => []
  | k + 1, w => match β w with
    | some j => sw E β k (E.getD j (0, 0)).1 ++ [j]
    | none => []
theorem sw_succ {N : Nat} {E : ArG} {v : Nat} {L : List Nat} {d : Nat → Option Nat} {m : Nat} {β : Nat → Option Nat} (h : Bend N E v L d m β) {x k : Nat} (hx : d x = some (k + 1)) :
    ∃ (j : Nat) (hj : j < E.length), β x = some j ∧ E[j].2 = x ∧ d E[j].1 = some k ∧ sw E β (k + 1) x = sw E β k E[j].1 ++ [j] := by
  obtain ⟨j, hj, h1, h2, h3⟩ := h.back hx
  refine ⟨j, hj, h1, h2, h3, ?_⟩
  rw [show sw E β (k + 1) x = match β x with | some j => sw E β k (E.getD j (0, 0)).1 ++ [j] | none => [] from rfl, h1]
  simp [hj]
theorem li_app (A B : List Nat) : li (A ++ B) = li A ++ li B := by simp [li]
theorem zero_only {N : Nat} {E : ArG} {v : Nat} {L : List Nat} {d : Nat → Option Nat} {m : Nat} {β : Nat → Option Nat} (h : Bend N E v L d m β) {x : Nat} (hx : d x = some 0) : x = v := by
  have := ((h.b.far x 0).1 hx).1
  cases this; rfl
theorem sw_ok {N : Nat} {E : ArG} {v : Nat} {L : List Nat} {d : Nat → Option Nat} {m : Nat} {β : Nat → Option Nat} (h : Bend N E v L d m β) : ∀ {k x : Nat}, d x = some k → goW E (v : Int) (li (sw E β k x)) = some (x : Int) ∧ (sw E β k x).length = k
  | 0, x, hx => by obtain rfl := zero_only h hx; exact ⟨rfl, rfl⟩
  | k + 1, x, hx => by
    obtain ⟨j, hj, h1, h2, h3, h4⟩ := sw_succ h hx
    obtain ⟨g1, g2⟩ := sw_ok h h3
    rw [h4]
    refine ⟨?_, by rw [List.length_append, g2]; rfl⟩
    rw [li_app, goW_app, g1]
    show goW E _ [(j : Int)] = _
    rw [goW_one hj rfl, h2]
end Go.Proofs.YthoclljhjcfemaaGreat
namespace Go.Proofs.YthoclljhjcfemaaGreat
open Go.RowKit
set_option linter.unusedVariables false
set_option linter.unusedSimpArgs false
set_option linter.unnecessarySimpa false
end Go.Proofs.YthoclljhjcfemaaGreat
namespace Go.Proofs.YthoclljhjcfemaaGreat
open Go.RowKit
set_option linter.unusedVariables false
set_option linter.unusedSimpArgs false
set_option linter.unnecessarySimpa false
theorem rep_set {k : Nat} {S : List Int} {x : Int} : (List.replicate (k + 1) (0 : Int) ++ S).set k x = List.replicate k 0 ++ x :: S := by
  rw [List.replicate_succ', List.append_assoc, List.set_append_right (h := by simp)]
  simp
theorem rep_get {k : Nat} {S : List Int} {x : Int} : getI (List.replicate k (0 : Int) ++ x :: S) (k : Int) = some x := by
  rw [getN (by simp)]
  simp
theorem rep_get0 {k : Nat} {S : List Int} : getI (List.replicate (k + 1) (0 : Int) ++ S) (k : Int) = some 0 := by
  rw [getN (by simp; omega)]
  rw [List.getElem_append_left (by simp)]
  simp
theorem Arc_at {N : Nat} {E : ArG} {j : Nat} (hj : j < E.length) : fn_graph_Graph_Arc (some (mkG N E)) (j : Int) = some ((E[j].1 : Int), (E[j].2 : Int), true) := by
  rw [Arc_of, dif_pos ⟨by omega, by omega⟩]
  simp
theorem Short_loop {N : Nat} {E : ArG} {v : Nat} {L : List Nat} {d : Nat → Option Nat} {m : Nat} {β : Nat → Option Nat} {ls : List (List Int)} (hE : inN N E) (h : Bend N E v L d m β) : ∀ {k x : Nat} {S : List Int}, d x = some k → k ≤ 1000 →
    loop (fn_path_Short_kpiiz_l1 (some (mkG N E)) (some (dl N d, dl N β, ls))) ((x : Int), List.replicate k 0 ++ S, (k : Int) - 1) = some (li (sw E β k x) ++ S)
  | 0, x, S, hx, _ => by
    apply loop_end
    unfold fn_path_Short_kpiiz_l1
    rfl
  | k + 1, x, S, hx, hk => by
    obtain ⟨j, hj, h1, h2, h3, h4⟩ := sw_succ h hx
    have hxN := h.b.lt x ((h.b.mem x).2 (by rw [hx]; rfl))
    have ih := Short_loop (S := (j : Int) :: S) (ls := ls) hE h h3 (by omega)
    have e : fn_path_Short_kpiiz_l1 (some (mkG N E)) (some (dl N d, dl N β, ls)) ((x : Int), List.replicate (k + 1) 0 ++ S, ((k + 1 : Nat) : Int) - 1) = some (.inl ((E[j].1 : Int), List.replicate k 0 ++ (j : Int) :: S, (k : Int) - 1)) := by
      rw [show ((k + 1 : Nat) : Int) - 1 = (k : Int) by omega]
      unfold fn_path_Short_kpiiz_l1
      dsimp only
      rw [decide_eq_true (p := (0 : Int) ≤ (k : Int)) (by omega), cond_true, Back_of hxN, h1]
      simp only [Option.bind_some]
      rw [rep_get0]
      simp only [Option.bind_some, Int.toNat_natCast]
      rw [show dN (some j) = (j : Int) from rfl, rep_set, rep_get]
      simp only [Option.bind_some]
      rw [Arc_at hj]
      simp only [Option.bind_some]
      rw [w64 (by omega) (by omega)]
    rw [loop_next e, ih, h4, li_app, List.append_assoc]
    rfl
theorem Short_ok {N : Nat} {E : ArG} {v : Nat} {L : List Nat} {d : Nat → Option Nat} {m : Nat} {β : Nat → Option Nat} {ls : List (List Int)} (hE : inN N E) (hN : N ≤ 1000) (h : Bend N E v L d m β) (e : fn_bfs_From_kpiz (some (mkG N E)) (v : Int) = some (some (dl N d, dl N β, ls))) {x k : Nat} (hx : d x = some k) :
    fn_path_Short_kpiiz (some (mkG N E)) (v : Int) (x : Int) = some (li (sw E β k x), true) := by
  have hxN := h.b.lt x ((h.b.mem x).2 (by rw [hx]; rfl))
  have hk := h.lt hx
  unfold fn_path_Short_kpiiz
  rw [e]
  simp only [Option.bind_some]
  rw [Dist_of hxN, hx]
  simp only [Option.bind_some]
  rw [show dN (some k) = (k : Int) from rfl, decide_eq_false (p := (k : Int) < 0) (by omega), cond_false, mkN (by omega)]
  simp only [Option.bind_some]
  rw [List.length_replicate, w64 (by omega) (by omega)]
  have := Short_loop (S := []) (ls := ls) hE h hx (by omega)
  rw [List.append_nil, List.append_nil] at this
  rw [this]
  rfl
theorem Short_not {g : Option Gr} {v x : Int} {t : Option (List Int × List Int × List (List Int))} (e : fn_bfs_From_kpiz g v = some t) (hd : fn_bfs_Tree_Dist t x = some (-1)) : fn_path_Short_kpiiz g v x = some ([], false) := by
  unfold fn_path_Short_kpiiz
  rw [e]
  simp only [Option.bind_some]
  rw [hd]
  rfl
theorem pWalk_ok {N : Nat} {E : ArG} {x : Int} {l : List Int} (hl : l.length ≤ 1000) (he : E.length ≤ 67108864) : fn_path_Walk (some (mkG N E)) x l = some (if 0 ≤ x ∧ x < (N : Int) then (match goW E x l with | some y => (y, true) | none => (0, false)) else (0, false)) := by
  unfold fn_path_Walk
  rw [Nodes_eq]
  simp only [Option.bind_some]
  by_cases h0 : x < 0
  · rw [decide_eq_true h0, if_neg (by omega)]; rfl
  rw [decide_eq_false h0]
  simp only [cond_false, Option.bind_some]
  by_cases h1 : (N : Int) ≤ x
  · rw [decide_eq_true h1, if_neg (by omega)]; rfl
  rw [decide_eq_false h1, if_pos (by omega), cond_false]
  have key : ∀ (r i : Nat) (x : Int), i + r = l.length → loop (fn_path_Walk_l1 (some (mkG N E)) l) (x, (i : Int)) = some (match goW E x (l.drop i) with | some y => .inl y | none => .inr (0, false)) := by
    intro r
    induction r with
    | zero =>
      intro i x hi
      have : l.drop i = [] := List.drop_eq_nil_of_le (by omega)
      rw [this, goW_nil]
      apply loop_end
      unfold fn_path_Walk_l1
      dsimp only
      rw [dge (by omega), cond_false]
    | succ r ih =>
      intro i x hi
      have hil : i < l.length := by omega
      rw [List.drop_eq_getElem_cons hil, goW_cons]
      by_cases hc : (0 ≤ l[i] ∧ l[i] < (E.length : Int)) ∧ ((E.getD (l[i]).toNat (0, 0)).1 : Int) = x
      · rw [dif_pos hc, ← ih (i + 1) _ (by omega)]
        apply loop_next
        unfold fn_path_Walk_l1
        dsimp only
        have hlt : (l[i]).toNat < E.length := by omega
        have hgd : E.getD (l[i]).toNat (0, 0) = E[(l[i]).toNat] := by simp [hlt]
        rw [dlt hil, cond_true, getN hil]
        simp only [Option.bind_some]
        rw [Arc_of, dif_pos hc.1]
        simp only [Option.bind_some]
        have hx : ((E[(l[i]).toNat].1 : Nat) : Int) = x := by rw [← hgd]; exact hc.2
        rw [w64s hil (by omega)]
        simp [hx, hlt]
      · rw [dif_neg hc]
        apply loop_end
        unfold fn_path_Walk_l1
        dsimp only
        rw [dlt hil, cond_true, getN hil]
        simp only [Option.bind_some]
        rw [Arc_of]
        by_cases hr : 0 ≤ l[i] ∧ l[i] < (E.length : Int)
        · rw [dif_pos hr]
          have hlt : (l[i]).toNat < E.length := by omega
          have hgd : E.getD (l[i]).toNat (0, 0) = E[(l[i]).toNat] := by simp [hlt]
          rw [hgd] at hc
          simp only [Option.bind_some]
          rw [decide_eq_false (fun g => hc ⟨hr, g⟩)]
          rfl
        · rw [dif_neg hr]; rfl
  have k0 := key l.length 0 x (Nat.zero_add _)
  rw [List.drop_zero] at k0
  have k1 : loop (fn_path_Walk_l1 (some (mkG N E)) l) (x, 0) = _ := k0
  rw [k1]
  cases goW E x l <;> rfl
end Go.Proofs.YthoclljhjcfemaaGreat
namespace Go.Proofs.YthoclljhjcfemaaGreat
namespace Nu
set_option linter.unusedVariables false
set_option linter.unnecessarySimpa false
set_option linter.unusedSimpArgs false
def ch (d : Nat) : UInt8 := UInt8.ofNat (48 + d)
def dec (n : Nat) : List UInt8 := if h : n < 10 then [ch n] else dec (n / 10) ++ [ch (n % 10)]
termination_by n
theorem dec_lt {n : Nat} (h : n < 10) : dec n = [ch n] := by rw [dec, dif_pos h]
theorem dec_ge {n : Nat} (h : ¬ n < 10) : dec n = dec (n / 10) ++ [ch (n % 10)] := by rw [dec, dif_neg h]
def text (n : Int) : List UInt8 := if n < 0 then [] else dec n.toNat
def isDig (c : UInt8) : Bool := decide (48 ≤ c.toNat) && decide (c.toNat ≤ 57)
def dig (c : UInt8) : Nat := c.toNat - 48
def val (s : List UInt8) : Nat := s.foldl (fun a c => a * 10 + dig c) 0
def isNum (s : List UInt8) : Bool := s.all isDig && (decide (s.length = 1) || (decide (1 < s.length) && !decide (s.head? = some 48)))
def parse (s : List UInt8) (most : Int) : Int × Int := if isNum s = true then (if most < (val s : Int) then (0, 5) else ((val s : Int), 0)) else (0, 3)
theorem dec_len : ∀ (k n : Nat), n < 10 ^ (k + 1) → (dec n).length ≤ k + 1 := by
  intro k
  induction k with
  | zero => intro n h; rw [dec_lt (by simpa using h)]; simp
  | succ k ih =>
    intro n h
    by_cases hn : n < 10
    · rw [dec_lt hn]; simp
    · rw [dec_ge hn, List.length_append]
      have := ih (n / 10) (by rw [Nat.pow_succ] at h; omega)
      simp; omega
theorem text_len {n : Int} (h : n ≤ 9223372036854775807) : (text n).length ≤ 19 := by
  unfold text; split
  · simp
  · exact dec_len 18 _ (by omega)
/-! ### Where a byte is met first. -/
/-! ### Texts in pieces. -/
def hd (b : UInt8) : List (List UInt8) → List (List UInt8)
  | p :: ps => (b :: p) :: ps
  | [] => [[b]]
def pieces (c : UInt8) : List UInt8 → List (List UInt8)
  | [] => [[]]
  | b :: l => if b = c then [] :: pieces c l else hd b (pieces c l)
/-- Pieces, put together with the byte between. -/
def glue (c : UInt8) : List (List UInt8) → List UInt8
  | [] => []
  | p :: ps => p ++ ps.flatMap (c :: ·)
theorem glue_cons2 (c : UInt8) (p q : List UInt8) (ps : List (List UInt8)) : glue c (p :: q :: ps) = p ++ c :: glue c (q :: ps) := by simp [glue]
theorem join_glue (c : UInt8) : ∀ (l : List (List UInt8)), Lib.join l [c] = glue c l
  | [] => by simp [Lib.join, glue]
  | [p] => by simp [Lib.join, glue, List.intercalate]
  | p :: q :: ps => by
    have ih := join_glue c (q :: ps)
    rw [glue_cons2, ← ih]
    simp [Lib.join, List.intercalate]
end Nu
end Go.Proofs.YthoclljhjcfemaaGreat
namespace Go.Proofs.YthoclljhjcfemaaGreat
open Go.RowKit Nu
set_option linter.unusedVariables false
set_option linter.unnecessarySimpa false
set_option linter.unusedSimpArgs false
theorem u8_48 {d : Nat} (h : d < 10) : IntKind.wrap .u8 (IntKind.wrap .i64 (48 + (d : Int))) = ((48 + d : Nat) : Int) := by
  rw [w64 (by omega) (by omega)]
  have e : IntKind.wrap .u8 (48 + (d : Int)) = (48 + (d : Int)) % 256 := IntKind.wrap_u8' _
  rw [e, Int.emod_eq_of_lt (by omega) (by omega)]; omega
theorem nText_key : ∀ (k n a : Nat) (l : List Int), n < 10 ^ (k + 1) → n ≤ 9223372036854775807 → k < a → a ≤ 20 → l.length = 20 → loop fn_numeral_Text_l1 ((n : Int), l, (a : Int)) = some (dec n ++ toU8 (l.drop a)) := by
  intro k
  induction k with
  | zero =>
    intro n a l hn hb ha ha2 hl
    have h10 : n < 10 := by simpa using hn
    have e0 : IntKind.wrap .i64 ((a : Int) - 1) = ((a - 1 : Nat) : Int) := by rw [w64 (by omega) (by omega)]; omega
    have e1 : Int.tmod (n : Int) 10 = (n : Int) := by rw [Int.tmod_eq_emod_of_nonneg (by omega)]; omega
    have e2 : Int.tdiv (n : Int) 10 = 0 := by rw [Int.tdiv_eq_ediv_of_nonneg (by omega)]; omega
    refine loop_end ?_
    unfold fn_numeral_Text_l1
    have hs : subL (l.set (a - 1) ((48 + n : Nat) : Int)) ((a - 1 : Nat) : Int) (((20 : Nat) : Int)) = some (((48 + n : Nat) : Int) :: l.drop a) := by
      rw [subL_eq (by omega) (by omega) (by rw [List.length_set, hl]; omega)]
      simp only [Int.toNat_natCast]
      rw [List.take_of_length_le (by rw [List.length_set, hl]; omega), List.drop_eq_getElem_cons (by rw [List.length_set]; omega), List.getElem_set_self, List.drop_set_of_lt (by omega), show a - 1 + 1 = a by omega]
    simp only [e0, getN (show a - 1 < l.length by omega), Option.bind_some, e1, u8_48 h10, e2, Int.toNat_natCast, show IntKind.wrap .i64 0 = 0 from rfl, decide_true, cond_true, hs]
    rw [dec_lt h10]
    simp only [toU8, List.map_cons, Int.toNat_natCast]; rfl
  | succ k ih =>
    intro n a l hn hb ha ha2 hl
    by_cases h10 : n < 10
    · have e0 : IntKind.wrap .i64 ((a : Int) - 1) = ((a - 1 : Nat) : Int) := by rw [w64 (by omega) (by omega)]; omega
      have e1 : Int.tmod (n : Int) 10 = (n : Int) := by rw [Int.tmod_eq_emod_of_nonneg (by omega)]; omega
      have e2 : Int.tdiv (n : Int) 10 = 0 := by rw [Int.tdiv_eq_ediv_of_nonneg (by omega)]; omega
      refine loop_end ?_
      unfold fn_numeral_Text_l1
      have hs : subL (l.set (a - 1) ((48 + n : Nat) : Int)) ((a - 1 : Nat) : Int) (((20 : Nat) : Int)) = some (((48 + n : Nat) : Int) :: l.drop a) := by
        rw [subL_eq (by omega) (by omega) (by rw [List.length_set, hl]; omega)]
        simp only [Int.toNat_natCast]
        rw [List.take_of_length_le (by rw [List.length_set, hl]; omega), List.drop_eq_getElem_cons (by rw [List.length_set]; omega), List.getElem_set_self, List.drop_set_of_lt (by omega), show a - 1 + 1 = a by omega]
      simp only [e0, getN (show a - 1 < l.length by omega), Option.bind_some, e1, u8_48 h10, e2, Int.toNat_natCast, show IntKind.wrap .i64 0 = 0 from rfl, decide_true, cond_true, hs]
      rw [dec_lt h10]
      simp only [toU8, List.map_cons, Int.toNat_natCast]; rfl
    · have e0 : IntKind.wrap .i64 ((a : Int) - 1) = ((a - 1 : Nat) : Int) := by rw [w64 (by omega) (by omega)]; omega
      have e1 : Int.tmod (n : Int) 10 = ((n % 10 : Nat) : Int) := by rw [Int.tmod_eq_emod_of_nonneg (by omega)]; omega
      have e2 : IntKind.wrap .i64 (Int.tdiv (n : Int) 10) = ((n / 10 : Nat) : Int) := by rw [Int.tdiv_eq_ediv_of_nonneg (by omega), w64 (by omega) (by omega)]; omega
      have e3 : decide (((n / 10 : Nat) : Int) = 0) = false := by simp; omega
      rw [loop_next (s' := (((n / 10 : Nat) : Int), l.set (a - 1) ((48 + n % 10 : Nat) : Int), ((a - 1 : Nat) : Int))), ih (n / 10) (a - 1) _ (by rw [Nat.pow_succ] at hn; omega) (by omega) (by omega) (by omega) (by rw [List.length_set, hl])]
      · rw [dec_ge h10, List.drop_eq_getElem_cons (by rw [List.length_set]; omega), List.getElem_set_self, List.drop_set_of_lt (by omega), show a - 1 + 1 = a by omega]
        simp only [toU8, List.map_cons, Int.toNat_natCast, List.append_assoc]; rfl
      · unfold fn_numeral_Text_l1
        simp only [e0, getN (show a - 1 < l.length by omega), Option.bind_some, e1, u8_48 (show n % 10 < 10 by omega), e2, e3, Int.toNat_natCast, cond_false]
theorem nText_eq (n : Int) (h : n ≤ 9223372036854775807) : fn_numeral_Text n = some (text n) := by
  unfold fn_numeral_Text text
  by_cases h0 : n < 0
  · simp [h0]
  · obtain ⟨m, rfl⟩ := Int.eq_ofNat_of_zero_le (show 0 ≤ n by omega)
    rw [if_neg h0, decide_eq_false h0, cond_false]
    have := nText_key 18 m 20 [0, 0, 0, 0, 0, 0, 0, 0, 0, 0, 0, 0, 0, 0, 0, 0, 0, 0, 0, 0] (by omega) (by omega) (by omega) (by omega) rfl
    rw [show ((20 : Nat) : Int) = 20 from rfl] at this
    rw [this]
    simp [toU8]
def pair (b : Int × Int) : List UInt8 := if b.1 < 0 ∨ b.2 < 0 then [] else text b.1 ++ 58 :: text b.2
theorem nPair_eq (b : Int × Int) (h1 : b.1 ≤ 9223372036854775807) (h2 : b.2 ≤ 9223372036854775807) : fn_numeral_Pair b = some (pair b) := by
  unfold fn_numeral_Pair pair
  by_cases h : b.1 < 0 ∨ b.2 < 0
  · rw [if_pos h]
    have : (decide (b.1 < 0) || decide (b.2 < 0)) = true := by simpa using h
    rw [this]; rfl
  · rw [if_neg h]
    have : (decide (b.1 < 0) || decide (b.2 < 0)) = false := by simp; omega
    have l1 := text_len h1; have l2 := text_len h2
    rw [this, cond_false, nText_eq _ h1, nText_eq _ h2]
    simp only [Option.bind_some]
    rw [app_eq (by simp; omega)]
    simp only [Option.bind_some]
    rw [app_eq (by simp; omega)]
    simp
end Go.Proofs.YthoclljhjcfemaaGreat
namespace Go.Proofs.YthoclljhjcfemaaGreat
open Go.RowKit Nu
set_option linter.unusedVariables false
set_option linter.unnecessarySimpa false
set_option linter.unusedSimpArgs false
/-- A bound out of two texts. -/
def two (a b : List UInt8) (most : Int) : Int × Int × Int :=
  if (parse a most).2 ≠ 0 then (0, 0, (parse a most).2) else if (parse b most).2 ≠ 0 then (0, 0, (parse b most).2) else ((parse a most).1, (parse b most).1, 0)
/-! ### There and back. -/
end Go.Proofs.YthoclljhjcfemaaGreat
namespace Go.Proofs.YthoclljhjcfemaaGreat
open Go.RowKit Nu
set_option linter.unusedVariables false
set_option linter.unnecessarySimpa false
set_option linter.unusedSimpArgs false
abbrev Pv := Int × Int × Int × Int × Bool
abbrev Eg := Int × Int × Pv
def nm (k : Int) : List UInt8 := if k = 1 then [102, 108, 111, 119] else if k = 2 then [108, 111, 97, 110] else if k = 3 then [98, 97, 115, 101] else if k = 4 then [110, 101, 101, 100] else if k = 5 then [112, 97, 115, 115] else if k = 6 then [103, 105, 118, 101] else if k = 7 then [111, 117, 116] else [63]
theorem kcases {k : Int} (h1 : 1 ≤ k) (h7 : k ≤ 7) : k = 1 ∨ k = 2 ∨ k = 3 ∨ k = 4 ∨ k = 5 ∨ k = 6 ∨ k = 7 := by omega
theorem nm_other {k : Int} (h : ¬ (1 ≤ k ∧ k ≤ 7)) : nm k = [63] := by
  unfold nm
  rw [if_neg (by omega), if_neg (by omega), if_neg (by omega), if_neg (by omega), if_neg (by omega), if_neg (by omega), if_neg (by omega)]
theorem nm_len (k : Int) : (nm k).length ≤ 4 := by
  by_cases h : 1 ≤ k ∧ k ≤ 7
  · rcases kcases h.1 h.2 with e | e | e | e | e | e | e <;> subst e <;> decide
  · rw [nm_other h]; decide
def kindO (s : List UInt8) : Option Int := (List.range 7).findSome? fun k : Nat => if nm ((k : Int) + 1) = s then some ((k : Int) + 1) else none
def kind (s : List UInt8) : Int := (kindO s).getD 0
theorem provName_eq (k : Int) : fn_prov_Name k = some (nm k) := by
  unfold fn_prov_Name nm
  by_cases h1 : k = 1; · simp [h1]
  by_cases h2 : k = 2; · simp [h2]
  by_cases h3 : k = 3; · simp [h3]
  by_cases h4 : k = 4; · simp [h4]
  by_cases h5 : k = 5; · simp [h5]
  by_cases h6 : k = 6; · simp [h6]
  by_cases h7 : k = 7; · simp [h7]
  simp [h1, h2, h3, h4, h5, h6, h7]
def right (f : Pv) : Bool := ((decide (0 ≤ f.1) && decide (0 ≤ f.2.1)) && decide (0 ≤ f.2.2.2.1)) && (decide (1 ≤ f.2.2.1) && decide (f.2.2.1 ≤ 7))
theorem provRight_eq (f : Pv) : fn_prov_Right f = some (right f) := by
  unfold fn_prov_Right fn_prov_isKind right
  cases (decide (0 ≤ f.1) && decide (0 ≤ f.2.1)) && decide (0 ≤ f.2.2.2.1) <;> simp
def bk : List UInt8 := [98, 97, 99, 107]
def words (f : Pv) : List (List UInt8) := [text f.1 ++ 46 :: text f.2.1, nm f.2.2.1, text f.2.2.2.1] ++ (if f.2.2.2.2 = true then [bk] else [])
def ptext (f : Pv) : List UInt8 := if right f = true then glue 32 (words f) else [63]
structure POk (f : Pv) : Prop where
  a : f.1 ≤ 9223372036854775807
  b : f.2.1 ≤ 9223372036854775807
  c : f.2.2.2.1 ≤ 9223372036854775807
theorem words_len {f : Pv} (h : POk f) : (glue 32 (words f)).length ≤ 80 := by
  have a := text_len h.a; have b := text_len h.b; have c := text_len h.c; have d := nm_len f.2.2.1
  unfold words
  cases f.2.2.2.2 <;> simp [glue, bk] <;> omega
theorem ptext_len {f : Pv} (h : POk f) : (ptext f).length ≤ 80 := by
  unfold ptext; split
  · exact words_len h
  · simp
theorem provText_eq (f : Pv) (h : POk f) : fn_prov_Text f = some (ptext f) := by
  have a := text_len h.a; have b := text_len h.b; have c := text_len h.c; have d := nm_len f.2.2.1
  have wl := words_len h
  unfold fn_prov_Text
  rw [provRight_eq]
  unfold ptext
  cases hr : right f with
  | false =>
    rfl
  | true =>
    simp only [Option.bind_some, Bool.not_true, cond_false, if_true]
    rw [nText_eq _ h.a, nText_eq _ h.b, nText_eq _ h.c, provName_eq]
    simp only [Option.bind_some]
    rw [app_eq (by simp; omega)]
    simp only [Option.bind_some]
    rw [app_eq (by simp; omega)]
    simp only [Option.bind_some, List.append_assoc, List.singleton_append]
    cases hb : f.2.2.2.2 with
    | false =>
      have e : words f = [text f.1 ++ 46 :: text f.2.1, nm f.2.2.1, text f.2.2.2.1] := by unfold words; rw [hb]; rfl
      rw [e] at wl ⊢
      simp only [cond_false]
      unfold joinF
      rw [join_glue, if_pos ⟨by omega, by simp⟩]; rfl
    | true =>
      have e : words f = [text f.1 ++ 46 :: text f.2.1, nm f.2.2.1, text f.2.2.2.1, bk] := by unfold words; rw [hb]; rfl
      rw [e] at wl ⊢
      simp only [cond_true]
      rw [app_eq (by simp)]
      simp only [Option.bind_some, List.cons_append, List.nil_append]
      unfold joinF
      have e2 : ([98, 97, 99, 107] : List UInt8) = bk := rfl
      rw [e2, join_glue, if_pos ⟨by omega, by simp⟩]; rfl
def pedge (e : Int × Int × Pv) : List UInt8 := pair (e.1, e.2.1) ++ [32, 97, 116, 32] ++ ptext e.2.2
theorem pair_len {b : Int × Int} (h1 : b.1 ≤ 9223372036854775807) (h2 : b.2 ≤ 9223372036854775807) : (pair b).length ≤ 40 := by
  unfold pair; split
  · simp
  · have a := text_len h1; have c := text_len h2; simp; omega
structure EOk (e : Int × Int × Pv) : Prop where
  a : e.1 ≤ 9223372036854775807
  b : e.2.1 ≤ 9223372036854775807
  p : POk e.2.2
theorem provEdge_eq (e : Int × Int × Pv) (h : EOk e) : fn_prov_Edge e = some (pedge e) := by
  have l1 := pair_len (b := (e.1, e.2.1)) h.a h.b
  have l2 := ptext_len h.p
  unfold fn_prov_Edge pedge
  rw [nPair_eq _ h.a h.b, provText_eq _ ⟨h.p.a, h.p.b, h.p.c⟩]
  simp only [Option.bind_some]
  rw [app_eq (by simp; omega)]
  simp only [Option.bind_some]
  rw [app_eq (by simp; omega)]
  rfl
end Go.Proofs.YthoclljhjcfemaaGreat
namespace Go.Proofs.YthoclljhjcfemaaGreat
open Go.RowKit Nu
set_option linter.unusedVariables false
set_option linter.unnecessarySimpa false
set_option linter.unusedSimpArgs false
abbrev Fd := Int × Int × List Int
def arcsOf (l : List Eg) : List (Int × Int) := l.map (fun e => (e.1, e.2.1))
theorem refArcs_eq (l : List Eg) (hl : l.length ≤ 67108864) : fn_ref27_Arcs l = some (arcsOf l) := by
  unfold fn_ref27_Arcs
  have := loop_map l (fun e : Eg => (e.1, e.2.1)) [] (by simp; omega) (body := fn_ref27_Arcs_l1 l) (fun c i => by
    unfold fn_ref27_Arcs_l1
    cases hg : getI l i with
    | none => simp [hg]
    | some x => simp [hg])
  rw [this]; simp [arcsOf]
theorem graphArcs_eq (l : List Eg) (hl : l.length ≤ 67108864) : (loop (fn_cons_Graph_l1 l) (List.replicate l.length (0, 0), 0) : Option (List (Int × Int))) = some (arcsOf l) := by
  have h := loop_nat (body := fn_cons_Graph_l1 l) (fun k : Nat => ((arcsOf l).take k ++ List.replicate (l.length - k) ((0 : Int), (0 : Int)), (k : Int))) l.length (b := arcsOf l) ?_ ?_
  · simpa using h
  · intro k hk
    have hA : k < (arcsOf l).length := by simpa [arcsOf] using hk
    have hp : ((arcsOf l).take k).length = k := by simp; omega
    have hr : List.replicate (l.length - k) ((0 : Int), (0 : Int)) = (0, 0) :: List.replicate (l.length - (k + 1)) (0, 0) := by
      rw [show l.length - k = (l.length - (k + 1)) + 1 by omega, List.replicate_succ]
    unfold fn_cons_Graph_l1
    have hq : k < ((arcsOf l).take k ++ List.replicate (l.length - k) ((0 : Int), (0 : Int))).length := by simp; omega
    simp only [dlt hk, cond_true, getN hk, getN hq, Option.bind_some, w64s hk (by omega : l.length ≤ 9223372036854775807)]
    have hs : ((arcsOf l).take k ++ List.replicate (l.length - k) ((0 : Int), (0 : Int))).set (k : Int).toNat (l[k].1, l[k].2.1) = (arcsOf l).take (k + 1) ++ List.replicate (l.length - (k + 1)) (0, 0) := by
      rw [show (k : Int).toNat = k from rfl, List.set_append_right _ _ (by omega), hp, Nat.sub_self, hr, List.set_cons_zero, take_snoc hA, List.append_assoc]
      simp [arcsOf]
    rw [hs]
  · unfold fn_cons_Graph_l1
    have hT : (arcsOf l).take l.length = arcsOf l := by rw [List.take_of_length_le]; simp [arcsOf]
    simp only [dge (show ¬ l.length < l.length by omega), cond_false, hT, Nat.sub_self, List.replicate_zero, List.append_nil]
theorem mkArcs {n : Nat} (h : n ≤ 67108864) : (mk ((n : Nat) : Int) ((n : Nat) : Int) ((0 : Int), (0 : Int)) : Option (List (Int × Int))) = some (List.replicate n (0, 0)) := by
  unfold mk
  simp; omega
theorem consGraph_eq (xa : Int) (l : List Eg) (hl : l.length ≤ 67108864) : fn_cons_Graph (0, xa, [], [], [], [], []) l = (fn_graph_New xa (arcsOf l)).bind fun r => some r.1 := by
  unfold fn_cons_Graph
  rw [mkArcs hl, Option.bind_some, graphArcs_eq l hl, Option.bind_some]

theorem arcsOf_len (l : List Eg) : (arcsOf l).length = l.length := by simp [arcsOf]
def missT : List UInt8 := [32, 105, 115, 32, 109, 105, 115, 115, 105, 110, 103, 44, 32, 98, 121, 32]
def line33 (l : List Eg) (i : Int) : Option (List UInt8) := if h : 0 ≤ i ∧ i < (l.length : Int) then some ([32, 32] ++ pedge (l[i.toNat]'(by omega))) else none
def text33 (l : List Eg) (f : Fd) : List (List UInt8) := (pair (f.1, f.2.1) ++ missT ++ text ((f.2.2.length : Nat) : Int)) :: f.2.2.filterMap (line33 l)
theorem edge_len {e : Eg} (h : EOk e) : (pedge e).length ≤ 200 := by
  have l1 := pair_len (b := (e.1, e.2.1)) h.a h.b
  have l2 := ptext_len h.p
  unfold pedge
  rw [List.length_append, List.length_append]
  simp; omega
theorem line_some {l : List Eg} {i : Int} (h : 0 ≤ i ∧ i < (l.length : Int)) : ∃ e ∈ l, getI l i = some e ∧ line33 l i = some ([32, 32] ++ pedge e) := by
  obtain ⟨k, rfl⟩ := Int.eq_ofNat_of_zero_le h.1
  have hk : k < l.length := by omega
  refine ⟨l[k], List.getElem_mem hk, getN hk, ?_⟩
  unfold line33
  rw [dif_pos h]
  simp
theorem bText_eq (l : List Eg) (f : Fd) (hl : l.length ≤ 10000) (hp : f.2.2.length ≤ 10000) (he : ∀ e ∈ l, EOk e) (h1 : f.1 ≤ 9223372036854775807) (h2 : f.2.1 ≤ 9223372036854775807) : fn_blame_Text l f = some (text33 l f) := by
  have l1 := pair_len (b := (f.1, f.2.1)) h1 h2
  have l2 := text_len (n := ((f.2.2.length : Nat) : Int)) (by omega)
  unfold fn_blame_Text
  rw [nPair_eq _ h1 h2]
  simp only [Option.bind_some]
  rw [show ([32, 105, 115, 32, 109, 105, 115, 115, 105, 110, 103, 44, 32, 98, 121, 32] : List UInt8) = missT from rfl, app_eq (by simp [missT]; omega)]
  simp only [Option.bind_some]
  rw [nText_eq _ (by omega)]
  simp only [Option.bind_some]
  rw [app_eq (by simp [missT]; omega)]
  simp only [Option.bind_some]
  have := loop_nat (body := fn_blame_Text_l1 l f) (fun i : Nat => ((pair (f.1, f.2.1) ++ missT ++ text ((f.2.2.length : Nat) : Int)) :: (f.2.2.take i).filterMap (line33 l), (i : Int))) f.2.2.length (b := text33 l f) ?_ ?_
  · have e' : loop (fn_blame_Text_l1 l f) ([pair (f.1, f.2.1) ++ missT ++ text ((f.2.2.length : Nat) : Int)], 0) = _ := this
    rw [e']; rfl
  · intro i hi
    have hfl : ((f.2.2.take i).filterMap (line33 l)).length ≤ i := by have := List.length_filterMap_le (line33 l) (f.2.2.take i); rw [List.length_take] at this; omega
    unfold fn_blame_Text_l1
    dsimp only
    rw [dlt hi, cond_true, getN hi]
    simp only [Option.bind_some]
    rw [take_snoc hi, List.filterMap_append, w64s hi (by omega)]
    by_cases hr : 0 ≤ f.2.2[i] ∧ f.2.2[i] < (l.length : Int)
    · obtain ⟨e, hm, g1, g2⟩ := line_some hr
      have hlen := edge_len (he e hm)
      rw [decide_eq_true hr.1, decide_eq_true hr.2, Bool.and_self, cond_true, g1]
      simp only [Option.bind_some]
      rw [provEdge_eq _ (he e hm)]
      simp only [Option.bind_some]
      rw [app_eq (by simp; omega)]
      simp only [Option.bind_some]
      rw [app_eq (by simp; omega)]
      simp only [Option.bind_some, List.filterMap_cons, List.filterMap_nil, g2]
      rfl
    · have hc : (decide (0 ≤ f.2.2[i]) && decide (f.2.2[i] < (l.length : Int))) = false := by
        rw [Bool.and_eq_false_iff, decide_eq_false_iff_not, decide_eq_false_iff_not]; omega
      have g2 : line33 l f.2.2[i] = none := by unfold line33; rw [dif_neg hr]
      rw [hc, cond_false]
      simp only [List.filterMap_cons, List.filterMap_nil, g2, List.append_nil]
  · unfold fn_blame_Text_l1
    dsimp only
    rw [dge (Nat.lt_irrefl _), cond_false, List.take_length]
    rfl
theorem lines_eq (a b : List (List UInt8)) (ha : a.length ≤ 1000000) : fn_ref33_Lines a b = some (decide (a = b)) := by
  unfold fn_ref33_Lines
  by_cases hl : a.length = b.length
  · rw [dlen hl, cond_false, loop_alike (body := fn_ref33_Lines_l1 a b) a b (.inr false) (.inl ()) hl ?_ ?_]
    · by_cases h : a = b <;> simp [h]
    · intro k h; unfold fn_ref33_Lines_l1
      have h2 : k < b.length := by omega
      by_cases q : a[k] = b[k] <;> simp [getN h, getN h2, h, q, w64s h (by omega)]
    · simp [fn_ref33_Lines_l1]
  · rw [dlen' hl, cond_true]
    have : ¬ a = b := fun h => hl (by rw [h])
    simp [this]
end Go.Proofs.YthoclljhjcfemaaGreat
namespace Go.Proofs.YthoclljhjcfemaaGreat
open Go.RowKit Nu
set_option linter.unusedVariables false
set_option linter.unnecessarySimpa false
set_option linter.unusedSimpArgs false
theorem awake33 : fn_law33_awake = some true := by
  have hE : inN 3 [(1, 2)] := by unfold inN; decide
  have hG : fn_cons_Graph (0, 3, [], [], [], [], []) [(1, 2, (0, 0, 7, 0, false))] = some (some (mkG 3 [(1, 2)])) := by
    rw [consGraph_eq _ _ (by decide), show arcsOf [(1, 2, (0, 0, 7, 0, false))] = ai [(1, 2)] from rfl, show (3 : Int) = ((3 : Nat) : Int) from rfl, New_ok hE (by omega) (by decide)]
    rfl
  obtain ⟨L, d, m, β, e, b⟩ := From_ok (v := 1) hE (by omega) (by decide) (by omega)
  obtain ⟨L2, d2, m2, β2, e2, b2⟩ := From_ok (v := 2) hE (by omega) (by decide) (by omega)
  have hpot : ∀ a c, (a, c) ∈ ([(1, 2)] : ArG) → (if c = 2 then 1 else 0 : Nat) ≤ (if a = 2 then 1 else 0) + 1 := by
    intro a c h
    simp at h
    obtain ⟨rfl, rfl⟩ := h
    decide
  have h2 : d 2 = some 1 := (b.b.far 2 1).2 ⟨.step .zero (by decide), fun j h => Wk.pot (fun c => if c = 2 then 1 else 0) rfl hpot h⟩
  have hβ : β 2 = some 0 := by
    obtain ⟨j, h1, h3⟩ := b.low 2 0 ⟨by decide, 0, rfl, b.b.d0, h2⟩
    rw [h1]; congr 1; omega
  have h1 : d2 1 = none := (b2.b.far_not 1).2 (fun hr => by
    have := Rch.closed (E := [(1, 2)]) (p := fun x => x = 2) rfl (fun w u h hw => by
      simp at h; exact h.2) hr
    cases this)
  have r1 : fn_path_Short_kpiiz (some (mkG 3 [(1, 2)])) 1 2 = some ([0], true) := by
    have := Short_ok hE (by omega) b e h2
    have hs : sw [(1, 2)] β 1 2 = [0] := by
      show (match β 2 with | some j => [] ++ [j] | none => []) = _
      rw [hβ]; rfl
    rw [hs] at this
    exact this
  have r2 : fn_path_Short_kpiiz (some (mkG 3 [(1, 2)])) 2 1 = some ([], false) := Short_not (x := ((1 : Nat) : Int)) e2 (by rw [Dist_of (by omega), h1]; rfl)
  have hl : loop (fn_blame_Of_akkz_l1 [(1, 2), (2, 1)] (some (mkG 3 [(1, 2)]))) ([], 0) = some [(1, 2, [0])] := by
    have := loop_nat (body := fn_blame_Of_akkz_l1 [(1, 2), (2, 1)] (some (mkG 3 [(1, 2)]))) (fun i : Nat => ((if i = 0 then [] else [(1, 2, [0])] : List Fd), (i : Int))) 2 (b := [(1, 2, [0])]) ?_ ?_
    · exact this
    · intro i hi
      match i, hi with
      | 0, _ =>
        unfold fn_blame_Of_akkz_l1
        dsimp only
        rw [show getI ([(1, 2), (2, 1)] : List (Int × Int)) ((0 : Nat) : Int) = some (1, 2) from rfl, show decide (((0 : Nat) : Int) < ((List.length ([(1, 2), (2, 1)] : List (Int × Int)) : Nat) : Int)) = true from rfl]
        simp only [Option.bind_some, cond_true]
        rw [r1]
        rfl
      | 1, _ =>
        unfold fn_blame_Of_akkz_l1
        dsimp only
        rw [show getI ([(1, 2), (2, 1)] : List (Int × Int)) ((1 : Nat) : Int) = some (2, 1) from rfl, show decide (((1 : Nat) : Int) < ((List.length ([(1, 2), (2, 1)] : List (Int × Int)) : Nat) : Int)) = true from rfl]
        simp only [Option.bind_some, cond_true]
        rw [r2]
        rfl
    · rfl
  unfold fn_law33_awake fn_blame_Of_akkz
  dsimp only
  rw [hG]
  simp only [Option.bind_some]
  rw [hl]
  simp only [Option.bind_some]
  rw [show decide ((((List.length ([(1, 2, [0])] : List Fd) : Nat) : Int)) = 1) = true from rfl, cond_true, show getI ([(1, 2, [0])] : List Fd) 0 = some (1, 2, [0]) from rfl]
  simp only [Option.bind_some]
  rw [bText_eq _ _ (by decide) (by decide) (by
    intro e he
    simp at he
    subst he
    exact ⟨by decide, by decide, by decide, by decide, by decide⟩) (by decide) (by decide)]
  simp only [Option.bind_some]
  have ht : text33 [(1, 2, (0, 0, 7, 0, false))] (1, 2, [0]) = [([49, 58, 50, 32, 105, 115, 32, 109, 105, 115, 115, 105, 110, 103, 44, 32, 98, 121, 32, 49] : List UInt8), ([32, 32, 49, 58, 50, 32, 97, 116, 32, 48, 46, 48, 32, 111, 117, 116, 32, 48] : List UInt8)] := by
    simp [text33, pair, text, missT, line33, pedge, ptext, right, words, nm, glue, dec_lt, ch]
  rw [ht, lines_eq _ _ (by decide), decide_eq_true rfl]
  rfl
theorem bounds_eq (a : List Fd) (ha : a.length ≤ 1000) : fn_blame_Bounds a = some (a.map fun f => (f.1, f.2.1)) := by
  unfold fn_blame_Bounds
  have := loop_map a (fun f : Fd => (f.1, f.2.1)) [] (by simp; omega) (body := fn_blame_Bounds_l1 a) (fun c i => by
    unfold fn_blame_Bounds_l1
    cases hg : getI a i with
    | none => simp [hg]
    | some x => simp [hg])
  rw [this]; simp
end Go.Proofs.YthoclljhjcfemaaGreat
namespace Go.Proofs.YthoclljhjcfemaaGreat
open Go.RowKit
set_option linter.unusedVariables false
set_option linter.unnecessarySimpa false
set_option linter.unusedSimpArgs false
abbrev St := Int × Bool
def shp (xa xb : List St) : Bool := decide (xa.map (·.2) = xb.map (·.2))
theorem shp_of_loop (xa xb : List St) {body : Int → Option (Int ⊕ (Unit ⊕ Bool))} (hl : xa.length = xb.length) (hb : ∀ (k : Nat) (h : k < xa.length), body (k : Int) = some (if xa[k].2 = (xb[k]'(by omega)).2 then .inl ((k + 1 : Nat) : Int) else .inr (.inr false))) (he : body (xa.length : Int) = some (.inr (.inl ()))) :
    loop body 0 = some (if shp xa xb then .inl () else .inr false) := by
  have := loop_alike (body := body) (xa.map (·.2)) (xb.map (·.2)) (.inr false) (.inl ()) (by simp [hl]) (fun k h => by simpa using hb k (by simpa using h)) (by simpa using he)
  rw [this]; unfold shp
  by_cases h : xa.map (·.2) = xb.map (·.2) <;> simp [h]
theorem shp_len {xa xb : List St} (h : ¬ xa.length = xb.length) : shp xa xb = false := by
  unfold shp; simp only [decide_eq_false_iff_not]
  intro e; exact h (by simpa using congrArg List.length e)
theorem shp_len' {xa xb : List St} (h : shp xa xb = true) : xa.length = xb.length := by
  unfold shp at h; simpa using congrArg List.length (of_decide_eq_true h)
theorem shp_comm (xa xb : List St) : shp xa xb = shp xb xa := by unfold shp; simp only [eq_comm]
theorem Few_eq (xa : List St) (n : Int) : fn_ref15_Few xa n = some (decide ((xa.length : Int) ≤ n)) := rfl
theorem refShape_eq (xa xb : List St) (hn : xa.length ≤ 1073741824) : fn_ref15_Shape xa xb = some (shp xa xb) := by
  unfold fn_ref15_Shape
  by_cases hl : xa.length = xb.length
  · rw [dlen hl, cond_false, shp_of_loop xa xb hl ?_ ?_]
    · cases shp xa xb <;> rfl
    · intro k h; unfold fn_ref15_Shape_l1
      have h2 : k < xb.length := by omega
      by_cases q : xa[k].2 = xb[k].2 <;> simp [getN h, getN h2, h, q, w64s h (by omega), beq_dec]
    · simp [fn_ref15_Shape_l1]
  · rw [dlen' hl, cond_true, shp_len hl]
theorem rowShape_eq (xa xb : List St) (hn : xa.length ≤ 1073741824) : fn_row_Shape xa xb = some (shp xa xb) := by
  unfold fn_row_Shape fn_slices_EqualFunc_api_Slot_api_Slot_api_Slot_api_Slot_kk_row_Shape_1
  by_cases hl : xa.length = xb.length
  · rw [dlen hl, cond_false, shp_of_loop xa xb hl ?_ ?_]
    · cases shp xa xb <;> rfl
    · intro k h; unfold fn_slices_EqualFunc_api_Slot_api_Slot_api_Slot_api_Slot_kk_row_Shape_1_l1 fn_row_Shape_1
      have h2 : k < xb.length := by omega
      by_cases q : xa[k].2 = xb[k].2 <;> simp [getN h, getN h2, h, q, w64s h (by omega), beq_dec]
    · simp [fn_slices_EqualFunc_api_Slot_api_Slot_api_Slot_api_Slot_kk_row_Shape_1_l1]
  · rw [dlen' hl, cond_true, shp_len hl]; rfl
theorem rowRef_eq (xa : List St) (n : Int) (m : Bool) (hn : xa.length ≤ 1000000000) : fn_row_Ref xa n m = some ((n, false) :: xa.map fun x => (x.1, x.2 || m)) := by
  unfold fn_row_Ref
  have := loop_map xa (fun x : St => (x.1, x.2 || m)) [(n, false)] (by simp; omega) (body := fn_row_Ref_l1 xa m) (fun c i => rfl)
  rw [this]; rfl
theorem refRef_eq (xa : List St) (n : Int) (m : Bool) (hn : xa.length ≤ 1000000000) : fn_ref15_Ref xa n m = some ((n, false) :: xa.map fun x => (x.1, x.2 || m)) := by
  unfold fn_ref15_Ref
  have := loop_map xa (fun x : St => (x.1, x.2 || m)) [(n, false)] (by simp; omega) (body := fn_ref15_Ref_l1 xa m) (fun c i => by
    unfold fn_ref15_Ref_l1
    cases hg : getI xa i with
    | none => simp [hg]
    | some x => cases h2 : x.2 <;> simp [hg, h2])
  rw [this]; rfl
theorem find_cases {α : Type} (xa : List α) (t : α → Bool) : (∃ k, xa.findIdx? t = some k ∧ xa.any t = true) ∨ (xa.findIdx? t = none ∧ xa.any t = false) := by
  cases h : xa.findIdx? t with
  | none =>
    refine .inr ⟨rfl, ?_⟩
    rw [List.any_eq_false]; intro x hx; have := List.findIdx?_eq_none_iff.1 h x hx; simp [this]
  | some k =>
    obtain ⟨hk, h1, _⟩ := List.findIdx?_eq_some_iff_getElem.1 h
    exact .inl ⟨k, rfl, List.any_eq_true.2 ⟨_, List.getElem_mem hk, h1⟩⟩
def rin (n : Int) (xa : List St) : Bool := xa.any fun x => decide (x.1 < 0) || decide (n ≤ x.1)
def rck (n : Int) (xa : List St) : Int := if 16 < xa.length then 6 else if rin n xa then 7 else 0
def sbs (xb : List Int) (x : St) : St := (xb.getD x.1.toNat 0, x.2)
theorem rin_false {n : Int} {xa : List St} (h : rin n xa = false) {k : Nat} {x : St} (hx : xa[k]? = some x) : 0 ≤ x.1 ∧ x.1 < n := by
  unfold rin at h
  have := List.any_eq_false.1 h x (List.mem_of_getElem? hx)
  simp at this; omega
theorem getI_in {xb : List Int} {i : Int} (h : 0 ≤ i) (h2 : i < (xb.length : Nat)) : getI xb i = some (xb.getD i.toNat 0) := by
  unfold getI; rw [if_pos h]
  have : i.toNat < xb.length := by omega
  simp [this]
theorem rowWithin_eq (xa : List St) (n : Int) (hn : xa.length ≤ 1073741824) : fn_row_within xa n = some (!rin n xa) := by
  unfold fn_row_within fn_slices_ContainsFunc_api_Slot_api_Slot_k_row_within_1_p0_i fn_slices_IndexFunc_api_Slot_api_Slot_k_row_within_1_p0_i
  rw [loop_search (body := fn_slices_IndexFunc_api_Slot_api_Slot_k_row_within_1_p0_i_l1 xa n) xa (fun x => decide (x.1 < 0) || decide (n ≤ x.1)) (fun k => .inr (k : Int)) (.inl ()) ?_ ?_]
  · rcases find_cases xa (fun x => decide (x.1 < 0) || decide (n ≤ x.1)) with ⟨k, h1, h2⟩ | ⟨h1, h2⟩
    · rw [h1]; unfold rin; simp [h2]
    · rw [h1]; unfold rin; simp [h2]
  · intro k hk
    unfold fn_slices_IndexFunc_api_Slot_api_Slot_k_row_within_1_p0_i_l1 fn_row_within_1_ap0_i
    simp only [dlt hk, cond_true, getN hk, Option.bind_some, w64s hk (by omega : xa.length ≤ 9223372036854775807)]
    cases (decide (xa[k].1 < 0) || decide (n ≤ xa[k].1)) <;> rfl
  · simp [fn_slices_IndexFunc_api_Slot_api_Slot_k_row_within_1_p0_i_l1]
theorem rowCheck_eq (xa : List St) (n : Int) (hn : xa.length ≤ 1073741824) : fn_row_Check xa n = some (rck n xa) := by
  unfold fn_row_Check rck
  rw [rowWithin_eq xa n hn]
  by_cases h : 16 < xa.length
  · rw [decide_eq_true (by omega), if_pos h]; rfl
  · rw [decide_eq_false (by omega), if_neg h, cond_false]
    cases rin n xa <;> rfl
theorem refCheck_eq (xa : List St) (n : Int) : fn_ref15_Check xa n = some (rck n xa) := by
  unfold fn_ref15_Check rck
  by_cases h : 16 < xa.length
  · rw [decide_eq_true (by omega), if_pos h]; rfl
  · rw [decide_eq_false (by omega), if_neg h, cond_false]
    rw [loop_some (body := fn_ref15_Check_l1 xa n) xa (fun x => decide (x.1 < 0) || decide (n ≤ x.1)) (.inr 7) (.inl ()) ?_ ?_]
    · unfold rin; cases (xa.any fun x => decide (x.1 < 0) || decide (n ≤ x.1)) <;> rfl
    · intro k hk
      unfold fn_ref15_Check_l1
      by_cases q : xa[k].1 < 0 <;> by_cases q2 : n ≤ xa[k].1 <;> simp [hk, getN hk, w64s hk (by omega : xa.length ≤ 9223372036854775807), q, q2]
    · simp [fn_ref15_Check_l1]
theorem rowClone_eq (xa : List St) (hn : xa.length ≤ 1073741824) : fn_row_Clone xa = some xa := by
  unfold fn_row_Clone fn_slices_Clone_api_Slot_api_Slot
  rw [nilb_eq]
  · rw [app_eq (by simpa using hn)]; simp
  · rintro rfl; rw [app_eq (by simp)]; rfl
theorem rowSubst_eq (xa : List St) (xb : List Int) (hn : xa.length ≤ 1073741824) : fn_row_Subst xa xb = some (if rin xb.length xa then ([], 7) else (xa.map (sbs xb), 0)) := by
  unfold fn_row_Subst
  rw [rowWithin_eq xa _ hn, Option.bind_some, rowClone_eq xa hn]
  cases h : rin xb.length xa with
  | true => simp
  | false =>
    simp only [Bool.not_false, Bool.not_true, cond_false, Option.bind_some, Bool.false_eq_true, if_false]
    have hl := loop_nat (body := fn_row_Subst_l1 xb xa) (fun k : Nat => ((xa.take k).map (sbs xb) ++ xa.drop k, (k : Int))) xa.length (b := xa.map (sbs xb)) ?_ ?_
    · simp only [List.take_zero, List.map_nil, List.nil_append, List.drop_zero] at hl
      have hl' : loop (fn_row_Subst_l1 xb xa) (xa, 0) = some (xa.map (sbs xb)) := hl
      rw [hl']; rfl
    · intro k hk
      have hg : getI ((xa.take k).map (sbs xb) ++ xa.drop k) (k : Int) = some xa[k] := by
        rw [getN (by simp; omega)]
        rw [List.getElem_append_right (by simp; omega)]
        simp [List.getElem_drop, Nat.min_eq_left (Nat.le_of_lt hk)]
      have hr := rin_false h (k := k) (x := xa[k]) (by simp [hk])
      unfold fn_row_Subst_l1
      dsimp only
      rw [hg]
      simp only [Option.bind_some, getI_in hr.1 hr.2, Int.ofNat_lt.2 hk, decide_true, cond_true, w64s hk (by omega : xa.length ≤ 9223372036854775807), Int.toNat_natCast]
      congr 3
      rw [List.take_succ_eq_append_getElem hk, List.drop_eq_getElem_cons hk, List.set_append_right _ _ (by simp; omega)]
      rw [List.length_map, List.length_take, Nat.min_eq_left (Nat.le_of_lt hk), Nat.sub_self, List.set_cons_zero, List.map_append, List.append_assoc]
      rfl
    · simp [fn_row_Subst_l1]
theorem refSubst_eq (xa : List St) (xb : List Int) (hn : xa.length ≤ 1073741824) : fn_ref15_Subst xa xb = some (if rin xb.length xa then ([], 7) else (xa.map (sbs xb), 0)) := by
  unfold fn_ref15_Subst
  have hl := loop_find (body := fn_ref15_Subst_l1 xa xb)
    (fun k => ∃ x, xa[k]? = some x ∧ (x.1 < 0 ∨ (xb.length : Int) ≤ x.1)) (fun k : Nat => ((xa.take k).map (sbs xb), (k : Int))) xa.length (fun _ => .inr ([], 7)) (.inl (xa.map (sbs xb))) ?_ ?_ ?_
  · simp only [List.take_zero, List.map_nil] at hl
    rcases hl with ⟨k, h1, ⟨x, h2, h2'⟩, _, h3⟩ | ⟨h1, h3⟩
    · have : rin xb.length xa = true := List.any_eq_true.2 ⟨x, List.mem_of_getElem? h2, by simpa using h2'⟩
      rw [this]; erw [h3]; rfl
    · have : rin xb.length xa = false := by
        cases hh : rin xb.length xa with
        | false => rfl
        | true =>
          obtain ⟨x, h4, h5⟩ := List.any_eq_true.1 hh
          obtain ⟨k, h6, rfl⟩ := List.getElem_of_mem h4
          exact absurd ⟨xa[k], by simp [h6], by simpa using h5⟩ (h1 k h6)
      rw [this]; erw [h3]; rfl
  · intro k hk hp
    have hx : ¬ (xa[k].1 < 0 ∨ (xb.length : Int) ≤ xa[k].1) := fun h => hp ⟨_, by simp [hk], h⟩
    have h1 : ((decide (xa[k].1 < 0)) || (decide (((xb.length : Nat) : Int) ≤ xa[k].1))) = false := by simp; omega
    have ha := app_eq (a := (xa.take k).map (sbs xb)) (b := [sbs xb xa[k]]) (by simp; omega)
    have h5 : getI xb xa[k].1 = some (xb.getD xa[k].1.toNat 0) := getI_in (by omega) (by omega)
    unfold fn_ref15_Subst_l1
    dsimp only
    simp only [Option.bind_some, getN hk, h1, cond_false, h5, Int.ofNat_lt.2 hk, decide_true, cond_true, w64s hk (by omega : xa.length ≤ 9223372036854775807)]
    rw [show app ((xa.take k).map (sbs xb)) [(xb.getD xa[k].1.toNat 0, xa[k].2)] = _ from ha, List.take_succ_eq_append_getElem hk, List.map_append]
    rfl
  · rintro k hk ⟨x, h1, h2⟩
    have hx : xa[k] = x := by rw [List.getElem?_eq_getElem hk] at h1; exact Option.some.inj h1
    have h1 : ((decide (xa[k].1 < 0)) || (decide (((xb.length : Nat) : Int) ≤ xa[k].1))) = true := by rw [hx]; simpa using h2
    unfold fn_ref15_Subst_l1
    dsimp only
    simp only [Option.bind_some, getN hk, h1, cond_true, Int.ofNat_lt.2 hk, decide_true]
  · simp [fn_ref15_Subst_l1]
end Go.Proofs.YthoclljhjcfemaaGreat
namespace Go.Proofs.YthoclljhjcfemaaGreat
open Go.RowKit
set_option linter.unusedVariables false
set_option linter.unnecessarySimpa false
set_option linter.unusedSimpArgs false
abbrev Nd := Int × Int × Int × Int × Bool
/-- What slots need, place by place. -/
def rel1 (kind f : Int) (x y : St) : List Nd := (x.1, y.1, kind, f, false) :: if y.2 then [(y.1, x.1, kind, f, true)] else []
def rel (kind f : Int) : List St → List St → List Nd
  | x :: xs, y :: ys => rel1 kind f x y ++ rel kind (f + 1) xs ys
  | _, _ => []
theorem rel_snoc (kind : Int) (x y : St) : ∀ (xs ys : List St) (f : Int), xs.length = ys.length → rel kind f (xs ++ [x]) (ys ++ [y]) = rel kind f xs ys ++ rel1 kind (f + xs.length) x y
  | [], [], f, _ => by simp [rel]
  | [], _ :: _, f, h => by simp at h
  | _ :: _, [], f, h => by simp at h
  | a :: xs, b :: ys, f, h => by
    simp only [List.cons_append, rel, rel_snoc kind x y xs ys (f + 1) (by simpa using h), List.append_assoc, List.length_cons]
    rw [show f + 1 + (xs.length : Int) = f + ((xs.length + 1 : Nat) : Int) by omega]
theorem rel_len (kind : Int) (xs ys : List St) (f : Int) : (rel kind f xs ys).length ≤ 2 * xs.length := by
  induction xs generalizing ys f with
  | nil => simp [rel]
  | cons a xs ih => cases ys with
    | nil => simp [rel]
    | cons b ys =>
      have := ih ys (f + 1)
      cases hb : b.2 <;> simp [rel, rel1, hb] <;> omega
theorem related_eq (xa xb : List St) (kind f : Int) (hl : xa.length = xb.length) (hn : xa.length ≤ 30) (hf : -9223372036854775808 ≤ f) (hf2 : f ≤ 1099511627776) (c : List Nd) (hc : c.length ≤ 10) :
    fn_ref16_slots_rkkii xa xb kind f c = some (c ++ rel kind f xa xb) := by
  unfold fn_ref16_slots_rkkii
  have h := loop_carry (body := fn_ref16_slots_rkkii_l1 xa xb kind f) xa (fun k => c ++ rel kind f (xa.take k) (xb.take k)) (c ++ rel kind f xa xb) ?_ ?_
  · simp only [List.take_zero, rel, List.append_nil] at h
    rw [h]; rfl
  · intro k h
    have h2 : k < xb.length := by omega
    have hlen := rel_len kind (xa.take k) (xb.take k) f
    simp only [List.length_take] at hlen
    have hw : IntKind.wrap .i64 (f + (k : Int)) = f + k := w64 (by omega) (by omega)
    unfold fn_ref16_slots_rkkii_l1
    rw [take_snoc h, take_snoc h2, rel_snoc _ _ _ _ _ _ (by simp; omega)]
    have e : (xa.take k).length = k := by simp; omega
    rw [e]
    cases hb : xb[k].2 with
    | true =>
      simp [getN h, getN h2, h, hb, w64s h (by omega), hw, rel1]
      rw [app_eq (by simp; omega)]
      simp
      rw [app_eq (by simp; omega)]
      simp
    | false =>
      simp [getN h, getN h2, h, hb, w64s h (by omega), hw, rel1]
      rw [app_eq (by simp; omega)]
      simp
  · have e : xb.take xa.length = xb := by rw [hl, List.take_length]
    simp [fn_ref16_slots_rkkii_l1, e]
theorem related_slots (xa xb : List St) (kind f : Int) : fn_relate_related xa xb kind f = fn_ref16_slots_rkkii xa xb kind f [] := rfl
theorem relFlow_eq (xa xb : List St) (kind f : Int) (hn : xa.length ≤ 30) (hf : -9223372036854775808 ≤ f) (hf2 : f ≤ 1099511627776) : fn_relate_Flow xa xb kind f = some (if shp xa xb then (rel kind f xa xb, 0) else ([], 8)) := by
  unfold fn_relate_Flow
  rw [rowShape_eq _ _ (by omega), Option.bind_some]
  cases hs : shp xa xb with
  | false => rfl
  | true => rw [Bool.not_true, cond_false, related_slots, related_eq xa xb kind f (shp_len' hs) hn hf hf2 [] (by simp)]; simp
theorem refFlow_eq (xa xb : List St) (kind f : Int) (hn : xa.length ≤ 30) (hf : -9223372036854775808 ≤ f) (hf2 : f ≤ 1099511627776) : fn_ref16_Flow xa xb kind f = some (if shp xa xb then (rel kind f xa xb, 0) else ([], 8)) := by
  unfold fn_ref16_Flow
  rw [refShape_eq _ _ (by omega), Option.bind_some]
  cases hs : shp xa xb with
  | false => rfl
  | true => rw [Bool.not_true, cond_false, related_eq xa xb kind f (shp_len' hs) hn hf hf2 [] (by simp)]; simp
def lo (n : Int) (m : Bool) (xa xb : List St) : List Nd × Int :=
  if shp ((n, false) :: xa.map fun x => (x.1, x.2 || m)) xb then ((n, (xb.head?.getD (0, false)).1, 2, 0, false) :: rel 1 1 xa (xb.drop 1), 0) else ([], 8)
theorem lo_len {n : Int} {m : Bool} {xa xb : List St} (h : shp ((n, false) :: xa.map fun x => (x.1, x.2 || m)) xb = true) : xb.length = xa.length + 1 := by
  have := shp_len' h; simp at this; omega
theorem relLoan_eq (xa xb : List St) (n : Int) (m : Bool) (hn : xa.length ≤ 30) : fn_relate_Loan xa xb n m = some (lo n m xa xb) := by
  unfold fn_relate_Loan lo
  rw [rowRef_eq _ _ _ (by omega), Option.bind_some, shp_comm]
  by_cases hb : xb.length ≤ 1000
  · rw [rowShape_eq _ _ (by omega), Option.bind_some]
    cases hs : shp xb ((n, false) :: xa.map fun x => (x.1, x.2 || m)) with
    | false => rfl
    | true =>
      have hl := lo_len (by rw [shp_comm]; exact hs)
      cases xb with
      | nil => simp at hl
      | cons y ys =>
        have hl2 : xa.length = ys.length := by simpa using hl.symm
        rw [Bool.not_true, cond_false, show getI (y :: ys) 0 = some y from rfl, Option.bind_some, sub1 (by simp), Option.bind_some, related_slots, related_eq _ _ _ _ (by simpa using hl2) hn (by omega) (by omega) _ (by simp)]
        have := rel_len 1 xa ys 1
        simp only [List.nil_append, Option.bind_some, List.drop_succ_cons, List.drop_zero]
        rw [app_eq (by simp; omega)]
        simp
  · have hs : shp xb ((n, false) :: xa.map fun x => (x.1, x.2 || m)) = false := shp_len (by simp; omega)
    unfold fn_row_Shape fn_slices_EqualFunc_api_Slot_api_Slot_api_Slot_api_Slot_kk_row_Shape_1
    rw [dlen' (by simp; omega), cond_true, hs]; rfl
theorem refLoan_eq (xa xb : List St) (n : Int) (m : Bool) (hn : xa.length ≤ 30) : fn_ref16_Loan xa xb n m = some (lo n m xa xb) := by
  unfold fn_ref16_Loan lo
  rw [refRef_eq _ _ _ (by omega), Option.bind_some, refShape_eq _ _ (by simp; omega), Option.bind_some]
  cases hs : shp ((n, false) :: xa.map fun x => (x.1, x.2 || m)) xb with
  | false => rfl
  | true =>
    have hl := lo_len hs
    cases xb with
    | nil => simp at hl
    | cons y ys =>
      have hl2 : xa.length = ys.length := by simpa using hl.symm
      rw [Bool.not_true, cond_false, show getI (y :: ys) 0 = some y from rfl, Option.bind_some, sub1 (by simp), Option.bind_some, related_eq _ _ _ _ (by simpa using hl2) hn (by omega) (by omega) _ (by simp)]
      simp
def ag (n : Int) (m : Bool) (xa xb : List St) : List Nd × Int :=
  match xa, xb with
  | x :: xs, y :: ys => if x.2 || !shp (x :: xs) (y :: ys) || (m && xs.any (fun z => !z.2)) then ([], 8) else ((x.1, n, 3, 0, false) :: (n, y.1, 2, 0, false) :: rel 1 1 xs ys, 0)
  | _, _ => ([], 8)
theorem may_eq (xa xb : List St) (m : Bool) (hn : xa.length ≤ 30) : fn_relate_mayBorrowAgain xa xb m = some (match xa with | [] => false | x :: xs => !(x.2 || !shp xa xb || (m && xs.any (fun z => !z.2)))) := by
  unfold fn_relate_mayBorrowAgain
  cases xa with
  | nil => rfl
  | cons x xs =>
    have e0 : decide ((((x :: xs).length : Nat) : Int) = 0) = false := by simp; omega
    rw [e0, cond_false, show getI (x :: xs) 0 = some x from rfl, Option.bind_some, Option.bind_some]
    cases hx : x.2 with
    | true => simp [hx]
    | false =>
      rw [cond_false, rowShape_eq _ _ (by omega), Option.bind_some, Option.bind_some]
      cases hs : shp (x :: xs) xb with
      | false => simp
      | true =>
        rw [Bool.not_true, cond_false, sub1 (by simp), Option.bind_some]
        unfold fn_slices_ContainsFunc_api_Slot_api_Slot_k_relate_mayBorrowAgain_1 fn_slices_IndexFunc_api_Slot_api_Slot_k_relate_mayBorrowAgain_1
        rw [loop_search (List.drop 1 (x :: xs)) (fun z : St => !z.2) (fun k => .inr (k : Int)) (.inl ()) ?_ ?_]
        · simp only [List.drop_succ_cons, List.drop_zero]
          cases h : xs.findIdx? (fun z : St => !z.2) with
          | none =>
            have : xs.any (fun z : St => !z.2) = false := by
              rw [List.any_eq_false]; intro z hz; have := List.findIdx?_eq_none_iff.1 h z hz; simpa using this
            simp [this, hx]
          | some k =>
            obtain ⟨hk, h1, _⟩ := List.findIdx?_eq_some_iff_getElem.1 h
            have : xs.any (fun z : St => !z.2) = true := List.any_eq_true.2 ⟨_, List.getElem_mem hk, h1⟩
            simp [this, hx]
        · intro k h
          unfold fn_slices_IndexFunc_api_Slot_api_Slot_k_relate_mayBorrowAgain_1_l1 fn_relate_mayBorrowAgain_1
          simp only [List.drop_succ_cons, List.drop_zero] at h ⊢
          have hn' : xs.length ≤ 30 := by simp at hn; omega
          cases hz : xs[k].2 <;> simp [getN h, h, w64s h (by omega), hz]
        · simp [fn_slices_IndexFunc_api_Slot_api_Slot_k_relate_mayBorrowAgain_1_l1]
theorem relAgain_eq (xa xb : List St) (n : Int) (m : Bool) (hn : xa.length ≤ 30) : fn_relate_Again xa xb n m = some (ag n m xa xb) := by
  unfold fn_relate_Again
  rw [may_eq _ _ _ hn, Option.bind_some]
  cases xa with
  | nil => rfl
  | cons x xs =>
    simp only [ag, Bool.not_not]
    by_cases hc : (x.2 || !shp (x :: xs) xb || (m && xs.any (fun z => !z.2))) = true
    · rw [hc]; cases xb <;> simp_all
    · have hc' : (x.2 || !shp (x :: xs) xb || (m && xs.any (fun z => !z.2))) = false := by simpa using hc
      have hs : shp (x :: xs) xb = true := by
        cases q : shp (x :: xs) xb with
        | true => rfl
        | false => rw [q] at hc'; simp at hc'
      have hl := shp_len' hs
      cases xb with
      | nil => simp at hl
      | cons y ys =>
        simp only [hc', cond_false, if_false, show getI (x :: xs) 0 = some x from rfl, show getI (y :: ys) 0 = some y from rfl, Option.bind_some, sub1 (show 1 ≤ (x :: xs).length by simp), sub1 (show 1 ≤ (y :: ys).length by simp), List.drop_succ_cons, List.drop_zero, Bool.false_eq_true]
        have hl2 : xs.length = ys.length := by simpa using hl
        rw [related_slots, related_eq _ _ _ _ hl2 (by simp at hn; omega) (by omega) (by omega) _ (by simp), Option.bind_some]
        have := rel_len 1 xs ys 1
        simp at hn
        rw [app_eq (by simp; omega)]
        simp
theorem refAgain_eq (xa xb : List St) (n : Int) (m : Bool) (hn : xa.length ≤ 30) : fn_ref16_Again xa xb n m = some (ag n m xa xb) := by
  unfold fn_ref16_Again
  cases xa with
  | nil => rfl
  | cons x xs =>
    have e0 : decide ((((x :: xs).length : Nat) : Int) = 0) = false := by simp; omega
    rw [e0, cond_false, refShape_eq _ _ (by omega), Option.bind_some, Option.bind_some]
    cases hs : shp (x :: xs) xb with
    | false => cases xb <;> simp [ag, hs]
    | true =>
      have hl := shp_len' hs
      cases xb with
      | nil => simp at hl
      | cons y ys =>
        have hl2 : xs.length = ys.length := by simpa using hl
        simp only [Bool.not_true, cond_false, show getI (x :: xs) 0 = some x from rfl, show getI (y :: ys) 0 = some y from rfl, Option.bind_some]
        cases hx : x.2 with
        | true => simp [ag, hx]
        | false =>
          have hn' : xs.length ≤ 29 := by simp at hn; omega
          have hloop : loop (fn_ref16_Again_l1 (x :: xs) m) 1 = some (if (m && xs.any (fun z => !z.2)) then .inr ([], 8) else .inl ()) := by
            have := loop_any (body := fn_ref16_Again_l1 (x :: xs) m) (fun k => (m && (xs[k]?.any (fun z => !z.2))) = true) (fun k => ((k + 1 : Nat) : Int)) xs.length (.inr ([], 8)) (.inl ()) ?_ ?_ ?_
            · rw [show ((1 : Int)) = ((0 + 1 : Nat) : Int) from rfl, this]
              congr 1
              by_cases hq : (m && xs.any (fun z => !z.2)) = true
              · rw [if_pos hq, if_pos]
                simp only [Bool.and_eq_true] at hq
                obtain ⟨z, hz, hz2⟩ := List.any_eq_true.1 hq.2
                obtain ⟨k, hk, rfl⟩ := List.getElem_of_mem hz
                exact ⟨k, hk, by simp [hq.1, hk]; simpa using hz2⟩
              · rw [if_neg hq, if_neg]
                rintro ⟨k, hk, hk2⟩
                apply hq
                simp [hk] at hk2
                rw [hk2.1, Bool.true_and]
                exact List.any_eq_true.2 ⟨_, List.getElem_mem hk, by simpa using hk2.2⟩
            · intro k hk hp
              have h2 : k + 1 < (x :: xs).length := by simp; omega
              simp [hk] at hp
              unfold fn_ref16_Again_l1
              rw [dlt h2, cond_true, w64s h2 (by simp; omega)]
              cases m with
              | false => simp
              | true => simp [getN1 h2, hp rfl]
            · intro k hk hp
              have h2 : k + 1 < (x :: xs).length := by simp; omega
              simp [hk] at hp
              unfold fn_ref16_Again_l1
              rw [dlt h2, cond_true]
              simp [getN1 h2, hp.1, hp.2]
            · simp [fn_ref16_Again_l1]
          rw [hloop]
          by_cases hq : (m && xs.any (fun z => !z.2)) = true
          · simp [ag, hx, hs, hq]
          · have hq' : (m && xs.any (fun z => !z.2)) = false := by simpa using hq
            rw [hq']
            simp only [cond_false, Option.bind_some, if_false, sub1 (show 1 ≤ (x :: xs).length by simp), sub1 (show 1 ≤ (y :: ys).length by simp), List.drop_succ_cons, List.drop_zero, Bool.false_eq_true]
            rw [related_eq _ _ _ _ hl2 (by omega) (by omega) (by omega) _ (by simp)]
            simp [ag, hx, hs, hq']
theorem lo_bound (n : Int) (m : Bool) (xa xb : List St) (h : xa.length ≤ 30) : (lo n m xa xb).1.length ≤ 100 := by
  unfold lo
  have := rel_len 1 xa (xb.drop 1) 1
  simp at this
  split <;> simp; omega
theorem ag_bound (n : Int) (m : Bool) (xa xb : List St) (h : xa.length ≤ 30) : (ag n m xa xb).1.length ≤ 100 := by
  unfold ag
  split
  · rename_i x xs y ys
    have := rel_len 1 xs ys 1
    simp at h
    split <;> simp; omega
  · simp
end Go.Proofs.YthoclljhjcfemaaGreat
namespace Go.Proofs.YthoclljhjcfemaaGreat
open Go.RowKit
set_option linter.unusedVariables false
set_option linter.unnecessarySimpa false
set_option linter.unusedSimpArgs false
abbrev Sg := Int × List (Int × Int) × List (List St) × List St
def bad1 (n : Int) (b : Int × Int) : Bool := (((decide (b.1 < 0)) || (decide (n ≤ b.1))) || (decide (b.2 < 0))) || (decide (n ≤ b.2))
def lc (n : Int) (A : List (List St)) : Unit ⊕ Int := match A.findIdx? (fun t => !decide (rck n t = 0)) with | some k => .inr (rck n (A.getD k [])) | none => .inl ()
def chk (s : Sg) : Int :=
  if s.1 < 0 then 7 else if 16 < s.1 ∨ 16 < s.2.1.length ∨ 16 < s.2.2.1.length then 6 else if s.2.1.any (bad1 s.1) then 7
  else match lc s.1 s.2.2.1 with | .inr e => e | .inl () => rck s.1 s.2.2.2
theorem three16 (a : Int) (b c : Nat) : (((decide (16 < a)) || (decide (16 < ((b : Nat) : Int)))) || (decide (16 < ((c : Nat) : Int)))) = decide (16 < a ∨ 16 < b ∨ 16 < c) := by
  by_cases h1 : 16 < a <;> by_cases h2 : 16 < b <;> by_cases h3 : 16 < c <;> simp [h1, h2, h3] <;> omega
theorem argsl {n : Int} {A : List (List St)} {body : Int → Option (Int ⊕ (Unit ⊕ Int))} (hn : A.length ≤ 1000) (hb : ∀ (k : Nat) (h : k < A.length), body (k : Int) = cond (!decide (rck n A[k] = 0)) (some (.inr (.inr (rck n A[k])))) (some (.inl (IntKind.wrap .i64 ((k : Int) + 1))))) (he : body (A.length : Int) = some (.inr (.inl ()))) : loop body 0 = some (lc n A) := by
  rw [loop_search A (fun t => !decide (rck n t = 0)) (fun k => .inr (rck n (A.getD k []))) (.inl ()) ?_ he]
  · rfl
  · intro k hk
    rw [hb k hk, w64s hk (by omega : A.length ≤ 9223372036854775807)]
    have : A.getD k [] = A[k] := by simp [List.getD, hk]
    rw [this]
    cases (!decide (rck n A[k] = 0)) <;> rfl
theorem sigCheck_eq (s : Sg) (hr : s.2.2.2.length ≤ 1000) (ha : ∀ t ∈ s.2.2.1, t.length ≤ 1000) : fn_sig_Check s = some (chk s) := by
  obtain ⟨n, B, A, R⟩ := s
  unfold fn_sig_Check chk
  dsimp only at *
  by_cases h0 : n < 0
  · rw [decide_eq_true h0, if_pos h0]; rfl
  · rw [decide_eq_false h0, if_neg h0, cond_false, three16]
    by_cases h1 : 16 < n ∨ 16 < B.length ∨ 16 < A.length
    · rw [decide_eq_true h1, if_pos h1]; rfl
    · rw [decide_eq_false h1, if_neg h1, cond_false]
      rw [loop_some (body := fn_sig_Check_l1 (n, B, A, R)) B (bad1 n) (.inr 7) (.inl ()) ?_ ?_]
      · cases hb : B.any (bad1 n) with
        | true => rfl
        | false =>
          simp only [Bool.false_eq_true, if_false, Option.bind_some]
          rw [argsl (body := fn_sig_Check_l2 (n, B, A, R)) (n := n) (A := A) (by omega) ?_ ?_]
          · rw [rowCheck_eq R n (by omega)]
            simp only [Option.bind_some]
            cases lc n A <;> rfl
          · intro k hk
            unfold fn_sig_Check_l2
            have := ha A[k] (List.getElem_mem hk)
            simp only [dlt hk, cond_true, getN hk, Option.bind_some]
            rw [rowCheck_eq _ _ (by omega), Option.bind_some]
          · simp [fn_sig_Check_l2]
      · intro k hk
        unfold fn_sig_Check_l1 fn_sig_Check_1_ip0_ikkk
        simp only [dlt hk, cond_true, getN hk, Option.bind_some, w64s hk (by omega : B.length ≤ 9223372036854775807)]
        generalize B[k] = b
        obtain ⟨b1, b2⟩ := b
        have e (x : Int) : (!((decide (0 ≤ x)) && (decide (x < n)))) = (decide (x < 0) || decide (n ≤ x)) := by
          by_cases p : x < 0 <;> by_cases q : n ≤ x <;> simp [p, q] <;> omega
        simp only [e, bad1]
        by_cases p1 : b1 < 0 <;> by_cases p2 : n ≤ b1 <;> by_cases p3 : b2 < 0 <;> by_cases p4 : n ≤ b2 <;> simp [p1, p2, p3, p4]
      · simp [fn_sig_Check_l1]
theorem refSCheck_eq (s : Sg) : fn_ref17_Check s = some (chk s) := by
  obtain ⟨n, B, A, R⟩ := s
  unfold fn_ref17_Check chk
  dsimp only at *
  by_cases h0 : n < 0
  · rw [decide_eq_true h0, if_pos h0]; rfl
  · rw [decide_eq_false h0, if_neg h0, cond_false, three16]
    by_cases h1 : 16 < n ∨ 16 < B.length ∨ 16 < A.length
    · rw [decide_eq_true h1, if_pos h1]; rfl
    · rw [decide_eq_false h1, if_neg h1, cond_false]
      rw [loop_some (body := fn_ref17_Check_l1 (n, B, A, R)) B (bad1 n) (.inr 7) (.inl ()) ?_ ?_]
      · cases hb : B.any (bad1 n) with
        | true => rfl
        | false =>
          simp only [Bool.false_eq_true, if_false, Option.bind_some]
          rw [argsl (body := fn_ref17_Check_l2 (n, B, A, R)) (n := n) (A := A) (by omega) ?_ ?_]
          · rw [refCheck_eq R n]
            simp only [Option.bind_some]
            cases lc n A <;> rfl
          · intro k hk
            unfold fn_ref17_Check_l2
            simp only [dlt hk, cond_true, getN hk, Option.bind_some]
            rw [refCheck_eq _ _, Option.bind_some]
          · simp [fn_ref17_Check_l2]
      · intro k hk
        unfold fn_ref17_Check_l1
        simp only [dlt hk, cond_true, getN hk, Option.bind_some, w64s hk (by omega : B.length ≤ 9223372036854775807)]
        generalize B[k] = b
        show cond (bad1 n b) _ _ = _
        cases bad1 n b <;> rfl
      · simp [fn_ref17_Check_l1]
theorem rck_zero {n : Int} {t : List St} (h : rck n t = 0) : t.length ≤ 16 ∧ rin n t = false := by
  unfold rck at h
  by_cases q : 16 < t.length
  · rw [if_pos q] at h; cases h
  · rw [if_neg q] at h
    cases hr : rin n t with
    | true => rw [hr] at h; cases h
    | false => exact ⟨by omega, rfl⟩
theorem chk_zero {s : Sg} (h : chk s = 0) : 0 ≤ s.1 ∧ s.1 ≤ 16 ∧ s.2.1.length ≤ 16 ∧ s.2.2.1.length ≤ 16 ∧ (∀ b ∈ s.2.1, bad1 s.1 b = false) ∧ (∀ t ∈ s.2.2.1, t.length ≤ 16 ∧ rin s.1 t = false) ∧ s.2.2.2.length ≤ 16 ∧ rin s.1 s.2.2.2 = false := by
  unfold chk at h
  by_cases h0 : s.1 < 0
  · rw [if_pos h0] at h; cases h
  · rw [if_neg h0] at h
    by_cases h1 : 16 < s.1 ∨ 16 < s.2.1.length ∨ 16 < s.2.2.1.length
    · rw [if_pos h1] at h; cases h
    · rw [if_neg h1] at h
      cases hb : s.2.1.any (bad1 s.1) with
      | true => rw [hb] at h; cases h
      | false =>
        rw [hb] at h
        simp only [Bool.false_eq_true, if_false] at h
        unfold lc at h
        cases hf : s.2.2.1.findIdx? (fun t => !decide (rck s.1 t = 0)) with
        | some k =>
          rw [hf] at h
          obtain ⟨hk, h2, _⟩ := List.findIdx?_eq_some_iff_getElem.1 hf
          have : s.2.2.1.getD k [] = s.2.2.1[k] := by simp [List.getD, hk]
          simp only [this] at h
          simp [h] at h2
        | none =>
          rw [hf] at h
          have hz := List.findIdx?_eq_none_iff.1 hf
          refine ⟨by omega, by omega, by omega, by omega, fun b hb2 => ?_, fun t ht => rck_zero (by simpa using hz t ht), (rck_zero h).1, (rck_zero h).2⟩
          have := List.any_eq_false.1 hb b hb2
          simpa using this
theorem shp_sbs (names : List Int) (xs ys : List St) : shp xs (ys.map (sbs names)) = shp xs ys := by
  unfold shp; rw [List.map_map]; rfl
theorem shp_sbs2 (names : List Int) (xs ys : List St) : shp (xs.map (sbs names)) ys = shp xs ys := by
  rw [shp_comm, shp_sbs, shp_comm]
def mis (A C : List (List St)) (k : Nat) : Bool := !shp (C.getD k []) (A.getD k [])
def fl (names : List Int) (A C : List (List St)) (j : Nat) : List Nd := rel 5 (16 * (j : Int)) (C.getD j []) ((A.getD j []).map (sbs names))
def fls (names : List Int) (A C : List (List St)) : Nat → List Nd
  | 0 => []
  | k + 1 => fls names A C k ++ fl names A C k
theorem fls_len (names : List Int) (A C : List (List St)) (hc : ∀ t ∈ C, t.length ≤ 20) : ∀ k, (fls names A C k).length ≤ 40 * k
  | 0 => by simp [fls]
  | k + 1 => by
    have ih := fls_len names A C hc k
    have h1 := rel_len 5 (C.getD k []) ((A.getD k []).map (sbs names)) (16 * (k : Int))
    have h2 : (C.getD k []).length ≤ 20 := by
      by_cases h : k < C.length
      · have : C.getD k [] = C[k] := by simp [List.getD, h]
        rw [this]; exact hc _ (List.getElem_mem h)
      · have : C.getD k [] = [] := by simp [List.getD, List.getElem?_eq_none (Nat.not_lt.1 h)]
        rw [this]; simp
    simp only [fls, List.length_append, fl]
    omega
def bds (names : List Int) (B : List (Int × Int)) : Nat → List Nd
  | 0 => []
  | k + 1 => bds names B k ++ [(names.getD (B.getD k (0, 0)).1.toNat 0, names.getD (B.getD k (0, 0)).2.toNat 0, 4, (k : Int), false)]
theorem bds_len (names : List Int) (B : List (Int × Int)) : ∀ k, (bds names B k).length = k
  | 0 => rfl
  | k + 1 => by simp [bds, bds_len names B k]
def csp (s : Sg) (names : List Int) (C : List (List St)) (D : List St) : List Nd × Int :=
  if chk s ≠ 0 then ([], chk s)
  else if ¬ (names.length : Int) = s.1 ∨ ¬ C.length = s.2.2.1.length then ([], 2)
  else if (List.range s.2.2.1.length).any (mis s.2.2.1 C) then ([], 8)
  else if shp D s.2.2.2 then (bds names s.2.1 s.2.1.length ++ fls names s.2.2.1 C s.2.2.1.length ++ rel 6 0 (s.2.2.2.map (sbs names)) D, 0) else ([], 8)
theorem bounds_loop {names : List Int} {n : Int} {B : List (Int × Int)} {body : (List Nd × Int) → Option ((List Nd × Int) ⊕ List Nd)} (hB : B.length ≤ 16) (hn : (names.length : Int) = n) (hb : ∀ b ∈ B, bad1 n b = false)
    (hgo : ∀ (l : List Nd) (k : Nat) (h : k < B.length), body (l, (k : Int)) = ((getI names B[k].1).bind fun x => (getI names B[k].2).bind fun y => (app l [(x, y, 4, (k : Int), false)]).bind fun z => some (.inl (z, IntKind.wrap .i64 ((k : Int) + 1))))) (he : ∀ l, body (l, (B.length : Int)) = some (.inr l)) :
    loop body ([], 0) = some (bds names B B.length) := by
  refine loop_nat (body := body) (fun k => (bds names B k, (k : Int))) B.length ?_ (he _)
  intro k hk
  have h1 := hb B[k] (List.getElem_mem hk)
  have e : B.getD k (0, 0) = B[k] := by simp [List.getD, hk]
  unfold bad1 at h1
  simp at h1
  rw [hgo _ k hk, getI_in (by omega) (by omega), Option.bind_some, getI_in (by omega) (by omega), Option.bind_some, app_eq (by simp [bds_len]; omega), Option.bind_some, w64s hk (by omega)]
  simp only [bds, e]
theorem rin_len {names : List Int} {n : Int} {t : List St} (hn : (names.length : Int) = n) (h : rin n t = false) : rin names.length t = false := by rw [hn]; exact h
theorem sigCall_eq (s : Sg) (names : List Int) (C : List (List St)) (D : List St) (hr : s.2.2.2.length ≤ 20) (ha : ∀ t ∈ s.2.2.1, t.length ≤ 20) (hC : ∀ t ∈ C, t.length ≤ 20) (hD : D.length ≤ 20) :
    fn_sig_Call s names C D = some (csp s names C D) := by
  have hck := sigCheck_eq s (by omega) (fun t ht => by have := ha t ht; omega)
  unfold fn_sig_Call fn_sig_callable csp
  rw [show fn_sig_Check (s.1, s.2.1, s.2.2.1, s.2.2.2) = some (chk s) from hck]
  obtain ⟨n, B, A, R⟩ := s
  dsimp only at *
  by_cases h0 : chk (n, B, A, R) = 0
  · obtain ⟨n0, n1, hB, hA, hb, hat, hR, hrin⟩ := chk_zero h0
    dsimp only at n0 n1 hB hA hb hat hR hrin
    simp only [h0, Option.bind_some, decide_true, Bool.not_true, cond_false, ne_eq, not_true_eq_false, if_false]
    by_cases h1 : ¬ (names.length : Int) = n ∨ ¬ C.length = A.length
    · have : ((!decide ((((names.length : Nat) : Int)) = n)) || (!decide ((((C.length : Nat) : Int)) = (((A.length : Nat) : Int))))) = true := by simp; omega
      rw [this, if_pos h1]; rfl
    · have : ((!decide ((((names.length : Nat) : Int)) = n)) || (!decide ((((C.length : Nat) : Int)) = (((A.length : Nat) : Int))))) = false := by simp; omega
      rw [this, if_neg h1, cond_false]
      have hn : (names.length : Int) = n := by omega
      have hl : C.length = A.length := by omega
      rw [loop_some (body := fn_sig_callable_l1 (n, B, A, R) C) (List.range A.length) (mis A C) (.inr 8) (.inl ()) ?_ ?_]
      · cases hm : (List.range A.length).any (mis A C) with
        | true => rfl
        | false =>
          simp only [Bool.false_eq_true, if_false, Option.bind_some]
          rw [rowShape_eq D R (by omega)]
          cases hs : shp D R with
          | false => rfl
          | true =>
            simp only [Option.bind_some, Bool.not_true, cond_false, decide_true, if_true]
            rw [bounds_loop (body := fn_sig_Call_l1 (n, B, A, R) names) hB hn hb ?_ ?_]
            · simp only [Option.bind_some]
              have hfl := loop_nat (body := fn_sig_Call_l2 (n, B, A, R) names C) (fun k => (bds names B B.length ++ fls names A C k, (k : Int))) A.length (b := bds names B B.length ++ fls names A C A.length) ?_ ?_
              · have hfl' : loop (fn_sig_Call_l2 (n, B, A, R) names C) (bds names B B.length, 0) = some (bds names B B.length ++ fls names A C A.length) := by
                  have e0 : (bds names B B.length, (0 : Int)) = (bds names B B.length ++ fls names A C 0, ((0 : Nat) : Int)) := by simp [fls]
                  rw [e0]; exact hfl
                have q1 := fls_len names A C hC A.length
                have q2 := bds_len names B B.length
                have q3 := rel_len 6 (R.map (sbs names)) D 0
                rw [List.length_map] at q3
                rw [hfl', Option.bind_some, rowSubst_eq R names (by omega), rin_len hn hrin]
                simp only [Bool.false_eq_true, if_false, Option.bind_some]
                rw [relFlow_eq _ _ _ _ (by simp; omega) (by omega) (by omega), shp_sbs2, shp_comm, hs]
                simp only [if_true, Option.bind_some]
                rw [app_eq (by simp only [List.length_append]; omega)]
                rfl
              · intro k hk
                have hkC : k < C.length := by omega
                have ht := hat A[k] (List.getElem_mem hk)
                have hc := hC C[k] (List.getElem_mem hkC)
                have e1 : A.getD k [] = A[k] := by simp [List.getD, hk]
                have e2 : C.getD k [] = C[k] := by simp [List.getD, hkC]
                have hsh : shp C[k] A[k] = true := by
                  have := List.any_eq_false.1 hm k (List.mem_range.2 hk)
                  unfold mis at this
                  rw [e1, e2] at this
                  simpa using this
                have q1 := fls_len names A C hC k
                have q2 := bds_len names B B.length
                have q3 := rel_len 5 C[k] (A[k].map (sbs names)) (16 * (k : Int))
                unfold fn_sig_Call_l2
                simp only [dlt hk, cond_true, getN hk, Option.bind_some]
                rw [rowSubst_eq _ names (by omega), rin_len hn ht.2]
                simp only [Bool.false_eq_true, if_false, Option.bind_some, getN hkC]
                rw [w64 (x := 16 * (k : Int)) (by omega) (by omega), relFlow_eq _ _ _ _ (by omega) (by omega) (by omega), shp_sbs, hsh]
                simp only [if_true, Option.bind_some]
                rw [app_eq (by simp only [List.length_append]; omega), Option.bind_some, w64s hk (by omega)]
                simp only [fls, fl, e1, e2, List.append_assoc]
              · simp [fn_sig_Call_l2]
            · intro l k hk
              unfold fn_sig_Call_l1
              simp only [dlt hk, cond_true, getN hk, Option.bind_some]
            · intro l; simp [fn_sig_Call_l1]
      · intro k hk
        simp only [List.length_range] at hk
        have hkC : k < C.length := by omega
        have e1 : A.getD k [] = A[k] := by simp [List.getD, hk]
        have e2 : C.getD k [] = C[k] := by simp [List.getD, hkC]
        have hc := hC C[k] (List.getElem_mem hkC)
        unfold fn_sig_callable_l1
        simp only [dlt hk, cond_true, getN hk, getN hkC, Option.bind_some, List.getElem_range, mis, e1, e2, w64s hk (by omega : A.length ≤ 9223372036854775807)]
        rw [rowShape_eq _ _ (by omega), Option.bind_some]
        cases shp C[k] A[k] <;> rfl
      · simp [fn_sig_callable_l1]
  · simp [h0]
theorem refCall_eq (s : Sg) (names : List Int) (C : List (List St)) (D : List St) (hr : s.2.2.2.length ≤ 20) (ha : ∀ t ∈ s.2.2.1, t.length ≤ 20) (hC : ∀ t ∈ C, t.length ≤ 20) (hD : D.length ≤ 20) :
    fn_ref17_Call s names C D = some (csp s names C D) := by
  unfold fn_ref17_Call csp
  rw [show fn_ref17_Check (s.1, s.2.1, s.2.2.1, s.2.2.2) = some (chk s) from refSCheck_eq s]
  obtain ⟨n, B, A, R⟩ := s
  dsimp only at *
  by_cases h0 : chk (n, B, A, R) = 0
  · obtain ⟨n0, n1, hB, hA, hb, hat, hR, hrin⟩ := chk_zero h0
    dsimp only at n0 n1 hB hA hb hat hR hrin
    simp only [h0, Option.bind_some, decide_true, Bool.not_true, cond_false, ne_eq, not_true_eq_false, if_false]
    by_cases h1 : ¬ (names.length : Int) = n ∨ ¬ C.length = A.length
    · have : ((!decide ((((names.length : Nat) : Int)) = n)) || (!decide ((((C.length : Nat) : Int)) = (((A.length : Nat) : Int))))) = true := by simp; omega
      rw [this, if_pos h1]; rfl
    · have : ((!decide ((((names.length : Nat) : Int)) = n)) || (!decide ((((C.length : Nat) : Int)) = (((A.length : Nat) : Int))))) = false := by simp; omega
      rw [this, if_neg h1, cond_false]
      have hn : (names.length : Int) = n := by omega
      have hl : C.length = A.length := by omega
      rw [bounds_loop (body := fn_ref17_Call_l1 (n, B, A, R) names) hB hn hb ?_ ?_]
      · simp only [Option.bind_some]
        have q2 := bds_len names B B.length
        have hfl := loop_find (body := fn_ref17_Call_l2 (n, B, A, R) names C) (fun k => mis A C k = true) (fun k => (bds names B B.length ++ fls names A C k, (k : Int))) A.length (fun _ => .inr ([], 8)) (.inl (bds names B B.length ++ fls names A C A.length)) ?_ ?_ ?_
        · have e0 : (bds names B B.length, (0 : Int)) = (bds names B B.length ++ fls names A C 0, ((0 : Nat) : Int)) := by simp [fls]
          rw [e0]
          rcases hfl with ⟨k, k1, k2, _, k3⟩ | ⟨k1, k3⟩
          · have : (List.range A.length).any (mis A C) = true := List.any_eq_true.2 ⟨k, List.mem_range.2 k1, k2⟩
            rw [k3, this]; rfl
          · have : (List.range A.length).any (mis A C) = false := by
              rw [List.any_eq_false]; intro k hk; exact k1 k (List.mem_range.1 hk)
            rw [k3, this]
            have q1 := fls_len names A C hC A.length
            have q3 := rel_len 6 (R.map (sbs names)) D 0
            rw [List.length_map] at q3
            simp only [Option.bind_some, Bool.false_eq_true, if_false]
            rw [refSubst_eq R names (by omega), rin_len hn hrin]
            simp only [Bool.false_eq_true, if_false, Option.bind_some]
            rw [refFlow_eq _ _ _ _ (by simp; omega) (by omega) (by omega), shp_sbs2, shp_comm]
            cases hs : shp D R with
            | false => rfl
            | true =>
              simp only [if_true, Option.bind_some, decide_true, Bool.not_true, cond_false]
              rw [app_eq (by simp only [List.length_append]; omega)]
              rfl
        · intro k hk hp
          have hkC : k < C.length := by omega
          have ht := hat A[k] (List.getElem_mem hk)
          have hc := hC C[k] (List.getElem_mem hkC)
          have e1 : A.getD k [] = A[k] := by simp [List.getD, hk]
          have e2 : C.getD k [] = C[k] := by simp [List.getD, hkC]
          have hsh : shp C[k] A[k] = true := by
            unfold mis at hp
            rw [e1, e2] at hp
            simpa using hp
          have q1 := fls_len names A C hC k
          have q3 := rel_len 5 C[k] (A[k].map (sbs names)) (16 * (k : Int))
          unfold fn_ref17_Call_l2
          simp only [dlt hk, cond_true, getN hk, Option.bind_some]
          rw [refSubst_eq _ names (by omega), rin_len hn ht.2]
          simp only [Bool.false_eq_true, if_false, Option.bind_some, getN hkC]
          rw [w64 (x := 16 * (k : Int)) (by omega) (by omega), refFlow_eq _ _ _ _ (by omega) (by omega) (by omega), shp_sbs, hsh]
          simp only [if_true, Option.bind_some, decide_true, Bool.not_true, cond_false]
          rw [app_eq (by simp only [List.length_append]; omega), Option.bind_some, w64s hk (by omega)]
          simp only [fls, fl, e1, e2, List.append_assoc]
        · intro k hk hp
          have hkC : k < C.length := by omega
          have ht := hat A[k] (List.getElem_mem hk)
          have hc := hC C[k] (List.getElem_mem hkC)
          have e1 : A.getD k [] = A[k] := by simp [List.getD, hk]
          have e2 : C.getD k [] = C[k] := by simp [List.getD, hkC]
          have hsh : shp C[k] A[k] = false := by
            unfold mis at hp
            rw [e1, e2] at hp
            simpa using hp
          unfold fn_ref17_Call_l2
          simp only [dlt hk, cond_true, getN hk, Option.bind_some]
          rw [refSubst_eq _ names (by omega), rin_len hn ht.2]
          simp only [Bool.false_eq_true, if_false, Option.bind_some, getN hkC]
          rw [w64 (x := 16 * (k : Int)) (by omega) (by omega), refFlow_eq _ _ _ _ (by omega) (by omega) (by omega), shp_sbs, hsh]
          rfl
        · simp [fn_ref17_Call_l2]
      · intro l k hk
        unfold fn_ref17_Call_l1
        simp only [dlt hk, cond_true, getN hk, Option.bind_some]
      · intro l; simp [fn_ref17_Call_l1]
  · simp [h0]
theorem csp_len (s : Sg) (names : List Int) (C : List (List St)) (D : List St) (hs : s.2.1.length ≤ 20 ∧ s.2.2.1.length ≤ 20 ∧ s.2.2.2.length ≤ 20) (hC : ∀ t ∈ C, t.length ≤ 20) : (csp s names C D).1.length ≤ 1000000 := by
  have q1 := fls_len names s.2.2.1 C hC s.2.2.1.length
  have q2 := bds_len names s.2.1 s.2.1.length
  have q3 := rel_len 6 (s.2.2.2.map (sbs names)) D 0
  rw [List.length_map] at q3
  unfold csp
  split
  · simp
  · split
    · simp
    · split
      · simp
      · split
        · simp only [List.length_append]; omega
        · simp
end Go.Proofs.YthoclljhjcfemaaGreat
namespace Go.Proofs.YthoclljhjcfemaaGreat
open Go.RowKit
set_option linter.unusedVariables false
set_option linter.unnecessarySimpa false
set_option linter.unusedSimpArgs false
abbrev Stm := Int × Int × Int × Int × Bool
def sDst (k : Int) : Bool := (((decide (k = 1)) || (decide (k = 2))) || (decide (k = 3))) || (decide (k = 5))
def sSrc (k : Int) : Bool := (decide (1 ≤ k)) && (decide (k ≤ 4))
def sReg (k : Int) : Bool := (decide (k = 2)) || (decide (k = 3))
def fOk (x : Stm) : Bool := decide (0 ≤ x.1) && decide (x.1 ≤ 5) && (sDst x.1 || decide (x.2.1 = 0)) && (sSrc x.1 || decide (x.2.2.1 = 0)) && (sReg x.1 || (decide (x.2.2.2.1 = 0) && !x.2.2.2.2))
theorem six {k : Int} (h : decide (0 ≤ k) && decide (k ≤ 5)) : k = 0 ∨ k = 1 ∨ k = 2 ∨ k = 3 ∨ k = 4 ∨ k = 5 := by simp at h; omega
theorem fieldsOf_eq (k : Int) : fn_stmt_fieldsOf k = some (if decide (0 ≤ k) && decide (k ≤ 5) then (sDst k, sSrc k, sReg k, true) else (false, false, false, false)) := by
  by_cases h : (decide (0 ≤ k) && decide (k ≤ 5)) = true
  · rcases six h with rfl | rfl | rfl | rfl | rfl | rfl <;> rfl
  · rw [if_neg h]
    have h' : k < 0 ∨ 5 < k := by simp at h; omega
    have e (j : Int) (h0 : 0 ≤ j) (h5 : j ≤ 5) : decide (k = j) = false := by simp; omega
    unfold fn_stmt_fieldsOf
    simp only [e 0 (by omega) (by omega), e 1 (by omega) (by omega), e 2 (by omega) (by omega), e 3 (by omega) (by omega), e 4 (by omega) (by omega), e 5 (by omega) (by omega), cond_false, Option.bind_some]
theorem refForm_eq (x : Stm) : fn_ref18_Form x = some (fOk x) := by
  obtain ⟨k, d, s, r, m⟩ := x
  have h1 : fn_ref18_Dst k = some (sDst k) := rfl
  have h2 : fn_ref18_Src k = some (sSrc k) := rfl
  have h3 : fn_ref18_Region k = some (sReg k) := rfl
  unfold fn_ref18_Form fOk
  simp only [h1, h2, h3, Option.bind_some]
  cases (decide (0 ≤ k) && decide (k ≤ 5)) <;> simp
  cases (sDst k || decide (d = 0)) <;> simp
  cases (sSrc k || decide (s = 0)) <;> simp
theorem form_eq (x : Stm) : fn_stmt_form x = some (if fOk x then (sDst x.1, sSrc x.1, sReg x.1, 0) else (false, false, false, 3)) := by
  obtain ⟨k, d, s, r, m⟩ := x
  unfold fn_stmt_form
  rw [fieldsOf_eq]
  by_cases h : (decide (0 ≤ k) && decide (k ≤ 5)) = true
  · simp only [h, if_true, Option.bind_some, Bool.not_true, cond_false]
    have ho : fn_stmt_own (k, d, s, r, m) (sDst k, sSrc k, sReg k) = some (k, if sDst k then d else 0, if sSrc k then s else 0, if sReg k then r else 0, if sReg k then m else false) := by
      unfold fn_stmt_own
      cases sDst k <;> cases sSrc k <;> cases sReg k <;> rfl
    rw [ho, Option.bind_some]
    unfold fOk
    simp only [h, Bool.true_and]
    cases sDst k <;> cases sSrc k <;> cases sReg k <;> simp
    all_goals (by_cases q1 : d = 0 <;> by_cases q2 : s = 0 <;> by_cases q3 : r = 0 <;> cases m <;> simp [q1, q2, q3])
  · have h' : (decide (0 ≤ k) && decide (k ≤ 5)) = false := by simpa using h
    unfold fOk
    simp [h']
def loc (xb : List (List St)) (d : Int) : Bool := decide (0 ≤ d) && decide (d < ((xb.length : Nat) : Int))
theorem loc_ref (xb : List (List St)) (d : Int) : (decide (d < 0) || decide (((xb.length : Nat) : Int) ≤ d)) = !loc xb d := by
  unfold loc
  by_cases h1 : d < 0 <;> by_cases h2 : ((xb.length : Nat) : Int) ≤ d <;> simp [h1, h2] <;> omega
theorem getLoc {xb : List (List St)} {d : Int} (h : loc xb d = true) (hb : ∀ t ∈ xb, t.length ≤ 20) : ∃ t : List St, getI xb d = some t ∧ t.length ≤ 20 := by
  unfold loc at h
  simp at h
  exact ⟨_, getZ h.1 h.2, hb _ (List.getElem_mem _)⟩
/-- A need between regions that there are. -/
def Gd (R : Int) (n : Nd) : Prop := (0 ≤ n.1 ∧ n.1 < R) ∧ (0 ≤ n.2.1 ∧ n.2.1 < R) ∧ (1 ≤ n.2.2.1 ∧ n.2.2.1 ≤ 7) ∧ (0 ≤ n.2.2.2.1 ∧ n.2.2.2.1 ≤ 1000000)
theorem rin_mem {R : Int} {t : List St} (h : rin R t = false) {x : St} (hx : x ∈ t) : 0 ≤ x.1 ∧ x.1 < R := by
  have := List.any_eq_false.1 h x hx
  simp at this; omega
theorem rin_of {R : Int} {t : List St} (h : ∀ x ∈ t, 0 ≤ x.1 ∧ x.1 < R) : rin R t = false := by
  unfold rin
  rw [List.any_eq_false]
  intro x hx
  have := h x hx
  simp; omega
theorem rel_good {R kind : Int} (hk : 1 ≤ kind ∧ kind ≤ 7) : ∀ (xs ys : List St) (f : Int), 0 ≤ f → f + (xs.length : Int) ≤ 1000000 → rin R xs = false → rin R ys = false → ∀ n ∈ rel kind f xs ys, Gd R n
  | x :: xs, y :: ys, f, h0, h1, hx, hy, n, hn => by
    have a1 := rin_mem hx (x := x) (by simp)
    have a2 := rin_mem hy (x := y) (by simp)
    simp only [List.length_cons] at h1
    simp only [rel, List.mem_append] at hn
    rcases hn with hn | hn
    · unfold rel1 at hn
      rcases List.mem_cons.1 hn with rfl | hn
      · exact ⟨a1, a2, hk, h0, by show f ≤ _; omega⟩
      · split at hn
        · rcases List.mem_cons.1 hn with rfl | hn
          · exact ⟨a2, a1, hk, h0, by show f ≤ _; omega⟩
          · simp at hn
        · simp at hn
    · exact rel_good hk xs ys (f + 1) (by omega) (by omega) (rin_of fun z hz => rin_mem hx (by simp [hz])) (rin_of fun z hz => rin_mem hy (by simp [hz])) n hn
  | [], _, _, _, _, _, _, n, hn => by simp [rel] at hn
  | _ :: _, [], _, _, _, _, _, n, hn => by simp [rel] at hn
theorem lo_good {R r : Int} {m : Bool} {xa xb : List St} (hr : 0 ≤ r ∧ r < R) (hl : xa.length ≤ 30) (hx : rin R xa = false) (hy : rin R xb = false) : ∀ n ∈ (lo r m xa xb).1, Gd R n := by
  intro n hn
  unfold lo at hn
  split at hn
  · rename_i hs
    have := lo_len hs
    cases xb with
    | nil => simp at this
    | cons y ys =>
      rcases List.mem_cons.1 hn with rfl | hn
      · exact ⟨hr, rin_mem hy (x := y) (by simp), by simp, by simp⟩
      · exact rel_good (by decide) xa _ 1 (by omega) (by omega) hx (rin_of fun z hz => rin_mem hy (List.mem_of_mem_drop hz)) n hn
  · simp at hn
theorem ag_good {R r : Int} {m : Bool} {xa xb : List St} (hr : 0 ≤ r ∧ r < R) (hl : xa.length ≤ 30) (hx : rin R xa = false) (hy : rin R xb = false) : ∀ n ∈ (ag r m xa xb).1, Gd R n := by
  intro n hn
  unfold ag at hn
  split at hn
  · split at hn
    · simp at hn
    · rename_i x xs y ys _
      simp only [List.length_cons] at hl
      rcases List.mem_cons.1 hn with rfl | hn
      · exact ⟨rin_mem hx (by simp), hr, by simp, by simp⟩
      · rcases List.mem_cons.1 hn with rfl | hn
        · exact ⟨hr, rin_mem hy (by simp), by simp, by simp⟩
        · exact rel_good (by decide) xs ys 1 (by omega) (by omega) (rin_of fun z hz => rin_mem hx (by simp [hz])) (rin_of fun z hz => rin_mem hy (by simp [hz])) n hn
  · simp at hn
theorem getI_mem {α : Type} {l : List α} {i : Int} {x : α} (h : getI l i = some x) : x ∈ l := List.mem_of_getElem? (getI_some h).2.1
theorem stmtNeeds_eq (x : Stm) (xb : List (List St)) (xc : Int) (hb : ∀ t ∈ xb, t.length ≤ 20) : ∃ l e, fn_stmt_Needs x xb xc = some (l, e) ∧ fn_ref18_Needs x xb xc = some (l, e) ∧ l.length ≤ 1000 ∧ ((∀ t ∈ xb, rin xc t = false) → ∀ n ∈ l, Gd xc n) := by
  obtain ⟨k, d, s, r, m⟩ := x
  unfold fn_stmt_Needs fn_ref18_Needs
  have g1 : fn_ref18_Dst k = some (sDst k) := rfl
  have g2 : fn_ref18_Src k = some (sSrc k) := rfl
  have g3 : fn_ref18_Region k = some (sReg k) := rfl
  have g4 (d : Int) : fn_stmt_Needs_1_ip0_k d xb = some (loc xb d) := rfl
  simp only [form_eq, refForm_eq, Option.bind_some, g1, g2, g3, g4, loc_ref]
  cases hf : fOk (k, d, s, r, m) with
  | false => exact ⟨[], 3, rfl, rfl, by simp, by simp⟩
  | true =>
    have hk : k = 0 ∨ k = 1 ∨ k = 2 ∨ k = 3 ∨ k = 4 ∨ k = 5 := by
      unfold fOk at hf
      simp only [Bool.and_eq_true] at hf
      exact six (by simpa using hf.1.1.1)
    have bad : ∃ l e, (some (([] : List Nd), (7 : Int)) : Option (List Nd × Int)) = some (l, e) ∧ (some (([] : List Nd), (7 : Int)) : Option (List Nd × Int)) = some (l, e) ∧ l.length ≤ 1000 ∧ ((∀ t ∈ xb, rin xc t = false) → ∀ n ∈ l, Gd xc n) := ⟨[], 7, rfl, rfl, by simp, by simp⟩
    have good : ∃ l e, (some (([] : List Nd), (0 : Int)) : Option (List Nd × Int)) = some (l, e) ∧ (some (([] : List Nd), (0 : Int)) : Option (List Nd × Int)) = some (l, e) ∧ l.length ≤ 1000 ∧ ((∀ t ∈ xb, rin xc t = false) → ∀ n ∈ l, Gd xc n) := ⟨[], 0, rfl, rfl, by simp, by simp⟩
    rcases hk with rfl | rfl | rfl | rfl | rfl | rfl
    · simpa [sDst, sSrc, sReg] using good
    · have e1 : sDst 1 = true := rfl
      have e2 : sSrc 1 = true := rfl
      have e3 : sReg 1 = false := rfl
      cases h1 : loc xb d with
      | false => simpa [e1, e2, e3, h1] using bad
      | true =>
        cases h2 : loc xb s with
        | false => simpa [e1, e2, e3, h1, h2] using bad
        | true =>
          obtain ⟨t1, a1, b1⟩ := getLoc h1 hb
          obtain ⟨t2, a2, b2⟩ := getLoc h2 hb
          simp [e1, e2, e3, h1, h2, a1, a2]
          rw [relFlow_eq _ _ _ _ (by omega) (by omega) (by omega), refFlow_eq _ _ _ _ (by omega) (by omega) (by omega)]
          have hr := rel_len 1 t2 t1 0
          by_cases q : shp t2 t1 = true
          · exact ⟨rel 1 0 t2 t1, 0, by simp [q], by simp [q], by omega, fun hg => by simpa using rel_good (kind := 1) (by decide) t2 t1 0 (by omega) (by omega) (hg _ (getI_mem a2)) (hg _ (getI_mem a1))⟩
          · exact ⟨[], 8, by simp [q], by simp [q], by simp, by simp⟩
    all_goals try
      (have e1 : sDst 4 = false := rfl
       have e2 : sSrc 4 = true := rfl
       have e3 : sReg 4 = false := rfl
       cases h2 : loc xb s with
       | false => simpa [e1, e2, e3, h2] using bad
       | true => simpa [e1, e2, e3, h2] using good)
    all_goals try
      (have e1 : sDst 5 = true := rfl
       have e2 : sSrc 5 = false := rfl
       have e3 : sReg 5 = false := rfl
       cases h2 : loc xb d with
       | false => simpa [e1, e2, e3, h2] using bad
       | true => simpa [e1, e2, e3, h2] using good)
    · have e1 : sDst 2 = true := rfl
      have e2 : sSrc 2 = true := rfl
      have e3 : sReg 2 = true := rfl
      cases h1 : loc xb d with
      | false => simpa [e1, e2, e3, h1] using bad
      | true =>
        cases h2 : loc xb s with
        | false => simpa [e1, e2, e3, h1, h2] using bad
        | true =>
          cases h3 : (decide (r < 0) || decide (xc ≤ r)) with
          | true => simpa [e1, e2, e3, h1, h2, h3] using bad
          | false =>
            obtain ⟨t1, a1, b1⟩ := getLoc h1 hb
            obtain ⟨t2, a2, b2⟩ := getLoc h2 hb
            have hq := lo_bound r m t2 t1 (by omega)
            refine ⟨(lo r m t2 t1).1, (lo r m t2 t1).2, ?_, ?_, by omega, fun hg => lo_good (by simp at h3; omega) (by omega) (hg _ (getI_mem a2)) (hg _ (getI_mem a1))⟩
            · simp [e1, e2, e3, h1, h2, h3, a1, a2, relLoan_eq t2 t1 r m (by omega)]
            · simp [e1, e2, e3, h1, h2, h3, a1, a2, refLoan_eq t2 t1 r m (by omega)]
    · have e1 : sDst 3 = true := rfl
      have e2 : sSrc 3 = true := rfl
      have e3 : sReg 3 = true := rfl
      cases h1 : loc xb d with
      | false => simpa [e1, e2, e3, h1] using bad
      | true =>
        cases h2 : loc xb s with
        | false => simpa [e1, e2, e3, h1, h2] using bad
        | true =>
          cases h3 : (decide (r < 0) || decide (xc ≤ r)) with
          | true => simpa [e1, e2, e3, h1, h2, h3] using bad
          | false =>
            obtain ⟨t1, a1, b1⟩ := getLoc h1 hb
            obtain ⟨t2, a2, b2⟩ := getLoc h2 hb
            have hq := ag_bound r m t2 t1 (by omega)
            refine ⟨(ag r m t2 t1).1, (ag r m t2 t1).2, ?_, ?_, by omega, fun hg => ag_good (by simp at h3; omega) (by omega) (hg _ (getI_mem a2)) (hg _ (getI_mem a1))⟩
            · simp [e1, e2, e3, h1, h2, h3, a1, a2, relAgain_eq t2 t1 r m (by omega)]
            · simp [e1, e2, e3, h1, h2, h3, a1, a2, refAgain_eq t2 t1 r m (by omega)]
end Go.Proofs.YthoclljhjcfemaaGreat
namespace Go.Proofs.YthoclljhjcfemaaGreat
open Go.RowKit
set_option linter.unusedVariables false
set_option linter.unnecessarySimpa false
set_option linter.unusedSimpArgs false
abbrev Tm := Int × Int × Int × List Int × List Int × List Int
def tCalls (x : Tm) : Bool := ((!decide (x.2.1 = 0)) || (!decide (x.2.2.1 = 0))) || (decide (0 < x.2.2.2.2.2.length))
def tRight (x : Tm) : Bool :=
  if x.1 = 1 then decide (x.2.2.2.1.length = 1) && decide (x.2.2.2.2.1.length = 0) && !tCalls x
  else if x.1 = 2 then decide (0 < x.2.2.2.1.length) && !tCalls x
  else if x.1 = 3 then decide (x.2.2.2.1.length = 0) && decide (x.2.2.2.2.1.length = 0) && !tCalls x
  else if x.1 = 4 then decide (x.2.2.2.1.length = 1) else false
def tForm (x : Tm) : Int := if tRight x = true then if 16 < x.2.2.2.1.length ∨ 16 < x.2.2.2.2.1.length ∨ 16 < x.2.2.2.2.2.length then 6 else 0 else 3
theorem bnd (a b : Bool) : (cond a (some b) (some false) : Option Bool) = some (a && b) := by cases a <;> rfl
theorem dn1 (n : Nat) : decide ((n : Int) = 1) = decide (n = 1) := by by_cases h : n = 1 <;> simp [h] <;> omega
theorem dn0 (n : Nat) : decide ((n : Int) = 0) = decide (n = 0) := by by_cases h : n = 0 <;> simp [h] <;> omega
theorem dp0 (n : Nat) : decide (0 < (n : Int)) = decide (0 < n) := by by_cases h : 0 < n <;> simp [h] <;> omega
theorem d16 (n : Nat) : decide (16 < (n : Int)) = decide (16 < n) := by by_cases h : 16 < n <;> simp [h] <;> omega
theorem tForm_eq (x : Tm) : fn_term_form x = some (tForm x) := by
  obtain ⟨k, g, d, to, args, ps⟩ := x
  have hc : fn_term_calls (k, g, d, to, args, ps) = some (tCalls (k, g, d, to, args, ps)) := by unfold fn_term_calls tCalls; simp only [dp0]
  unfold fn_term_form tForm
  have hr : ∀ b : Bool, (cond (!b) (some 3) (cond (((decide (16 < ((to.length : Nat) : Int))) || (decide (16 < ((args.length : Nat) : Int)))) || (decide (16 < ((ps.length : Nat) : Int)))) (some 6) (some 0)) : Option Int) = some (if b = true then if 16 < to.length ∨ 16 < args.length ∨ 16 < ps.length then 6 else 0 else 3) := by
    intro b
    cases b with
    | false => rfl
    | true =>
      simp only [d16, Bool.not_true, cond_false, if_true]
      by_cases h1 : 16 < to.length <;> by_cases h2 : 16 < args.length <;> by_cases h3 : 16 < ps.length <;> simp [h1, h2, h3]
  dsimp only at *
  have hm : ∀ (m : Option Bool) (b : Bool), m = some b → (m.bind fun t194 => cond (!t194) (some 3) (cond (((decide (16 < ((to.length : Nat) : Int))) || (decide (16 < ((args.length : Nat) : Int)))) || (decide (16 < ((ps.length : Nat) : Int)))) (some 6) (some 0)) : Option Int) = some (if b = true then if 16 < to.length ∨ 16 < args.length ∨ 16 < ps.length then 6 else 0 else 3) := by
    rintro _ b rfl; exact hr b
  refine hm _ _ ?_
  simp only [hc, Option.bind_some, dn1, dn0, dp0]
  unfold tRight
  dsimp only
  by_cases k1 : k = 1
  · simp [k1, bnd, Bool.and_assoc]
  · by_cases k2 : k = 2
    · simp [k2, bnd, Bool.and_assoc]
    · by_cases k3 : k = 3
      · simp [k3, bnd, Bool.and_assoc]
      · by_cases k4 : k = 4
        · simp [k4]
        · simp [k1, k2, k3, k4]
theorem within_eq (xa : List Int) (n : Int) (hn : xa.length ≤ 1073741824) : fn_ref19_within xa n = some (!xa.any (fun x => decide (x < 0) || decide (n ≤ x))) := by
  unfold fn_ref19_within
  rw [loop_some (body := fn_ref19_within_l1 xa n) xa (fun x => decide (x < 0) || decide (n ≤ x)) (.inr false) (.inl ()) ?_ ?_]
  · cases xa.any (fun x => decide (x < 0) || decide (n ≤ x)) <;> rfl
  · intro k hk
    unfold fn_ref19_within_l1
    by_cases q : xa[k] < 0 <;> by_cases q2 : n ≤ xa[k] <;> simp [hk, getN hk, w64s hk (by omega : xa.length ≤ 9223372036854775807), q, q2]
  · simp [fn_ref19_within_l1]
theorem refTForm_eq (x : Tm) : fn_ref19_Form x = some (tForm x) := by
  obtain ⟨k, g, d, to, args, ps⟩ := x
  unfold fn_ref19_Form tForm tRight tCalls
  dsimp only
  simp only [dn1, dn0, d16, dp0]
  have hps : decide (0 < ps.length) = !decide (ps.length = 0) := by by_cases h : ps.length = 0 <;> simp [h] <;> omega
  have hto : decide (0 < to.length) = !decide (to.length = 0) := by by_cases h : to.length = 0 <;> simp [h] <;> omega
  rw [hps, hto]
  have last : (cond (((decide (16 < to.length)) || (decide (16 < args.length))) || (decide (16 < ps.length))) (some 6) (some 0) : Option Int) = some (if 16 < to.length ∨ 16 < args.length ∨ 16 < ps.length then 6 else 0) := by
    by_cases h1 : 16 < to.length <;> by_cases h2 : 16 < args.length <;> by_cases h3 : 16 < ps.length <;> simp [h1, h2, h3]
  rw [last]
  generalize (if 16 < to.length ∨ 16 < args.length ∨ 16 < ps.length then (6 : Int) else 0) = z
  generalize decide (to.length = 1) = t1
  generalize decide (to.length = 0) = t0
  generalize decide (args.length = 0) = a0
  generalize decide (ps.length = 0) = p0
  generalize decide (g = 0) = g0
  generalize decide (d = 0) = d0
  by_cases k1 : k = 1
  · subst k1; cases t1 <;> cases t0 <;> cases a0 <;> cases p0 <;> cases g0 <;> cases d0 <;> simp
  · by_cases k2 : k = 2
    · subst k2; cases t1 <;> cases t0 <;> cases a0 <;> cases p0 <;> cases g0 <;> cases d0 <;> simp
    · by_cases k3 : k = 3
      · subst k3; cases t1 <;> cases t0 <;> cases a0 <;> cases p0 <;> cases g0 <;> cases d0 <;> simp
      · by_cases k4 : k = 4
        · subst k4; cases t1 <;> cases t0 <;> cases a0 <;> cases p0 <;> cases g0 <;> cases d0 <;> simp
        · have : (decide (k < 1) || decide (4 < k)) = true := by simp; omega
          simp [this, k1, k2, k3, k4]
theorem fewl {xa : List (List St)} {body : Int → Option (Int ⊕ (Unit ⊕ Bool))} (hn : xa.length ≤ 1000) (hb : ∀ i, body i = cond (decide (i < (((xa.length : Nat) : Int)))) ((getI xa i).bind fun x => (fn_ref15_Few x 20).bind fun t => cond (!t) (some (.inr ((.inr (false))))) (some (.inl (IntKind.wrap .i64 (i + 1))))) (some (.inr ((.inl ()))))) :
    loop body 0 = some (if xa.any (fun t => !decide (t.length ≤ 20)) then (Sum.inr false : Unit ⊕ Bool) else .inl ()) := by
  refine loop_some (β := Unit ⊕ Bool) xa (fun t => !decide (t.length ≤ 20)) (.inr false) (.inl ()) ?_ ?_
  · intro k hk
    rw [hb]
    simp only [dlt hk, cond_true, getN hk, Option.bind_some, w64s hk (by omega : xa.length ≤ 9223372036854775807), Few_eq]
    by_cases q : xa[k].length ≤ 20
    · have : decide (((xa[k].length : Nat) : Int) ≤ 20) = true := by simp; omega
      simp [this, q]
    · have : decide (((xa[k].length : Nat) : Int) ≤ 20) = false := by simp; omega
      simp [this, q]
  · rw [hb]; simp
theorem few_mem {xa : List (List St)} (h : xa.any (fun t => !decide (t.length ≤ 20)) = false) : ∀ t ∈ xa, t.length ≤ 20 := by
  intro t ht
  have := List.any_eq_false.1 h t ht
  simpa using this
theorem few17 (s : Sg) : fn_ref17_Few s = some false ∨ (fn_ref17_Few s = some true ∧ s.2.1.length ≤ 20 ∧ s.2.2.1.length ≤ 20 ∧ s.2.2.2.length ≤ 20 ∧ ∀ t ∈ s.2.2.1, t.length ≤ 20) := by
  unfold fn_ref17_Few
  by_cases h : 20 < s.2.1.length ∨ 20 < s.2.2.1.length
  · have : ((decide (20 < (((s.2.1.length : Nat) : Int)))) || (decide (20 < (((s.2.2.1.length : Nat) : Int))))) = true := by simp; omega
    rw [this]; exact .inl rfl
  · have : ((decide (20 < (((s.2.1.length : Nat) : Int)))) || (decide (20 < (((s.2.2.1.length : Nat) : Int))))) = false := by simp; omega
    rw [this, cond_false, Few_eq]
    by_cases q : s.2.2.2.length ≤ 20
    · have e : decide (((s.2.2.2.length : Nat) : Int) ≤ 20) = true := by simp; omega
      simp only [Option.bind_some, e, Bool.not_true, cond_false]
      rw [fewl (body := fn_ref17_Few_l1 s) (xa := s.2.2.1) (by omega) (fun i => rfl)]
      cases hf : s.2.2.1.any (fun t => !decide (t.length ≤ 20)) with
      | true => exact .inl rfl
      | false => exact .inr ⟨rfl, by omega, by omega, q, few_mem hf⟩
    · have e : decide (((s.2.2.2.length : Nat) : Int) ≤ 20) = false := by simp; omega
      simp only [Option.bind_some, e]; exact .inl rfl
def bad (n : Int) (xa : List Int) : Bool := xa.any (fun x => decide (x < 0) || decide (n ≤ x))
theorem contains_eq (xa : List Int) (n : Int) (hn : xa.length ≤ 1000) : fn_slices_ContainsFunc_int_int_k_term_beyond_1_p0_i xa n = some (bad n xa) := by
  unfold fn_slices_ContainsFunc_int_int_k_term_beyond_1_p0_i fn_slices_IndexFunc_int_int_k_term_beyond_1_p0_i
  rw [loop_search (body := fn_slices_IndexFunc_int_int_k_term_beyond_1_p0_i_l1 xa n) xa (fun x => decide (x < 0) || decide (n ≤ x)) (fun k => .inr (k : Int)) (.inl ()) ?_ ?_]
  · rcases find_cases xa (fun x => decide (x < 0) || decide (n ≤ x)) with ⟨k, h1, h2⟩ | ⟨h1, h2⟩
    · rw [h1]; unfold bad; simp [h2]
    · rw [h1]; unfold bad; simp [h2]
  · intro k hk
    unfold fn_slices_IndexFunc_int_int_k_term_beyond_1_p0_i_l1 fn_term_beyond_1_ip0_i
    simp only [dlt hk, cond_true, getN hk, Option.bind_some, w64s hk (by omega : xa.length ≤ 9223372036854775807)]
    cases (decide (xa[k] < 0) || decide (n ≤ xa[k])) <;> rfl
  · simp [fn_slices_IndexFunc_int_int_k_term_beyond_1_p0_i_l1]
theorem refWithin_eq (xa : List Int) (n : Int) (hn : xa.length ≤ 1000) : fn_ref19_within xa n = some (!bad n xa) := within_eq xa n (by omega)
abbrev Ar := Int × Int × List (List St) × List St × List Sg
theorem args_loop {x : Tm} {a : Ar} (hx : x.2.2.2.2.1.length ≤ 20) (hb : bad (a.2.2.1.length : Int) x.2.2.2.2.1 = false) (hL : ∀ t ∈ a.2.2.1, t.length ≤ 20) :
    ∃ C : List (List St), loop (fn_term_Needs_l1 x a) ([], 0) = some C ∧ (∀ t ∈ C, t.length ≤ 20) ∧ ∀ t ∈ C, t ∈ a.2.2.1 := by
  have hin (k : Nat) (hk : k < x.2.2.2.2.1.length) : 0 ≤ x.2.2.2.2.1[k] ∧ x.2.2.2.2.1[k] < (a.2.2.1.length : Int) := by
    have := List.any_eq_false.1 hb _ (List.getElem_mem hk)
    simp at this; omega
  have hl := loop_nat (body := fn_term_Needs_l1 x a) (fun k : Nat => ((x.2.2.2.2.1.take k).map (fun i => a.2.2.1.getD i.toNat []), (k : Int))) x.2.2.2.2.1.length (b := x.2.2.2.2.1.map (fun i => a.2.2.1.getD i.toNat [])) ?_ ?_
  · have hm : ∀ t ∈ x.2.2.2.2.1.map (fun i => a.2.2.1.getD i.toNat []), t ∈ a.2.2.1 := by
      intro t ht
      obtain ⟨i, hi, rfl⟩ := List.mem_map.1 ht
      obtain ⟨k, hk, rfl⟩ := List.getElem_of_mem hi
      have h2 := hin k hk
      have : x.2.2.2.2.1[k].toNat < a.2.2.1.length := by omega
      have e : a.2.2.1.getD x.2.2.2.2.1[k].toNat [] = a.2.2.1[x.2.2.2.2.1[k].toNat] := by simp [List.getD, this]
      rw [e]; exact List.getElem_mem _
    refine ⟨_, hl, fun t ht => ?_, hm⟩
    obtain ⟨i, hi, rfl⟩ := List.mem_map.1 ht
    obtain ⟨k, hk, rfl⟩ := List.getElem_of_mem hi
    have h2 := hin k hk
    have : x.2.2.2.2.1[k].toNat < a.2.2.1.length := by omega
    have e : a.2.2.1.getD x.2.2.2.2.1[k].toNat [] = a.2.2.1[x.2.2.2.2.1[k].toNat] := by simp [List.getD, this]
    rw [e]; exact hL _ (List.getElem_mem _)
  · intro k hk
    have h2 := hin k hk
    have h3 : x.2.2.2.2.1[k].toNat < a.2.2.1.length := by omega
    have e : a.2.2.1.getD x.2.2.2.2.1[k].toNat [] = a.2.2.1[x.2.2.2.2.1[k].toNat] := by simp [List.getD, h3]
    unfold fn_term_Needs_l1
    simp only [dlt hk, cond_true, getN hk, Option.bind_some]
    rw [getZ h2.1 h2.2, Option.bind_some, app_eq (by simp; omega), Option.bind_some, w64s hk (by omega), take_snoc hk, List.map_append]
    simp only [List.map_cons, List.map_nil, e]
  · simp [fn_term_Needs_l1]
theorem getD_good {R : Int} {names : List Int} (hR : 0 < R) (hn : bad R names = false) (i : Nat) : 0 ≤ names.getD i 0 ∧ names.getD i 0 < R := by
  by_cases q : i < names.length
  · have e : names.getD i 0 = names[i] := by simp [List.getD, q]
    rw [e]
    have := List.any_eq_false.1 hn _ (List.getElem_mem q)
    simp at this; omega
  · have e : names.getD i 0 = 0 := by simp [List.getD, List.getElem?_eq_none (Nat.not_lt.1 q)]
    rw [e]; omega
theorem sbs_good {R : Int} {names : List Int} (hR : 0 < R) (hn : bad R names = false) {t : List St} : rin R (t.map (sbs names)) = false := by
  refine rin_of fun x hx => ?_
  obtain ⟨y, _, rfl⟩ := List.mem_map.1 hx
  exact getD_good hR hn _
theorem csp_good {R : Int} {s : Sg} {names : List Int} {C : List (List St)} {D : List St} (hR : 0 < R) (hn : bad R names = false) (hC : ∀ t ∈ C, t.length ≤ 20 ∧ rin R t = false) (hD : rin R D = false) (hs : s.2.1.length ≤ 20 ∧ s.2.2.1.length ≤ 20 ∧ s.2.2.2.length ≤ 20) : ∀ n ∈ (csp s names C D).1, Gd R n := by
  intro n h
  unfold csp at h
  split at h
  · simp at h
  split at h
  · simp at h
  split at h
  · simp at h
  split at h
  · have hb : ∀ k, k ≤ 20 → ∀ n ∈ bds names s.2.1 k, Gd R n := by
      intro k
      induction k with
      | zero => intro _ n hn; simp [bds] at hn
      | succ k ih =>
        intro hk n hn'
        simp only [bds, List.mem_append, List.mem_singleton] at hn'
        rcases hn' with hn' | rfl
        · exact ih (by omega) n hn'
        · exact ⟨getD_good hR hn _, getD_good hR hn _, by simp, by show (0 : Int) ≤ (k : Int); omega, by show (k : Int) ≤ _; omega⟩
    have hf : ∀ k, k ≤ 20 → ∀ n ∈ fls names s.2.2.1 C k, Gd R n := by
      intro k
      induction k with
      | zero => intro _ n hn; simp [fls] at hn
      | succ k ih =>
        intro hk n hn'
        simp only [fls, List.mem_append] at hn'
        rcases hn' with hn' | hn'
        · exact ih (by omega) n hn'
        · unfold fl at hn'
          have hc : (C.getD k []).length ≤ 20 ∧ rin R (C.getD k []) = false := by
            by_cases q : k < C.length
            · have e : C.getD k [] = C[k] := by simp [List.getD, q]
              rw [e]; exact hC _ (List.getElem_mem q)
            · have e : C.getD k [] = [] := by simp [List.getD, List.getElem?_eq_none (Nat.not_lt.1 q)]
              rw [e]; exact ⟨by simp, rfl⟩
          exact rel_good (by decide) _ _ _ (by omega) (by omega) hc.2 (sbs_good hR hn) n hn'
    rcases List.mem_append.1 h with h | h
    · rcases List.mem_append.1 h with h | h
      · exact hb _ hs.1 n h
      · exact hf _ hs.2.1 n h
    · exact rel_good (by decide) _ _ 0 (by omega) (by simp; omega) (sbs_good hR hn) hD n h
  · simp at h
theorem needs19 (x : Tm) (a : Ar) (l2 : x.2.2.2.1.length ≤ 20) (l3 : x.2.2.2.2.1.length ≤ 20) (l4 : x.2.2.2.2.2.length ≤ 20) (hR : a.2.2.2.1.length ≤ 20) (hL : ∀ t ∈ a.2.2.1, t.length ≤ 20) (hS : ∀ s ∈ a.2.2.2.2, s.2.1.length ≤ 20 ∧ s.2.2.1.length ≤ 20 ∧ s.2.2.2.length ≤ 20 ∧ ∀ t ∈ s.2.2.1, t.length ≤ 20) :
    ∃ l e, fn_term_Needs x a = some (l, e) ∧ fn_ref19_Needs x a = some (l, e) ∧ l.length ≤ 1000000 ∧ ((0 < a.2.1 ∧ (∀ t ∈ a.2.2.1, rin a.2.1 t = false) ∧ rin a.2.1 a.2.2.2.1 = false) → ∀ n ∈ l, Gd a.2.1 n) := by
  have same : fn_ref19_Needs_l1 x a = fn_term_Needs_l1 x a := rfl
  unfold fn_term_Needs fn_ref19_Needs
  rw [show fn_term_form (x.1, x.2.1, x.2.2.1, x.2.2.2.1, x.2.2.2.2.1, x.2.2.2.2.2) = some (tForm x) from tForm_eq x, show fn_ref19_Form (x.1, x.2.1, x.2.2.1, x.2.2.2.1, x.2.2.2.2.1, x.2.2.2.2.2) = some (tForm x) from refTForm_eq x, same]
  have hw : fn_term_within (x.1, x.2.1, x.2.2.1, x.2.2.2.1, x.2.2.2.2.1, x.2.2.2.2.2) (a.1, a.2.1, a.2.2.1, a.2.2.2.1, a.2.2.2.2) = some (!(bad a.1 x.2.2.2.1 || bad (a.2.2.1.length : Int) x.2.2.2.2.1 || bad a.2.1 x.2.2.2.2.2 || (decide (x.1 = 4) && (bad (a.2.2.1.length : Int) [x.2.2.1] || bad (a.2.2.2.2.length : Int) [x.2.1])))) := by
    unfold fn_term_within fn_term_beyond fn_term_beyond_1_ip0_i
    simp only [Option.bind_some, contains_eq x.2.2.2.1 _ (by omega : x.2.2.2.1.length ≤ 1000), contains_eq x.2.2.2.2.1 _ (by omega : x.2.2.2.2.1.length ≤ 1000), contains_eq x.2.2.2.2.2 _ (by omega : x.2.2.2.2.2.length ≤ 1000)]
    have e (n i : Int) : bad n [i] = (decide (i < 0) || decide (n ≤ i)) := by simp [bad]
    rw [e, e]
    cases bad a.1 x.2.2.2.1 <;> cases bad (a.2.2.1.length : Int) x.2.2.2.2.1 <;> cases bad a.2.1 x.2.2.2.2.2 <;> cases decide (x.1 = 4) <;> cases (decide (x.2.2.1 < 0) || decide ((a.2.2.1.length : Int) ≤ x.2.2.1)) <;> cases (decide (x.2.1 < 0) || decide ((a.2.2.2.2.length : Int) ≤ x.2.1)) <;> rfl
  rw [hw]
  by_cases hf : tForm x = 0
  · have o1 (i n : Int) : fn_ref19_within [i] n = some (!bad n [i]) := refWithin_eq [i] n (by simp)
    simp only [hf, Option.bind_some, decide_true, Bool.not_true, cond_false, refWithin_eq x.2.2.2.1 _ (by omega : x.2.2.2.1.length ≤ 1000), refWithin_eq x.2.2.2.2.1 _ (by omega : x.2.2.2.2.1.length ≤ 1000), refWithin_eq x.2.2.2.2.2 _ (by omega : x.2.2.2.2.2.length ≤ 1000), o1, Bool.not_not]
    have seven : ∃ l e, (some (([] : List Nd), (7 : Int)) : Option (List Nd × Int)) = some (l, e) ∧ (some (([] : List Nd), (7 : Int)) : Option (List Nd × Int)) = some (l, e) ∧ l.length ≤ 1000000 ∧ ((0 < a.2.1 ∧ (∀ t ∈ a.2.2.1, rin a.2.1 t = false) ∧ rin a.2.1 a.2.2.2.1 = false) → ∀ n ∈ l, Gd a.2.1 n) := ⟨[], 7, rfl, rfl, by simp, by simp⟩
    cases b1 : bad a.1 x.2.2.2.1 with
    | true => exact seven
    | false =>
      cases b2 : bad (a.2.2.1.length : Int) x.2.2.2.2.1 with
      | true => exact seven
      | false =>
        cases b3 : bad a.2.1 x.2.2.2.2.2 with
        | true => exact seven
        | false =>
          by_cases k4 : x.1 = 4
          · have n3 : ¬ x.1 = 3 := by omega
            rw [decide_eq_true k4, decide_eq_false n3]
            cases b4 : bad (a.2.2.1.length : Int) [x.2.2.1] with
            | true => exact seven
            | false =>
              cases b5 : bad (a.2.2.2.2.length : Int) [x.2.1] with
              | true => exact seven
              | false =>
                obtain ⟨C, c1, c2, c3⟩ := args_loop l3 b2 hL
                simp [bad] at b4 b5
                simp only [Bool.or_self, Bool.and_false, Bool.not_false, Bool.not_true, cond_false, cond_true, Option.bind_some, c1, Bool.false_and, Bool.true_and]
                rw [getZ b5.1 b5.2, getZ b4.1 b4.2]
                have hs := hS _ (List.getElem_mem (l := a.2.2.2.2) (n := x.2.1.toNat) (by omega))
                have ht := hL _ (List.getElem_mem (l := a.2.2.1) (n := x.2.2.1.toNat) (by omega))
                have hDm := List.getElem_mem (l := a.2.2.1) (n := x.2.2.1.toNat) (by omega)
                simp only [Option.bind_some]
                generalize a.2.2.2.2[x.2.1.toNat] = S at hs ⊢
                generalize a.2.2.1[x.2.2.1.toNat] = D at ht hDm ⊢
                rw [show fn_sig_Call (S.1, S.2.1, S.2.2.1, S.2.2.2) x.2.2.2.2.2 C D = _ from sigCall_eq S _ C D hs.2.2.1 hs.2.2.2 c2 ht, show fn_ref17_Call (S.1, S.2.1, S.2.2.1, S.2.2.2) x.2.2.2.2.2 C D = _ from refCall_eq S _ C D hs.2.2.1 hs.2.2.2 c2 ht]
                have hn := csp_len S x.2.2.2.2.2 C D ⟨hs.1, hs.2.1, hs.2.2.1⟩ c2
                exact ⟨(csp S x.2.2.2.2.2 C D).1, (csp S x.2.2.2.2.2 C D).2, rfl, rfl, hn, fun hg => csp_good hg.1 b3 (fun t ht => ⟨c2 t ht, hg.2.1 t (c3 t ht)⟩) (hg.2.1 _ hDm) ⟨hs.1, hs.2.1, hs.2.2.1⟩⟩
          · rw [decide_eq_false k4]
            by_cases k3 : x.1 = 3
            · rw [decide_eq_true k3]
              cases hz : a.2.2.1 with
              | nil => exact ⟨[], 14, by simp, by simp, by simp, by simp⟩
              | cons t ts =>
                have ht := hL t (by rw [hz]; simp)
                have hl0 : decide ((((t :: ts).length : Nat) : Int) = 0) = false := decide_eq_false (by simp; omega)
                simp only [hl0, Bool.or_self, Bool.and_false, Bool.false_and, Bool.not_false, Bool.not_true, cond_false, cond_true, Option.bind_some, show getI (t :: ts) 0 = some t from rfl]
                rw [relFlow_eq _ _ _ _ (by omega) (by omega) (by omega), refFlow_eq _ _ _ _ (by omega) (by omega) (by omega)]
                have hr := rel_len 7 t a.2.2.2.1 0
                by_cases q : shp t a.2.2.2.1 = true
                · exact ⟨rel 7 0 t a.2.2.2.1, 0, by simp [q], by simp [q], by omega, fun hg => rel_good (by decide) _ _ 0 (by omega) (by omega) (hg.2.1 t (by simp)) hg.2.2⟩
                · exact ⟨[], 8, by simp [q], by simp [q], by simp, by simp⟩
            · rw [decide_eq_false k3]
              exact ⟨[], 0, rfl, rfl, by simp, by simp⟩
  · exact ⟨[], tForm x, by simp [hf], by simp [hf], by simp, by simp⟩
end Go.Proofs.YthoclljhjcfemaaGreat
namespace Go.Proofs.YthoclljhjcfemaaGreat
open Go.RowKit
set_option linter.unusedVariables false
set_option linter.unnecessarySimpa false
set_option linter.unusedSimpArgs false
abbrev tySg : Tp := .cons (.int .i64) (.cons (.sl (.cons (.int .i64) (.one (.int .i64)))) (.cons (.sl (.one (.sl (.cons (.int .i64) (.one .bool))))) (.one (.one (.sl (.cons (.int .i64) (.one .bool)))))))
abbrev tyTm : Tp := .cons (.int .i64) (.cons (.int .i64) (.cons (.int .i64) (.cons (.sl (.int .i64)) (.cons (.sl (.int .i64)) (.one (.sl (.int .i64)))))))
abbrev tyBody : Tp := .cons (.int .i64) (.cons (.int .i64) (.cons (.sl (.cons (.int .i64) (.one (.int .i64)))) (.cons (.sl (.one (.sl (.cons (.int .i64) (.one .bool))))) (.cons (.one (.sl (.cons (.int .i64) (.one .bool)))) (.cons (.sl tySg) (.one (.sl (.cons (.sl (.cons (.int .i64) (.cons (.int .i64) (.cons (.int .i64) (.cons (.int .i64) (.one .bool)))))) (.one tyTm)))))))))
abbrev Blk := List Stm × Tm
abbrev Bo := Int × Int × List (Int × Int) × List (List St) × List St × List Sg × List Blk
def stm (l : List Blk) : Nat := (l.map (fun x => x.1.length)).sum
structure Sm (b : Bo) : Prop where
  bounds : b.2.2.1.length ≤ 20
  locals : b.2.2.2.1.length ≤ 10
  loc : ∀ t ∈ b.2.2.2.1, t.length ≤ 20
  ret : b.2.2.2.2.1.length ≤ 20
  sigs : b.2.2.2.2.2.1.length ≤ 4
  sig : ∀ s ∈ b.2.2.2.2.2.1, s.2.1.length ≤ 20 ∧ s.2.2.1.length ≤ 20 ∧ s.2.2.2.length ≤ 20 ∧ ∀ t ∈ s.2.2.1, t.length ≤ 20
  blocks : b.2.2.2.2.2.2.length ≤ 8
  term : ∀ x ∈ b.2.2.2.2.2.2, x.2.2.2.2.1.length ≤ 20 ∧ x.2.2.2.2.2.1.length ≤ 20 ∧ x.2.2.2.2.2.2.length ≤ 20
  many : stm b.2.2.2.2.2.2 ≤ 24
theorem sum_mem {α : Type} (f : α → Nat) : ∀ (l : List α) (x : α), x ∈ l → f x ≤ (l.map f).sum
  | [], x, h => by cases h
  | y :: l, x, h => by
    rcases List.mem_cons.1 h with rfl | h
    · simp
    · have := sum_mem f l x h; simp; omega
theorem sum_take {α : Type} (f : α → Nat) (l : List α) (k : Nat) : ((l.take k).map f).sum ≤ (l.map f).sum := by
  have : l.map f = (l.take k).map f ++ (l.drop k).map f := by rw [← List.map_append, List.take_append_drop]
  rw [this, List.sum_append]; omega
theorem Sm.stmts {b : Bo} (h : Sm b) {x : Blk} (hx : x ∈ b.2.2.2.2.2.2) : x.1.length ≤ 24 := by
  have := sum_mem (fun x : Blk => x.1.length) _ x hx
  have := h.many; unfold stm at this; omega
theorem stm_snoc {X : List Blk} {k : Nat} (hk : k < X.length) : stm (X.take (k + 1)) = stm (X.take k) + X[k].1.length := by
  unfold stm; rw [take_snoc hk, List.map_append, List.sum_append]; simp
theorem fit_body {b : Bo} (h : Tp.Fit tyBody b) : ∀ x ∈ b.2.2.2.2.2.2, x.1.length ≤ 140737488351232 := by
  obtain ⟨_, _, _, _, _, _, _, h2⟩ := h
  exact fun x hx => (h2 x hx).1.1
/-- Is a body small? -/
theorem small20 (b : Bo) (hb : ∀ x ∈ b.2.2.2.2.2.2, x.1.length ≤ 140737488351232) : fn_ref20_Small b = some false ∨ (fn_ref20_Small b = some true ∧ Sm b) := by
  obtain ⟨u, n, B, L, R, S, X⟩ := b
  unfold fn_ref20_Small
  dsimp only at *
  have e1 : ((((decide (20 < (((B.length : Nat) : Int)))) || (decide (10 < (((L.length : Nat) : Int))))) || (decide (4 < (((S.length : Nat) : Int))))) || (decide (8 < (((X.length : Nat) : Int))))) = decide (20 < B.length ∨ 10 < L.length ∨ 4 < S.length ∨ 8 < X.length) := by
    by_cases h1 : 20 < B.length <;> by_cases h2 : 10 < L.length <;> by_cases h3 : 4 < S.length <;> by_cases h4 : 8 < X.length <;> simp [h1, h2, h3, h4] <;> omega
  rw [e1]
  by_cases h0 : 20 < B.length ∨ 10 < L.length ∨ 4 < S.length ∨ 8 < X.length
  · rw [decide_eq_true h0]; exact .inl rfl
  · rw [decide_eq_false h0, cond_false, Few_eq]
    by_cases q : R.length ≤ 20
    · have e : decide (((R.length : Nat) : Int) ≤ 20) = true := by simp; omega
      simp only [Option.bind_some, e, Bool.not_true, cond_false]
      rw [fewl (body := fn_ref20_Small_l1 (u, n, B, L, R, S, X)) (xa := L) (by omega) (fun i => rfl)]
      cases hf : L.any (fun t => !decide (t.length ≤ 20)) with
      | true => exact .inl rfl
      | false =>
        simp only [Bool.false_eq_true, if_false, Option.bind_some]
        have hS : ∃ t, loop (fn_ref20_Small_l2 (u, n, B, L, R, S, X)) 0 = some t ∧ (t = .inr false ∨ (t = .inl () ∧ ∀ s ∈ S, s.2.1.length ≤ 20 ∧ s.2.2.1.length ≤ 20 ∧ s.2.2.2.length ≤ 20 ∧ ∀ t ∈ s.2.2.1, t.length ≤ 20)) := by
          have hl := loop_find (body := fn_ref20_Small_l2 (u, n, B, L, R, S, X)) (fun k => ∃ h : k < S.length, fn_ref17_Few S[k] = some false) (fun k : Nat => (k : Int)) S.length (fun _ => .inr false) (.inl ()) ?_ ?_ ?_
          · rcases hl with ⟨k, _, _, _, h4⟩ | ⟨h1, h2⟩
            · exact ⟨_, h4, .inl rfl⟩
            · refine ⟨_, h2, .inr ⟨rfl, fun s hs => ?_⟩⟩
              obtain ⟨k, hk, rfl⟩ := List.getElem_of_mem hs
              rcases few17 S[k] with h | ⟨h, f1, f2, f3, f4⟩
              · exact absurd ⟨hk, h⟩ (h1 k hk)
              · exact ⟨f1, f2, f3, f4⟩
          · intro k hk hp
            unfold fn_ref20_Small_l2
            rcases few17 S[k] with h | ⟨h, _⟩
            · exact absurd ⟨hk, h⟩ hp
            · simp only [dlt hk, cond_true, getN hk, Option.bind_some, show fn_ref17_Few (S[k].1, S[k].2.1, S[k].2.2.1, S[k].2.2.2) = _ from h, w64s hk (by omega : S.length ≤ 9223372036854775807)]
              rfl
          · rintro k hk ⟨_, hp⟩
            unfold fn_ref20_Small_l2
            simp only [dlt hk, cond_true, getN hk, Option.bind_some, show fn_ref17_Few (S[k].1, S[k].2.1, S[k].2.2.1, S[k].2.2.2) = _ from hp]
            rfl
          · simp [fn_ref20_Small_l2]
        obtain ⟨t, ht, hS⟩ := hS
        rw [ht]
        rcases hS with rfl | ⟨rfl, hS⟩
        · exact .inl rfl
        · simp only [Option.bind_some]
          have hX := loop_find (body := fn_ref20_Small_l3 (u, n, B, L, R, S, X)) (fun k => ∃ h : k < X.length, (((decide (20 < ((((X[k]).2.2.2.2.1.length : Nat) : Int)))) || (decide (20 < ((((X[k]).2.2.2.2.2.1.length : Nat) : Int))))) || (decide (20 < ((((X[k]).2.2.2.2.2.2.length : Nat) : Int))))) = true) (fun k : Nat => (((stm (X.take k) : Nat) : Int), (k : Int))) X.length (fun _ => .inr false) (.inl ((stm X : Nat) : Int)) ?_ ?_ ?_
          · rcases hX with ⟨k, _, _, _, h4⟩ | ⟨h1, h2⟩
            · have h4' : loop (fn_ref20_Small_l3 (u, n, B, L, R, S, X)) (0, 0) = some (.inr false) := by simpa [stm] using h4
              rw [h4']; exact .inl rfl
            · have h2' : loop (fn_ref20_Small_l3 (u, n, B, L, R, S, X)) (0, 0) = some (.inl ((stm X : Nat) : Int)) := by simpa [stm] using h2
              rw [h2']
              by_cases hm : stm X ≤ 24
              · refine .inr ⟨by simp; omega, ⟨by dsimp only; omega, by dsimp only; omega, few_mem hf, q, by dsimp only; omega, hS, by dsimp only; omega, fun x hx => ?_, hm⟩⟩
                obtain ⟨k, hk, rfl⟩ := List.getElem_of_mem hx
                have hn := h1 k hk
                dsimp only at hk hn
                have hn2 : (((decide (20 < ((((X[k]).2.2.2.2.1.length : Nat) : Int)))) || (decide (20 < ((((X[k]).2.2.2.2.2.1.length : Nat) : Int))))) || (decide (20 < ((((X[k]).2.2.2.2.2.2.length : Nat) : Int))))) = false := by
                  cases hc : (((decide (20 < ((((X[k]).2.2.2.2.1.length : Nat) : Int)))) || (decide (20 < ((((X[k]).2.2.2.2.2.1.length : Nat) : Int))))) || (decide (20 < ((((X[k]).2.2.2.2.2.2.length : Nat) : Int))))) with
                  | false => rfl
                  | true => exact absurd ⟨hk, hc⟩ hn
                simp at hn2
                dsimp only
                omega
              · refine .inl ?_
                simp; omega
          · intro k hk hp
            have hn2 : (((decide (20 < ((((X[k]).2.2.2.2.1.length : Nat) : Int)))) || (decide (20 < ((((X[k]).2.2.2.2.2.1.length : Nat) : Int))))) || (decide (20 < ((((X[k]).2.2.2.2.2.2.length : Nat) : Int))))) = false := by
              cases hc : (((decide (20 < ((((X[k]).2.2.2.2.1.length : Nat) : Int)))) || (decide (20 < ((((X[k]).2.2.2.2.2.1.length : Nat) : Int))))) || (decide (20 < ((((X[k]).2.2.2.2.2.2.length : Nat) : Int))))) with
              | false => rfl
              | true => exact absurd ⟨hk, hc⟩ hp
            have a1 := hb X[k] (List.getElem_mem hk)
            have a2 : stm (X.take k) ≤ k * 140737488351232 := by
              unfold stm
              have : ∀ q : List Blk, (∀ x ∈ q, x ∈ X) → (q.map (fun x => x.1.length)).sum ≤ q.length * 140737488351232 := by
                intro q
                induction q with
                | nil => intro _; simp
                | cons x q ih =>
                  intro hq
                  have := ih (fun y hy => hq y (by simp [hy]))
                  have := hb x (hq x (by simp))
                  simp only [List.map_cons, List.sum_cons, List.length_cons, Nat.succ_mul]; omega
              have h3 := this (X.take k) (fun x hx => List.mem_of_mem_take hx)
              rw [List.length_take, Nat.min_eq_left (by omega)] at h3
              exact h3
            have a3 : k ≤ 8 := by omega
            have a4 : k * 140737488351232 ≤ 8 * 140737488351232 := Nat.mul_le_mul_right _ a3
            unfold fn_ref20_Small_l3
            simp only [dlt hk, cond_true, getN hk, Option.bind_some, hn2, cond_false, w64s hk (by omega : X.length ≤ 9223372036854775807)]
            rw [w64 (by omega) (by omega), stm_snoc hk]
            simp
          · rintro k hk ⟨_, hp⟩
            unfold fn_ref20_Small_l3
            simp only [dlt hk, cond_true, getN hk, Option.bind_some, hp]
          · unfold fn_ref20_Small_l3
            simp
    · have e : decide (((R.length : Nat) : Int) ≤ 20) = false := by simp; omega
      simp only [Option.bind_some, e]; exact .inl rfl
end Go.Proofs.YthoclljhjcfemaaGreat
namespace Go.Proofs.YthoclljhjcfemaaGreat
open Go.RowKit
set_option linter.unusedVariables false
set_option linter.unnecessarySimpa false
set_option linter.unusedSimpArgs false
abbrev Flt := Int × Int × Int × Int
noncomputable def sE (L : List (List St)) (R : Int) (x : Stm) : Int := ((fn_ref18_Needs x L R).getD ([], 0)).2
noncomputable def tE (a : Ar) (x : Tm) : Int := ((fn_ref19_Needs x a).getD ([], 0)).2
def arOf (b : Bo) : Ar := (((b.2.2.2.2.2.2.length : Nat) : Int), b.2.1, b.2.2.2.1, b.2.2.2.2.1, b.2.2.2.2.2.1)
def vHead (b : Bo) : Flt := if b.1 < 1 ∨ b.2.1 < b.1 then (7, 0, 0, 0) else if 65536 < b.2.1 then (6, 0, 0, 0) else (0, 0, 0, 0)
def vBounds (b : Bo) : Flt := match b.2.2.1.findIdx? (bad1 b.1) with | some k => (7, 1, (k : Int), 0) | none => (0, 0, 0, 0)
def vLoc (b : Bo) : Flt := if b.2.2.2.1 = [] then (14, 2, 0, 0) else match b.2.2.2.1.findIdx? (fun t => !decide (rck b.2.1 t = 0)) with | some k => (rck b.2.1 (b.2.2.2.1.getD k []), 2, (k : Int), 0) | none => (0, 0, 0, 0)
def vRet (b : Bo) : Flt := if rck b.1 b.2.2.2.2.1 = 0 then if shp b.2.2.2.2.1 (b.2.2.2.1.getD 0 []) then (0, 3, 0, 0) else (8, 3, 0, 0) else (rck b.1 b.2.2.2.2.1, 3, 0, 0)
def vSig (b : Bo) : Flt := match b.2.2.2.2.2.1.findIdx? (fun s => !decide (chk s = 0)) with | some k => (chk (b.2.2.2.2.2.1.getD k (0, [], [], [])), 4, (k : Int), 0) | none => (0, 0, 0, 0)
def vBlk (b : Bo) : Flt := if b.2.2.2.2.2.2 = [] then (14, 5, 0, 0) else (0, 0, 0, 0)
noncomputable def blkE (b : Bo) (x : Blk) : Option (Int × Int × Int) :=
  match x.1.findIdx? (fun s => !decide (sE b.2.2.2.1 b.2.1 s = 0)) with
  | some j => some (sE b.2.2.2.1 b.2.1 (x.1.getD j (0, 0, 0, 0, false)), 6, (j : Int))
  | none => if tE (arOf b) x.2 = 0 then none else some (tE (arOf b) x.2, 7, 0)
def fltOf (k : Nat) (o : Option (Int × Int × Int)) : Flt := match o with | some (e, p, j) => (e, p, (k : Int), j) | none => (0, 0, 0, 0)
noncomputable def vCode (b : Bo) : Flt := match b.2.2.2.2.2.2.findIdx? (fun x => (blkE b x).isSome) with | some k => fltOf k (blkE b (b.2.2.2.2.2.2.getD k ([], 0, 0, 0, [], [], []))) | none => (0, 0, 0, 0)
def or0 (a b : Flt) : Flt := if a.1 = 0 then b else a
noncomputable def vck (b : Bo) : Flt := or0 (vHead b) (or0 (vBounds b) (or0 (vLoc b) (or0 (vRet b) (or0 (vSig b) (or0 (vBlk b) (vCode b))))))
section
variable {b : Bo} (h : Sm b)
include h
theorem stmtE {x : Stm} : ∃ l, fn_stmt_Needs x b.2.2.2.1 b.2.1 = some (l, sE b.2.2.2.1 b.2.1 x) ∧ fn_ref18_Needs x b.2.2.2.1 b.2.1 = some (l, sE b.2.2.2.1 b.2.1 x) := by
  obtain ⟨l, e, h1, h2, _⟩ := stmtNeeds_eq x b.2.2.2.1 b.2.1 h.loc
  have : sE b.2.2.2.1 b.2.1 x = e := by unfold sE; rw [h2]; rfl
  exact ⟨l, by rw [h1, this], by rw [h2, this]⟩
theorem termE {x : Blk} (hx : x ∈ b.2.2.2.2.2.2) : ∃ l, fn_term_Needs x.2 (arOf b) = some (l, tE (arOf b) x.2) ∧ fn_ref19_Needs x.2 (arOf b) = some (l, tE (arOf b) x.2) := by
  obtain ⟨a1, a2, a3⟩ := h.term x hx
  obtain ⟨l, e, h1, h2, _⟩ := needs19 x.2 (arOf b) a1 a2 a3 h.ret h.loc h.sig
  have : tE (arOf b) x.2 = e := by unfold tE; rw [h2]; rfl
  exact ⟨l, by rw [h1, this], by rw [h2, this]⟩
theorem refHead_eq : fn_ref21_head b = some (or0 (vHead b) (vBounds b)) := by
  have h1 := h.bounds
  obtain ⟨u, n, B, L, R, S, X⟩ := b
  unfold fn_ref21_head vHead vBounds or0
  dsimp only at *
  by_cases q : u < 1 ∨ n < u
  · have : (decide (u < 1) || decide (n < u)) = true := by simpa using q
    rw [this, if_pos q]; rfl
  · have : (decide (u < 1) || decide (n < u)) = false := by simpa using q
    rw [this, if_neg q, cond_false]
    by_cases q2 : 65536 < n
    · rw [decide_eq_true q2, if_pos q2]; rfl
    · rw [decide_eq_false q2, if_neg q2, cond_false, decide_eq_false (by omega), cond_false, loop_search (body := fn_ref21_head_l1 (u, n, B, L, R, S, X)) B (bad1 u) (fun k => (.inr (7, 1, (k : Int), 0) : Unit ⊕ Flt)) (.inl ()) ?_ ?_]
      · cases B.findIdx? (bad1 u) <;> rfl
      · intro k hk
        unfold fn_ref21_head_l1
        simp only [dlt hk, cond_true, getN hk, Option.bind_some, w64s hk (by omega : B.length ≤ 9223372036854775807)]
        show cond (bad1 u B[k]) _ _ = _
        cases bad1 u B[k] <;> rfl
      · simp [fn_ref21_head_l1]
theorem refTypes21_eq : fn_ref21_types b = some (or0 (vLoc b) (or0 (vRet b) (vSig b))) := by
  have h1 := h.locals
  have h2 := h.sigs
  have h3 := h.ret
  have h4 := h.loc
  obtain ⟨u, n, B, L, R, S, X⟩ := b
  unfold fn_ref21_types vLoc vRet vSig
  dsimp only at *
  by_cases q : L = []
  · subst q; rfl
  · have q' : ¬ ((L.length : Nat) : Int) = 0 := fun hc => q (List.length_eq_zero_iff.1 (by omega))
    rw [if_neg q, decide_eq_false q', cond_false, decide_eq_false (by omega), cond_false, loop_search (body := fn_ref21_types_l1 (u, n, B, L, R, S, X)) L (fun t => !decide (rck n t = 0)) (fun k => (.inr (rck n (L.getD k []), 2, (k : Int), 0) : Unit ⊕ Flt)) (.inl ()) ?_ ?_]
    · cases hf : L.findIdx? (fun t => !decide (rck n t = 0)) with
      | some k =>
        obtain ⟨hk, h5, _⟩ := List.findIdx?_eq_some_iff_getElem.1 hf
        have e : L.getD k [] = L[k] := by simp [List.getD, hk]
        have : ¬ rck n L[k] = 0 := by simpa using h5
        simp only [or0, e, if_neg this]; rfl
      | none =>
        have hp : 0 < L.length := List.length_pos_iff.2 q
        have e0 : L.getD 0 [] = L[0] := by simp [List.getD, hp]
        simp only [Option.bind_some, refCheck_eq]
        by_cases q2 : rck u R = 0
        · have g0 : getI L 0 = some L[0] := getN (k := 0) hp
          simp only [q2, decide_true, Bool.not_true, cond_false, g0, Option.bind_some, e0]
          rw [refShape_eq _ _ (by have := h4 L[0] (List.getElem_mem hp); omega), shp_comm, Option.bind_some]
          cases hs : shp R L[0] with
          | false => rfl
          | true =>
            simp only [Bool.not_true, cond_false]
            rw [decide_eq_false (by omega), cond_false, loop_search (body := fn_ref21_types_l2 (u, n, B, L, R, S, X)) S (fun s => !decide (chk s = 0)) (fun k => (.inr (chk (S.getD k (0, [], [], [])), 4, (k : Int), 0) : Unit ⊕ Flt)) (.inl ()) ?_ ?_]
            · cases S.findIdx? (fun s => !decide (chk s = 0)) <;> rfl
            · intro k hk
              unfold fn_ref21_types_l2
              have e : S.getD k (0, [], [], []) = S[k] := by simp [List.getD, hk]
              simp only [dlt hk, cond_true, getN hk, Option.bind_some, w64s hk (by omega : S.length ≤ 9223372036854775807), e, show fn_ref17_Check (S[k].1, S[k].2.1, S[k].2.2.1, S[k].2.2.2) = _ from refSCheck_eq S[k]]
              cases (!decide (chk S[k] = 0)) <;> rfl
            · simp [fn_ref21_types_l2]
        · simp [q2, or0]
    · intro k hk
      unfold fn_ref21_types_l1
      have e : L.getD k [] = L[k] := by simp [List.getD, hk]
      simp only [dlt hk, cond_true, getN hk, Option.bind_some, w64s hk (by omega : L.length ≤ 9223372036854775807), e, refCheck_eq]
      cases (!decide (rck n L[k] = 0)) <;> rfl
    · simp [fn_ref21_types_l1]
theorem refBlocks21_eq : fn_ref21_blocks b = some (or0 (vBlk b) (vCode b)) := by
  have h1 := h.blocks
  have h2 := h.many
  have hst := fun x (hx : x ∈ b.2.2.2.2.2.2) => h.stmts hx
  have hT := fun x (hx : x ∈ b.2.2.2.2.2.2) => termE h hx
  have hS := fun x => stmtE h (x := x)
  unfold fn_ref21_blocks vBlk vCode
  by_cases q : b.2.2.2.2.2.2 = []
  · rw [if_pos q, q]; rfl
  · have q' : ¬ ((b.2.2.2.2.2.2.length : Nat) : Int) = 0 := fun hc => q (List.length_eq_zero_iff.1 (by omega))
    rw [if_neg q, decide_eq_false q', cond_false, decide_eq_false (by omega), cond_false]
    have hl1 := loop_nat (body := fn_ref21_blocks_l1 b) (fun k : Nat => (((stm (b.2.2.2.2.2.2.take k) : Nat) : Int), (k : Int))) b.2.2.2.2.2.2.length (b := .inl ()) ?_ ?_
    · have hl1' : loop (fn_ref21_blocks_l1 b) (0, 0) = some (.inl ()) := by simpa [stm] using hl1
      rw [hl1', Option.bind_some]
      dsimp only
      rw [loop_search (body := fn_ref21_blocks_l3 b) b.2.2.2.2.2.2 (fun x => (blkE b x).isSome) (fun k => (.inr (fltOf k (blkE b (b.2.2.2.2.2.2.getD k ([], 0, 0, 0, [], [], [])))) : Unit ⊕ Flt)) (.inl ()) ?_ ?_]
      · cases b.2.2.2.2.2.2.findIdx? (fun x => (blkE b x).isSome) <;> rfl
      · intro k hk
        unfold fn_ref21_blocks_l3
        have e : b.2.2.2.2.2.2.getD k ([], 0, 0, 0, [], [], []) = b.2.2.2.2.2.2[k] := by simp [List.getD, hk]
        obtain ⟨l, _, hT'⟩ := hT _ (List.getElem_mem hk)
        have hst' := hst _ (List.getElem_mem hk)
        simp only [dlt hk, cond_true, getN hk, Option.bind_some, w64s hk (by omega : b.2.2.2.2.2.2.length ≤ 9223372036854775807), e]
        generalize b.2.2.2.2.2.2[k] = x at *
        rw [loop_search (body := fn_ref21_blocks_l2 b k x) x.1 (fun s => !decide (sE b.2.2.2.1 b.2.1 s = 0)) (fun j => (.inr (.inr (.inr (sE b.2.2.2.1 b.2.1 (x.1.getD j (0, 0, 0, 0, false)), 6, (k : Int), (j : Int)))) : Unit ⊕ (Int ⊕ (Unit ⊕ Flt)))) (.inl ()) ?_ ?_]
        · unfold blkE
          cases hf : x.1.findIdx? (fun s => !decide (sE b.2.2.2.1 b.2.1 s = 0)) with
          | some j => rfl
          | none =>
            simp only [Option.bind_some]
            rw [show fn_ref19_Needs (x.2.1, x.2.2.1, x.2.2.2.1, x.2.2.2.2.1, x.2.2.2.2.2.1, x.2.2.2.2.2.2) (((b.2.2.2.2.2.2.length : Nat) : Int), b.2.1, b.2.2.2.1, b.2.2.2.2.1, b.2.2.2.2.2.1) = _ from hT', Option.bind_some]
            by_cases q3 : tE (arOf b) x.2 = 0
            · simp [q3]
            · simp [q3, fltOf]
        · intro j hj
          obtain ⟨l, _, hS'⟩ := hS x.1[j]
          have e2 : x.1.getD j (0, 0, 0, 0, false) = x.1[j] := by simp [List.getD, hj]
          unfold fn_ref21_blocks_l2
          simp only [dlt hj, cond_true, getN hj, Option.bind_some, w64s hj (by omega : x.1.length ≤ 9223372036854775807), e2, show fn_ref18_Needs (x.1[j].1, x.1[j].2.1, x.1[j].2.2.1, x.1[j].2.2.2.1, x.1[j].2.2.2.2) b.2.2.2.1 b.2.1 = _ from hS']
          cases (!decide (sE b.2.2.2.1 b.2.1 x.1[j] = 0)) <;> rfl
        · simp [fn_ref21_blocks_l2]
      · simp [fn_ref21_blocks_l3]
    · intro k hk
      have a1 := stm_snoc hk
      have a2 := sum_take (fun x : Blk => x.1.length) b.2.2.2.2.2.2 (k + 1)
      have a3 : stm (b.2.2.2.2.2.2.take (k + 1)) ≤ stm b.2.2.2.2.2.2 := a2
      unfold fn_ref21_blocks_l1
      simp only [dlt hk, cond_true, getN hk, Option.bind_some, w64s hk (by omega : b.2.2.2.2.2.2.length ≤ 9223372036854775807)]
      rw [w64 (by omega) (by omega), decide_eq_false (by omega), cond_false, a1]
      simp
    · unfold fn_ref21_blocks_l1
      simp
theorem refVCheck_eq : fn_ref21_Check b = some (vck b) := by
  unfold fn_ref21_Check vck
  rw [show fn_ref21_head (b.1, b.2.1, b.2.2.1, b.2.2.2.1, b.2.2.2.2.1, b.2.2.2.2.2.1, b.2.2.2.2.2.2) = _ from refHead_eq h, show fn_ref21_types (b.1, b.2.1, b.2.2.1, b.2.2.2.1, b.2.2.2.2.1, b.2.2.2.2.2.1, b.2.2.2.2.2.2) = _ from refTypes21_eq h, show fn_ref21_blocks (b.1, b.2.1, b.2.2.1, b.2.2.2.1, b.2.2.2.2.1, b.2.2.2.2.2.1, b.2.2.2.2.2.2) = _ from refBlocks21_eq h]
  generalize vHead b = v1
  generalize vBounds b = v2
  generalize vLoc b = v3
  generalize vRet b = v4
  generalize vSig b = v5
  generalize or0 (vBlk b) (vCode b) = v6
  simp only [Option.bind_some]
  have key : ∀ a c : Flt, (cond (!decide ((or0 a c).1 = 0)) (some ((or0 a c).1, (or0 a c).2.1, (or0 a c).2.2.1, (or0 a c).2.2.2)) none : Option Flt) = (cond (!decide ((or0 a c).1 = 0)) (some (or0 a c)) none) := fun a c => rfl
  unfold or0
  by_cases q1 : v1.1 = 0 <;> by_cases q2 : v2.1 = 0 <;> by_cases q3 : v3.1 = 0 <;> by_cases q4 : v4.1 = 0 <;> by_cases q5 : v5.1 = 0 <;> simp [q1, q2, q3, q4, q5]
end
end Go.Proofs.YthoclljhjcfemaaGreat
namespace Go.Proofs.YthoclljhjcfemaaGreat
open Go.RowKit
set_option linter.unusedVariables false
set_option linter.unnecessarySimpa false
set_option linter.unusedSimpArgs false
section
variable {b : Bo} (h : Sm b)
include h
end
end Go.Proofs.YthoclljhjcfemaaGreat
namespace Go.Proofs.YthoclljhjcfemaaGreat
open Go.RowKit
set_option linter.unusedVariables false
set_option linter.unnecessarySimpa false
set_option linter.unusedSimpArgs false
def bg (X : List Blk) (k : Nat) : Nat := stm (X.take k) + k
theorem bg_succ {X : List Blk} {k : Nat} (hk : k < X.length) : bg X (k + 1) = bg X k + X[k].1.length + 1 := by
  unfold bg; rw [stm_snoc hk]; omega
theorem bg_mono (X : List Blk) {i j : Nat} (h : i ≤ j) (hj : j ≤ X.length) : bg X i ≤ bg X j := by
  induction j with
  | zero => have : i = 0 := by omega
            subst this; exact Nat.le_refl _
  | succ j ih =>
    by_cases q : i = j + 1
    · subst q; exact Nat.le_refl _
    · have := ih (by omega) (by omega)
      rw [bg_succ (by omega)]; omega
def prow (i n : Nat) : List (Int × Int × Bool) := (List.range (n + 1)).map fun (k : Nat) => ((i : Int), (k : Int), decide (k = n))
def allN (X : List Blk) : Nat → List (Int × Int × Bool)
  | 0 => []
  | i + 1 => allN X i ++ prow i (X.getD i ([], 0, 0, 0, [], [], [])).1.length
theorem getD_eq {α : Type} {l : List α} {k : Nat} {d : α} (hk : k < l.length) : l.getD k d = l[k] := by simp [List.getD, hk]
theorem allN_len (X : List Blk) : ∀ i, i ≤ X.length → (allN X i).length = bg X i
  | 0, _ => by simp [allN, bg, stm]
  | i + 1, h => by
    have ih := allN_len X i (by omega)
    rw [bg_succ (by omega)]
    simp only [allN, List.length_append, ih, prow, List.length_map, List.length_range, getD_eq (show i < X.length by omega)]; omega
theorem allN_get (X : List Blk) : ∀ i, i ≤ X.length → ∀ j k, j < i → (hj : j < X.length) → k ≤ X[j].1.length → (allN X i)[bg X j + k]? = some ((j : Int), (k : Int), decide (k = X[j].1.length))
  | 0, _, j, k, h, _, _ => by omega
  | i + 1, h, j, k, hji, hj, hk => by
    have hl := allN_len X i (by omega)
    unfold allN
    by_cases q : j = i
    · subst q
      rw [List.getElem?_append_right (by omega), hl, Nat.add_sub_cancel_left, getD_eq hj]
      unfold prow
      rw [List.getElem?_map, List.getElem?_range (by omega)]; rfl
    · have h1 := bg_mono X (i := j + 1) (j := i) (by omega) (by omega)
      rw [bg_succ hj] at h1
      rw [List.getElem?_append_left (by omega)]
      exact allN_get X i (by omega) j k (by omega) hj hk
abbrev alls (X : List Blk) : List (Int × Int × Bool) := allN X X.length
theorem alls_len (X : List Blk) : (alls X).length = bg X X.length := allN_len X _ (Nat.le_refl _)
theorem alls_get (X : List Blk) {j k : Nat} (hj : j < X.length) (hk : k ≤ X[j].1.length) : (alls X)[bg X j + k]? = some ((j : Int), (k : Int), decide (k = X[j].1.length)) := allN_get X _ (Nat.le_refl _) j k hj hj hk
/-- Each point is in a block. -/
theorem locate (X : List Blk) : ∀ i, i ≤ X.length → ∀ n, n < bg X i → ∃ j k, ∃ hj : j < X.length, k ≤ X[j].1.length ∧ n = bg X j + k ∧ j < i
  | 0, _, n, h => by simp [bg, stm] at h
  | i + 1, h, n, hn => by
    rw [bg_succ (show i < X.length by omega)] at hn
    by_cases q : n < bg X i
    · obtain ⟨j, k, hj, h1, h2, h3⟩ := locate X i (by omega) n q
      exact ⟨j, k, hj, h1, h2, by omega⟩
    · exact ⟨i, n - bg X i, by omega, by omega, by omega, by omega⟩
theorem bg_bound {b : Bo} (h : Sm b) {k : Nat} (hk : k ≤ b.2.2.2.2.2.2.length) : bg b.2.2.2.2.2.2 k ≤ 32 := by
  have a2 := sum_take (fun x : Blk => x.1.length) b.2.2.2.2.2.2 k
  have a3 : stm (b.2.2.2.2.2.2.take k) ≤ stm b.2.2.2.2.2.2 := a2
  have := h.many
  have := h.blocks
  unfold bg; omega
/-- The blocks that count: none, where the body is not well-formed. -/
noncomputable def xs (b : Bo) : List Blk := if (vck b).1 = 0 then b.2.2.2.2.2.2 else []
theorem xs_bound {b : Bo} (h : Sm b) {k : Nat} (hk : k ≤ (xs b).length) : bg (xs b) k ≤ 32 ∧ (xs b).length ≤ 8 := by
  unfold xs at *
  split
  · rename_i q; rw [if_pos q] at hk; exact ⟨bg_bound h hk, h.blocks⟩
  · rename_i q; rw [if_neg q] at hk
    obtain rfl : k = 0 := by simpa using hk
    simp [bg, stm]
theorem refAll_eq {b : Bo} (h : Sm b) : fn_ref22_All b = some (alls (xs b)) := by
  unfold fn_ref22_All fn_ref21_OK
  rw [show fn_ref21_Check (b.1, b.2.1, b.2.2.1, b.2.2.2.1, b.2.2.2.2.1, b.2.2.2.2.2.1, b.2.2.2.2.2.2) = _ from refVCheck_eq h]
  simp only [Option.bind_some]
  unfold xs
  by_cases q : (vck b).1 = 0
  · have h1 := h.blocks
    rw [decide_eq_true q, Bool.not_true, cond_false, if_pos q]
    have hl := loop_nat (body := fn_ref22_All_l2 b) (fun k : Nat => (allN b.2.2.2.2.2.2 k, (k : Int))) b.2.2.2.2.2.2.length (b := alls b.2.2.2.2.2.2) ?_ ?_
    · rw [show loop (fn_ref22_All_l2 b) ([], 0) = _ from hl]; rfl
    · intro k hk
      have a1 := bg_bound h (k := k) (by omega)
      have a2 := bg_bound h (k := k + 1) (by omega)
      have a3 := bg_succ hk
      have a4 := allN_len b.2.2.2.2.2.2 k (by omega)
      unfold fn_ref22_All_l2
      simp only [dlt hk, cond_true, getN hk, Option.bind_some]
      have hin := loop_nat (body := fn_ref22_All_l1 (k : Int) b.2.2.2.2.2.2[k]) (fun j : Nat => (allN b.2.2.2.2.2.2 k ++ (List.range j).map (fun (i : Nat) => ((k : Int), (i : Int), decide (i = b.2.2.2.2.2.2[k].1.length))), (j : Int))) (b.2.2.2.2.2.2[k].1.length + 1) (b := allN b.2.2.2.2.2.2 k ++ prow k b.2.2.2.2.2.2[k].1.length) ?_ ?_
      · have hin' : loop (fn_ref22_All_l1 (k : Int) b.2.2.2.2.2.2[k]) (allN b.2.2.2.2.2.2 k, 0) = some (allN b.2.2.2.2.2.2 k ++ prow k b.2.2.2.2.2.2[k].1.length) := by simpa using hin
        rw [hin', Option.bind_some, w64s hk (by omega)]
        simp only [allN, getD_eq hk]
      · intro j hj
        unfold fn_ref22_All_l1
        dsimp only
        rw [decide_eq_true (by omega), cond_true, app_eq (by simp; omega), Option.bind_some, w64 (by omega) (by omega), List.range_succ, List.map_append]
        have e : decide ((j : Int) = ((b.2.2.2.2.2.2[k].1.length : Nat) : Int)) = decide (j = b.2.2.2.2.2.2[k].1.length) := by
          by_cases c : j = b.2.2.2.2.2.2[k].1.length <;> simp [c] <;> omega
        rw [e]
        simp
      · unfold fn_ref22_All_l1
        dsimp only
        rw [decide_eq_false (by omega)]
        rfl
    · unfold fn_ref22_All_l2
      simp
  · rw [decide_eq_false q, if_neg q]; rfl
theorem refOf_eq {X : List Blk} (hb : bg X X.length ≤ 100000) {j k : Nat} (hj : j < X.length) (hk : k ≤ X[j].1.length) : fn_ref22_Of (alls X) (j : Int) (k : Int) = some (((bg X j + k : Nat) : Int), true) := by
  have h1 := bg_mono X (i := j + 1) (j := X.length) hj (Nat.le_refl _)
  have h2 := bg_succ hj
  have hl := alls_len X
  unfold fn_ref22_Of
  have key := loop_find (body := fn_ref22_Of_l1 (alls X) (j : Int) (k : Int)) (fun n => n = bg X j + k) (fun n : Nat => (n : Int)) (alls X).length (fun n => .inr ((n : Int), true)) (.inl ()) ?_ ?_ ?_
  · rcases key with ⟨n, _, rfl, _, h4⟩ | ⟨h3, _⟩
    · rw [show (0 : Int) = ((0 : Nat) : Int) from rfl, h4]; rfl
    · exact absurd rfl (h3 (bg X j + k) (by omega))
  · intro n hn hp
    obtain ⟨i, m, hi, hm, rfl, _⟩ := locate X X.length (Nat.le_refl _) n (by omega)
    have hg := alls_get X hi hm
    rw [List.getElem?_eq_getElem hn] at hg
    unfold fn_ref22_Of_l1
    simp only [dlt hn, cond_true, getN hn, Option.bind_some, Option.some.inj hg, w64s hn (by omega : (alls X).length ≤ 9223372036854775807)]
    by_cases c1 : i = j
    · subst c1
      have c2 : ¬ m = k := fun e => hp (by rw [e])
      have : ¬ (m : Int) = (k : Int) := by omega
      simp [this]
    · have : ¬ (i : Int) = (j : Int) := by omega
      simp [this]
  · rintro n hn rfl
    have hg := alls_get X hj hk
    rw [List.getElem?_eq_getElem hn] at hg
    unfold fn_ref22_Of_l1
    simp only [dlt hn, cond_true, getN hn, Option.bind_some, Option.some.inj hg]
    simp
  · unfold fn_ref22_Of_l1; simp
end Go.Proofs.YthoclljhjcfemaaGreat
namespace Go.Proofs.YthoclljhjcfemaaGreat
open Go.RowKit Nu
set_option linter.unusedVariables false
set_option linter.unnecessarySimpa false
set_option linter.unusedSimpArgs false
instance dPv4 : DecidableEq (Int × Bool) := instDecidableEqProd
instance dPv3 : DecidableEq (Int × Int × Bool) := instDecidableEqProd
instance dPv2 : DecidableEq (Int × Int × Int × Bool) := instDecidableEqProd
instance dPv : DecidableEq Pv := (instDecidableEqProd : DecidableEq (Int × Int × Int × Int × Bool))
instance dEg1 : DecidableEq (Int × Pv) := instDecidableEqProd
instance dEg : DecidableEq Eg := (instDecidableEqProd : DecidableEq (Int × Int × Pv))
theorem or0_zero {a b : Flt} (h : (or0 a b).1 = 0) : a.1 = 0 ∧ b.1 = 0 := by
  unfold or0 at h; split at h
  · rename_i q; exact ⟨q, h⟩
  · rename_i q; exact absurd h q
/-- What a body that is well-formed has. -/
theorem vck_zero {b : Bo} (h : (vck b).1 = 0) : 1 ≤ b.1 ∧ b.1 ≤ b.2.1 ∧ b.2.1 ≤ 65536 ∧ (∀ t ∈ b.2.2.2.1, rin b.2.1 t = false) ∧ rin b.1 b.2.2.2.2.1 = false := by
  unfold vck at h
  obtain ⟨h1, h⟩ := or0_zero h
  obtain ⟨h2, h⟩ := or0_zero h
  obtain ⟨h3, h⟩ := or0_zero h
  obtain ⟨h4, h⟩ := or0_zero h
  have a1 : ¬ (b.1 < 1 ∨ b.2.1 < b.1) := fun q => by unfold vHead at h1; rw [if_pos q] at h1; simp at h1
  have a2 : ¬ 65536 < b.2.1 := fun q => by unfold vHead at h1; rw [if_neg a1, if_pos q] at h1; simp at h1
  have a3 : ∀ t ∈ b.2.2.2.1, rck b.2.1 t = 0 := by
    unfold vLoc at h3
    split at h3
    · simp at h3
    · cases hq : b.2.2.2.1.findIdx? (fun t => !decide (rck b.2.1 t = 0)) with
      | none =>
        intro t ht
        have := List.findIdx?_eq_none_iff.1 hq t ht
        simpa using this
      | some k =>
        rw [hq] at h3
        obtain ⟨hk, hc, _⟩ := List.findIdx?_eq_some_iff_getElem.1 hq
        have e : b.2.2.2.1.getD k [] = b.2.2.2.1[k] := by simp [List.getD, hk]
        simp only [e] at h3
        simp [h3] at hc
  have a4 : rck b.1 b.2.2.2.2.1 = 0 := by
    unfold vRet at h4
    by_cases q : rck b.1 b.2.2.2.2.1 = 0
    · exact q
    · rw [if_neg q] at h4; exact absurd h4 q
  exact ⟨by omega, by omega, by omega, fun t ht => (rck_zero (a3 t ht)).2, (rck_zero a4).2⟩
theorem rin_le {m n : Int} {t : List St} (h : rin m t = false) (hl : m ≤ n) : rin n t = false := rin_of fun x hx => by have := rin_mem h hx; omega
/-- What the statement, or the terminator, at a place of a block needs. -/
noncomputable def nds (b : Bo) (x : Blk) (k : Nat) : List Nd :=
  if h : k < x.1.length then ((fn_ref18_Needs x.1[k] b.2.2.2.1 b.2.1).getD ([], 0)).1 else ((fn_ref19_Needs x.2 (arOf b)).getD ([], 0)).1
theorem nds_stmt {b : Bo} (h : Sm b) {x : Blk} {k : Nat} (hk : k < x.1.length) : ∃ e, fn_stmt_Needs x.1[k] b.2.2.2.1 b.2.1 = some (nds b x k, e) ∧ fn_ref18_Needs x.1[k] b.2.2.2.1 b.2.1 = some (nds b x k, e) ∧ (nds b x k).length ≤ 1000 ∧ ((∀ t ∈ b.2.2.2.1, rin b.2.1 t = false) → ∀ n ∈ nds b x k, Gd b.2.1 n) := by
  obtain ⟨l, e, h1, h2, h3, h4⟩ := stmtNeeds_eq x.1[k] b.2.2.2.1 b.2.1 h.loc
  have : nds b x k = l := by unfold nds; rw [dif_pos hk, h2]; rfl
  rw [this]; exact ⟨e, h1, h2, h3, h4⟩
theorem nds_term {b : Bo} (h : Sm b) {x : Blk} (hx : x ∈ b.2.2.2.2.2.2) {k : Nat} (hk : ¬ k < x.1.length) : ∃ e, fn_term_Needs x.2 (arOf b) = some (nds b x k, e) ∧ fn_ref19_Needs x.2 (arOf b) = some (nds b x k, e) ∧ (nds b x k).length ≤ 1000000 ∧ ((0 < b.2.1 ∧ (∀ t ∈ b.2.2.2.1, rin b.2.1 t = false) ∧ rin b.2.1 b.2.2.2.2.1 = false) → ∀ n ∈ nds b x k, Gd b.2.1 n) := by
  obtain ⟨a1, a2, a3⟩ := h.term x hx
  obtain ⟨l, e, h1, h2, h3, h4⟩ := needs19 x.2 (arOf b) a1 a2 a3 h.ret h.loc h.sig
  have : nds b x k = l := by unfold nds; rw [dif_neg hk, h2]; rfl
  rw [this]; exact ⟨e, h1, h2, h3, h4⟩
def edge1 (j k : Int) (n : Nd) : Eg := (n.1, n.2.1, (j, k, n.2.2.1, n.2.2.2.1, n.2.2.2.2))
noncomputable def egs (b : Bo) (x : Blk) (j k : Nat) : List Eg := (nds b x k).map (edge1 j k)
theorem xs_mem {b : Bo} {j : Nat} (hj : j < (xs b).length) : (vck b).1 = 0 ∧ ∃ hj' : j < b.2.2.2.2.2.2.length, (xs b)[j] = b.2.2.2.2.2.2[j] := by
  have h : (vck b).1 = 0 := by
    by_cases q : (vck b).1 = 0
    · exact q
    · have : xs b = [] := by unfold xs; rw [if_neg q]
      rw [this] at hj; simp at hj
  have e : xs b = b.2.2.2.2.2.2 := by unfold xs; rw [if_pos h]
  exact ⟨h, by rw [← e]; exact hj, by simp only [e]⟩
theorem egs_len {b : Bo} (h : Sm b) {j k : Nat} (hj : j < (xs b).length) : (egs b (xs b)[j] j k).length ≤ 1000000 ∧ (∀ e ∈ egs b (xs b)[j] j k, 0 ≤ e.1 ∧ e.1 < b.2.1 ∧ 0 ≤ e.2.1 ∧ e.2.1 < b.2.1 ∧ e.2.2.1 = (j : Int) ∧ e.2.2.2.1 = (k : Int) ∧ 1 ≤ e.2.2.2.2.1 ∧ e.2.2.2.2.1 ≤ 7 ∧ 0 ≤ e.2.2.2.2.2.1 ∧ e.2.2.2.2.2.1 ≤ 1000000) := by
  obtain ⟨hv, hj', he⟩ := xs_mem hj
  obtain ⟨v1, v2, v3, v4, v5⟩ := vck_zero hv
  rw [he]
  have hm := List.getElem_mem hj'
  generalize b.2.2.2.2.2.2[j] = x at hm ⊢
  have key : (nds b x k).length ≤ 1000000 ∧ ∀ n ∈ nds b x k, Gd b.2.1 n := by
    by_cases hk : k < x.1.length
    · obtain ⟨e, _, _, h3, h4⟩ := nds_stmt h hk
      exact ⟨by omega, h4 v4⟩
    · obtain ⟨e, _, _, h3, h4⟩ := nds_term h hm hk
      exact ⟨h3, h4 ⟨by omega, v4, rin_le v5 v2⟩⟩
  refine ⟨by unfold egs; simpa using key.1, fun e he => ?_⟩
  obtain ⟨n, hn, rfl⟩ := List.mem_map.1 he
  obtain ⟨g1, g2, g3, g4⟩ := key.2 n hn
  exact ⟨g1.1, g1.2, g2.1, g2.2, rfl, rfl, g3.1, g3.2, g4.1, g4.2⟩
/-- All constraints, up to a point. -/
noncomputable def egN (b : Bo) (n : Nat) : List Eg := match (alls (xs b))[n]? with | some p => egs b ((xs b).getD p.1.toNat ([], 0, 0, 0, [], [], [])) p.1.toNat p.2.1.toNat | none => []
noncomputable def egF (b : Bo) : Nat → List Eg
  | 0 => []
  | n + 1 => egF b n ++ egN b n
theorem egN_at {b : Bo} {j k : Nat} (hj : j < (xs b).length) (hk : k ≤ (xs b)[j].1.length) : egN b (bg (xs b) j + k) = egs b (xs b)[j] j k := by
  unfold egN
  rw [alls_get (xs b) hj hk]
  simp only [Int.toNat_natCast]
  rw [getD_eq hj]
theorem egN_good {b : Bo} (h : Sm b) (n : Nat) : (egN b n).length ≤ 1000000 ∧ ∀ e ∈ egN b n, 0 ≤ e.1 ∧ e.1 < b.2.1 ∧ 0 ≤ e.2.1 ∧ e.2.1 < b.2.1 ∧ 0 ≤ e.2.2.1 ∧ e.2.2.1 ≤ 1000000 ∧ 0 ≤ e.2.2.2.1 ∧ e.2.2.2.1 ≤ 1000000 ∧ 1 ≤ e.2.2.2.2.1 ∧ e.2.2.2.2.1 ≤ 7 ∧ 0 ≤ e.2.2.2.2.2.1 ∧ e.2.2.2.2.2.1 ≤ 1000000 ∧ b.2.1 ≤ 65536 := by
  by_cases hn : n < bg (xs b) (xs b).length
  · obtain ⟨j, k, hj, hk, rfl, _⟩ := locate (xs b) (xs b).length (Nat.le_refl _) n hn
    rw [egN_at hj hk]
    have h1 := egs_len h (k := k) hj
    obtain ⟨b1, b2⟩ := xs_bound h (Nat.le_refl _)
    have b3 := bg_mono (xs b) (i := j + 1) (j := (xs b).length) hj (Nat.le_refl _)
    rw [bg_succ hj] at b3
    refine ⟨h1.1, fun e he => ?_⟩
    obtain ⟨c1, c2, c3, c4, c5, c6, c7, c8, c9, c10⟩ := h1.2 e he
    obtain ⟨_, _, v3, _⟩ := vck_zero (xs_mem hj).1
    exact ⟨c1, c2, c3, c4, by omega, by omega, by omega, by omega, c7, c8, c9, c10, v3⟩
  · have : (alls (xs b))[n]? = none := List.getElem?_eq_none (by rw [alls_len]; omega)
    have e : egN b n = [] := by unfold egN; rw [this]
    rw [e]; simp
theorem egF_good {b : Bo} (h : Sm b) : ∀ n, (egF b n).length ≤ n * 1000000 ∧ ∀ e ∈ egF b n, 0 ≤ e.1 ∧ e.1 < b.2.1 ∧ 0 ≤ e.2.1 ∧ e.2.1 < b.2.1 ∧ 0 ≤ e.2.2.1 ∧ e.2.2.1 ≤ 1000000 ∧ 0 ≤ e.2.2.2.1 ∧ e.2.2.2.1 ≤ 1000000 ∧ 1 ≤ e.2.2.2.2.1 ∧ e.2.2.2.2.1 ≤ 7 ∧ 0 ≤ e.2.2.2.2.2.1 ∧ e.2.2.2.2.2.1 ≤ 1000000 ∧ b.2.1 ≤ 65536
  | 0 => by simp [egF]
  | n + 1 => by
    obtain ⟨a1, a2⟩ := egF_good h n
    obtain ⟨b1, b2⟩ := egN_good h n
    refine ⟨by simp only [egF, List.length_append]; omega, fun e he => ?_⟩
    rcases List.mem_append.1 he with he | he
    · exact a2 e he
    · exact b2 e he
noncomputable def egA (b : Bo) : List Eg := egF b (bg (xs b) (xs b).length)
theorem egA_len {b : Bo} (h : Sm b) : (egA b).length ≤ 32000000 := by
  have := (egF_good h (bg (xs b) (xs b).length)).1
  have := (xs_bound h (Nat.le_refl _)).1
  unfold egA; omega
theorem ref27At_eq {b : Bo} (h : Sm b) {j k : Nat} (hj : j < (xs b).length) (hk : k ≤ (xs b)[j].1.length) : fn_ref27_At b ((j : Int), (k : Int), decide (k = (xs b)[j].1.length)) = some (egs b (xs b)[j] j k) := by
  have hl := (egs_len h (k := k) hj).1
  obtain ⟨hv, hj', he⟩ := xs_mem hj
  rw [he] at hk hl ⊢
  have hm := List.getElem_mem hj'
  unfold fn_ref27_At
  simp only [getN hj', Option.bind_some]
  generalize b.2.2.2.2.2.2[j] = x at hk hm hl ⊢
  have hloop : ∀ (p : Int × Int × Bool) (l : List Nd), l.length ≤ 1000000 → loop (fn_ref27_At_l1 p l) ([], 0) = some (l.map (edge1 p.1 p.2.1)) := by
    intro p l hl
    have := loop_map l (edge1 p.1 p.2.1) [] (by simp; omega) (body := fn_ref27_At_l1 p l) (fun c i => by
      unfold fn_ref27_At_l1
      dsimp only
      cases hg : getI l i with
      | none => cases decide (i < ((l.length : Nat) : Int)) <;> rfl
      | some y => rfl)
    simpa using this
  unfold egs at hl
  rw [List.length_map] at hl
  by_cases q : k = x.1.length
  · obtain ⟨e, _, h1, _⟩ := nds_term h hm (k := k) (by omega)
    simp only [q, decide_true, cond_true]
    simp only [← q]
    simp only [show fn_ref19_Needs (x.2.1, x.2.2.1, x.2.2.2.1, x.2.2.2.2.1, x.2.2.2.2.2.1, x.2.2.2.2.2.2) (((b.2.2.2.2.2.2.length : Nat) : Int), b.2.1, b.2.2.2.1, b.2.2.2.2.1, b.2.2.2.2.2.1) = _ from h1, Option.bind_some, hloop _ _ hl]
    rfl
  · have q' : k < x.1.length := by omega
    obtain ⟨e, _, h1, _⟩ := nds_stmt h q'
    simp only [q, decide_false, cond_false, getN q', Option.bind_some, show fn_ref18_Needs (x.1[k].1, x.1[k].2.1, x.1[k].2.2.1, x.1[k].2.2.2.1, x.1[k].2.2.2.2) b.2.2.2.1 b.2.1 = _ from h1, hloop _ _ hl]
    rfl
theorem ref27Of_eq {b : Bo} (h : Sm b) : fn_ref27_Of b = some (egA b) := by
  obtain ⟨b1, b2⟩ := xs_bound h (Nat.le_refl _)
  have hl := alls_len (xs b)
  unfold fn_ref27_Of
  rw [show fn_ref22_All (b.1, b.2.1, b.2.2.1, b.2.2.2.1, b.2.2.2.2.1, b.2.2.2.2.2.1, b.2.2.2.2.2.2) = _ from refAll_eq h, Option.bind_some]
  have key := loop_nat (body := fn_ref27_Of_l1 b (alls (xs b))) (fun k : Nat => (egF b k, (k : Int))) (bg (xs b) (xs b).length) (b := egA b) ?_ ?_
  · have key' : loop (fn_ref27_Of_l1 b (alls (xs b))) ([], 0) = some (egA b) := key
    rw [key']; rfl
  · intro n hn
    have l1 := (egF_good h n).1
    have l2 := (egN_good h n).1
    obtain ⟨j, k, hj, hk, rfl, _⟩ := locate (xs b) (xs b).length (Nat.le_refl _) n hn
    have hg := alls_get (xs b) hj hk
    have hn' : bg (xs b) j + k < (alls (xs b)).length := by omega
    rw [List.getElem?_eq_getElem hn'] at hg
    have hg' := Option.some.inj hg
    unfold fn_ref27_Of_l1
    simp only [dlt hn', cond_true, getN hn', Option.bind_some, hg', show fn_ref27_At (b.1, b.2.1, b.2.2.1, b.2.2.2.1, b.2.2.2.2.1, b.2.2.2.2.2.1, b.2.2.2.2.2.2) ((j : Int), (k : Int), decide (k = (xs b)[j].1.length)) = _ from ref27At_eq h hj hk]
    rw [egN_at hj hk] at l2
    rw [app_eq (by omega), Option.bind_some, w64s hn (by omega)]
    show some (Sum.inl (egF b (bg (xs b) j + k) ++ _, _)) = some (Sum.inl (egF b (bg (xs b) j + k) ++ egN b (bg (xs b) j + k), _))
    rw [egN_at hj hk]
  · unfold fn_ref27_Of_l1
    simp only [hl, dge (show ¬ bg (xs b) (xs b).length < bg (xs b) (xs b).length by omega), cond_false]
    rfl
end Go.Proofs.YthoclljhjcfemaaGreat
namespace Go.Proofs.YthoclljhjcfemaaGreat
open Go.RowKit
set_option linter.unusedVariables false
set_option linter.unnecessarySimpa false
set_option linter.unusedSimpArgs false
set_option maxRecDepth 20000
theorem refBounds_eq (xa xb : List (Int × Int)) (hn : xa.length ≤ 1073741824) : fn_ref17_Bounds xa xb = some (decide (xa = xb)) := by
  unfold fn_ref17_Bounds
  by_cases hl : xa.length = xb.length
  · rw [dlen hl, cond_false, loop_alike (body := fn_ref17_Bounds_l1 xa xb) xa xb (.inr false) (.inl ()) hl ?_ ?_]
    · by_cases h : xa = xb <;> simp [h]
    · intro k hk
      have h2 : k < xb.length := by omega
      unfold fn_ref17_Bounds_l1
      simp only [dlt hk, cond_true, getN hk, getN h2, Option.bind_some, w64s hk (by omega : xa.length ≤ 9223372036854775807)]
      generalize xa[k] = a
      generalize xb[k] = b
      obtain ⟨a1, a2⟩ := a
      obtain ⟨b1, b2⟩ := b
      by_cases q : a1 = b1 <;> by_cases q2 : a2 = b2 <;> simp [q, q2]
    · simp [fn_ref17_Bounds_l1]
  · rw [dlen' hl, cond_true]
    have : ¬ xa = xb := fun h => hl (by rw [h])
    simp [this]
section
variable {N : Nat} {E : ArG}
/-- Those that one outlives, among the first. -/
noncomputable def seg (U N : Nat) (E : ArG) (k : Nat) : List (Int × Int) := ((List.range U).filter (fun w => decide (w ≠ k) && decide (w ∈ rl N E k))).map (fun w : Nat => ((k : Int), (w : Int)))
noncomputable def acc (U N : Nat) (E : ArG) : Nat → List (Int × Int)
  | 0 => []
  | n + 1 => acc U N E n ++ seg U N E n
theorem seg_len (U : Nat) (k : Nat) : (seg U N E k).length ≤ U := by
  unfold seg; rw [List.length_map]
  exact Nat.le_trans (List.length_filter_le ..) (by simp)
theorem acc_len (U : Nat) : ∀ n, (acc U N E n).length ≤ n * U
  | 0 => by simp [acc]
  | n + 1 => by
    have := acc_len U n
    have h2 := seg_len (N := N) (E := E) U n
    simp only [acc, List.length_append, Nat.succ_mul]; omega
theorem refl1 {U : Nat} {u : Int} {k : Nat} (hU : (if (N : Int) < u then (N : Int) else u) = (U : Int)) (hUN : U ≤ N) (hN : N ≤ 1000) (M : List Nat) (A : List (Int × Int)) (hA : A.length ≤ 1000000) (b : List (Int × Int) × List (List (Int × Bool)) × List (Int × Bool) × List (Int × List (Int × Int) × List (List (Int × Bool)) × List (Int × Bool)) × List (List (Int × Int × Int × Int × Bool) × Int × Int × Int × List Int × List Int × List Int)) :
    loop (fn_ref30_Outlives_l1 (u, (N : Int), b) (k : Int) (inL N M)) (A, 0) = some (A ++ ((List.range U).filter (fun w => decide (w ≠ k) && decide (w ∈ M))).map (fun w : Nat => ((k : Int), (w : Int)))) := by
  have hlt : ∀ j : Nat, (decide ((j : Int) < u) && decide ((j : Int) < (N : Int))) = decide (j < U) := by
    intro j
    rw [← Bool.decide_and]
    refine decide_eq_decide.2 ?_
    split at hU <;> omega
  have h := loop_nat (body := fn_ref30_Outlives_l1 (u, (N : Int), b) (k : Int) (inL N M)) (fun j : Nat => (A ++ ((List.range j).filter (fun w => decide (w ≠ k) && decide (w ∈ M))).map (fun w : Nat => ((k : Int), (w : Int))), (j : Int))) U (b := A ++ ((List.range U).filter (fun w => decide (w ≠ k) && decide (w ∈ M))).map (fun w : Nat => ((k : Int), (w : Int)))) ?_ ?_
  · simpa using h
  · intro j hj
    have hfl : ((List.range j).filter (fun w => decide (w ≠ k) && decide (w ∈ M))).length ≤ j := by
      have := List.length_filter_le (fun w => decide (w ≠ k) && decide (w ∈ M)) (List.range j)
      simpa using this
    have hg : getI (inL N M) (j : Int) = some (if j ∈ M then (1 : Int) else 0) := getI_map (by omega)
    unfold fn_ref30_Outlives_l1
    dsimp only
    rw [hlt, decide_eq_true hj, cond_true, hg]
    simp only [Option.bind_some]
    have e1 : decide ((j : Int) = (k : Int)) = decide (j = k) := decide_eq_decide.2 (by omega)
    rw [e1, List.range_succ, List.filter_append, List.map_append, w64s hj (by omega)]
    by_cases c1 : j = k
    · rw [decide_eq_true c1, Bool.not_true, cond_false, Option.bind_some, cond_false]
      simp [c1]
    · rw [decide_eq_false c1, Bool.not_false, cond_true, Option.bind_some]
      by_cases c2 : j ∈ M
      · rw [if_pos c2, decide_eq_true rfl, cond_true, app_eq (by rw [List.length_append, List.length_map, List.length_singleton]; omega), Option.bind_some]
        simp [c1, c2]
      · rw [if_neg c2, decide_eq_false (by decide), cond_false]
        simp [c1, c2]
  · unfold fn_ref30_Outlives_l1
    dsimp only
    rw [hlt, decide_eq_false (by omega), cond_false]
theorem refOutlives_eq {U : Nat} {u : Int} {l : List Eg} (b : List (Int × Int) × List (List (Int × Bool)) × List (Int × Bool) × List (Int × List (Int × Int) × List (List (Int × Bool)) × List (Int × Bool)) × List (List (Int × Int × Int × Int × Bool) × Int × Int × Int × List Int × List Int × List Int)) (hl : l.length ≤ 67108864) (hN : N ≤ 100) (hu : u ≤ 100) (hE : arcsOf l = ai E) (hin : inN N E) (hany : (arcsOf l).any (outA (N : Int)) = false) (hU : (if (N : Int) < u then (N : Int) else u) = (U : Int)) (hUN : U ≤ N) :
    fn_ref30_Outlives (u, (N : Int), b) l = some (acc U N E U) := by
  have he : E.length ≤ 67108864 := by have := congrArg List.length hE; rw [ai_len] at this; simp [arcsOf] at this; omega
  have hlt : ∀ j : Nat, (decide ((j : Int) < u) && decide ((j : Int) < (N : Int))) = decide (j < U) := by
    intro j
    rw [← Bool.decide_and]
    refine decide_eq_decide.2 ?_
    split at hU <;> omega
  unfold fn_ref30_Outlives
  rw [refArcs_eq l (by omega), Option.bind_some]
  dsimp only
  rw [Check_eq _ _ (by simp [arcsOf]; omega), if_neg (by omega), if_neg (by omega), hany]
  simp only [Option.bind_some, Bool.false_eq_true, if_false, decide_true, Bool.not_true, cond_false]
  have h := loop_nat (body := fn_ref30_Outlives_l2 (u, (N : Int), b) (arcsOf l)) (fun k : Nat => (acc U N E k, (k : Int))) U (b := acc U N E U) ?_ ?_
  · rw [show loop (fn_ref30_Outlives_l2 (u, (N : Int), b) (arcsOf l)) ([], 0) = _ from h]; rfl
  · intro k hk
    have hk2 : k < N := by omega
    have ha := acc_len (N := N) (E := E) U k
    have ha2 : k * U ≤ 100 * 100 := Nat.mul_le_mul (by omega) (by omega)
    unfold fn_ref30_Outlives_l2
    dsimp only
    rw [hlt, decide_eq_true hk, cond_true, hE, refReach_eq hin (by omega) (by omega) hk2, Option.bind_some, refl1 hU hUN (by omega) _ _ (by omega), Option.bind_some, w64s hk (by omega)]
    rfl
  · unfold fn_ref30_Outlives_l2
    dsimp only
    rw [hlt, decide_eq_false (by omega), cond_false]
end
end Go.Proofs.YthoclljhjcfemaaGreat
namespace Go.Proofs.YthoclljhjcfemaaGreat
open Go.RowKit
set_option linter.unusedVariables false
set_option linter.unusedSimpArgs false
set_option linter.unnecessarySimpa false
/-- A square of rows, with ones on the diagonal. -/
def Sq (U : Nat) (M : List (List Int)) : Prop := M.length = U ∧ ∀ a (h : a < M.length), M[a].length = U ∧ M[a][a]? = some 1
def zr (M : List (List Int)) : Nat := (M.map fun r => r.count 0).sum
theorem chkI_self (i : Int) : chkI i i = some () := by unfold chkI; simp
theorem count_set {r : List Int} {c : Nat} (h : c < r.length) (h0 : r[c] = 0) : (r.set c 1).count 0 + 1 = r.count 0 := by
  rw [List.count_set h]
  have : 0 < r.count 0 := List.count_pos_iff.2 (h0 ▸ List.getElem_mem h)
  simp [h0]
  omega
theorem sum_set : ∀ {l : List Nat} {a : Nat} (h : a < l.length) {n : Nat}, n + 1 = l[a] → (l.set a n).sum + 1 = l.sum
  | [], a, h, n, e => by cases h
  | x :: l, 0, h, n, e => by simp at e ⊢; omega
  | x :: l, a + 1, h, n, e => by
    have := sum_set (l := l) (a := a) (by simpa using h) (n := n) (by simpa using e)
    simp only [List.set_cons_succ, List.sum_cons]; omega
theorem zr_set {M : List (List Int)} {a c : Nat} (h : a < M.length) (hc : c < M[a].length) (h0 : M[a][c] = 0) : zr (M.set a (M[a].set c 1)) + 1 = zr M := by
  unfold zr
  rw [List.map_set]
  refine sum_set (by simpa using h) ?_
  rw [List.getElem_map]
  exact count_set hc h0
theorem Sq.set {U : Nat} {M : List (List Int)} (hs : Sq U M) {a c : Nat} (h : a < M.length) : Sq U (M.set a (M[a].set c 1)) := by
  refine ⟨by rw [List.length_set]; exact hs.1, fun q hq => ?_⟩
  rw [List.length_set] at hq
  obtain ⟨q1, q2⟩ := hs.2 q hq
  obtain ⟨r1, r2⟩ := hs.2 a h
  by_cases e : a = q
  · subst e
    rw [List.getElem_set_self]
    refine ⟨by rw [List.length_set]; exact q1, ?_⟩
    by_cases e2 : c = a
    · subst e2
      have : c < M[c].length := by rw [q1, ← hs.1]; exact h
      simp [this]
    · rw [List.getElem?_set_ne e2]; exact q2
  · rw [List.getElem_set_ne e]
    exact ⟨q1, q2⟩
theorem of31_l4 {U : Nat} (hU : U ≤ 65536) {a b : Nat} (ha : a < U) (hb : b < U) {t0 : Bool} {M0 : List (List Int)} (h0 : Sq U M0) :
    ∃ r, loop (fn_ref31_Of_l4 (U : Int) (a : Int) (b : Int)) (t0, 0, M0) = some r ∧ Sq U r.2 ∧ zr r.2 ≤ zr M0 ∧ (r.1 = true → t0 = true ∨ zr r.2 < zr M0) := by
  refine loop_inv (body := fn_ref31_Of_l4 (U : Int) (a : Int) (b : Int)) (fun s => ∃ c : Nat, s.2.1 = (c : Int) ∧ c ≤ U ∧ Sq U s.2.2 ∧ zr s.2.2 ≤ zr M0 ∧ (s.1 = true → t0 = true ∨ zr s.2.2 < zr M0)) (fun s => U - s.2.1.toNat) ?_ ⟨0, rfl, Nat.zero_le _, h0, Nat.le_refl _, fun h => .inl h⟩
  rintro ⟨t, i, M⟩ ⟨c, rfl, hc, hM, hz, ht⟩
  dsimp only at hM hz ht ⊢
  unfold fn_ref31_Of_l4
  dsimp only
  by_cases hcU : c < U
  · left
    have la : a < M.length := by rw [hM.1]; exact ha
    have lb : b < M.length := by rw [hM.1]; exact hb
    have lc : c < M[a].length := by rw [(hM.2 a la).1]; exact hcU
    have lab : b < M[a].length := by rw [(hM.2 a la).1]; exact hb
    have lbc : c < M[b].length := by rw [(hM.2 b lb).1]; exact hcU
    have sa : M.set a M[a] = M := List.set_getElem_self la
    have sb : M.set b M[b] = M := List.set_getElem_self lb
    have dn : ∀ k : Nat, k = c + 1 → U - k < U - c := fun k e => by omega
    rw [dlt hcU, cond_true, getN la]
    simp only [Option.bind_some, chkI_self, Int.toNat_natCast, getN lab, getN lc, getN lb, getN lbc, sa, sb, getN la, w64s hcU (by omega : U ≤ 9223372036854775807)]
    by_cases g1 : M[a][b] = 1
    · rw [decide_eq_true g1, cond_true]
      by_cases g2 : M[b][c] = 1
      · rw [decide_eq_true g2, cond_true]
        by_cases g3 : M[a][c] = 0
        · rw [decide_eq_true g3, cond_true]
          have hzz := zr_set la lc g3
          exact ⟨_, rfl, ⟨c + 1, rfl, by omega, hM.set la, by dsimp only; omega, fun _ => .inr (by dsimp only; omega)⟩, by dsimp only; omega⟩
        · rw [decide_eq_false g3, cond_false]
          exact ⟨_, rfl, ⟨c + 1, rfl, by omega, hM, hz, ht⟩, by dsimp only; omega⟩
      · rw [decide_eq_false g2, cond_false]
        exact ⟨_, rfl, ⟨c + 1, rfl, by omega, hM, hz, ht⟩, by dsimp only; omega⟩
    · rw [decide_eq_false g1, cond_false]
      exact ⟨_, rfl, ⟨c + 1, rfl, by omega, hM, hz, ht⟩, by dsimp only; omega⟩
  · right
    rw [dge hcU, cond_false]
    exact ⟨_, rfl, hM, hz, ht⟩
theorem of31_l5 {U : Nat} (hU : U ≤ 65536) {a : Nat} (ha : a < U) {t0 : Bool} {M0 : List (List Int)} (h0 : Sq U M0) :
    ∃ r, loop (fn_ref31_Of_l5 (U : Int) (a : Int)) (t0, 0, M0) = some r ∧ Sq U r.2 ∧ zr r.2 ≤ zr M0 ∧ (r.1 = true → t0 = true ∨ zr r.2 < zr M0) := by
  refine loop_inv (body := fn_ref31_Of_l5 (U : Int) (a : Int)) (fun s => ∃ c : Nat, s.2.1 = (c : Int) ∧ c ≤ U ∧ Sq U s.2.2 ∧ zr s.2.2 ≤ zr M0 ∧ (s.1 = true → t0 = true ∨ zr s.2.2 < zr M0)) (fun s => U - s.2.1.toNat) ?_ ⟨0, rfl, Nat.zero_le _, h0, Nat.le_refl _, fun h => .inl h⟩
  rintro ⟨t, i, M⟩ ⟨c, rfl, hc, hM, hz, ht⟩
  dsimp only at hM hz ht ⊢
  unfold fn_ref31_Of_l5
  dsimp only
  by_cases hcU : c < U
  · left
    obtain ⟨⟨t1, M1⟩, e, m1, m2, m3⟩ := of31_l4 hU ha hcU (t0 := t) hM
    dsimp only at m1 m2 m3
    rw [dlt hcU, cond_true, e]
    simp only [Option.bind_some, w64s hcU (by omega : U ≤ 9223372036854775807)]
    refine ⟨_, rfl, ⟨c + 1, rfl, by omega, m1, by dsimp only; omega, fun h => ?_⟩, by dsimp only; rw [Int.toNat_natCast, Int.toNat_natCast]; omega⟩
    dsimp only at h ⊢
    rcases m3 h with h | h
    · rcases ht h with h | h
      · exact .inl h
      · exact .inr (by omega)
    · exact .inr (by omega)
  · right
    rw [dge hcU, cond_false]
    exact ⟨_, rfl, hM, hz, ht⟩
theorem of31_l6 {U : Nat} (hU : U ≤ 65536) {M0 : List (List Int)} (h0 : Sq U M0) :
    ∃ r, loop (fn_ref31_Of_l6 (U : Int)) (false, 0, M0) = some r ∧ Sq U r.2 ∧ zr r.2 ≤ zr M0 ∧ (r.1 = true → zr r.2 < zr M0) := by
  refine loop_inv (body := fn_ref31_Of_l6 (U : Int)) (fun s => ∃ c : Nat, s.2.1 = (c : Int) ∧ c ≤ U ∧ Sq U s.2.2 ∧ zr s.2.2 ≤ zr M0 ∧ (s.1 = true → zr s.2.2 < zr M0)) (fun s => U - s.2.1.toNat) ?_ ⟨0, rfl, Nat.zero_le _, h0, Nat.le_refl _, fun h => by cases h⟩
  rintro ⟨t, i, M⟩ ⟨c, rfl, hc, hM, hz, ht⟩
  dsimp only at hM hz ht ⊢
  unfold fn_ref31_Of_l6
  dsimp only
  by_cases hcU : c < U
  · left
    obtain ⟨⟨t1, M1⟩, e, m1, m2, m3⟩ := of31_l5 hU hcU (t0 := t) hM
    dsimp only at m1 m2 m3
    rw [dlt hcU, cond_true, e]
    simp only [Option.bind_some, w64s hcU (by omega : U ≤ 9223372036854775807)]
    refine ⟨_, rfl, ⟨c + 1, rfl, by omega, m1, by dsimp only; omega, fun h => ?_⟩, by dsimp only; rw [Int.toNat_natCast, Int.toNat_natCast]; omega⟩
    dsimp only at h ⊢
    rcases m3 h with h | h
    · have := ht h; omega
    · omega
  · right
    rw [dge hcU, cond_false]
    exact ⟨_, rfl, hM, hz, ht⟩
theorem of31_l7 {U : Nat} (hU : U ≤ 65536) {M0 : List (List Int)} (h0 : Sq U M0) : ∃ M, loop (fn_ref31_Of_l7 (U : Int)) (true, M0) = some M ∧ Sq U M := by
  refine loop_inv (body := fn_ref31_Of_l7 (U : Int)) (fun s => Sq U s.2) (fun s => 2 * zr s.2 + (if s.1 = true then 1 else 0)) ?_ h0
  rintro ⟨t, M⟩ hM
  dsimp only at hM ⊢
  unfold fn_ref31_Of_l7
  dsimp only
  cases t with
  | true =>
    left
    obtain ⟨⟨t1, M1⟩, e, m1, m2, m3⟩ := of31_l6 hU hM
    dsimp only at m1 m2 m3
    rw [cond_true, e]
    refine ⟨_, rfl, m1, ?_⟩
    dsimp only
    cases t1 with
    | true => have := m3 rfl; simp; omega
    | false => simp; omega
  | false => right; exact ⟨_, rfl, hM⟩
theorem of31_l1 (xb : List (Int × Int)) (hb : xb.length ≤ 1000000) (a c v0 : Int) : ∃ v, loop (fn_ref31_Of_l1 xb a c) (v0, 0) = some v ∧ (v0 = 1 → v = 1) := by
  refine loop_inv (body := fn_ref31_Of_l1 xb a c) (fun s => ∃ k : Nat, s.2 = (k : Int) ∧ k ≤ xb.length ∧ (v0 = 1 → s.1 = 1)) (fun s => xb.length - s.2.toNat) ?_ ⟨0, rfl, Nat.zero_le _, fun h => h⟩
  rintro ⟨v, i⟩ ⟨k, rfl, hk, hv⟩
  dsimp only at hv ⊢
  unfold fn_ref31_Of_l1
  dsimp only
  by_cases hkl : k < xb.length
  · left
    rw [dlt hkl, cond_true, getN hkl]
    simp only [Option.bind_some, w64s hkl (by omega : xb.length ≤ 9223372036854775807)]
    have dn : xb.length - ((k + 1 : Nat) : Int).toNat < xb.length - ((k : Nat) : Int).toNat := by rw [Int.toNat_natCast, Int.toNat_natCast]; omega
    by_cases q1 : xb[k].1 = a
    · by_cases q2 : xb[k].2 = c
      · simp only [decide_eq_true q1, decide_eq_true q2, cond_true, Option.bind_some]
        exact ⟨_, rfl, ⟨k + 1, rfl, by omega, fun _ => rfl⟩, dn⟩
      · simp only [decide_eq_true q1, decide_eq_false q2, cond_true, cond_false, Option.bind_some]
        exact ⟨_, rfl, ⟨k + 1, rfl, by omega, hv⟩, dn⟩
    · simp only [decide_eq_false q1, cond_false, Option.bind_some]
      exact ⟨_, rfl, ⟨k + 1, rfl, by omega, hv⟩, dn⟩
  · right
    rw [dge hkl, cond_false]
    exact ⟨_, rfl, hv⟩
theorem of31_l2 {U : Nat} (hU : U ≤ 65536) (xb : List (Int × Int)) (hb : xb.length ≤ 1000000) {a : Nat} (ha : a < U) : ∃ r, loop (fn_ref31_Of_l2 (U : Int) xb (a : Int)) ([], 0) = some r ∧ r.length = U ∧ r[a]? = some 1 := by
  refine loop_inv (body := fn_ref31_Of_l2 (U : Int) xb (a : Int)) (fun s => ∃ k : Nat, s.2 = (k : Int) ∧ k ≤ U ∧ s.1.length = k ∧ (a < k → s.1[a]? = some 1)) (fun s => U - s.2.toNat) ?_ ⟨0, rfl, Nat.zero_le _, rfl, fun h => by omega⟩
  rintro ⟨r, i⟩ ⟨k, rfl, hk, hl, hr⟩
  dsimp only at hl hr ⊢
  unfold fn_ref31_Of_l2
  dsimp only
  by_cases hkU : k < U
  · left
    rw [dlt hkU, cond_true]
    have hs : ∃ s0 : Int, (cond ((decide ((a : Int) = (k : Int))) || (decide ((a : Int) = 0))) (some (1)) (some (0)) : Option Int) = some s0 ∧ (a = k → s0 = 1) := by
      by_cases e : a = k
      · exact ⟨1, by simp [e], fun _ => rfl⟩
      · by_cases e0 : a = 0
        · exact ⟨1, by simp [e0], fun _ => rfl⟩
        · exact ⟨0, by
            have h1 : ¬ ((a : Int) = (k : Int)) := by omega
            have h2 : ¬ ((a : Int) = 0) := by omega
            rw [decide_eq_false h1, decide_eq_false h2]; rfl, fun h => absurd h e⟩
    obtain ⟨s0, e0, e1⟩ := hs
    obtain ⟨v, g1, g2⟩ := of31_l1 xb hb (a : Int) (k : Int) s0
    rw [e0]
    simp only [Option.bind_some, g1]
    rw [app_eq (by simp; omega)]
    simp only [Option.bind_some, w64s hkU (by omega : U ≤ 9223372036854775807)]
    refine ⟨_, rfl, ⟨k + 1, rfl, by omega, by simp [hl], fun h => ?_⟩, by dsimp only; rw [Int.toNat_natCast, Int.toNat_natCast]; omega⟩
    dsimp only
    by_cases e : a = k
    · subst e
      rw [List.getElem?_append_right (by omega), hl, Nat.sub_self, g2 (e1 rfl)]; rfl
    · rw [List.getElem?_append_left (by omega)]
      exact hr (by omega)
  · right
    have e : k = U := by omega
    subst e
    rw [dge hkU, cond_false]
    exact ⟨_, rfl, hl, hr ha⟩
theorem rOf31 {U : Nat} (hU : U ≤ 65536) (xb : List (Int × Int)) (hb : xb.length ≤ 1000000) : ∃ M, fn_ref31_Of (U : Int) xb = some M ∧ Sq U M := by
  have key : ∃ M, loop (fn_ref31_Of_l3 (U : Int) xb) ([], 0) = some M ∧ Sq U M := by
    refine loop_inv (body := fn_ref31_Of_l3 (U : Int) xb) (fun s => ∃ k : Nat, s.2 = (k : Int) ∧ k ≤ U ∧ s.1.length = k ∧ ∀ q (h : q < s.1.length), s.1[q].length = U ∧ s.1[q][q]? = some 1) (fun s => U - s.2.toNat) ?_ ⟨0, rfl, Nat.zero_le _, rfl, fun q h => by simp at h⟩
    rintro ⟨M, i⟩ ⟨k, rfl, hk, hl, hr⟩
    dsimp only at hl hr ⊢
    unfold fn_ref31_Of_l3
    dsimp only
    by_cases hkU : k < U
    · left
      obtain ⟨r, e, r1, r2⟩ := of31_l2 hU xb hb hkU
      rw [dlt hkU, cond_true, e]
      simp only [Option.bind_some]
      rw [app_eq (by simp; omega)]
      simp only [Option.bind_some, w64s hkU (by omega : U ≤ 9223372036854775807)]
      refine ⟨_, rfl, ⟨k + 1, rfl, by omega, by simp [hl], fun q h => ?_⟩, by dsimp only; rw [Int.toNat_natCast, Int.toNat_natCast]; omega⟩
      dsimp only at h ⊢
      rw [List.length_append, List.length_singleton] at h
      by_cases e2 : q = k
      · subst e2
        rw [List.getElem_append_right (by omega)]
        simp [hl, r1, r2]
      · rw [List.getElem_append_left (by omega)]
        exact hr q (by omega)
    · right
      have e : k = U := by omega
      subst e
      rw [dge hkU, cond_false]
      exact ⟨_, rfl, hl, hr⟩
  obtain ⟨M0, e0, h0⟩ := key
  obtain ⟨M, e1, h1⟩ := of31_l7 hU h0
  refine ⟨M, ?_, h1⟩
  unfold fn_ref31_Of
  have n1 : ¬ ((U : Int) < 0) := by omega
  have n2 : ¬ (65536 < (U : Int)) := by omega
  rw [decide_eq_false n1, decide_eq_false n2, Bool.or_self, cond_false, e0]
  simp only [Option.bind_some, e1]
/-- Known of each: itself. -/
theorem rHas31 {U : Nat} {M : List (List Int)} (h : Sq U M) (p q : Int) : ∃ t, fn_ref31_Has M p q = some t ∧ (0 ≤ p → p < U → p = q → t = true) := by
  unfold fn_ref31_Has
  by_cases g : ((((decide (0 ≤ p)) && (decide (p < (((M.length : Nat) : Int))))) && (decide (0 ≤ q))) && (decide (q < (((M.length : Nat) : Int))))) = true
  · rw [g, cond_true]
    simp only [Bool.and_eq_true, decide_eq_true_eq] at g
    obtain ⟨⟨⟨g1, g2⟩, g3⟩, g4⟩ := g
    obtain ⟨a, rfl⟩ := Int.eq_ofNat_of_zero_le g1
    obtain ⟨b, rfl⟩ := Int.eq_ofNat_of_zero_le g3
    have la : a < M.length := by omega
    obtain ⟨m1, m2⟩ := h.2 a la
    have lb : b < M[a].length := by rw [m1, ← h.1]; omega
    rw [getN la]
    simp only [Option.bind_some, getN lb]
    refine ⟨_, rfl, fun _ _ e => ?_⟩
    have : a = b := by omega
    subst this
    rw [List.getElem?_eq_getElem lb] at m2
    simp only [Option.some.injEq] at m2
    rw [m2]; rfl
  · rw [Bool.eq_false_iff.2 g, cond_false]
    refine ⟨_, rfl, fun h1 h2 e => ?_⟩
    exfalso
    apply g
    have := h.1
    subst e
    simp only [Bool.and_eq_true, decide_eq_true_eq]
    omega
end Go.Proofs.YthoclljhjcfemaaGreat
namespace Go.Proofs.YthoclljhjcfemaaGreat
open Go.RowKit Nu
set_option linter.unusedVariables false
set_option linter.unnecessarySimpa false
set_option linter.unusedSimpArgs false
theorem consGraph_any (b : Bo) (l : List Eg) (hl : l.length ≤ 67108864) : fn_cons_Graph b l = (fn_graph_New b.2.1 (arcsOf l)).bind fun r => some r.1 := by
  unfold fn_cons_Graph
  rw [mkArcs hl, Option.bind_some, graphArcs_eq l hl, Option.bind_some]
theorem goW_in {E : ArG} : ∀ {M : List Nat} {x y : Int}, goW E x (li M) = some y → ∀ i ∈ M, i < E.length
  | [], x, y, _, i, hi => by cases hi
  | j :: M, x, y, h, i, hi => by
    rw [show li (j :: M) = (j : Int) :: li M from rfl, goW_cons] at h
    split at h
    · rename_i hc
      rcases List.mem_cons.1 hi with rfl | hi
      · have := hc.1.2; omega
      · exact goW_in h i hi
    · cases h
/-- What is reached is found. -/
theorem short_of {N : Nat} {E : ArG} (hE : inN N E) (hN : N ≤ 20) (he : E.length ≤ 67108864) {v w : Nat} (hv : v < N) (hr : Rch E v w) (hne : v ≠ w) :
    ∃ M : List Nat, fn_path_Short_kpiiz (some (mkG N E)) (v : Int) (w : Int) = some (li M, true) ∧ M ≠ [] ∧ M.length ≤ 20 ∧ (∀ i ∈ M, i < E.length) ∧ goW E (v : Int) (li M) = some (w : Int) := by
  obtain ⟨L, d, m, β, e, b⟩ := From_ok hE hN he hv
  cases hd : d w with
  | none => exact absurd hr ((b.b.far_not w).1 hd)
  | some k =>
    have hk := b.lt hd
    obtain ⟨g1, g2⟩ := sw_ok b hd
    refine ⟨_, Short_ok hE (by omega) b e hd, fun h0 => ?_, by omega, goW_in g1, g1⟩
    rw [h0] at g1
    have : (v : Int) = (w : Int) := by
      rw [show li ([] : List Nat) = [] from rfl, goW_nil] at g1
      exact Option.some.inj g1
    omega
/-- The findings of pairs that are all reached. -/
theorem comesOf {N : Nat} {E : ArG} (X : List (Int × Int)) (hX : X.length ≤ 1000000) (hr : ∀ x ∈ X, ∃ P, fn_path_Short_kpiiz (some (mkG N E)) x.1 x.2 = some (P, true)) :
    ∃ F : List Fd, loop (fn_blame_Of_akkz_l1 X (some (mkG N E))) ([], 0) = some F ∧ F.map (fun f => (f.1, f.2.1)) = X ∧ ∀ f ∈ F, fn_path_Short_kpiiz (some (mkG N E)) f.1 f.2.1 = some (f.2.2, true) := by
  refine loop_inv (body := fn_blame_Of_akkz_l1 X (some (mkG N E))) (fun s => ∃ k : Nat, s.2 = (k : Int) ∧ k ≤ X.length ∧ s.1.map (fun f : Fd => (f.1, f.2.1)) = X.take k ∧ ∀ f ∈ s.1, fn_path_Short_kpiiz (some (mkG N E)) f.1 f.2.1 = some (f.2.2, true)) (fun s => X.length - s.2.toNat) ?_ ⟨0, rfl, Nat.zero_le _, by simp, fun f h => by cases h⟩
  rintro ⟨F, i⟩ ⟨k, rfl, hk, h1, h2⟩
  dsimp only at h1 h2 ⊢
  unfold fn_blame_Of_akkz_l1
  dsimp only
  by_cases hkl : k < X.length
  · left
    obtain ⟨P, hP⟩ := hr X[k] (List.getElem_mem hkl)
    have hlen : F.length = k := by have := congrArg List.length h1; simp at this; omega
    rw [dlt hkl, cond_true, getN hkl]
    simp only [Option.bind_some, hP, cond_true]
    rw [app_eq (by simp; omega)]
    simp only [Option.bind_some, w64s hkl (by omega : X.length ≤ 9223372036854775807)]
    refine ⟨_, rfl, ⟨k + 1, rfl, by omega, ?_, fun f hf => ?_⟩, by dsimp only; omega⟩
    · rw [List.map_append, h1, take_snoc hkl]; rfl
    · dsimp only at hf
      rcases List.mem_append.1 hf with hf | hf
      · exact h2 f hf
      · rw [List.mem_singleton] at hf; subst hf; exact hP
  · right
    have e : k = X.length := by omega
    subst e
    rw [dge hkl, cond_false]
    exact ⟨_, rfl, by rw [List.take_length] at h1; exact h1, h2⟩
theorem comesPlaces {l : List Eg} {M : List Nat} (hM : ∀ i ∈ M, i < l.length) (hl : M.length ≤ 1000) (a b : Int) (z : Eg) : fn_blame_Places l (a, b, li M) = some (M.map fun i => (l.getD i z).2.2) := by
  unfold fn_blame_Places
  have h := loop_nat (body := fn_blame_Places_l1 l (a, b, li M)) (fun k : Nat => ((M.take k).map (fun i => (l.getD i z).2.2), (k : Int))) M.length (b := .inl (M.map fun i => (l.getD i z).2.2)) ?_ ?_
  · rw [show loop (fn_blame_Places_l1 l (a, b, li M)) ([], 0) = _ from h]; rfl
  · intro k hk
    have hi := hM _ (List.getElem_mem hk)
    have hk' : k < (li M).length := by rw [li_len]; exact hk
    unfold fn_blame_Places_l1
    dsimp only
    rw [dlt hk', cond_true, getI_li hk]
    simp only [Option.bind_some]
    have n1 : ¬ ((M[k] : Nat) : Int) < 0 := by omega
    have n2 : ¬ ((l.length : Nat) : Int) ≤ ((M[k] : Nat) : Int) := by omega
    rw [decide_eq_false n1, decide_eq_false n2, Bool.or_self, cond_false, getN hi]
    simp only [Option.bind_some]
    rw [app_eq (by simp; omega)]
    simp only [Option.bind_some, w64s hk (by omega : M.length ≤ 9223372036854775807)]
    rw [take_snoc hk, List.map_append]
    simp [hi]
  · unfold fn_blame_Places_l1
    dsimp only
    rw [li_len, dge (Nat.lt_irrefl _), cond_false, List.take_length]
theorem comesRight {b : Bo} {N : Nat} {E : ArG} {l : List Eg} (hl : l.length ≤ 67108864) (he : E.length ≤ 67108864) (hb : b.2.1 = (N : Int)) (hnew : fn_graph_New (N : Int) (arcsOf l) = some (some (mkG N E), 0)) {v w : Nat} (hv : v < N) {M : List Nat} (hM : M.length ≤ 1000) (hs : fn_path_Short_kpiiz (some (mkG N E)) (v : Int) (w : Int) = some (li M, true)) (hg : goW E (v : Int) (li M) = some (w : Int)) :
    fn_blame_Right b l ((v : Int), (w : Int), li M) = some true := by
  unfold fn_blame_Right
  dsimp only
  rw [consGraph_any _ l hl]
  dsimp only
  rw [hb, hnew]
  simp only [Option.bind_some]
  rw [pWalk_ok (by rw [li_len]; omega) he, if_pos (by omega), hg]
  simp only [Option.bind_some, Bool.not_true, decide_true, Bool.or_self, cond_false, hs]
/-- One constraint is among those of its point. -/
theorem comes_l1 {l : List Eg} {F : List Fd} {i j : Int} {Q : List Eg} (hQ : Q.length ≤ 1000000000) {f : Fd} {p : Int} {e : Eg} (h1 : getI F i = some f) (h2 : getI f.2.2 j = some p) (h3 : getI l p = some e) (he : e ∈ Q) :
    loop (fn_law33_BlameComes_l1 l F i j Q) (false, 0) = some true := by
  refine loop_val (body := fn_law33_BlameComes_l1 l F i j Q) (fun s => ∃ k : Nat, s.2 = (k : Int) ∧ k ≤ Q.length ∧ (s.1 = true ∨ e ∈ Q.drop k)) (fun s => Q.length - s.2.toNat) ?_ ⟨0, rfl, Nat.zero_le _, .inr (by simpa using he)⟩
  rintro ⟨t, x⟩ ⟨k, rfl, hk, ht⟩
  dsimp only at ht ⊢
  unfold fn_law33_BlameComes_l1
  dsimp only
  by_cases hkl : k < Q.length
  · left
    rw [dlt hkl, cond_true]
    cases t with
    | true =>
      rw [cond_true]
      simp only [w64s hkl (by omega : Q.length ≤ 9223372036854775807)]
      exact ⟨_, rfl, ⟨k + 1, rfl, by omega, .inl rfl⟩, by dsimp only; omega⟩
    | false =>
      rw [cond_false, getN hkl, h1]
      simp only [Option.bind_some]
      rw [h2]
      simp only [Option.bind_some]
      rw [h3]
      simp only [Option.bind_some, w64s hkl (by omega : Q.length ≤ 9223372036854775807)]
      refine ⟨_, rfl, ⟨k + 1, rfl, by omega, ?_⟩, by dsimp only; omega⟩
      dsimp only
      rcases ht with ht | ht
      · cases ht
      · rw [List.drop_eq_getElem_cons hkl] at ht
        rcases List.mem_cons.1 ht with ht | ht
        · left
          rw [ht]
          simp
        · exact .inr ht
  · right
    have e' : k = Q.length := by omega
    subst e'
    rw [dge hkl, cond_false]
    rcases ht with ht | ht
    · rw [ht]
    · rw [List.drop_length] at ht; cases ht
end Go.Proofs.YthoclljhjcfemaaGreat
namespace Go.Proofs.YthoclljhjcfemaaGreat
open Go.RowKit Nu
set_option linter.unusedVariables false
set_option linter.unnecessarySimpa false
set_option linter.unusedSimpArgs false
theorem egF_mem {b : Bo} {e : Eg} : ∀ {n : Nat}, e ∈ egF b n → ∃ q, q < n ∧ e ∈ egN b q
  | 0, h => by cases h
  | n + 1, h => by
    rcases List.mem_append.1 h with h | h
    · obtain ⟨q, h1, h2⟩ := egF_mem h
      exact ⟨q, by omega, h2⟩
    · exact ⟨n, by omega, h⟩
theorem egA_mem {b : Bo} (h : Sm b) {e : Eg} (he : e ∈ egA b) : ∃ (j k : Nat) (hj : j < (xs b).length), k ≤ (xs b)[j].1.length ∧ e ∈ egs b (xs b)[j] j k ∧ e.2.2.1 = (j : Int) ∧ e.2.2.2.1 = (k : Int) := by
  obtain ⟨q, h1, h2⟩ := egF_mem he
  obtain ⟨j, k, hj, hk, rfl, _⟩ := locate (xs b) (xs b).length (Nat.le_refl _) q h1
  rw [egN_at hj hk] at h2
  have := (egs_len h (k := k) hj).2 e h2
  exact ⟨j, k, hj, hk, h2, this.2.2.2.2.1, this.2.2.2.2.2.1⟩
theorem comes_l2 {b : Bo} (h : Sm b) {F : List Fd} {i : Int} {f : Fd} (hf : getI F i = some f) {M : List Nat} (hfM : f.2.2 = li M) (hM : ∀ x ∈ M, x < (egA b).length) (hl : M.length ≤ 1000) (z : Eg) :
    loop (fn_law33_BlameComes_l2 b (egA b) (alls (xs b)) F i (M.map fun x => ((egA b).getD x z).2.2)) 0 = some (.inl ()) := by
  have hb := (xs_bound h (Nat.le_refl _)).1
  have h0 := loop_nat (body := fn_law33_BlameComes_l2 b (egA b) (alls (xs b)) F i (M.map fun x => ((egA b).getD x z).2.2)) (fun k : Nat => (k : Int)) M.length (b := .inl ()) ?_ ?_
  · exact h0
  · intro k hk
    have hx := hM _ (List.getElem_mem hk)
    obtain ⟨j, q, hj, hq, he, e1, e2⟩ := egA_mem h (List.getElem_mem hx)
    have hp : k < (M.map fun x => ((egA b).getD x z).2.2).length := by simpa using hk
    have hpv : (M.map fun x => ((egA b).getD x z).2.2)[k] = (egA b)[M[k]].2.2 := by simp [hx]
    have hal : bg (xs b) j + q < (alls (xs b)).length := by
      rw [alls_len]
      have h1 := bg_mono (xs b) (i := j + 1) (j := (xs b).length) hj (Nat.le_refl _)
      have h2 := bg_succ hj
      omega
    have hag : (alls (xs b))[bg (xs b) j + q] = ((j : Int), (q : Int), decide (q = (xs b)[j].1.length)) := by
      have := alls_get (xs b) hj hq
      rw [List.getElem?_eq_getElem hal] at this
      exact Option.some.inj this
    have hat : fn_ref27_At (b.1, b.2.1, b.2.2.1, b.2.2.2.1, b.2.2.2.2.1, b.2.2.2.2.2.1, b.2.2.2.2.2.2) ((j : Int), (q : Int), decide (q = (xs b)[j].1.length)) = some (egs b (xs b)[j] j q) := ref27At_eq h hj hq
    unfold fn_law33_BlameComes_l2
    dsimp only
    rw [dlt hp, cond_true, getN hp]
    simp only [Option.bind_some]
    rw [hpv, e1, e2, refOf_eq (by omega) hj hq]
    simp only [Option.bind_some, Bool.not_true, cond_false]
    rw [getN hal, hag]
    simp only [Option.bind_some]
    rw [hat]
    simp only [Option.bind_some]
    rw [comes_l1 (by have := (egs_len h (k := q) hj).1; omega) hf (p := ((M[k] : Nat) : Int)) (by rw [hfM]; exact getI_li hk) (getN hx) he]
    simp only [Option.bind_some, Bool.not_true, cond_false, w64s hk (by omega : M.length ≤ 9223372036854775807)]
  · unfold fn_law33_BlameComes_l2
    dsimp only
    rw [List.length_map, dge (Nat.lt_irrefl _), cond_false]
theorem comes_l3 {b : Bo} (h : Sm b) {N : Nat} {E : ArG} (hb : b.2.1 = (N : Int)) (hE : inN N E) (hN : N ≤ 20) (hA : arcsOf (egA b) = ai E) (hnew : fn_graph_New (N : Int) (arcsOf (egA b)) = some (some (mkG N E), 0)) {F : List Fd} (hF : F.length ≤ 1000000)
    (hr : ∀ f ∈ F, ∃ v w : Nat, f.1 = (v : Int) ∧ f.2.1 = (w : Int) ∧ v < N ∧ Rch E v w ∧ v ≠ w) (hs : ∀ f ∈ F, fn_path_Short_kpiiz (some (mkG N E)) f.1 f.2.1 = some (f.2.2, true)) :
    loop (fn_law33_BlameComes_l3 b (egA b) (alls (xs b)) F) 0 = some (.inl ()) := by
  have hl : (egA b).length ≤ 67108864 := by have := egA_len h; omega
  have hlen : (egA b).length = E.length := by have := congrArg List.length hA; rwa [arcsOf_len, ai_len] at this
  have he : E.length ≤ 67108864 := by omega
  have h0 := loop_nat (body := fn_law33_BlameComes_l3 b (egA b) (alls (xs b)) F) (fun k : Nat => (k : Int)) F.length (b := .inl ()) ?_ ?_
  · exact h0
  · intro k hk
    obtain ⟨v, w, e1, e2, hv, hrc, hne⟩ := hr _ (List.getElem_mem hk)
    obtain ⟨M, m1, m2, m3, m4, m5⟩ := short_of hE hN he hv hrc hne
    have hsk := hs _ (List.getElem_mem hk)
    rw [e1, e2, m1] at hsk
    have hP : F[k].2.2 = li M := by
      have := Option.some.inj hsk
      exact (congrArg Prod.fst this).symm
    have hM : ∀ x ∈ M, x < (egA b).length := fun x hx => by rw [hlen]; exact m4 x hx
    have z : Eg := (0, 0, 0, 0, 0, 0, false)
    have hpl := comesPlaces hM (by omega) (v : Int) (w : Int) z
    have hri := comesRight (b := b) hl he hb hnew hv (by omega) m1 m5
    have hri' : fn_blame_Right (b.1, b.2.1, b.2.2.1, b.2.2.2.1, b.2.2.2.2.1, b.2.2.2.2.2.1, b.2.2.2.2.2.2) (egA b) ((v : Int), (w : Int), li M) = some true := hri
    have n0 : ¬ ((li M).length : Int) = 0 := by
      rw [li_len]
      have := List.length_pos_iff.2 m2
      omega
    unfold fn_law33_BlameComes_l3
    rw [dlt hk, cond_true, getN hk]
    simp only [Option.bind_some]
    rw [e1, e2, hP, hpl]
    simp only [Option.bind_some]
    rw [hri']
    simp only [Option.bind_some, Bool.not_true, cond_false]
    rw [decide_eq_false n0, cond_false, List.length_map, li_len, decide_eq_true rfl, Bool.not_true, cond_false, comes_l2 h (getN hk) hP hM (by omega) z]
    simp only [Option.bind_some, w64s hk (by omega : F.length ≤ 9223372036854775807)]
  · unfold fn_law33_BlameComes_l3
    rw [dge (Nat.lt_irrefl _), cond_false]
end Go.Proofs.YthoclljhjcfemaaGreat
namespace Go.Proofs.YthoclljhjcfemaaGreat
open Go.RowKit Nu
set_option linter.unusedVariables false
set_option linter.unnecessarySimpa false
set_option linter.unusedSimpArgs false
theorem acc_mem {U N : Nat} {E : ArG} {x : Int × Int} : ∀ {n : Nat}, x ∈ acc U N E n → ∃ v w : Nat, x.1 = (v : Int) ∧ x.2 = (w : Int) ∧ v < n ∧ w ∈ rl N E v ∧ v ≠ w
  | 0, h => by cases h
  | n + 1, h => by
    rcases List.mem_append.1 h with h | h
    · obtain ⟨v, w, h1, h2, h3, h4, h5⟩ := acc_mem h
      exact ⟨v, w, h1, h2, by omega, h4, h5⟩
    · unfold seg at h
      obtain ⟨w, hw, rfl⟩ := List.mem_map.1 h
      have := (List.mem_filter.1 hw).2
      simp only [Bool.and_eq_true, decide_eq_true_eq] at this
      exact ⟨n, w, rfl, rfl, by omega, this.2, fun e => this.1 e.symm⟩
theorem missing_loop {U : Nat} {M : List (List Int)} (hM : Sq U M) (A : List (Int × Int)) (hA : A.length ≤ 1000000) : ∃ X, loop (fn_ref32_Missing_l1 M A) ([], 0) = some X ∧ X.length ≤ A.length ∧ ∀ x ∈ X, x ∈ A := by
  refine loop_inv (body := fn_ref32_Missing_l1 M A) (fun s => ∃ k : Nat, s.2 = (k : Int) ∧ k ≤ A.length ∧ s.1.length ≤ k ∧ ∀ x ∈ s.1, x ∈ A) (fun s => A.length - s.2.toNat) ?_ ⟨0, rfl, Nat.zero_le _, Nat.le_refl _, fun x h => by cases h⟩
  rintro ⟨X, i⟩ ⟨k, rfl, hk, h1, h2⟩
  dsimp only at h1 h2 ⊢
  unfold fn_ref32_Missing_l1
  dsimp only
  by_cases hkl : k < A.length
  · left
    obtain ⟨t, ht, _⟩ := rHas31 hM A[k].1 A[k].2
    rw [dlt hkl, cond_true, getN hkl]
    simp only [Option.bind_some, ht, w64s hkl (by omega : A.length ≤ 9223372036854775807)]
    cases t with
    | true =>
      simp only [Bool.not_true, cond_false]
      exact ⟨_, rfl, ⟨k + 1, rfl, by omega, by dsimp only; omega, h2⟩, by dsimp only; omega⟩
    | false =>
      simp only [Bool.not_false, cond_true]
      rw [app_eq (by simp; omega)]
      simp only [Option.bind_some]
      refine ⟨_, rfl, ⟨k + 1, rfl, by omega, by simp; omega, fun x hx => ?_⟩, by dsimp only; omega⟩
      dsimp only at hx
      rcases List.mem_append.1 hx with hx | hx
      · exact h2 x hx
      · rw [List.mem_singleton] at hx; subst hx; exact List.getElem_mem hkl
  · right
    rw [dge hkl, cond_false]
    exact ⟨_, rfl, by omega, h2⟩
theorem refOK33 {b : Bo} (h : Sm b) : fn_ref21_OK b = some (decide ((vck b).1 = 0)) := by
  unfold fn_ref21_OK
  rw [show fn_ref21_Check (b.1, b.2.1, b.2.2.1, b.2.2.2.1, b.2.2.2.2.1, b.2.2.2.2.2.1, b.2.2.2.2.2.2) = _ from refVCheck_eq h]
  rfl
theorem BlameComes_core {b : Bo} (h : Sm b) (hR : b.2.1 ≤ 20) : ∃ (X : List (Int × Int)) (F : List Fd), fn_ref32_Missing b = some X ∧ fn_blame_Of_akkz b (egA b) X = some F ∧ F.length ≤ 1000 ∧ F.map (fun f => (f.1, f.2.1)) = X ∧ loop (fn_law33_BlameComes_l3 b (egA b) (alls (xs b)) F) 0 = some (.inl ()) := by
  have hl : (egA b).length ≤ 67108864 := by have := egA_len h; omega
  have hOf : ∀ X, fn_blame_Of_akkz b (egA b) X = (fn_cons_Graph b (egA b)).bind fun p => (loop (fn_blame_Of_akkz_l1 X p) ([], 0) : Option (List Fd)).bind fun l => some l := fun X => rfl
  by_cases q : (vck b).1 = 0
  · obtain ⟨u1, u2, _, _, _⟩ := vck_zero q
    obtain ⟨U, hU⟩ := Int.eq_ofNat_of_zero_le (show 0 ≤ b.1 by omega)
    have good := (egF_good h (bg (xs b) (xs b).length)).2
    have hin : (arcsOf (egA b)).any (outA b.2.1) = false := by
      rw [Bool.eq_false_iff]
      intro hc
      obtain ⟨x, hx, ho⟩ := List.any_eq_true.1 hc
      obtain ⟨e, he, rfl⟩ := List.mem_map.1 hx
      obtain ⟨c1, c2, c3, c4, _⟩ := good e he
      unfold outA at ho
      simp at ho
      omega
    rcases New_eq b.2.1 (arcsOf (egA b)) (by rw [arcsOf_len]; omega) with ⟨c, _⟩ | ⟨c, _⟩ | ⟨_, _, c, _⟩ | ⟨N, E, hn, _, hA, hE, hany, hnew⟩
    · omega
    · omega
    · rw [hin] at c; cases c
    · obtain ⟨M, m1, m2⟩ := rOf31 (U := U) (by omega) b.2.2.1 (by have := h.bounds; omega)
      have hUN : U ≤ N := by omega
      have hout : fn_ref30_Outlives (b.1, b.2.1, b.2.2) (egA b) = some (acc U N E U) := by
        rw [hn]
        exact refOutlives_eq b.2.2 hl (by omega) (by omega) hA hE (by rw [← hn]; exact hin) (by rw [hU]; split <;> omega) hUN
      have hacc := acc_len (N := N) (E := E) U U
      have hacc2 : U * U ≤ 20 * 20 := Nat.mul_le_mul (by omega) (by omega)
      obtain ⟨X, x1, x2, x3⟩ := missing_loop m2 (acc U N E U) (by omega)
      have hreach : ∀ x ∈ X, ∃ v w : Nat, x.1 = (v : Int) ∧ x.2 = (w : Int) ∧ v < N ∧ Rch E v w ∧ v ≠ w := fun x hx => by
        obtain ⟨v, w, g1, g2, g3, g4, g5⟩ := acc_mem (x3 x hx)
        exact ⟨v, w, g1, g2, by omega, (rl_mem hE (by omega)).1 g4, g5⟩
      have he : E.length ≤ 67108864 := by have := congrArg List.length hA; rw [arcsOf_len, ai_len] at this; omega
      obtain ⟨F, f1, f2, f3⟩ := comesOf (N := N) (E := E) X (by omega) (fun x hx => by
        obtain ⟨v, w, g1, g2, g3, g4, g5⟩ := hreach x hx
        obtain ⟨P, p1, _⟩ := short_of hE (by omega) he g3 g4 g5
        exact ⟨_, by rw [g1, g2]; exact p1⟩)
      have hFl : F.length = X.length := by have := congrArg List.length f2; simpa using this
      refine ⟨X, F, ?_, ?_, by omega, f2, ?_⟩
      · unfold fn_ref32_Missing
        rw [show fn_ref21_OK (b.1, b.2.1, b.2.2.1, b.2.2.2.1, b.2.2.2.2.1, b.2.2.2.2.2.1, b.2.2.2.2.2.2) = _ from refOK33 h, decide_eq_true q]
        simp only [Option.bind_some, Bool.not_true, cond_false]
        rw [hU, m1, ← hU]
        simp only [Option.bind_some]
        rw [show fn_ref27_Of (b.1, b.2.1, b.2.2.1, b.2.2.2.1, b.2.2.2.2.1, b.2.2.2.2.2.1, b.2.2.2.2.2.2) = _ from ref27Of_eq h]
        simp only [Option.bind_some]
        rw [show fn_ref30_Outlives (b.1, b.2.1, b.2.2.1, b.2.2.2.1, b.2.2.2.2.1, b.2.2.2.2.2.1, b.2.2.2.2.2.2) (egA b) = _ from hout]
        simp only [Option.bind_some, x1]
      · rw [hOf, consGraph_any _ _ hl, hnew]
        simp only [Option.bind_some, f1]
      · refine comes_l3 h hn hE (by omega) hA (by rw [← hn]; exact hnew) (by omega) (fun f hf => ?_) f3
        obtain ⟨v, w, g1, g2, g3, g4, g5⟩ := hreach (f.1, f.2.1) (by rw [← f2]; exact List.mem_map_of_mem (f := fun f : Fd => (f.1, f.2.1)) hf)
        exact ⟨v, w, g1, g2, g3, g4, g5⟩
  · have hx : xs b = [] := by unfold xs; rw [if_neg q]
    have hA : egA b = [] := by unfold egA; rw [hx]; rfl
    obtain ⟨g, hg⟩ : ∃ g, fn_cons_Graph b [] = some g := by
      rw [consGraph_any b [] (by simp)]
      rcases New_eq b.2.1 (arcsOf []) (by simp [arcsOf]) with ⟨_, e⟩ | ⟨_, e⟩ | ⟨_, _, _, e⟩ | ⟨_, _, _, _, _, _, _, e⟩ <;> rw [e] <;> exact ⟨_, rfl⟩
    refine ⟨[], [], ?_, ?_, by simp, rfl, ?_⟩
    · unfold fn_ref32_Missing
      rw [show fn_ref21_OK (b.1, b.2.1, b.2.2.1, b.2.2.2.1, b.2.2.2.2.1, b.2.2.2.2.2.1, b.2.2.2.2.2.2) = _ from refOK33 h, decide_eq_false q]
      rfl
    · rw [hOf, hA, hg]
      simp only [Option.bind_some]
      rw [loop_end (b := []) (by rfl)]
      rfl
    · exact loop_end (by rfl)
theorem BlameComes_of (xa : Bo) (q0 : Tp.Fit tyBody xa) : fn_law33_BlameComes xa = some true := by
  unfold fn_law33_BlameComes
  rcases small20 xa (fit_body q0) with h | ⟨h, hs⟩
  · rw [show fn_ref20_Small (xa.1, xa.2.1, xa.2.2.1, xa.2.2.2.1, xa.2.2.2.2.1, xa.2.2.2.2.2.1, xa.2.2.2.2.2.2) = some false from h, awake33]; rfl
  · rw [show fn_ref20_Small (xa.1, xa.2.1, xa.2.2.1, xa.2.2.2.1, xa.2.2.2.2.1, xa.2.2.2.2.2.1, xa.2.2.2.2.2.2) = some true from h]
    by_cases hR : 20 < xa.2.1
    · rw [decide_eq_true hR, awake33]; rfl
    · obtain ⟨X, F, e1, e2, e3, e4, e5⟩ := BlameComes_core hs (by omega)
      rw [decide_eq_false hR]
      simp only [Option.bind_some, Bool.not_true, Bool.or_self, cond_false]
      rw [show fn_ref27_Of (xa.1, xa.2.1, xa.2.2.1, xa.2.2.2.1, xa.2.2.2.2.1, xa.2.2.2.2.2.1, xa.2.2.2.2.2.2) = _ from ref27Of_eq hs]
      simp only [Option.bind_some]
      rw [show fn_ref32_Missing (xa.1, xa.2.1, xa.2.2.1, xa.2.2.2.1, xa.2.2.2.2.1, xa.2.2.2.2.2.1, xa.2.2.2.2.2.2) = _ from e1]
      simp only [Option.bind_some]
      rw [show fn_ref22_All (xa.1, xa.2.1, xa.2.2.1, xa.2.2.2.1, xa.2.2.2.2.1, xa.2.2.2.2.2.1, xa.2.2.2.2.2.2) = _ from refAll_eq hs]
      simp only [Option.bind_some]
      rw [show fn_blame_Of_akkz (xa.1, xa.2.1, xa.2.2.1, xa.2.2.2.1, xa.2.2.2.2.1, xa.2.2.2.2.2.1, xa.2.2.2.2.2.2) (egA xa) X = _ from e2]
      simp only [Option.bind_some]
      rw [bounds_eq F e3, e4]
      simp only [Option.bind_some]
      have hX : X.length ≤ 1000 := by rw [← e4]; simpa using e3
      rw [refBounds_eq X X (by omega), decide_eq_true rfl]
      simp only [Option.bind_some, Bool.not_true, cond_false]
      rw [e5]
      simp only [Option.bind_some, awake33]
theorem BlameComes_true (xa : Bo) (k0 : Tp.Ok tyBody xa) (q0 : Tp.Fit tyBody xa) : fn_law33_BlameComes xa = some true := BlameComes_of xa q0
end Go.Proofs.YthoclljhjcfemaaGreat
namespace Go.Proofs.YthoclljhjcfemaaGreat
open Go.RowKit
set_option linter.unusedVariables false
set_option linter.unnecessarySimpa false
set_option linter.unusedSimpArgs false
set_option maxRecDepth 20000
theorem BlameComes_walk {H : Type} (enc : TypeId × Value → H) (W : World) (base : Nat) {v0 : Value} {d0 : DataW H} {p0 : List MemPlace}
    (h0 : DataW.Trod enc Tryz.prog W 0 (fun _ => true) true 30 v0 d0 p0)
    (o0 : Value.okWide Tryz.prog W .any base 30 v0)
    (w0 : (d0.weights Tryz.prog 30).all (· ≤ reachBytes) = true) :
    Calls Tryz.prog 3 #[v0] W fun e W' => e = .returned (.bool true) ∧ Below W.heap.size W W' := by
  obtain ⟨xa, i0, k0⟩ := Tp.arg (.cons (.int .i64) (.cons (.int .i64) (.cons (.sl (.cons (.int .i64) (.one (.int .i64)))) (.cons (.sl (.one (.sl (.cons (.int .i64) (.one .bool))))) (.cons (.one (.sl (.cons (.int .i64) (.one .bool)))) (.cons (.sl (.cons (.int .i64) (.cons (.sl (.cons (.int .i64) (.one (.int .i64)))) (.cons (.sl (.one (.sl (.cons (.int .i64) (.one .bool))))) (.one (.one (.sl (.cons (.int .i64) (.one .bool))))))))) (.one (.sl (.cons (.sl (.cons (.int .i64) (.cons (.int .i64) (.cons (.int .i64) (.cons (.int .i64) (.one .bool)))))) (.one (.cons (.int .i64) (.cons (.int .i64) (.cons (.int .i64) (.cons (.sl (.int .i64)) (.cons (.sl (.int .i64)) (.one (.sl (.int .i64)))))))))))))))))) (by kernel_rfl) o0 h0
  have q0 := Tp.argFit (.cons (.int .i64) (.cons (.int .i64) (.cons (.sl (.cons (.int .i64) (.one (.int .i64)))) (.cons (.sl (.one (.sl (.cons (.int .i64) (.one .bool))))) (.cons (.one (.sl (.cons (.int .i64) (.one .bool)))) (.cons (.sl (.cons (.int .i64) (.cons (.sl (.cons (.int .i64) (.one (.int .i64)))) (.cons (.sl (.one (.sl (.cons (.int .i64) (.one .bool))))) (.one (.one (.sl (.cons (.int .i64) (.one .bool))))))))) (.one (.sl (.cons (.sl (.cons (.int .i64) (.cons (.int .i64) (.cons (.int .i64) (.cons (.int .i64) (.one .bool)))))) (.one (.cons (.int .i64) (.cons (.int .i64) (.cons (.int .i64) (.cons (.sl (.int .i64)) (.cons (.sl (.int .i64)) (.one (.sl (.int .i64)))))))))))))))))) (r := .any) (b := base) (by kernel_rfl) (by kernel_rfl) h0 i0 w0
  exact walkX (s := sp_law33_BlameComes) (x := xa) (args := [v0]) law33_BlameComes_is (BlameComes_true xa k0 q0) trivial rfl rfl ⟨_, _, rfl, of_rel _ i0, rfl⟩
end Go.Proofs.YthoclljhjcfemaaGreat
namespace Go.Proofs.YthoclljhjcfemaaGreat.blameComesFrame
set_option maxRecDepth 40000
open Go.ChangeShapes Go.WideShapes Go.ChangeAt Go.RowKit
theorem own : ownKnob Tryz.prog.godebug = none := by kernel_rfl
theorem contract (H : Type) (enc : TypeId × Value → H) (W : World) (base : Nat) (args : Array Value) (ds gs : List (DataW H)) (before : List MemPlace)
    (hval : ∀ (j : Nat) t v, Tryz.f3.params[j]? = some t → args[j]? = some v → Value.okWide Tryz.prog W .any base t v)
    (hW : DataW.Whole enc Tryz.prog Tryz.f3.params.toList Rows.blameComesSpec.vars false W args.toList ds gs before) (vt : List TypeId) (hwt : (DataW.weightsEach Tryz.prog (Tryz.f3.params.toList ++ vt) (ds ++ gs)).all (· ≤ reachBytes) = true) :
    Calls Tryz.prog 3 args W fun e W' => ∃ v, e = .returned v ∧ Rows.blameComesSpec.post enc Tryz.prog Tryz.f3 false true false false W args v W' := by
  have hW' := hW
  obtain ⟨p, q, hA0, hV, rfl, hfz, hnd⟩ := hW
  have hA : DataW.TrodAll enc Tryz.prog W 0 (fun _ => true) true Tryz.f3.params.toList args.toList ds p := hA0
  rw [Tryz.params3] at hA hval hwt
  obtain ⟨v0, vs0, d0, ds0, p0, q0, hargs, rfl, rfl, h0, r0⟩ := trodAll_cons hA
  obtain ⟨rfl, rfl, rfl⟩ := trodAll_nil r0
  obtain rfl : args = #[v0] := by cases args; simp_all
  refine (BlameComes_walk enc W base h0 (hval 0 _ v0 rfl rfl) (wEach _ _ hwt 0 _ _ rfl rfl)).mono fun e W' ⟨he, hb⟩ => ?_
  subst he
  exact ⟨_, rfl, law_post (tb := _) rfl hW' rfl rfl (by kernel_rfl) (by kernel_rfl) (of_decide_eq_true (by kernel_rfl)) hb⟩
noncomputable def world (os : Os) : World := World.holding Tryz.prog os ⟨#[], #[], []⟩
theorem reads (os : Os) {H : Type} (enc : TypeId × Value → H) : ∃ x, DataW.whole enc Tryz.prog ((world os).forCall (fun _ _ => 0) ⟨#[], #[.agg #[.int .i64 0, .int .i64 0, .slice none 0 0, .slice none 0 0, .slice none 0 0, .slice none 0 0, .slice none 0 0]], []⟩).memory Tryz.f3.params.toList Rows.blameComesSpec.vars false (#[.agg #[.int .i64 0, .int .i64 0, .slice none 0 0, .slice none 0 0, .slice none 0 0, .slice none 0 0, .slice none 0 0]] : Array Value).toList 8 = some x :=
  Option.isSome_iff_exists.1 (by kernel_rfl)
set_option maxRecDepth 100000 in
theorem lifted (os : Os) (started : os.Started) (H : Type) (enc : TypeId × Value → H) (F : Stop.Interp) :
    ReturnsInHanded {} Tryz.checked os 3 .any ((OpenSpec.ofChange Rows.blameComesSpec).preRow enc Tryz.prog Tryz.f3 Rows.blameComesRow.domain false Rows.blameComesRow.laid) (((OpenSpec.ofChange Rows.blameComesSpec).at F).post enc Tryz.prog Tryz.f3 false true false false) := by
  obtain ⟨x, hx⟩ := reads os enc
  refine returnsInHanded_of_row (C := Tryz.checked) (s := OpenSpec.ofChange Rows.blameComesSpec) own started (by kernel_rfl) Tryz.func3
    (witness_row_at (enc := enc) (C := Tryz.checked) false (world os) #[.agg #[.int .i64 0, .int .i64 0, .slice none 0 0, .slice none 0 0, .slice none 0 0, .slice none 0 0, .slice none 0 0]] rfl (by kernel_rfl) (by kernel_rfl) (by kernel_rfl)
      (OpenSpec.preRow_of_cond 8 hx (by kernel_rfl) (fun k hk => by cases hk) (by kernel_rfl) (laidMet_of_run' 8 (by kernel_rfl) (by kernel_rfl)))) ?_
  intro W base args ds gs before hval hW _ _ hwt hL _ _
  exact contract H enc W base args ds gs before hval hW _ hwt
theorem proved : Rows.BlameComesSaid :=
  OpenClaim.holds_of_cond 3 Tryz.f3 rfl rfl rfl rfl rfl rfl rfl ⟨rfl, rfl, rfl, rfl, rfl⟩ rfl rfl rfl rfl rfl (by kernel_rfl) Tryz.func3 (by kernel_rfl)
    (of_decide_eq_true (by kernel_rfl)) (by unfold Func.isWrapper; first | (rw [if_pos (by decide +kernel)]; kernel_rfl) | (rw [if_neg (by decide +kernel)]; exact ⟨rfl, rfl⟩))
    (fun os started H enc _ F => by rw [OpenClaim.pre_eq_preRow]; exact lifted os started H enc F)
end Go.Proofs.YthoclljhjcfemaaGreat.blameComesFrame
