/- Points (layer 22), in plain words. -/
import Derived.Test.YtbennpandomacaaGreatW21
namespace Go.Proofs.YtbennpandomacaaGreat
open Go.RowKit
set_option linter.unusedVariables false
set_option linter.unnecessarySimpa false
set_option linter.unusedSimpArgs false
theorem sE_nop (L : List (List St)) (R : Int) : sE L R (0, 0, 0, 0, false) = 0 := by
  unfold sE
  have : fn_ref18_Needs (0, 0, 0, 0, false) L R = some ([], 0) := by
    unfold fn_ref18_Needs
    rw [show fn_ref18_Form ((0 : Int), 0, 0, 0, false) = _ from refForm_eq (0, 0, 0, 0, false)]
    rfl
  rw [this]; rfl
def bg (X : List Blk) (k : Nat) : Nat := stm (X.take k) + k
theorem bg_succ {X : List Blk} {k : Nat} (hk : k < X.length) : bg X (k + 1) = bg X k + X[k].1.length + 1 := by
  unfold bg; rw [stm_snoc hk]; omega
theorem bg_mono (X : List Blk) {i j : Nat} (h : i ≤ j) (hj : j ≤ X.length) : bg X i ≤ bg X j := by
  induction j with
  | zero => have : i = 0 := by omega
            subst this; exact Nat.le_refl _
  | succ j ih =>
    by_cases q : i = j + 1
    · subst q; exact Nat.le_refl _
    · have := ih (by omega) (by omega)
      rw [bg_succ (by omega)]; omega
theorem bg_lt (X : List Blk) {i j : Nat} (h : i < j) (hj : j ≤ X.length) : bg X i < bg X j := by
  have h1 := bg_mono X (i := i + 1) (j := j) h hj
  have h2 := bg_succ (X := X) (k := i) (by omega)
  omega
def bgs (X : List Blk) : List Int := (List.range X.length).map fun k => ((bg X k : Nat) : Int)
theorem bgs_len (X : List Blk) : (bgs X).length = X.length := by simp [bgs]
theorem bgs_get (X : List Blk) {k : Nat} (hk : k < X.length) : getI (bgs X) (k : Int) = some ((bg X k : Nat) : Int) := by
  rw [getN (by rw [bgs_len]; exact hk)]; simp [bgs]
def prow (i n : Nat) : List (Int × Int × Bool) := (List.range (n + 1)).map fun (k : Nat) => ((i : Int), (k : Int), decide (k = n))
def allN (X : List Blk) : Nat → List (Int × Int × Bool)
  | 0 => []
  | i + 1 => allN X i ++ prow i (X.getD i ([], 0, 0, 0, [], [], [])).1.length
theorem getD_eq {α : Type} {l : List α} {k : Nat} {d : α} (hk : k < l.length) : l.getD k d = l[k] := by simp [List.getD, hk]
theorem allN_len (X : List Blk) : ∀ i, i ≤ X.length → (allN X i).length = bg X i
  | 0, _ => by simp [allN, bg, stm]
  | i + 1, h => by
    have ih := allN_len X i (by omega)
    rw [bg_succ (by omega)]
    simp only [allN, List.length_append, ih, prow, List.length_map, List.length_range, getD_eq (show i < X.length by omega)]; omega
theorem allN_get (X : List Blk) : ∀ i, i ≤ X.length → ∀ j k, j < i → (hj : j < X.length) → k ≤ X[j].1.length → (allN X i)[bg X j + k]? = some ((j : Int), (k : Int), decide (k = X[j].1.length))
  | 0, _, j, k, h, _, _ => by omega
  | i + 1, h, j, k, hji, hj, hk => by
    have hl := allN_len X i (by omega)
    unfold allN
    by_cases q : j = i
    · subst q
      rw [List.getElem?_append_right (by omega), hl, Nat.add_sub_cancel_left, getD_eq hj]
      unfold prow
      rw [List.getElem?_map, List.getElem?_range (by omega)]; rfl
    · have h1 := bg_mono X (i := j + 1) (j := i) (by omega) (by omega)
      rw [bg_succ hj] at h1
      rw [List.getElem?_append_left (by omega)]
      exact allN_get X i (by omega) j k (by omega) hj hk
abbrev alls (X : List Blk) : List (Int × Int × Bool) := allN X X.length
theorem alls_len (X : List Blk) : (alls X).length = bg X X.length := allN_len X _ (Nat.le_refl _)
theorem alls_get (X : List Blk) {j k : Nat} (hj : j < X.length) (hk : k ≤ X[j].1.length) : (alls X)[bg X j + k]? = some ((j : Int), (k : Int), decide (k = X[j].1.length)) := allN_get X _ (Nat.le_refl _) j k hj hj hk
/-- Each point is in a block. -/
theorem locate (X : List Blk) : ∀ i, i ≤ X.length → ∀ n, n < bg X i → ∃ j k, ∃ hj : j < X.length, k ≤ X[j].1.length ∧ n = bg X j + k ∧ j < i
  | 0, _, n, h => by simp [bg, stm] at h
  | i + 1, h, n, hn => by
    rw [bg_succ (show i < X.length by omega)] at hn
    by_cases q : n < bg X i
    · obtain ⟨j, k, hj, h1, h2, h3⟩ := locate X i (by omega) n q
      exact ⟨j, k, hj, h1, h2, by omega⟩
    · exact ⟨i, n - bg X i, by omega, by omega, by omega, by omega⟩
theorem bg_bound {b : Bo} (h : Sm b) {k : Nat} (hk : k ≤ b.2.2.2.2.2.2.length) : bg b.2.2.2.2.2.2 k ≤ 32 := by
  have a2 := sum_take (fun x : Blk => x.1.length) b.2.2.2.2.2.2 k
  have a3 : stm (b.2.2.2.2.2.2.take k) ≤ stm b.2.2.2.2.2.2 := a2
  have := h.many
  have := h.blocks
  unfold bg; omega
/-- The blocks that count: none, where the body is not well-formed. -/
noncomputable def xs (b : Bo) : List Blk := if (vck b).1 = 0 then b.2.2.2.2.2.2 else []
theorem xs_bound {b : Bo} (h : Sm b) {k : Nat} (hk : k ≤ (xs b).length) : bg (xs b) k ≤ 32 ∧ (xs b).length ≤ 8 := by
  unfold xs at *
  split
  · rename_i q; rw [if_pos q] at hk; exact ⟨bg_bound h hk, h.blocks⟩
  · rename_i q; rw [if_neg q] at hk
    obtain rfl : k = 0 := by simpa using hk
    simp [bg, stm]
theorem pointNew_eq {b : Bo} (h : Sm b) : fn_point_New b = some (some (bgs (xs b), ((bg (xs b) (xs b).length : Nat) : Int))) := by
  unfold fn_point_New fn_valid_OK
  rw [show fn_valid_Check_az (b.1, b.2.1, b.2.2.1, b.2.2.2.1, b.2.2.2.2.1, b.2.2.2.2.2.1, b.2.2.2.2.2.2) = _ from validCheck_eq h]
  simp only [Option.bind_some]
  unfold xs
  by_cases q : (vck b).1 = 0
  · have h1 := h.blocks
    rw [decide_eq_true q, Bool.not_true, cond_false, if_pos q]
    have hl := loop_nat (body := fn_point_New_l1 b) (fun k : Nat => ((k : Int), (List.range k).map (fun i => ((bg b.2.2.2.2.2.2 i : Nat) : Int)), ((bg b.2.2.2.2.2.2 k : Nat) : Int))) b.2.2.2.2.2.2.length (b := (bgs b.2.2.2.2.2.2, ((bg b.2.2.2.2.2.2 b.2.2.2.2.2.2.length : Nat) : Int))) ?_ ?_
    · have hl' : loop (fn_point_New_l1 b) (0, [], 0) = some (bgs b.2.2.2.2.2.2, ((bg b.2.2.2.2.2.2 b.2.2.2.2.2.2.length : Nat) : Int)) := by simpa [bg, stm] using hl
      rw [hl']; rfl
    · intro k hk
      have a1 := bg_bound h (k := k) (by omega)
      have a2 := bg_bound h (k := k + 1) (by omega)
      have a3 := bg_succ hk
      unfold fn_point_New_l1
      simp only [dlt hk, cond_true, getN hk, Option.bind_some]
      rw [app_eq (by simp; omega), Option.bind_some, w64s hk (by omega), w64 (x := ((b.2.2.2.2.2.2[k].1.length : Nat) : Int) + 1) (by omega) (by omega), w64 (by omega) (by omega), a3, List.range_succ, List.map_append]
      simp only [Option.some.injEq, Sum.inl.injEq, Prod.mk.injEq, true_and, List.map_cons, List.map_nil]
      omega
    · unfold fn_point_New_l1
      simp [bgs]
  · rw [decide_eq_false q, if_neg q]; rfl
theorem refAll_eq {b : Bo} (h : Sm b) : fn_ref22_All b = some (alls (xs b)) := by
  unfold fn_ref22_All fn_ref21_OK
  rw [show fn_ref21_Check (b.1, b.2.1, b.2.2.1, b.2.2.2.1, b.2.2.2.2.1, b.2.2.2.2.2.1, b.2.2.2.2.2.2) = _ from refVCheck_eq h]
  simp only [Option.bind_some]
  unfold xs
  by_cases q : (vck b).1 = 0
  · have h1 := h.blocks
    rw [decide_eq_true q, Bool.not_true, cond_false, if_pos q]
    have hl := loop_nat (body := fn_ref22_All_l2 b) (fun k : Nat => (allN b.2.2.2.2.2.2 k, (k : Int))) b.2.2.2.2.2.2.length (b := alls b.2.2.2.2.2.2) ?_ ?_
    · rw [show loop (fn_ref22_All_l2 b) ([], 0) = _ from hl]; rfl
    · intro k hk
      have a1 := bg_bound h (k := k) (by omega)
      have a2 := bg_bound h (k := k + 1) (by omega)
      have a3 := bg_succ hk
      have a4 := allN_len b.2.2.2.2.2.2 k (by omega)
      unfold fn_ref22_All_l2
      simp only [dlt hk, cond_true, getN hk, Option.bind_some]
      have hin := loop_nat (body := fn_ref22_All_l1 (k : Int) b.2.2.2.2.2.2[k]) (fun j : Nat => (allN b.2.2.2.2.2.2 k ++ (List.range j).map (fun (i : Nat) => ((k : Int), (i : Int), decide (i = b.2.2.2.2.2.2[k].1.length))), (j : Int))) (b.2.2.2.2.2.2[k].1.length + 1) (b := allN b.2.2.2.2.2.2 k ++ prow k b.2.2.2.2.2.2[k].1.length) ?_ ?_
      · have hin' : loop (fn_ref22_All_l1 (k : Int) b.2.2.2.2.2.2[k]) (allN b.2.2.2.2.2.2 k, 0) = some (allN b.2.2.2.2.2.2 k ++ prow k b.2.2.2.2.2.2[k].1.length) := by simpa using hin
        rw [hin', Option.bind_some, w64s hk (by omega)]
        simp only [allN, getD_eq hk]
      · intro j hj
        unfold fn_ref22_All_l1
        dsimp only
        rw [decide_eq_true (by omega), cond_true, app_eq (by simp; omega), Option.bind_some, w64 (by omega) (by omega), List.range_succ, List.map_append]
        have e : decide ((j : Int) = ((b.2.2.2.2.2.2[k].1.length : Nat) : Int)) = decide (j = b.2.2.2.2.2.2[k].1.length) := by
          by_cases c : j = b.2.2.2.2.2.2[k].1.length <;> simp [c] <;> omega
        rw [e]
        simp
      · unfold fn_ref22_All_l1
        dsimp only
        rw [decide_eq_false (by omega)]
        rfl
    · unfold fn_ref22_All_l2
      simp
  · rw [decide_eq_false q, if_neg q]; rfl
theorem mid_eq {a c : Nat} (h : a + c ≤ 1000000) : IntKind.wrap .i64 (Int.fdiv (IntKind.wrap .u64 (IntKind.wrap .i64 ((a : Int) + (c : Int)))) (2 ^ (min (Int.toNat 1) (IntKind.bits .u64)))) = (((a + c) / 2 : Nat) : Int) := by
  have e1 : IntKind.wrap .i64 ((a : Int) + (c : Int)) = ((a + c : Nat) : Int) := by rw [w64 (by omega) (by omega)]; omega
  have e2 : IntKind.wrap .u64 ((a + c : Nat) : Int) = ((a + c : Nat) : Int) := by
    show ((a + c : Nat) : Int) % 2 ^ 64 = _
    omega
  have e3 : (2 : Int) ^ (min (Int.toNat 1) (IntKind.bits .u64)) = 2 := by decide
  rw [e1, e2, e3, Int.fdiv_eq_ediv_of_nonneg _ (by omega), w64 (by omega) (by omega)]
  omega
theorem search_eq {X : List Blk} (hX : X.length ≤ 1000) {t : Int} {j k : Nat} (hj : j < X.length) (hk : k ≤ X[j].1.length) {n : Nat} (hn : n = bg X j + k) :
    fn_sort_Search_i_point_Points_At_1_p0p1_kp_i ((X.length : Nat) : Int) (some (bgs X, t)) (n : Int) = some ((j + 1 : Nat) : Int) := by
  unfold fn_sort_Search_i_point_Points_At_1_p0p1_kp_i
  have pr : ∀ i, i < X.length → (n < bg X i ↔ j < i) := by
    intro i hi
    constructor
    · intro h
      by_cases q : j < i
      · exact q
      · have := bg_mono X (i := i) (j := j) (by omega) (by omega); omega
    · intro h
      have h1 := bg_mono X (i := j + 1) (j := i) h (by omega)
      rw [bg_succ hj] at h1; omega
  have key := loop_inv (body := fn_sort_Search_i_point_Points_At_1_p0p1_kp_i_l1 (some (bgs X, t)) (n : Int)) (fun s : Int × Int => ∃ a c : Nat, s = ((a : Int), (c : Int)) ∧ a ≤ j + 1 ∧ j + 1 ≤ c ∧ c ≤ X.length) (fun s => (s.2 - s.1).toNat) (Q := fun r => r = ((j + 1 : Nat) : Int)) ?_ (s := (0, ((X.length : Nat) : Int))) ⟨0, X.length, rfl, by omega, by omega, by omega⟩
  · obtain ⟨r, h1, h2⟩ := key
    rw [h1, h2]; rfl
  · rintro _ ⟨a, c, rfl, h1, h2, h3⟩
    unfold fn_sort_Search_i_point_Points_At_1_p0p1_kp_i_l1 fn_point_Points_At_1_ip0p1_kp_i
    dsimp only
    by_cases q : a < c
    · have hm : (a + c) / 2 < X.length := by omega
      simp only [dlt q, cond_true, mid_eq (show a + c ≤ 1000000 by omega), Option.bind_some, bgs_get X hm]
      by_cases q2 : j < (a + c) / 2
      · have := (pr _ hm).2 q2
        rw [decide_eq_true (by omega), Bool.not_true, cond_false]
        refine .inl ⟨_, rfl, ⟨a, (a + c) / 2, rfl, h1, by omega, by omega⟩, by dsimp only; omega⟩
      · have : ¬ n < bg X ((a + c) / 2) := fun hc => q2 ((pr _ hm).1 hc)
        rw [decide_eq_false (by omega), Bool.not_false, cond_true, w64 (by omega) (by omega)]
        refine .inl ⟨_, rfl, ⟨(a + c) / 2 + 1, c, rfl, by omega, h2, h3⟩, by dsimp only; omega⟩
    · rw [decide_eq_false (by omega), cond_false]
      exact .inr ⟨_, rfl, by omega⟩
/-- Where a point stands. -/
theorem at_eq {X : List Blk} (hX : X.length ≤ 1000) (hb : bg X X.length ≤ 100000) {j k : Nat} (hj : j < X.length) (hk : k ≤ X[j].1.length) :
    fn_point_Points_At (some (bgs X, ((bg X X.length : Nat) : Int))) ((bg X j + k : Nat) : Int) = some ((j : Int), (k : Int), true) := by
  have h1 := bg_mono X (i := j + 1) (j := X.length) hj (Nat.le_refl _)
  rw [bg_succ hj] at h1
  unfold fn_point_Points_At fn_point_Points_Len
  rw [decide_eq_false (by omega), cond_false]
  simp only [Option.isNone_some, cond_false, Option.bind_some]
  rw [decide_eq_false (by omega), cond_false, bgs_len, search_eq hX hj hk rfl, Option.bind_some, w64 (by omega) (by omega), show ((j + 1 : Nat) : Int) - 1 = (j : Int) by omega, bgs_get X hj, Option.bind_some, w64 (by omega) (by omega)]
  simp only [Option.some.injEq, Prod.mk.injEq, true_and, and_true]
  omega
theorem end_eq {X : List Blk} (hX : X.length ≤ 1000) {j : Nat} (hj : j < X.length) : fn_point_Points_end (some (bgs X, ((bg X X.length : Nat) : Int))) (j : Int) = some ((bg X (j + 1) : Nat) : Int) := by
  unfold fn_point_Points_end
  rw [Option.bind_some, w64 (by omega) (by omega)]
  dsimp only
  rw [bgs_len]
  by_cases q : j + 1 < X.length
  · rw [decide_eq_true (by omega), cond_true, show (j : Int) + 1 = ((j + 1 : Nat) : Int) by omega, bgs_get X q]; rfl
  · have : j + 1 = X.length := by omega
    rw [decide_eq_false (by omega), cond_false, this]
theorem ends_eq {X : List Blk} (hX : X.length ≤ 1000) (hb : bg X X.length ≤ 100000) {j k : Nat} (hj : j < X.length) (hk : k ≤ X[j].1.length) :
    fn_point_Points_Ends (some (bgs X, ((bg X X.length : Nat) : Int))) ((bg X j + k : Nat) : Int) = some (decide (k = X[j].1.length)) := by
  have h1 := bg_mono X (i := j + 1) (j := X.length) hj (Nat.le_refl _)
  have h2 := bg_succ hj
  unfold fn_point_Points_Ends
  rw [at_eq hX hb hj hk]
  simp only [Option.bind_some, cond_true, end_eq hX hj, w64 (x := ((bg X j + k : Nat) : Int) + 1) (by omega) (by omega)]
  congr 1
  by_cases c : k = X[j].1.length
  · rw [decide_eq_true c, decide_eq_true (by omega)]
  · rw [decide_eq_false c, decide_eq_false (by omega)]
theorem refOf_eq {X : List Blk} (hb : bg X X.length ≤ 100000) {j k : Nat} (hj : j < X.length) (hk : k ≤ X[j].1.length) : fn_ref22_Of (alls X) (j : Int) (k : Int) = some (((bg X j + k : Nat) : Int), true) := by
  have h1 := bg_mono X (i := j + 1) (j := X.length) hj (Nat.le_refl _)
  have h2 := bg_succ hj
  have hl := alls_len X
  unfold fn_ref22_Of
  have key := loop_find (body := fn_ref22_Of_l1 (alls X) (j : Int) (k : Int)) (fun n => n = bg X j + k) (fun n : Nat => (n : Int)) (alls X).length (fun n => .inr ((n : Int), true)) (.inl ()) ?_ ?_ ?_
  · rcases key with ⟨n, _, rfl, _, h4⟩ | ⟨h3, _⟩
    · rw [show (0 : Int) = ((0 : Nat) : Int) from rfl, h4]; rfl
    · exact absurd rfl (h3 (bg X j + k) (by omega))
  · intro n hn hp
    obtain ⟨i, m, hi, hm, rfl, _⟩ := locate X X.length (Nat.le_refl _) n (by omega)
    have hg := alls_get X hi hm
    rw [List.getElem?_eq_getElem hn] at hg
    unfold fn_ref22_Of_l1
    simp only [dlt hn, cond_true, getN hn, Option.bind_some, Option.some.inj hg, w64s hn (by omega : (alls X).length ≤ 9223372036854775807)]
    by_cases c1 : i = j
    · subst c1
      have c2 : ¬ m = k := fun e => hp (by rw [e])
      have : ¬ (m : Int) = (k : Int) := by omega
      simp [this]
    · have : ¬ (i : Int) = (j : Int) := by omega
      simp [this]
  · rintro n hn rfl
    have hg := alls_get X hj hk
    rw [List.getElem?_eq_getElem hn] at hg
    unfold fn_ref22_Of_l1
    simp only [dlt hn, cond_true, getN hn, Option.bind_some, Option.some.inj hg]
    simp
  · unfold fn_ref22_Of_l1; simp
end Go.Proofs.YtbennpandomacaaGreat
