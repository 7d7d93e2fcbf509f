/- Layer 9, tick and its reference: what each call answers. -/
import Derived.Test.YtaepligealadlaaRows
import Derived.Test.YtaepligealadlaaKit
import Derived.Test.YtaepligealadlaaRead
namespace Go.Proofs.Ytaepligealadlaa
open Go.RowKit
set_option linter.unusedVariables false
namespace Tk
def plus (a b : Int) : Int := if a + b ≤ 9223372036854775807 then a + b else 9223372036854775807
def times (a b : Int) : Int := if a * b ≤ 9223372036854775807 then a * b else 9223372036854775807
theorem times_bd (a b : Int) (ha : 0 ≤ a) (hb : 0 ≤ b) : 0 ≤ times a b ∧ times a b ≤ 9223372036854775807 := by
  have := Int.mul_nonneg ha hb
  unfold times; split <;> omega
theorem plus_bd (a b : Int) (ha : 0 ≤ a) (hb : 0 ≤ b) : 0 ≤ plus a b ∧ plus a b ≤ 9223372036854775807 := by
  unfold plus; split <;> omega
theorem times_zero (a : Int) : times a 0 = 0 := by simp [times]
theorem times_even (a c : Int) (ha : 0 ≤ a) (hc : 0 ≤ c) : plus (times a c) (times a c) = times a (2 * c) := by
  have h := Int.mul_nonneg ha hc
  have e : a * (2 * c) = 2 * (a * c) := by rw [Int.mul_left_comm]
  unfold plus times; rw [e]
  generalize a * c = x at *
  split <;> split <;> (try split) <;> omega
theorem times_odd (a c : Int) (ha : 0 ≤ a) (hc : 0 ≤ c) : plus (plus (times a c) (times a c)) a = times a (2 * c + 1) := by
  rw [times_even a c ha hc]
  have h := Int.mul_nonneg ha hc
  have e : a * (2 * c) = 2 * (a * c) := by rw [Int.mul_left_comm]
  have e2 : a * (2 * c + 1) = 2 * (a * c) + a := by rw [Int.mul_add, e, Int.mul_one]
  unfold plus times; rw [e, e2]
  generalize a * c = x at *
  split <;> split <;> (try split) <;> omega
def cubic (n : Int) : Int := if n < 0 then 0 else times (times (times 64 (plus n 1)) (plus n 1)) (plus n 1)
def solver (r c p : Int) : Int := if r < 0 ∨ c < 0 ∨ p < 0 then 0 else times (times 64 (plus r c)) (plus (plus p r) 1)
theorem pow_step (b : Int) (j : Nat) : b / 2 ^ j = 2 * (b / 2 ^ (j + 1)) + b / 2 ^ j % 2 := by
  have : b / 2 ^ (j + 1) = b / 2 ^ j / 2 := by rw [Int.pow_succ, ← Int.ediv_ediv_of_nonneg (Int.pow_nonneg (by omega))]
  omega
/-- Capped products do not hang on their brackets. -/
theorem times_assoc (a b c : Int) (ha : 0 ≤ a) (hb : 0 ≤ b) (hc : 0 ≤ c) : times (times a b) c = times a (times b c) := by
  rcases Int.eq_ofNat_of_zero_le ha with ⟨a, rfl⟩
  rcases Int.eq_ofNat_of_zero_le hb with ⟨b, rfl⟩
  rcases Int.eq_ofNat_of_zero_le hc with ⟨c, rfl⟩
  have key : ∀ x y : Nat, times x y = ((min (x * y) 9223372036854775807 : Nat) : Int) := fun x y => by
    unfold times
    have : (x : Int) * y = ((x * y : Nat) : Int) := by simp
    rw [this]; generalize x * y = z; split <;> omega
  rw [key, key, key, key]
  congr 1
  rcases Nat.eq_zero_or_pos a with rfl | ha
  · simp
  rcases Nat.eq_zero_or_pos c with rfl | hc
  · simp
  have l1 : a * b ≤ a * b * c := Nat.le_mul_of_pos_right _ hc
  have l2 : b * c ≤ a * (b * c) := Nat.le_mul_of_pos_left _ ha
  have e : a * b * c = a * (b * c) := Nat.mul_assoc a b c
  generalize 9223372036854775807 = M at *
  by_cases h1 : a * b ≤ M <;> by_cases h2 : b * c ≤ M
  · rw [Nat.min_eq_left h1, Nat.min_eq_left h2, e]
  · rw [Nat.min_eq_left h1, Nat.min_eq_right (by omega : M ≤ b * c)]
    have : M ≤ a * M := Nat.le_mul_of_pos_left _ ha
    omega
  · rw [Nat.min_eq_right (by omega : M ≤ a * b), Nat.min_eq_left h2]
    have : M ≤ M * c := Nat.le_mul_of_pos_right _ hc
    omega
  · rw [Nat.min_eq_right (by omega : M ≤ a * b), Nat.min_eq_right (by omega : M ≤ b * c)]
    have h3 : M ≤ M * c := Nat.le_mul_of_pos_right _ hc
    have h4 : M ≤ a * M := Nat.le_mul_of_pos_left _ ha
    omega
theorem times_mono (a b c d : Int) (ha : 0 ≤ a) (hb : 0 ≤ b) (h1 : a ≤ c) (h2 : b ≤ d) : times a b ≤ times c d := by
  have : a * b ≤ c * d := Int.mul_le_mul h1 h2 hb (by omega)
  unfold times; split <;> split <;> omega
theorem plus_mono (a b c d : Int) (h1 : a ≤ c) (h2 : b ≤ d) : plus a b ≤ plus c d := by
  unfold plus; split <;> split <;> omega
/-- The counter's cells together, from the first k. -/
def sumTo (l : List Int) : Nat → Int
  | 0 => 0
  | k + 1 => plus (sumTo l k) (l.getD k 0)
def Good (l : List Int) : Prop := l.length = 7 ∧ ∀ k, 0 ≤ l.getD k 0 ∧ l.getD k 0 ≤ 9223372036854775807
theorem sumTo_bd (l : List Int) (h : Good l) : ∀ k, 0 ≤ sumTo l k ∧ sumTo l k ≤ 9223372036854775807
  | 0 => by simp [sumTo]
  | k + 1 => plus_bd _ _ (sumTo_bd l h k).1 (h.2 k).1
def add (l : List Int) (p n : Int) : List Int := if 0 ≤ p ∧ p < 7 ∧ 0 ≤ n then l.set p.toNat (plus (l.getD p.toNat 0) n) else l
theorem getD_set (l : List Int) (i j : Nat) (v : Int) (hi : i < l.length) : (l.set i v).getD j 0 = if j = i then v else l.getD j 0 := by
  simp only [List.getD_eq_getElem?_getD, List.getElem?_set]
  by_cases h : j = i
  · subst h; simp [hi]
  · rw [if_neg (by omega), if_neg h]
theorem getD_add {l : List Int} (h : Good l) (p n : Int) (j : Nat) : (add l p n).getD j 0 = if p = j ∧ j < 7 ∧ 0 ≤ n then plus (l.getD j 0) n else l.getD j 0 := by
  unfold add
  by_cases c : 0 ≤ p ∧ p < 7 ∧ 0 ≤ n
  · rw [if_pos c, getD_set _ _ _ _ (by rw [h.1]; omega)]
    by_cases e : j = p.toNat
    · subst e; rw [if_pos rfl, if_pos (by omega)]
    · rw [if_neg e, if_neg (by omega)]
  · rw [if_neg c, if_neg (by omega)]
theorem good_add {l : List Int} (h : Good l) (p n : Int) (hn : n ≤ 9223372036854775807) : Good (add l p n) := by
  refine ⟨?_, fun k => ?_⟩
  · unfold add; split
    · simp [h.1]
    · exact h.1
  · rw [getD_add h]
    split
    · exact plus_bd _ _ (h.2 k).1 (by omega)
    · exact h.2 k
theorem sumTo_mono {l m : List Int} (h : ∀ k, l.getD k 0 ≤ m.getD k 0) : ∀ k, sumTo l k ≤ sumTo m k
  | 0 => Int.le_refl _
  | k + 1 => plus_mono _ _ _ _ (sumTo_mono h k) (h k)
theorem add_le {l : List Int} (h : Good l) (p n : Int) (k : Nat) : l.getD k 0 ≤ (add l p n).getD k 0 := by
  rw [getD_add h]
  have := (h.2 k)
  split
  · unfold plus; split <;> omega
  · omega
/-- How many steps of a part a list of acts comes to, of the first k. -/
def ofTo (a : List (Int × Int)) (p : Int) : Nat → Int
  | 0 => 0
  | k + 1 => if (a.getD k (0, 0)).1 = p ∧ 0 ≤ p ∧ p ≤ 6 ∧ 0 < (a.getD k (0, 0)).2 then plus (ofTo a p k) (a.getD k (0, 0)).2 else ofTo a p k
theorem ofTo_bd (a : List (Int × Int)) (p : Int) : ∀ k, 0 ≤ ofTo a p k ∧ ofTo a p k ≤ 9223372036854775807
  | 0 => by simp [ofTo]
  | k + 1 => by
    have := ofTo_bd a p k
    unfold ofTo
    split
    · exact plus_bd _ _ this.1 (by omega)
    · exact this
theorem ofTo_out (a : List (Int × Int)) (p : Int) (h : ¬ (0 ≤ p ∧ p < 7)) : ∀ k, ofTo a p k = 0
  | 0 => rfl
  | k + 1 => by unfold ofTo; rw [if_neg (by omega)]; exact ofTo_out a p h k
def totTo (a : List (Int × Int)) (n : Nat) : Nat → Int
  | 0 => 0
  | p + 1 => plus (totTo a n p) (ofTo a p n)
theorem totTo_bd (a : List (Int × Int)) (n : Nat) : ∀ k, 0 ≤ totTo a n k ∧ totTo a n k ≤ 9223372036854775807
  | 0 => by simp [totTo]
  | k + 1 => plus_bd _ _ (totTo_bd a n k).1 (ofTo_bd a k n).1
/-- The counter's cells behind the first k acts. -/
def addTo (a : List (Int × Int)) : Nat → List Int
  | 0 => [0, 0, 0, 0, 0, 0, 0]
  | k + 1 => add (addTo a k) (a.getD k (0, 0)).1 (a.getD k (0, 0)).2
theorem good_addTo (a : List (Int × Int)) (h : ∀ k, (a.getD k (0, 0)).2 ≤ 9223372036854775807) : ∀ k, Good (addTo a k)
  | 0 => ⟨rfl, fun k => by
    rcases k with _ | _ | _ | _ | _ | _ | _ | k <;> simp [addTo]⟩
  | k + 1 => good_add (good_addTo a h k) _ _ (h k)
theorem addTo_of (a : List (Int × Int)) (h : ∀ k, (a.getD k (0, 0)).2 ≤ 9223372036854775807) (p : Nat) (hp : p < 7) : ∀ k, (addTo a k).getD p 0 = ofTo a p k
  | 0 => by rcases p with _ | _ | _ | _ | _ | _ | _ | k <;> simp [addTo, ofTo]
  | k + 1 => by
    have ih := addTo_of a h p hp k
    have b := ofTo_bd a p k
    unfold addTo ofTo
    rw [getD_add (good_addTo a h k), ih]
    by_cases c : (a.getD k (0, 0)).1 = p ∧ p < 7 ∧ 0 ≤ (a.getD k (0, 0)).2
    · rw [if_pos c]
      by_cases z : (a.getD k (0, 0)).2 = 0
      · rw [z, if_neg (by omega)]; unfold plus; split <;> omega
      · rw [if_pos (by omega)]
    · rw [if_neg c, if_neg (by omega)]
theorem totTo_sum (a : List (Int × Int)) (h : ∀ k, (a.getD k (0, 0)).2 ≤ 9223372036854775807) (n : Nat) : ∀ p, p ≤ 7 → sumTo (addTo a n) p = totTo a n p
  | 0, _ => rfl
  | p + 1, hp => by
    unfold sumTo totTo
    rw [totTo_sum a h n p (by omega), addTo_of a h p (by omega) n]
end Tk
set_option maxHeartbeats 400000 in
theorem sum_any (a b : Int) (w : World) (ha : 0 ≤ a) (hb : 0 ≤ b) (ha' : a ≤ 9223372036854775807) (hb' : b ≤ 9223372036854775807) :
    Calls Try.prog 16 #[.int .i64 a, .int .i64 b] w fun e w' => e = .returned (.int .i64 (Tk.plus a b)) ∧ w = w' := by
  go_enter Try.func16, Try.ntmps16
  go_wp2
  all_goals go_ret
  all_goals exact ⟨ret_int (by unfold Tk.plus; split <;> omega), rfl⟩
set_option maxHeartbeats 400000 in
theorem product_any (a b : Int) (w : World) (ha : 0 ≤ a) (hb : 0 ≤ b) (ha' : a ≤ 9223372036854775807) (hb' : b ≤ 9223372036854775807) :
    Calls Try.prog 17 #[.int .i64 a, .int .i64 b] w fun e w' => e = .returned (.int .i64 (Tk.times a b)) ∧ w = w' := by
  have hab : 0 ≤ a * b := Int.mul_nonneg ha hb
  go_enter Try.func17, Try.ntmps17
  go_wp2
  · go_ret
    have h : 9223372036854775807 < a * b := mul_gt_of (by assumption) (by assumption)
    exact ⟨ret_int (by unfold Tk.times; rw [if_neg (by omega)]), rfl⟩
  · go_ret
    have h : a * b ≤ 9223372036854775807 := div_mul_bd (by assumption) (by assumption)
    exact ⟨ret_int (by unfold Tk.times; rw [if_pos h, IntWalk.wrap64_in _ (by omega)]), rfl⟩
  · go_ret
    have h : b = 0 := by omega
    subst h
    exact ⟨ret_int (by rw [Tk.times_zero, Int.mul_zero]; exact IntWalk.wrap64_in _ (by omega)), rfl⟩
set_option maxHeartbeats 400000 in
theorem plus_any (a b : Int) (w : World) (ha : 0 ≤ a) (hb : 0 ≤ b) (ha' : a ≤ 9223372036854775807) (hb' : b ≤ 9223372036854775807) :
    Calls Try.prog 8 #[.int .i64 a, .int .i64 b] w fun e w' => e = .returned (.int .i64 (Tk.plus a b)) ∧ w = w' := by
  go_enter Try.func8, Try.ntmps8
  go_wp2
  all_goals go_ret
  all_goals exact ⟨ret_int (by unfold Tk.plus; split <;> omega), rfl⟩
set_option maxHeartbeats 400000 in
theorem Times_any (a b : Int) (w : World) (ha : 0 ≤ a) (hb : 0 ≤ b) (ha' : a ≤ 9223372036854775807) (hb' : b ≤ 9223372036854775807) :
    Calls Try.prog 18 #[.int .i64 a, .int .i64 b] w fun e w' => e = .returned (.int .i64 (Tk.times a b)) ∧ w = w' := by
  go_enter Try.func18, Try.ntmps18
  go_wp2
  go_loop [5, 6] (fun o k => ∃ j : Nat, j ≤ 63 ∧ k = .int .i64 ((j : Int) - 1) ∧ o = .int .i64 (Tk.times a (b / 2 ^ j))) (fun _ k => (intOf k + 1).toNat)
  case atStart =>
    refine ⟨63, by omega, rfl, ?_⟩
    have : b / 2 ^ 63 = 0 := Int.ediv_eq_zero_of_lt hb (by omega)
    rw [this, Tk.times_zero]
  case round =>
    obtain ⟨j, hj, rfl, rfl⟩ := hrel
    by_cases h0 : j = 0
    · subst h0
      have e : b / 2 ^ 0 = b := by simp
      rw [e]
      go_wp2
      go_ret
      exact ⟨rfl, rfl⟩
    · obtain ⟨i, rfl⟩ : ∃ i, j = i + 1 := ⟨j - 1, by omega⟩
      have hp : 0 ≤ b / 2 ^ (i + 1) := Int.ediv_nonneg hb (Int.pow_nonneg (by omega))
      have hp0 : 0 ≤ b / 2 ^ i := Int.ediv_nonneg hb (Int.pow_nonneg (by omega))
      have hp1 : b / 2 ^ i ≤ b := Int.ediv_le_self _ hb
      have hbd := Tk.times_bd a (b / 2 ^ (i + 1)) ha hp
      have E := Lib.hid (Tk.times_even a _ ha hp)
      have O := Lib.hid (Tk.times_odd a _ ha hp)
      have hb2 := Tk.plus_bd _ _ hbd.1 hbd.1
      have B := Lib.hid (and1_i64 (b / 2 ^ i) hp0 (by omega))
      have S := Lib.hid (Tk.pow_step b i)
      generalize Tk.times a (b / 2 ^ (i + 1)) = T at *
      clear hp hp0 hp1
      go_wp2_with fail
      refine (plus_any _ _ _ (by omega) (by omega) (by omega) (by omega)).mono ?_
      rintro e w' ⟨rfl, rfl⟩
      generalize Tk.plus T T = U at *
      go_wp2_with fail
      · refine (plus_any _ _ _ (by omega) (by omega) (by omega) (by omega)).mono ?_
        rintro e w' ⟨rfl, rfl⟩
        have h : (bits .and .i64 (b / 2 ^ i) 1 == 1) = true := by assumption
        rw [B.out] at h
        have h2 : b / 2 ^ i % 2 = 1 := by simpa using h
        clear h
        have R : Hid (Tk.times a (b / 2 ^ i) = Tk.plus U a) := Lib.hid (by rw [S.out, h2]; exact O.out.symm)
        clear B S h2
        go_wp2_with fail
        go_round
        case rel => exact ⟨i, by omega, by go_num, by rw [R.out]⟩
        case measure => simp [intOf]
      · have h : (bits .and .i64 (b / 2 ^ i) 1 == 1) = false := by assumption
        rw [B.out] at h
        have h2 : b / 2 ^ i % 2 = 0 := by have h3 : ¬ b / 2 ^ i % 2 = 1 := (by simpa using h); omega
        refine ⟨⟨i, by omega, val_int (by omega), val_int ?_⟩, by simp [intOf]⟩
        rw [S.out, h2, Int.add_zero]; exact E.out
theorem isPart_any (p : Int) (w : World) : Calls Try.prog 15 #[.int .i64 p] w fun e w' => e = .returned (.bool (decide (0 ≤ p) && decide (p < 7))) ∧ w = w' := by
  go_enter Try.func15, Try.ntmps15
  go_wp2
  all_goals go_ret
  all_goals exact ⟨ret_bool (by simp; try omega), rfl⟩
set_option maxHeartbeats 400000 in
theorem Add_any (b : Nat) (l : List Int) (t : TypeId) (p n : Int) (w : World) (hl : l.length = 7) (hp : 0 ≤ p) (hp' : p < 7) (hn : 0 ≤ n) (hn' : n ≤ 9223372036854775807)
    (hall : ∀ x ∈ l, 0 ≤ x ∧ x ≤ 9223372036854775807) (hb : w.heap[b]? = some (.cells (ints l) t (0, 0))) :
    Calls Try.prog 6 #[.pointer (some ⟨b, 0, none⟩), .int .i64 p, .int .i64 n] w fun e w' => e = .returned (.tuple #[]) ∧ Fr [b] w w' ∧
      w'.heap[b]? = some (.cells (ints (l.set p.toNat (Tk.plus (l.getD p.toNat 0) n))) t (0, 0)) := by
  obtain ⟨k, rfl⟩ := Int.eq_ofNat_of_zero_le hp
  have hc := cell_ints hb k (by omega)
  have hf := free_cells hb k
  have hm : 0 ≤ l.getD k 0 ∧ l.getD k 0 ≤ 9223372036854775807 := hall _ (by simp [List.getD, List.getElem?_eq_getElem (show k < l.length by omega)])
  generalize hx : l.getD k 0 = x at *
  have HX := Lib.hid hx
  clear hx
  have HB := Lib.hid hb
  clear hb hall
  have hk : k < 7 := by omega
  go_enter Try.func6, Try.ntmps6
  go_wp2
  go_region_with (go_at_call 16; refine (sum_any _ _ _ (by omega) (by omega) (by omega) (by omega)).mono ?_; rintro e w' ⟨rfl, rfl⟩)
  all_goals go_end0
  all_goals refine ⟨rfl, ?_, ?_⟩
  · exact ((Fr.refl _ _).setCell _ (.inl (by simp)) _).drewN _
  · rw [Int.toNat_natCast, HX.out]; exact ints_set HB.out k _
theorem Cubic_any (n : Int) (w : World) (hn : In64 n) : Calls Try.prog 12 #[.int .i64 n] w fun e w' => e = .returned (.int .i64 (Tk.cubic n)) ∧ w = w' := by
  obtain ⟨h1, h2⟩ := hn
  by_cases h : n < 0
  · go_enter Try.func12, Try.ntmps12
    go_wp2
    go_ret
    exact ⟨ret_int (by simp [Tk.cubic, h]), rfl⟩
  · have p1 := Tk.plus_bd n 1 (by omega) (by omega)
    have p2 := Tk.times_bd 64 (Tk.plus n 1) (by omega) p1.1
    have p3 := Tk.times_bd _ (Tk.plus n 1) p2.1 p1.1
    have C : Hid (Tk.cubic n = Tk.times (Tk.times (Tk.times 64 (Tk.plus n 1)) (Tk.plus n 1)) (Tk.plus n 1)) := Lib.hid (by unfold Tk.cubic; rw [if_neg h])
    go_enter Try.func12, Try.ntmps12
    go_wp2_with fail
    refine (sum_any _ _ _ (by omega) (by omega) (by omega) (by omega)).mono ?_
    rintro e w' ⟨rfl, rfl⟩
    go_wp2_with fail
    refine (product_any _ _ _ (by omega) (by omega) (by omega) (by omega)).mono ?_
    rintro e w' ⟨rfl, rfl⟩
    go_wp2_with fail
    refine (product_any _ _ _ (by omega) (by omega) (by omega) (by omega)).mono ?_
    rintro e w' ⟨rfl, rfl⟩
    go_wp2_with fail
    refine (product_any _ _ _ (by omega) (by omega) (by omega) (by omega)).mono ?_
    rintro e w' ⟨rfl, rfl⟩
    go_wp2_with fail
    go_ret
    exact ⟨ret_int C.out.symm, rfl⟩
theorem Solver_any (r c p : Int) (w : World) (hr : In64 r) (hc : In64 c) (hp : In64 p) : Calls Try.prog 11 #[.int .i64 r, .int .i64 c, .int .i64 p] w fun e w' => e = .returned (.int .i64 (Tk.solver r c p)) ∧ w = w' := by
  obtain ⟨h1, h2⟩ := hr
  obtain ⟨h3, h4⟩ := hc
  obtain ⟨h5, h6⟩ := hp
  by_cases h : r < 0 ∨ c < 0 ∨ p < 0
  · have C : Hid (Tk.solver r c p = 0) := Lib.hid (by unfold Tk.solver; rw [if_pos h])
    go_enter Try.func11, Try.ntmps11
    go_wp2_with fail
    all_goals first | (go_ret; exact ⟨ret_int C.out.symm, rfl⟩) | (exfalso; omega)
  · have q1 := Tk.plus_bd r c (by omega) (by omega)
    have q2 := Tk.plus_bd p r (by omega) (by omega)
    have q3 := Tk.plus_bd _ 1 q2.1 (by omega)
    have q4 := Tk.times_bd 64 _ (by omega) q1.1
    have C : Hid (Tk.solver r c p = Tk.times (Tk.times 64 (Tk.plus r c)) (Tk.plus (Tk.plus p r) 1)) := Lib.hid (by unfold Tk.solver; rw [if_neg h])
    have k1 : 0 ≤ r := by omega
    have k2 : 0 ≤ c := by omega
    have k3 : 0 ≤ p := by omega
    clear h
    go_enter Try.func11, Try.ntmps11
    go_wp2_with fail
    refine (sum_any _ _ _ (by omega) (by omega) (by omega) (by omega)).mono ?_
    rintro e w' ⟨rfl, rfl⟩
    go_wp2_with fail
    refine (product_any _ _ _ (by omega) (by omega) (by omega) (by omega)).mono ?_
    rintro e w' ⟨rfl, rfl⟩
    go_wp2_with fail
    refine (sum_any _ _ _ (by omega) (by omega) (by omega) (by omega)).mono ?_
    rintro e w' ⟨rfl, rfl⟩
    go_wp2_with fail
    refine (sum_any _ _ _ (by omega) (by omega) (by omega) (by omega)).mono ?_
    rintro e w' ⟨rfl, rfl⟩
    go_wp2_with fail
    refine (product_any _ _ _ (by omega) (by omega) (by omega) (by omega)).mono ?_
    rintro e w' ⟨rfl, rfl⟩
    go_wp2_with fail
    go_ret
    exact ⟨ret_int C.out.symm, rfl⟩
theorem refCubic_any (n : Int) (w : World) (hn : In64 n) : Calls Try.prog 13 #[.int .i64 n] w fun e w' => e = .returned (.int .i64 (Tk.cubic n)) ∧ w = w' := by
  obtain ⟨h1, h2⟩ := hn
  by_cases h : n < 0
  · go_enter Try.func13, Try.ntmps13
    go_wp2
    go_ret
    exact ⟨ret_int (by simp [Tk.cubic, h]), rfl⟩
  · have p1 := Tk.plus_bd n 1 (by omega) (by omega)
    have p2 := Tk.times_bd _ _ p1.1 p1.1
    have p3 := Tk.times_bd _ _ p1.1 p2.1
    have C : Hid (Tk.cubic n = Tk.times 64 (Tk.times (Tk.plus n 1) (Tk.times (Tk.plus n 1) (Tk.plus n 1)))) := Lib.hid (by
      unfold Tk.cubic; rw [if_neg h, Tk.times_assoc _ _ _ (Tk.times_bd 64 _ (by omega) p1.1).1 p1.1 p1.1, Tk.times_assoc _ _ _ (by omega) p1.1 p2.1])
    go_enter Try.func13, Try.ntmps13
    go_wp2_with fail
    refine (plus_any _ _ _ (by omega) (by omega) (by omega) (by omega)).mono ?_
    rintro e w' ⟨rfl, rfl⟩
    go_wp2_with fail
    refine (Times_any _ _ _ (by omega) (by omega) (by omega) (by omega)).mono ?_
    rintro e w' ⟨rfl, rfl⟩
    go_wp2_with fail
    refine (Times_any _ _ _ (by omega) (by omega) (by omega) (by omega)).mono ?_
    rintro e w' ⟨rfl, rfl⟩
    go_wp2_with fail
    refine (Times_any _ _ _ (by omega) (by omega) (by omega) (by omega)).mono ?_
    rintro e w' ⟨rfl, rfl⟩
    go_wp2_with fail
    go_ret
    exact ⟨ret_int C.out.symm, rfl⟩
theorem refSolver_any (r c p : Int) (w : World) (hr : In64 r) (hc : In64 c) (hp : In64 p) : Calls Try.prog 14 #[.int .i64 r, .int .i64 c, .int .i64 p] w fun e w' => e = .returned (.int .i64 (Tk.solver r c p)) ∧ w = w' := by
  obtain ⟨h1, h2⟩ := hr
  obtain ⟨h3, h4⟩ := hc
  obtain ⟨h5, h6⟩ := hp
  by_cases h : r < 0 ∨ c < 0 ∨ p < 0
  · have C : Hid (Tk.solver r c p = 0) := Lib.hid (by unfold Tk.solver; rw [if_pos h])
    go_enter Try.func14, Try.ntmps14
    go_wp2_with fail
    all_goals first | (go_ret; exact ⟨ret_int C.out.symm, rfl⟩) | (exfalso; omega)
  · have q1 := Tk.plus_bd r c (by omega) (by omega)
    have q2 := Tk.plus_bd p r (by omega) (by omega)
    have q3 := Tk.plus_bd _ 1 q2.1 (by omega)
    have q4 := Tk.times_bd _ _ q1.1 q3.1
    have C : Hid (Tk.solver r c p = Tk.times 64 (Tk.times (Tk.plus r c) (Tk.plus (Tk.plus p r) 1))) := Lib.hid (by
      unfold Tk.solver; rw [if_neg h, Tk.times_assoc _ _ _ (by omega) q1.1 q3.1])
    have k1 : 0 ≤ r := by omega
    have k2 : 0 ≤ c := by omega
    have k3 : 0 ≤ p := by omega
    clear h
    go_enter Try.func14, Try.ntmps14
    go_wp2_with fail
    refine (plus_any _ _ _ (by omega) (by omega) (by omega) (by omega)).mono ?_
    rintro e w' ⟨rfl, rfl⟩
    go_wp2_with fail
    refine (plus_any _ _ _ (by omega) (by omega) (by omega) (by omega)).mono ?_
    rintro e w' ⟨rfl, rfl⟩
    go_wp2_with fail
    refine (plus_any _ _ _ (by omega) (by omega) (by omega) (by omega)).mono ?_
    rintro e w' ⟨rfl, rfl⟩
    go_wp2_with fail
    refine (Times_any _ _ _ (by omega) (by omega) (by omega) (by omega)).mono ?_
    rintro e w' ⟨rfl, rfl⟩
    go_wp2_with fail
    refine (Times_any _ _ _ (by omega) (by omega) (by omega) (by omega)).mono ?_
    rintro e w' ⟨rfl, rfl⟩
    go_wp2_with fail
    go_ret
    exact ⟨ret_int C.out.symm, rfl⟩
theorem Of_nil (p : Int) (w : World) : Calls Try.prog 10 #[.pointer none, .int .i64 p] w fun e w' => e = .returned (.int .i64 0) ∧ w = w' := by
  go_enter Try.func10, Try.ntmps10
  go_wp2
  go_ret
  exact ⟨rfl, rfl⟩
theorem Of_any (b : Nat) (l : List Int) (t : TypeId) (p : Int) (w : World) (hl : l.length = 7) (hb : w.heap[b]? = some (.cells (ints l) t (0, 0))) :
    Calls Try.prog 10 #[.pointer (some ⟨b, 0, none⟩), .int .i64 p] w fun e w' => e = .returned (.int .i64 (if 0 ≤ p ∧ p < 7 then l.getD p.toNat 0 else 0)) ∧ w = w' := by
  by_cases h : 0 ≤ p ∧ p < 7
  · rw [if_pos h]
    obtain ⟨hp, hp'⟩ := h
    obtain ⟨k, rfl⟩ := Int.eq_ofNat_of_zero_le hp
    have hc := cell_ints hb k (by omega)
    rw [Int.toNat_natCast]
    have hk : k < 7 := by omega
    clear hb hl
    go_enter Try.func10, Try.ntmps10
    go_wp2
    go_ret
    exact ⟨rfl, rfl⟩
  · rw [if_neg h]
    clear hb hl
    have HH := Lib.hid h
    clear h
    have h := HH.out
    go_enter Try.func10, Try.ntmps10
    go_wp2
    all_goals first | (go_ret; exact ⟨rfl, rfl⟩) | (exfalso; have q : (!decide (p < 7)) = false := (by assumption); simp at q; omega)
theorem Add_nil (p n : Int) (w : World) : Calls Try.prog 6 #[.pointer none, .int .i64 p, .int .i64 n] w fun e w' => e = .returned (.tuple #[]) ∧ w = w' := by
  go_enter Try.func6, Try.ntmps6
  go_wp2
  go_end0
  exact ⟨rfl, rfl⟩
set_option maxHeartbeats 400000 in
theorem Add_all (b : Nat) (l : List Int) (t : TypeId) (p n : Int) (w : World) (hl : Tk.Good l) (hn' : n ≤ 9223372036854775807) (hb : w.heap[b]? = some (.cells (ints l) t (0, 0))) :
    Calls Try.prog 6 #[.pointer (some ⟨b, 0, none⟩), .int .i64 p, .int .i64 n] w fun e w' => e = .returned (.tuple #[]) ∧ Fr [b] w w' ∧
      w'.heap[b]? = some (.cells (ints (Tk.add l p n)) t (0, 0)) := by
  by_cases c : 0 ≤ p ∧ p < 7 ∧ 0 ≤ n
  · unfold Tk.add
    rw [if_pos c]
    exact Add_any b l t p n w hl.1 c.1 c.2.1 c.2.2 hn' (fun x hx => by
      obtain ⟨i, hi, rfl⟩ := List.getElem_of_mem hx
      have := hl.2 i
      simpa [List.getD, List.getElem?_eq_getElem hi] using this) hb
  · have e : Tk.add l p n = l := by unfold Tk.add; rw [if_neg c]
    rw [e]
    have HB := Lib.hid hb
    clear hb hl e
    go_enter Try.func6, Try.ntmps6
    go_wp2
    all_goals first | (exfalso; omega) | (go_end0; exact ⟨rfl, Fr.refl _ _, HB.out⟩)
set_option maxHeartbeats 400000 in
theorem Total_any (b : Nat) (l : List Int) (t : TypeId) (w : World) (hl : Tk.Good l) (hb : w.heap[b]? = some (.cells (ints l) t (0, 0))) :
    Calls Try.prog 7 #[.pointer (some ⟨b, 0, none⟩)] w fun e w' => e = .returned (.int .i64 (Tk.sumTo l 7)) ∧ w = w' := by
  have HB := Lib.hid hb
  have HL := Lib.hid hl
  clear hb hl
  go_enter Try.func7, Try.ntmps7
  go_wp2_with fail
  go_loop [3, 5] (fun s i => ∃ k : Nat, k ≤ 7 ∧ i = .int .i64 k ∧ s = .int .i64 (Tk.sumTo l k)) (fun _ i => 7 - (intOf i).toNat)
  case atStart => exact ⟨0, by omega, rfl, rfl⟩
  case round =>
    obtain ⟨k, hk, rfl, rfl⟩ := hrel
    by_cases h : k < 7
    · have s1 := Tk.sumTo_bd l HL.out k
      have s2 := HL.out.2 k
      have E : Hid (Tk.sumTo l (k + 1) = Tk.plus (Tk.sumTo l k) (l.getD k 0)) := Lib.hid rfl
      have O := Of_any b l t (k : Int) w HL.out.1 HB.out
      rw [if_pos ⟨by omega, by omega⟩, Int.toNat_natCast] at O
      generalize l.getD k 0 = y at *
      generalize Tk.sumTo l k = x at *
      have OO := Lib.hid O
      clear O
      go_wp2_with (first | (go_at_call 10; refine OO.out.mono ?_; rintro e w' ⟨rfl, rfl⟩) | (go_at_call 16; refine (sum_any _ _ _ (by omega) (by omega) (by omega) (by omega)).mono ?_; rintro e w' ⟨rfl, rfl⟩))
      go_round
      case rel => exact ⟨k + 1, by omega, by go_num, by rw [E.out]⟩
      case measure => simp [intOf]; omega
    · obtain rfl : k = 7 := by omega
      go_wp2_with fail
      go_ret
      exact ⟨rfl, rfl⟩
theorem Total_nil (w : World) : Calls Try.prog 7 #[.pointer none] w fun e w' => e = .returned (.int .i64 0) ∧ w = w' := by
  go_enter Try.func7, Try.ntmps7
  go_wp2_with fail
  go_loop [3, 5] (fun s i => ∃ k : Nat, k ≤ 7 ∧ i = .int .i64 k ∧ s = .int .i64 0) (fun _ i => 7 - (intOf i).toNat)
  case atStart => exact ⟨0, by omega, rfl, rfl⟩
  case round =>
    obtain ⟨k, hk, rfl, rfl⟩ := hrel
    by_cases h : k < 7
    · go_wp2_with (first | (go_at_call 10; refine (Of_nil _ _).mono ?_; rintro e w' ⟨rfl, rfl⟩) | (go_at_call 16; refine (sum_any _ _ _ (by omega) (by omega) (by omega) (by omega)).mono ?_; rintro e w' ⟨rfl, rfl⟩))
      go_round
      case rel => exact ⟨k + 1, by omega, by go_num, rfl⟩
      case measure => simp [intOf]; omega
    · obtain rfl : k = 7 := by omega
      go_wp2_with fail
      go_ret
      exact ⟨rfl, rfl⟩
set_option maxHeartbeats 400000 in
theorem refOf_any (v : Value) (a : List (Int × Int)) (p : Int) (w : World) (hv : IsPairs w v a) :
    Calls Try.prog 9 #[v, .int .i64 p] w fun e w' => e = .returned (.int .i64 (Tk.ofTo a p a.length)) ∧ w = w' := by
  obtain ⟨ad, cap, rfl, hlen, h64, hcells⟩ := hv
  go_enter Try.func9, Try.ntmps9
  go_wp2_with fail
  go_loop [5, 6] (fun s i => ∃ k : Nat, k ≤ a.length ∧ i = .int .i64 k ∧ s = .int .i64 (Tk.ofTo a p k)) (fun _ i => a.length - (intOf i).toNat)
  case atStart => exact ⟨0, by omega, rfl, rfl⟩
  case round =>
    obtain ⟨k, hk, rfl, rfl⟩ := hrel
    by_cases h : k < a.length
    · obtain ⟨b, o, rfl, hb, hc⟩ := hcells (by omega)
      have c := hc k h
      have q := h64 k
      have s1 := Tk.ofTo_bd a p k
      have E : Hid (Tk.ofTo a p (k + 1) = if (a.getD k (0, 0)).1 = p ∧ 0 ≤ p ∧ p ≤ 6 ∧ 0 < (a.getD k (0, 0)).2 then Tk.plus (Tk.ofTo a p k) (a.getD k (0, 0)).2 else Tk.ofTo a p k) := Lib.hid rfl
      generalize a.getD k (0, 0) = y at *
      obtain ⟨y, z⟩ := y
      generalize Tk.ofTo a p k = x at *
      obtain ⟨c1, c2⟩ := c
      obtain ⟨⟨q1, q2⟩, q3, q4⟩ := q
      dsimp only at c1 c2 q1 q2 q3 q4
      clear hcells hc h64
      go_wp2_with (go_at_call 8; refine (plus_any _ _ _ (by omega) (by omega) (by omega) (by omega)).mono ?_; rintro e w' ⟨rfl, rfl⟩)
      all_goals refine ⟨⟨k + 1, by omega, by go_num, val_int ?_⟩, by simp [intOf]; omega⟩
      all_goals (rw [E.out]; split <;> first | rfl | (exfalso; omega))
    · obtain rfl : k = a.length := by omega
      go_wp2_with fail
      go_ret
      exact ⟨rfl, rfl⟩
end Go.Proofs.Ytaepligealadlaa
