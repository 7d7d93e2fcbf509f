/- Layer 19's law of bytes taken (terminators). -/
import Derived.Test.YtgeofnfjgjodgaaQ19
namespace Go.Proofs.Ytgeofnfjgjodgaa
open Go.RowKit Lb
set_option linter.unusedVariables false
set_option linter.unnecessarySimpa false
set_option linter.unusedSimpArgs false
abbrev rep (n : Nat) : List Bool := List.replicate n true
theorem nums_succ (m : Nat) (s : List UInt8) : nums (rep (m + 1)) s = if (take s).2.2 ≠ 0 then ((take s).2.2, [], 0) else ((nums (rep m) (s.drop (take s).2.1.toNat)).1, (take s).1 :: (nums (rep m) (s.drop (take s).2.1.toNat)).2.1, (take s).2.1.toNat + (nums (rep m) (s.drop (take s).2.1.toNat)).2.2) := rfl
/-- The document's numbers. -/
theorem refNums_loop (s : List UInt8) (n : Nat) (hs : s.length ≤ 1000) (hn : n ≤ 16) : ∀ (m : Nat) (acc : List Int) (k : Nat), acc.length + m = n → k ≤ s.length →
    loop (fn_ref19_numbers_l1 s (n : Int)) (acc, (k : Int), ((acc.length : Nat) : Int)) = some (if (nums (rep m) (s.drop k)).1 = 0 then .inl (acc ++ (nums (rep m) (s.drop k)).2.1, ((k + (nums (rep m) (s.drop k)).2.2 : Nat) : Int)) else .inr ([], 0, (nums (rep m) (s.drop k)).1)) := by
  intro m
  induction m with
  | zero =>
    intro acc k hm hk
    refine loop_end ?_
    unfold fn_ref19_numbers_l1
    dsimp only
    rw [decide_eq_false (by omega), cond_false]
    simp [nums, rep]
  | succ m ih =>
    intro acc k hm hk
    rw [nums_succ]
    have hb : fn_ref19_numbers_l1 s (n : Int) (acc, (k : Int), ((acc.length : Nat) : Int)) = (fn_ref02_Take (s.drop k)).bind fun (i369, i370, i371) => cond (!decide (i371 = 0)) (some (.inr ((.inr (([], 0, i371)))))) ((app acc ([i369] : List Int)).bind fun z380 => some (.inl ((z380, IntKind.wrap .i64 ((k : Int) + i370), IntKind.wrap .i64 (((acc.length : Nat) : Int) + 1))))) := by
      unfold fn_ref19_numbers_l1
      dsimp only
      rw [decide_eq_true (by omega), cond_true, sub_tail s k hk, Option.bind_some]
    rw [refTake_eq _ (by simp; omega)] at hb
    rcases take_cases (s.drop k) with ⟨x, q, ht, x0, x1, q0, q1, _⟩ | ⟨e, ht, he⟩
    · simp only [List.length_drop] at q1
      rw [ht] at hb ⊢
      simp only [ne_eq, not_true_eq_false, if_false, Int.toNat_natCast]
      rw [loop_next (s' := (acc ++ [x], ((k + q : Nat) : Int), (((acc ++ [x]).length : Nat) : Int)))]
      · rw [ih (acc ++ [x]) (k + q) (by simp; omega) (by omega), List.drop_drop]
        by_cases hz : (nums (rep m) (s.drop (k + q))).1 = 0
        · rw [if_pos hz, if_pos hz]; simp [Nat.add_assoc]
        · rw [if_neg hz, if_neg hz]
      · rw [hb, Option.bind_some]
        dsimp only
        rw [show (!decide ((0 : Int) = 0)) = false from rfl, cond_false, app_eq (by simp; omega), Option.bind_some, w64 (x := (k : Int) + (q : Int)) (by omega) (by omega), w64 (x := ((acc.length : Nat) : Int) + 1) (by omega) (by omega)]
        simp
    · rw [ht] at hb ⊢
      simp only [ne_eq, he, not_false_eq_true, if_true, if_false]
      refine loop_end ?_
      rw [hb, Option.bind_some]
      dsimp only
      rw [decide_eq_false he]; rfl
theorem refNums_eq (s : List UInt8) (n : Nat) (hs : s.length ≤ 1000) (hn : n ≤ 16) : fn_ref19_numbers s (n : Int) = some (if (nums (rep n) s).1 = 0 then ((nums (rep n) s).2.1, ((nums (rep n) s).2.2 : Int), 0) else ([], 0, (nums (rep n) s).1)) := by
  unfold fn_ref19_numbers
  have h := refNums_loop s n hs hn n [] 0 (by simp) (by omega)
  have h' : loop (fn_ref19_numbers_l1 s (n : Int)) ([], 0, 0) = _ := h
  rw [h', List.drop_zero]
  by_cases hz : (nums (rep n) s).1 = 0
  · rw [if_pos hz, if_pos hz]; simp
  · rw [if_neg hz, if_neg hz]; rfl
/-- A list in bytes: the error, the numbers, how many bytes. -/
def lst (t : List UInt8) : Int × List Int × Nat :=
  if (take t).2.2 ≠ 0 then ((take t).2.2, [], 0) else if 16 < (take t).1 then (6, [], 0)
  else ((nums (rep (take t).1.toNat) (t.drop (take t).2.1.toNat)).1, (nums (rep (take t).1.toNat) (t.drop (take t).2.1.toNat)).2.1, (take t).2.1.toNat + (nums (rep (take t).1.toNat) (t.drop (take t).2.1.toNat)).2.2)
theorem lst_ok (t : List UInt8) (h : (lst t).1 = 0) : (lst t).2.2 ≤ t.length ∧ (lst t).2.1.length ≤ 16 := by
  unfold lst at h ⊢
  rcases take_cases t with ⟨x, q, ht, x0, x1, q0, q1, _⟩ | ⟨e, ht, he⟩
  · rw [ht] at h ⊢
    simp only [ne_eq, not_true_eq_false, if_false, Int.toNat_natCast] at h ⊢
    by_cases h16 : 16 < x
    · rw [if_pos h16] at h; cases h
    · rw [if_neg h16] at h ⊢
      obtain ⟨p1, _, p3, _⟩ := put_nums _ _ h
      simp only [List.length_drop, List.length_replicate] at p1 p3
      dsimp only
      exact ⟨by omega, by omega⟩
  · rw [ht] at h
    simp [he] at h
theorem refTaken_eq (t : List UInt8) (hs : t.length ≤ 1000) : ∃ (l : List Int) (k : Int), fn_ref19_taken t = some (l, k, (lst t).1) ∧ ((lst t).1 = 0 → l = (lst t).2.1 ∧ k = ((lst t).2.2 : Int)) := by
  have hok := lst_ok t
  unfold fn_ref19_taken
  rw [refTake_eq _ (by omega)]
  unfold lst at hok ⊢
  rcases take_cases t with ⟨x, q, ht, x0, x1, q0, q1, _⟩ | ⟨e, ht, he⟩
  · rw [ht] at hok ⊢
    simp only [ne_eq, not_true_eq_false, if_false, Int.toNat_natCast, Option.bind_some, decide_true, Bool.not_true, cond_false] at hok ⊢
    by_cases h16 : 16 < x
    · rw [if_pos h16, decide_eq_true h16]
      exact ⟨[], 0, rfl, fun h => by cases h⟩
    · rw [if_neg h16] at hok
      rw [if_neg h16, decide_eq_false h16, cond_false, sub_tail t q q1, Option.bind_some]
      have hx : ((x.toNat : Nat) : Int) = x := by omega
      have hr := refNums_eq (t.drop q) x.toNat (by simp; omega) (by omega)
      rw [hx] at hr
      rw [hr]
      by_cases hz : (nums (rep x.toNat) (t.drop q)).1 = 0
      · obtain ⟨o1, o2⟩ := hok hz
        dsimp only at o1
        rw [if_pos hz]
        refine ⟨(nums (rep x.toNat) (t.drop q)).2.1, ((q + (nums (rep x.toNat) (t.drop q)).2.2 : Nat) : Int), ?_, fun _ => ⟨rfl, rfl⟩⟩
        simp only [Option.bind_some]
        rw [w64 (by omega) (by omega), hz]; rfl
      · rw [if_neg hz]
        exact ⟨_, _, rfl, fun h => absurd h hz⟩
  · rw [ht]
    simp only [ne_eq, he, not_false_eq_true, if_true, Option.bind_some, decide_false, Bool.not_false, cond_true]
    exact ⟨[], 0, rfl, fun h => h.elim⟩
theorem list_loop (s : List UInt8) (n : Nat) (hs : s.length ≤ 1000) (hn : n ≤ 16) : ∀ (m : Nat) (acc : List Int) (k : Nat), acc.length + m = n → k ≤ s.length →
    ∃ (l : List Int) (a : Nat), a ≤ s.length ∧ loop (fn_term_reader_list_p0i_sii_l1 s (n : Int)) (acc, ((acc.length : Nat) : Int), (k : Int), 0) = some (l, (a : Int), (nums (rep m) (s.drop k)).1) ∧ ((nums (rep m) (s.drop k)).1 = 0 → l = acc ++ (nums (rep m) (s.drop k)).2.1 ∧ a = k + (nums (rep m) (s.drop k)).2.2) := by
  intro m
  induction m with
  | zero =>
    intro acc k hm hk
    refine ⟨acc, k, hk, loop_end ?_, fun _ => by simp [nums, rep]⟩
    unfold fn_term_reader_list_p0i_sii_l1
    dsimp only
    rw [decide_eq_false (by omega)]
    simp [nums, rep]
  | succ m ih =>
    intro acc k hm hk
    have hb : fn_term_reader_list_p0i_sii_l1 s (n : Int) (acc, ((acc.length : Nat) : Int), (k : Int), 0) = some (.inl (acc ++ [(take (s.drop k)).1], (((acc ++ [(take (s.drop k)).1]).length : Nat) : Int), (k : Int) + (take (s.drop k)).2.1, (take (s.drop k)).2.2)) := by
      unfold fn_term_reader_list_p0i_sii_l1
      dsimp only
      rw [decide_eq_true (by omega), show decide ((0 : Int) = 0) = true from rfl, Bool.and_self, cond_true, num_eq s k 0 hk (by omega), if_neg (by simp), Option.bind_some]
      dsimp only
      rw [app_eq (by simp; omega), Option.bind_some, w64 (x := ((acc.length : Nat) : Int) + 1) (by omega) (by omega)]
      simp
    rw [nums_succ]
    rcases take_cases (s.drop k) with ⟨x, q, ht, x0, x1, q0, q1, _⟩ | ⟨e, ht, he⟩
    · simp only [List.length_drop] at q1
      rw [ht] at hb ⊢
      simp only [ne_eq, not_true_eq_false, if_false, Int.toNat_natCast]
      obtain ⟨l, a, a1, a2, a3⟩ := ih (acc ++ [x]) (k + q) (by simp; omega) (by omega)
      rw [List.drop_drop]
      refine ⟨l, a, a1, ?_, fun hz => ?_⟩
      · rw [loop_next hb]; exact a2
      · obtain ⟨b1, b2⟩ := a3 hz
        exact ⟨by rw [b1]; simp, by rw [b2]; omega⟩
    · rw [ht] at hb ⊢
      simp only [ne_eq, he, not_false_eq_true, if_true]
      refine ⟨acc ++ [0], k, hk, ?_, fun h => h.elim⟩
      rw [loop_next hb]
      refine loop_end ?_
      unfold fn_term_reader_list_p0i_sii_l1
      dsimp only
      rw [decide_eq_false he, Bool.and_false, cond_false]
      simp
theorem listE (s : List UInt8) (k : Nat) (e : Int) (he : e ≠ 0) (hk : k ≤ s.length) (hs : s.length ≤ 1000) : ∃ l, fn_term_reader_list_p0i_sii 16 s (k : Int) e = some (l, (k : Int), e) := by
  unfold fn_term_reader_list_p0i_sii
  rw [num_eq s k e hk (by omega), if_pos he, Option.bind_some]
  dsimp only
  rw [show (cond (decide ((16 : Int) < 0)) (some 6) (some e) : Option Int) = some e from rfl, Option.bind_some]
  rw [loop_end (b := ([], (k : Int), e))]
  · exact ⟨[], rfl⟩
  · unfold fn_term_reader_list_p0i_sii_l1
    rfl
theorem listC (s : List UInt8) (k : Nat) (hk : k ≤ s.length) (hs : s.length ≤ 1000) : ∃ (l : List Int) (a : Nat), a ≤ s.length ∧ fn_term_reader_list_p0i_sii 16 s (k : Int) 0 = some (l, (a : Int), (lst (s.drop k)).1) ∧ ((lst (s.drop k)).1 = 0 → l = (lst (s.drop k)).2.1 ∧ a = k + (lst (s.drop k)).2.2) := by
  unfold fn_term_reader_list_p0i_sii
  rw [num_eq s k 0 hk (by omega), if_neg (by simp), Option.bind_some]
  unfold lst
  rcases take_cases (s.drop k) with ⟨x, q, ht, x0, x1, q0, q1, _⟩ | ⟨e, ht, he⟩
  · simp only [List.length_drop] at q1
    rw [ht]
    simp only [ne_eq, not_true_eq_false, if_false, Int.toNat_natCast]
    by_cases h16 : 16 < x
    · rw [if_pos h16, decide_eq_true h16, cond_true, Option.bind_some, loop_end (b := ([], (k : Int) + (q : Int), 6))]
      · exact ⟨[], k + q, by omega, rfl, fun h => by cases h⟩
      · unfold fn_term_reader_list_p0i_sii_l1
        dsimp only
        rw [show decide ((6 : Int) = 0) = false from rfl, Bool.and_false]; rfl
    · rw [if_neg h16, decide_eq_false h16, cond_false, Option.bind_some]
      have hx : ((x.toNat : Nat) : Int) = x := by omega
      obtain ⟨l, a, a1, a2, a3⟩ := list_loop s x.toNat hs (by omega) x.toNat [] (k + q) (by simp) (by omega)
      rw [hx] at a2
      have a2' : loop (fn_term_reader_list_p0i_sii_l1 s x) ([], 0, (k : Int) + (q : Int), 0) = some (l, (a : Int), (nums (rep x.toNat) (s.drop (k + q))).1) := a2
      rw [a2', List.drop_drop]
      refine ⟨l, a, a1, rfl, fun hz => ?_⟩
      obtain ⟨b1, b2⟩ := a3 hz
      exact ⟨by rw [b1]; simp, by rw [b2, Nat.add_assoc]⟩
  · rw [ht]
    simp only [ne_eq, he, not_false_eq_true, if_true]
    rw [show (cond (decide ((16 : Int) < 0)) (some 6) (some e) : Option Int) = some e from rfl, Option.bind_some, loop_end (b := ([], (k : Int) + 0, e))]
    · exact ⟨[], k, hk, by simp, fun h => h.elim⟩
    · unfold fn_term_reader_list_p0i_sii_l1
      rfl
theorem takes_eq (s : List UInt8) (hs : s.length ≤ 1000) : ∃ (y : Tm) (n e : Int), fn_term_Take s = some (y.1, y.2.1, y.2.2.1, y.2.2.2.1, y.2.2.2.2.1, y.2.2.2.2.2, n, e) ∧ fn_ref19_Take s = some (y.1, y.2.1, y.2.2.1, y.2.2.2.1, y.2.2.2.2.1, y.2.2.2.2.2, n, e) ∧ y.2.2.2.1.length ≤ 16 ∧ y.2.2.2.2.1.length ≤ 16 ∧ y.2.2.2.2.2.length ≤ 16 := by
  have zz (e : Int) (P : Prop) (h1 : P) : P := h1
  unfold fn_term_Take fn_ref19_Take
  have h1 := num_eq s 0 0 (by omega) (by omega)
  have h1' : fn_term_reader_number_p0_sii s 0 0 = some ((take s).1, (take s).2.1, (take s).2.2) := by
    rw [show ((0 : Int)) = ((0 : Nat) : Int) from rfl] at h1 ⊢
    refine Eq.trans h1 ?_
    simp
  rw [h1', refTake_eq s (by omega)]
  rcases take_cases s with ⟨k, a, ht, k0, k1, a0, a1, _⟩ | ⟨e, ht, he⟩
  · rw [ht]
    simp only [Option.bind_some, decide_true, Bool.not_true, cond_true, cond_false]
    unfold fn_term_reader_fields_p0p1_sii_iiinnn
    have st := sub_tail s a a1
    by_cases hk : k = 1 ∨ k = 2 ∨ k = 3 ∨ k = 4
    · have hr : ((decide (k < 1)) || (decide (4 < k))) = false := by simp; omega
      rw [hr, cond_false]
      rcases hk with rfl | rfl | rfl | rfl
      · have hn := refNums_eq (s.drop a) 1 (by simp; omega) (by omega)
        have hn' : fn_ref19_numbers (s.drop a) 1 = _ := hn
        simp only [decide_true, show decide ((1 : Int) = 1) = true from rfl, show decide ((1 : Int) = 4) = false from rfl, show decide ((1 : Int) = 2) = false from rfl, cond_true, cond_false, Option.bind_some, st, hn', num_eq s a 0 a1 (by omega), ne_eq, not_true_eq_false, if_false, Bool.or_self]
        rw [show nums (rep 1) (s.drop a) = _ from nums_succ 0 (s.drop a)]
        rcases take_cases (s.drop a) with ⟨x, q, ht2, x0, x1, q0, q1, _⟩ | ⟨e, ht2, he⟩
        · simp only [List.length_drop] at q1
          rw [ht2]
          refine ⟨(1, 0, 0, [x], [], []), (a : Int) + (q : Int), 0, ?_, ?_, by simp, by simp, by simp⟩
          · simp [nums]
          · simp [nums]
            rw [w64 (by omega) (by omega)]
        · rw [ht2]
          refine ⟨(0, 0, 0, [], [], []), 0, e, ?_, ?_, by simp, by simp, by simp⟩ <;> simp [he]
      · have hn := refNums_eq (s.drop a) 0 (by simp; omega) (by omega)
        have hn' : fn_ref19_numbers (s.drop a) 0 = some ([], 0, 0) := hn
        simp only [show decide ((2 : Int) = 1) = false from rfl, show decide ((2 : Int) = 4) = false from rfl, show decide ((2 : Int) = 2) = true from rfl, cond_true, cond_false, Option.bind_some, st, hn', Bool.or_false, decide_true, Bool.not_true, Bool.true_and]
        have ea : IntKind.wrap .i64 ((a : Int) + 0) = (a : Int) := by rw [w64 (by omega) (by omega)]; omega
        simp only [ea, st, Option.bind_some]
        obtain ⟨l, b, b1, b2, b3⟩ := listC s a a1 hs
        obtain ⟨l', k', c1, c2⟩ := refTaken_eq (s.drop a) (by simp; omega)
        have ok := lst_ok (s.drop a)
        simp only [b2, c1, Option.bind_some]
        generalize lst (s.drop a) = L at b3 c2 ok ⊢
        obtain ⟨e, ll, n⟩ := L
        dsimp only at b3 c2 ok ⊢
        by_cases he : e = 0
        · subst he
          obtain ⟨hl1, hk1⟩ := b3 rfl; subst hk1; subst hl1
          obtain ⟨hl2, hk2⟩ := c2 rfl; subst hk2; have hl2 := hl2.symm; subst hl2
          obtain ⟨o1, o2⟩ := ok rfl
          simp only [List.length_drop] at o1
          simp only [decide_true, Bool.not_true, cond_false, Bool.true_and]
          by_cases hz : l.length = 0
          · have hz' : decide (((l.length : Nat) : Int) = 0) = true := decide_eq_true (by omega)
            simp only [hz', cond_true, Option.bind_some]
            obtain ⟨l2, g⟩ := listE s (a + n) 3 (by omega) b1 hs
            rw [g]
            exact ⟨(0, 0, 0, [], [], []), 0, 3, rfl, rfl, by simp, by simp, by simp⟩
          · have hz' : decide (((l.length : Nat) : Int) = 0) = false := by simp; intro h; rw [h] at hz; simp at hz
            have ew : IntKind.wrap .i64 ((a : Int) + (n : Int)) = ((a + n : Nat) : Int) := by rw [w64 (by omega) (by omega)]; rfl
            simp only [hz', cond_false, Option.bind_some, ew, sub_tail s _ b1]
            obtain ⟨l2, d, d1, d2, d3⟩ := listC s (a + n) b1 hs
            obtain ⟨l2', k2', f1, f2⟩ := refTaken_eq (s.drop (a + n)) (by simp; omega)
            have ok2 := lst_ok (s.drop (a + n))
            simp only [d2, f1, Option.bind_some]
            generalize lst (s.drop (a + n)) = L at d3 f2 ok2 ⊢
            obtain ⟨e2, ll2, n2⟩ := L
            dsimp only at d3 f2 ok2 ⊢
            by_cases he2 : e2 = 0
            · subst he2
              obtain ⟨hl4, hk4⟩ := d3 rfl; subst hk4; subst hl4
              obtain ⟨hl3, hk3⟩ := f2 rfl; subst hk3; have hl3 := hl3.symm; subst hl3
              obtain ⟨o3, o4⟩ := ok2 rfl
              simp only [List.length_drop] at o3
              have ew2 : IntKind.wrap .i64 (((a + n : Nat) : Int) + (n2 : Int)) = ((a + n + n2 : Nat) : Int) := by rw [w64 (by omega) (by omega)]; rfl
              rw [ew2]
              exact ⟨(2, 0, 0, l, l2, []), ((a + n + n2 : Nat) : Int), 0, rfl, rfl, o2, o4, by simp⟩
            · refine ⟨(0, 0, 0, [], [], []), 0, e2, ?_, ?_, by simp, by simp, by simp⟩ <;> simp [he2]
        · simp only [decide_eq_false he, Bool.false_and, cond_false, Option.bind_some, Bool.not_false, cond_true]
          obtain ⟨l2, g⟩ := listE s b e he b1 hs
          rw [g]
          refine ⟨(0, 0, 0, [], [], []), 0, e, ?_, ?_, by simp, by simp, by simp⟩ <;> simp [he]
      · have hn := refNums_eq (s.drop a) 0 (by simp; omega) (by omega)
        have hn' : fn_ref19_numbers (s.drop a) 0 = some ([], 0, 0) := hn
        simp only [show decide ((3 : Int) = 1) = false from rfl, show decide ((3 : Int) = 4) = false from rfl, show decide ((3 : Int) = 2) = false from rfl, show decide ((3 : Int) = 3) = true from rfl, cond_true, cond_false, Option.bind_some, st, hn', Bool.or_self, decide_true, Bool.not_true]
        have ea : IntKind.wrap .i64 ((a : Int) + 0) = (a : Int) := by rw [w64 (by omega) (by omega)]; omega
        rw [ea]
        exact ⟨(3, 0, 0, [], [], []), (a : Int), 0, rfl, rfl, by simp, by simp, by simp⟩
      · have hn := refNums_eq (s.drop a) 3 (by simp; omega) (by omega)
        have hn' : fn_ref19_numbers (s.drop a) 3 = _ := hn
        simp only [show decide ((4 : Int) = 1) = false from rfl, decide_true, Bool.not_true, show decide ((4 : Int) = 4) = true from rfl, show decide ((4 : Int) = 2) = false from rfl, show decide ((4 : Int) = 3) = false from rfl, cond_true, cond_false, Option.bind_some, st, hn', Bool.or_true, Bool.false_and, num_eq s a 0 a1 (by omega), ne_eq, not_true_eq_false, if_false]
        have bad (k : Nat) (e : Int) (hk : k ≤ s.length) (he : e ≠ 0) : fn_term_reader_number_p0_sii s (k : Int) e = some (0, (k : Int), e) := by rw [num_eq s k e hk (by omega), if_pos he]
        have good (k : Nat) (hk : k ≤ s.length) : fn_term_reader_number_p0_sii s (k : Int) 0 = some ((take (s.drop k)).1, (k : Int) + (take (s.drop k)).2.1, (take (s.drop k)).2.2) := by rw [num_eq s k 0 hk (by omega), if_neg (by simp)]
        rw [show nums (rep 3) (s.drop a) = _ from nums_succ 2 (s.drop a)]
        rcases take_cases (s.drop a) with ⟨x1, q1, t1, _, _, u1, v1, _⟩ | ⟨e, t1, he⟩
        · simp only [List.length_drop] at v1
          rw [t1]
          dsimp only
          rw [if_neg (show ¬ ((0 : Int) ≠ 0) by simp), show (a : Int) + (q1 : Int) = ((a + q1 : Nat) : Int) from rfl, good _ (by omega), Option.bind_some, Int.toNat_natCast, List.drop_drop, show nums (rep 2) (s.drop (a + q1)) = _ from nums_succ 1 (s.drop (a + q1))]
          rcases take_cases (s.drop (a + q1)) with ⟨x2, q2, t2, _, _, u2, v2, _⟩ | ⟨e, t2, he⟩
          · simp only [List.length_drop] at v2
            rw [t2]
            dsimp only
            rw [if_neg (show ¬ ((0 : Int) ≠ 0) by simp), show ((a + q1 : Nat) : Int) + (q2 : Int) = ((a + q1 + q2 : Nat) : Int) from rfl, good _ (by omega), Option.bind_some, Int.toNat_natCast, List.drop_drop, show nums (rep 1) (s.drop (a + q1 + q2)) = _ from nums_succ 0 (s.drop (a + q1 + q2))]
            rcases take_cases (s.drop (a + q1 + q2)) with ⟨x3, q3, t3, _, _, u3, v3, _⟩ | ⟨e, t3, he⟩
            · simp only [List.length_drop] at v3
              rw [t3]
              dsimp only
              rw [if_neg (show ¬ ((0 : Int) ≠ 0) by simp), show ((a + q1 + q2 : Nat) : Int) + (q3 : Int) = ((a + q1 + q2 + q3 : Nat) : Int) from rfl]
              have eN : IntKind.wrap .i64 ((a : Int) + ((q1 + (q2 + (q3 + 0)) : Nat) : Int)) = ((a + q1 + q2 + q3 : Nat) : Int) := by rw [w64 (by omega) (by omega)]; omega
              have n0 (X : List UInt8) : nums (rep 0) X = (0, [], 0) := rfl
              simp only [Int.toNat_natCast, n0, if_true, Option.bind_some, decide_true, Bool.not_true, cond_false, eN]
              have hA : a + q1 + q2 + q3 ≤ s.length := by omega
              generalize a + q1 + q2 + q3 = A at hA ⊢
              have u1 : getI [x1, x2, x3] 0 = some x1 := rfl
              have u2 : getI [x1, x2, x3] 1 = some x2 := rfl
              have u3 : subL [x1, x2, x3] 2 ((([x1, x2, x3].length : Nat) : Int)) = some [x3] := rfl
              simp only [u1, u2, u3, Option.bind_some]
              simp only [sub_tail s A hA, Option.bind_some]
              obtain ⟨l, b, b1, b2, b3⟩ := listC s A hA hs
              obtain ⟨l', k', c1, c2⟩ := refTaken_eq (s.drop A) (by simp; omega)
              have ok := lst_ok (s.drop A)
              simp only [b2, c1, Option.bind_some]
              generalize lst (s.drop A) = L at b3 c2 ok ⊢
              obtain ⟨e, ll, n⟩ := L
              dsimp only at b3 c2 ok ⊢
              by_cases he : e = 0
              · subst he
                obtain ⟨hl1, hk1⟩ := b3 rfl; subst hk1; subst hl1
                obtain ⟨hl2, hk2⟩ := c2 rfl; subst hk2; have hl2 := hl2.symm; subst hl2
                obtain ⟨o1, o2⟩ := ok rfl
                simp only [List.length_drop] at o1
                have ew : IntKind.wrap .i64 ((A : Int) + (n : Int)) = ((A + n : Nat) : Int) := by rw [w64 (by omega) (by omega)]; rfl
                simp only [decide_true, Bool.not_true, cond_false]
                simp only [ew, sub_tail s _ b1, Option.bind_some]
                obtain ⟨l2, d, d1, d2, d3⟩ := listC s (A + n) b1 hs
                obtain ⟨l2', k2', f1, f2⟩ := refTaken_eq (s.drop (A + n)) (by simp; omega)
                have ok2 := lst_ok (s.drop (A + n))
                simp only [d2, f1, Option.bind_some]
                generalize lst (s.drop (A + n)) = L at d3 f2 ok2 ⊢
                obtain ⟨e2, ll2, n2⟩ := L
                dsimp only at d3 f2 ok2 ⊢
                by_cases he2 : e2 = 0
                · subst he2
                  obtain ⟨hl4, hk4⟩ := d3 rfl; subst hk4; subst hl4
                  obtain ⟨hl3, hk3⟩ := f2 rfl; subst hk3; have hl3 := hl3.symm; subst hl3
                  obtain ⟨o3, o4⟩ := ok2 rfl
                  simp only [List.length_drop] at o3
                  have ew2 : IntKind.wrap .i64 (((A + n : Nat) : Int) + (n2 : Int)) = ((A + n + n2 : Nat) : Int) := by rw [w64 (by omega) (by omega)]; rfl
                  rw [ew2]
                  exact ⟨(4, x1, x2, [x3], l2, l), ((A + n + n2 : Nat) : Int), 0, rfl, rfl, by simp, o4, o2⟩
                · refine ⟨(0, 0, 0, [], [], []), 0, e2, ?_, ?_, by simp, by simp, by simp⟩ <;> simp [he2]
              · obtain ⟨l2, g⟩ := listE s b e he b1 hs
                rw [g]
                refine ⟨(0, 0, 0, [], [], []), 0, e, ?_, ?_, by simp, by simp, by simp⟩ <;> simp [he]
            · rw [t3]
              dsimp only
              obtain ⟨l, g⟩ := listE s (a + q1 + q2) e he (by omega) hs
              rw [show ((a + q1 + q2 : Nat) : Int) + 0 = ((a + q1 + q2 : Nat) : Int) by omega, g, Option.bind_some, g]
              refine ⟨(0, 0, 0, [], [], []), 0, e, ?_, ?_, by simp, by simp, by simp⟩ <;> simp [he]
          · rw [t2]
            dsimp only
            obtain ⟨l, g⟩ := listE s (a + q1) e he (by omega) hs
            rw [show ((a + q1 : Nat) : Int) + 0 = ((a + q1 : Nat) : Int) by omega, bad _ e (by omega) he, Option.bind_some, g, Option.bind_some, g]
            refine ⟨(0, 0, 0, [], [], []), 0, e, ?_, ?_, by simp, by simp, by simp⟩ <;> simp [he]
        · rw [t1]
          dsimp only
          obtain ⟨l, g⟩ := listE s a e he a1 hs
          rw [show (a : Int) + 0 = (a : Int) by omega, bad a e a1 he, Option.bind_some, bad a e a1 he, Option.bind_some, g, Option.bind_some, g]
          refine ⟨(0, 0, 0, [], [], []), 0, e, ?_, ?_, by simp, by simp, by simp⟩ <;> simp [he]
    · have hr : ((decide (k < 1)) || (decide (4 < k))) = true := by simp; omega
      have e1 : decide (k = 1) = false := by simp; omega
      have e2 : decide (k = 2) = false := by simp; omega
      have e3 : decide (k = 3) = false := by simp; omega
      have e4 : decide (k = 4) = false := by simp; omega
      simp only [hr, e1, e2, e3, e4, cond_true, cond_false, Option.bind_some]
      exact ⟨(0, 0, 0, [], [], []), 0, 3, rfl, rfl, by simp, by simp, by simp⟩
  · rw [ht]
    refine ⟨(0, 0, 0, [], [], []), 0, e, ?_, ?_, by simp, by simp, by simp⟩ <;> simp [he]
theorem refTForm_eq (x : Tm) : fn_ref19_Form x = some (tForm x) := by
  obtain ⟨k, g, d, to, args, ps⟩ := x
  unfold fn_ref19_Form tForm tRight tCalls
  dsimp only
  simp only [dn1, dn0, d16, dp0]
  have hps : decide (0 < ps.length) = !decide (ps.length = 0) := by by_cases h : ps.length = 0 <;> simp [h] <;> omega
  have hto : decide (0 < to.length) = !decide (to.length = 0) := by by_cases h : to.length = 0 <;> simp [h] <;> omega
  rw [hps, hto]
  have last : (cond (((decide (16 < to.length)) || (decide (16 < args.length))) || (decide (16 < ps.length))) (some 6) (some 0) : Option Int) = some (if 16 < to.length ∨ 16 < args.length ∨ 16 < ps.length then 6 else 0) := by
    by_cases h1 : 16 < to.length <;> by_cases h2 : 16 < args.length <;> by_cases h3 : 16 < ps.length <;> simp [h1, h2, h3]
  rw [last]
  generalize (if 16 < to.length ∨ 16 < args.length ∨ 16 < ps.length then (6 : Int) else 0) = z
  generalize decide (to.length = 1) = t1
  generalize decide (to.length = 0) = t0
  generalize decide (args.length = 0) = a0
  generalize decide (ps.length = 0) = p0
  generalize decide (g = 0) = g0
  generalize decide (d = 0) = d0
  by_cases k1 : k = 1
  · subst k1; cases t1 <;> cases t0 <;> cases a0 <;> cases p0 <;> cases g0 <;> cases d0 <;> simp
  · by_cases k2 : k = 2
    · subst k2; cases t1 <;> cases t0 <;> cases a0 <;> cases p0 <;> cases g0 <;> cases d0 <;> simp
    · by_cases k3 : k = 3
      · subst k3; cases t1 <;> cases t0 <;> cases a0 <;> cases p0 <;> cases g0 <;> cases d0 <;> simp
      · by_cases k4 : k = 4
        · subst k4; cases t1 <;> cases t0 <;> cases a0 <;> cases p0 <;> cases g0 <;> cases d0 <;> simp
        · have : (decide (k < 1) || decide (4 < k)) = true := by simp; omega
          simp [this, k1, k2, k3, k4]
theorem refList_eq (l : List Int) (h : l.length ≤ 16) : fn_ref19_list l = some (pl l) := by
  unfold fn_ref19_list
  rw [refPut_eq, Option.bind_some]
  have hl := loop_nat (body := fn_ref19_list_l1 l) (fun k : Nat => (put (l.length : Int) ++ (l.take k).flatMap put, (k : Int))) l.length (b := pl l) ?_ ?_
  · have hl' : loop (fn_ref19_list_l1 l) (put (l.length : Int), 0) = some (pl l) := by simpa using hl
    rw [hl']; rfl
  · intro k hk
    have h1 := putAll_length (l.take k)
    have h2 := put_len5 (l.length : Int)
    have h3 := put_len5 l[k]
    simp only [List.length_take] at h1
    unfold fn_ref19_list_l1
    simp only [dlt hk, cond_true, getN hk, Option.bind_some, refPut_eq, w64s hk (by omega : l.length ≤ 9223372036854775807)]
    rw [app_eq (by simp only [List.length_append]; omega), Option.bind_some, take_snoc hk, List.flatMap_append]
    simp
  · simp [fn_ref19_list_l1, pl]
theorem refTPut_eq (x : Tm) : fn_ref19_Put x = some (if tForm x = 0 then (tPut x, 0) else ([], tForm x)) := by
  unfold fn_ref19_Put
  rw [show fn_ref19_Form (x.1, x.2.1, x.2.2.1, x.2.2.2.1, x.2.2.2.2.1, x.2.2.2.2.2) = some (tForm x) from refTForm_eq x, Option.bind_some]
  by_cases hf : tForm x = 0
  · obtain ⟨hr, l1, l2, l3⟩ := tForm_zero hf
    obtain ⟨k, g, d, to, args, ps⟩ := x
    dsimp only at l1 l2 l3 hr ⊢
    have b0 := put_len5 k
    have c1 := pl_len to l1
    have c2 := pl_len args l2
    have c3 := pl_len ps l3
    rw [if_pos hf, decide_eq_true hf, Bool.not_true, cond_false, refPut_eq, Option.bind_some]
    unfold tRight at hr
    unfold tPut
    dsimp only at hr ⊢
    by_cases k1 : k = 1
    · subst k1
      simp only [if_true, Bool.and_eq_true, decide_eq_true_eq] at hr
      obtain ⟨t, rfl⟩ := List.length_eq_one_iff.1 hr.1.1
      have b1 := put_len5 t
      simp only [decide_true, cond_true, show getI [t] 0 = some t from rfl, Option.bind_some, refPut_eq, show decide ((1 : Int) = 2) = false from rfl, show decide ((1 : Int) = 4) = false from rfl, cond_false]
      rw [app_eq (by omega)]
      rfl
    · rw [if_neg k1] at hr ⊢
      rw [decide_eq_false k1, cond_false, Option.bind_some]
      by_cases k2 : k = 2
      · subst k2
        simp only [decide_true, cond_true, refList_eq to l1, refList_eq args l2, Option.bind_some, show decide ((2 : Int) = 4) = false from rfl, cond_false, if_true]
        rw [app_eq (by omega)]
        simp only [Option.bind_some]
        rw [app_eq (by simp only [List.length_append]; omega)]
        simp
      · rw [if_neg k2] at hr ⊢
        rw [decide_eq_false k2, cond_false, Option.bind_some]
        by_cases k4 : k = 4
        · subst k4
          simp only [show ¬ ((4 : Int) = 3) by decide, if_false, if_true, decide_eq_true_eq] at hr
          obtain ⟨t, rfl⟩ := List.length_eq_one_iff.1 hr
          have b1 := put_len5 t
          have b2 := put_len5 g
          have b3 := put_len5 d
          simp only [decide_true, cond_true, show getI [t] 0 = some t from rfl, Option.bind_some, refPut_eq, refList_eq ps l3, refList_eq args l2, if_true]
          repeat (rw [app_eq (by (try simp only [List.length_append]); omega)]; simp only [Option.bind_some])
          simp
        · rw [if_neg k4, decide_eq_false k4, cond_false]
          simp
  · rw [if_neg hf, decide_eq_false hf]; rfl
theorem tSame_eq (a b : Tm) (h1 : a.2.2.2.1.length ≤ 20) (h2 : a.2.2.2.2.1.length ≤ 20) (h3 : a.2.2.2.2.2.length ≤ 20) : fn_ref19_Same a b = some (decide (a = b)) := by
  obtain ⟨a1, a2, a3, a4, a5, a6⟩ := a
  obtain ⟨b1, b2, b3, b4, b5, b6⟩ := b
  dsimp only at *
  unfold fn_ref19_Same
  dsimp only
  rw [same01_eq a4 b4 (by omega), same01_eq a5 b5 (by omega), same01_eq a6 b6 (by omega)]
  by_cases q1 : a1 = b1 <;> by_cases q2 : a2 = b2 <;> by_cases q3 : a3 = b3 <;> by_cases q4 : a4 = b4 <;> by_cases q5 : a5 = b5 <;> by_cases q6 : a6 = b6 <;> simp [q1, q2, q3, q4, q5, q6]
theorem tSame_both : fn_term_Same = fn_ref19_Same := rfl
theorem TermTakes_true (xa : (List UInt8)) (xb : (Int × Int × Int × (List Int) × (List Int) × (List Int))) (k0 : Tp.Ok .str xa) (k1 : Tp.Ok (.cons (.int .i64) (.cons (.int .i64) (.cons (.int .i64) (.cons (.sl (.int .i64)) (.cons (.sl (.int .i64)) (.one (.sl (.int .i64)))))))) xb) : fn_law19_TermTakes xa xb = some true := by
  unfold fn_law19_TermTakes
  rw [awake19, tSame_both]
  by_cases hl : 300 < (xa.length : Int)
  · simp [hl]
  · rw [decide_eq_false hl, cond_false]
    obtain ⟨y, n, e, h1, h2, h3, h4, h5⟩ := takes_eq xa (by omega)
    rw [h1, h2]
    simp only [Option.bind_some]
    rw [show fn_ref19_Same (y.1, y.2.1, y.2.2.1, y.2.2.2.1, y.2.2.2.2.1, y.2.2.2.2.2) (y.1, y.2.1, y.2.2.1, y.2.2.2.1, y.2.2.2.2.1, y.2.2.2.2.2) = some (decide (y = y)) from tSame_eq y y (by omega) (by omega) (by omega)]
    simp only [Option.bind_some, decide_true, Bool.not_true, Bool.or_self, cond_false]
    rcases plain_eq xb with hp | ⟨hp, q1, q2, q3, _⟩
    · rw [hp]; rfl
    · rw [hp, Option.bind_some, Bool.not_true, cond_false, show fn_term_Put (xb.1, xb.2.1, xb.2.2.1, xb.2.2.2.1, xb.2.2.2.2.1, xb.2.2.2.2.2) = _ from tPut_eq xb, show fn_ref19_Put (xb.1, xb.2.1, xb.2.2.1, xb.2.2.2.1, xb.2.2.2.2.1, xb.2.2.2.2.2) = _ from refTPut_eq xb]
      rw [show fn_ref19_Same (xb.1, xb.2.1, xb.2.2.1, xb.2.2.2.1, xb.2.2.2.2.1, xb.2.2.2.2.2) (y.1, y.2.1, y.2.2.1, y.2.2.2.1, y.2.2.2.2.1, y.2.2.2.2.2) = some (decide (xb = y)) from tSame_eq xb y q1 q2 q3]
      generalize (if tForm xb = 0 then (tPut xb, (0 : Int)) else ([], tForm xb)) = p
      obtain ⟨p1, p2⟩ := p
      simp
end Go.Proofs.Ytgeofnfjgjodgaa
