/- What layer 19's functions compute (terminators), in plain words. -/
import Derived.Test.YtgeofnfjgjodgaaQ01
import Derived.Test.YtgeofnfjgjodgaaQ02
namespace Go.Proofs.Ytgeofnfjgjodgaa
open Go.RowKit Lb
set_option linter.unusedVariables false
set_option linter.unnecessarySimpa false
set_option linter.unusedSimpArgs false
theorem sub_tail (l : List UInt8) (k : Nat) (h : k ≤ l.length) : subL l (k : Int) ((l.length : Nat) : Int) = some (l.drop k) := by
  rw [subL_eq (by omega) (by omega) (by omega)]; simp
abbrev Small (l : List Int) : Prop := ∀ n ∈ l, 0 ≤ n ∧ n ≤ 4294967295
theorem num_eq (s : List UInt8) (k : Nat) (e : Int) (h : k ≤ s.length) (hl : s.length ≤ 1073741824) :
    fn_term_reader_number_p0_sii s (k : Int) e = some (if e ≠ 0 then (0, (k : Int), e) else ((take (s.drop k)).1, (k : Int) + (take (s.drop k)).2.1, (take (s.drop k)).2.2)) := by
  unfold fn_term_reader_number_p0_sii
  by_cases he : e = 0
  · subst he
    simp only [decide_true, Bool.not_true, cond_false, sub_tail s k h, Option.bind_some, ne_eq, not_true_eq_false, if_false]
    rw [lebTake_eq _ (by simp; omega)]
    rcases take_cases (s.drop k) with ⟨n, m, ht, _, _, m0, m1, _⟩ | ⟨e, ht, he⟩
    · simp only [List.length_drop] at m1
      simp only [ht, Option.bind_some]
      rw [w64 (by omega) (by omega)]
    · simp only [ht, Option.bind_some]
      rw [w64 (by omega) (by omega)]
  · simp [he]
/-- A number is read. -/
theorem numA (s : List UInt8) (k : Nat) (e : Int) (h : k ≤ s.length) (hl : s.length ≤ 1073741824) :
    ∃ (n : Int) (k' : Nat) (e' : Int), fn_term_reader_number_p0_sii s (k : Int) e = some (n, (k' : Int), e') ∧ k' ≤ s.length ∧ 0 ≤ n ∧ n ≤ 4294967295 ∧ (e' = 0 → e = 0 ∧ s.take k' = s.take k ++ put n) ∧ (e ≠ 0 → n = 0 ∧ e' = e) := by
  rw [num_eq s k e h hl]
  by_cases he : e = 0
  · subst he
    rw [if_neg (by simp)]
    rcases take_cases (s.drop k) with ⟨n, m, ht, n0, n1, m0, m1, hp⟩ | ⟨e, ht, he⟩
    · simp only [List.length_drop] at m1
      exact ⟨n, k + m, 0, by rw [ht]; simp, by omega, n0, n1, fun _ => ⟨rfl, by rw [hp, List.take_add]⟩, fun h => absurd rfl h⟩
    · exact ⟨0, k, e, by rw [ht]; simp, h, by omega, by omega, fun h => absurd h he, fun h => absurd rfl h⟩
  · rw [if_pos he]
    exact ⟨0, k, e, rfl, h, by omega, by omega, fun h => absurd h he, fun _ => ⟨rfl, rfl⟩⟩
theorem numB (s : List UInt8) (k : Nat) (n : Int) (T : List UInt8) (h : k ≤ s.length) (hl : s.length ≤ 1073741824) (n0 : 0 ≤ n) (n1 : n ≤ 4294967295) (hd : s.drop k = put n ++ T) :
    fn_term_reader_number_p0_sii s (k : Int) 0 = some (n, ((k + (put n).length : Nat) : Int), 0) ∧ s.drop (k + (put n).length) = T ∧ k + (put n).length ≤ s.length := by
  have hp : put n ≠ [] := fun h => by have := (put_nil n).1 h; omega
  have hL := congrArg List.length hd
  simp only [List.length_drop, List.length_append] at hL
  refine ⟨?_, by rw [← List.drop_drop, hd, List.drop_left], by omega⟩
  rw [num_eq s k 0 h hl, if_neg (by simp), hd, take_put n hp T]
  have := put_length n
  simp only [Option.some.injEq, Prod.mk.injEq, true_and, and_true]
  omega
/-- A list is read. -/
theorem listA (s : List UInt8) (k : Nat) (e : Int) (h : k ≤ s.length) (hl : s.length ≤ 1073741824) :
    ∃ (l : List Int) (k' : Nat) (e' : Int), fn_term_reader_list_p0i_sii 16 s (k : Int) e = some (l, (k' : Int), e') ∧ k' ≤ s.length ∧ l.length ≤ 16 ∧ (e' = 0 → e = 0 ∧ Small l ∧ s.take k' = s.take k ++ put (l.length : Int) ++ l.flatMap put) := by
  unfold fn_term_reader_list_p0i_sii
  obtain ⟨m, k1, e1, h1, h2, h3, h4, h5, h6⟩ := numA s k e h hl
  simp only [h1, Option.bind_some]
  have hc : (cond (decide (16 < m)) (some 6) (some e1) : Option Int) = some (if 16 < m then 6 else e1) := by
    by_cases q : 16 < m <;> simp [q]
  rw [hc, Option.bind_some]
  have key := loop_inv (body := fn_term_reader_list_p0i_sii_l1 s m) (fun st : List Int × Int × Int × Int => st.2.1 = ((st.1.length : Nat) : Int) ∧ st.1.length ≤ 16 ∧ ∃ a : Nat, st.2.2.1 = (a : Int) ∧ a ≤ s.length ∧ (st.2.2.2 = 0 → e1 = 0 ∧ m ≤ 16 ∧ (st.1.length : Int) ≤ m ∧ Small st.1 ∧ s.take a = s.take k1 ++ st.1.flatMap put))
    (fun st => (m - st.2.1).toNat) (Q := fun r : List Int × Int × Int => r.1.length ≤ 16 ∧ ∃ a : Nat, r.2.1 = (a : Int) ∧ a ≤ s.length ∧ (r.2.2 = 0 → e1 = 0 ∧ (r.1.length : Int) = m ∧ Small r.1 ∧ s.take a = s.take k1 ++ r.1.flatMap put)) ?_
    (s := ([], 0, (k1 : Int), if 16 < m then 6 else e1)) ?_
  · obtain ⟨⟨l, a', e'⟩, q1, q2, a, rfl, q4, q5⟩ := key
    dsimp only at *
    rw [q1]
    refine ⟨l, a, e', rfl, q4, q2, fun h => ?_⟩
    obtain ⟨r1, r2, r3, r4⟩ := q5 h
    obtain ⟨z1, z2⟩ := h5 r1
    exact ⟨z1, r3, by rw [r4, z2, r2]⟩
  · rintro ⟨l, c, a', e'⟩ ⟨hc0, i2, a, ha0, i4, i5⟩
    dsimp only at hc0 i2 ha0 i5 ⊢
    subst hc0
    subst ha0
    unfold fn_term_reader_list_p0i_sii_l1
    dsimp only
    by_cases q : (l.length : Int) < m ∧ e' = 0
    · obtain ⟨q1, rfl⟩ := q
      obtain ⟨r0, r1, r2, r3, r4⟩ := i5 rfl
      obtain ⟨n, k2, e2, g1, g2, g3, g4, g5, g6⟩ := numA s a 0 i4 hl
      left
      refine ⟨(l ++ [n], ((l.length + 1 : Nat) : Int), (k2 : Int), e2), ?_, ⟨by simp, by simp; omega, k2, rfl, g2, fun hz => ?_⟩, ?_⟩
      · rw [decide_eq_true q1, show decide ((0 : Int) = 0) = true from rfl, Bool.and_self, cond_true, g1, Option.bind_some]
        dsimp only
        rw [app_eq (by simp; omega), Option.bind_some, w64 (by omega) (by omega)]
        rfl
      · refine ⟨r0, r1, by simp; omega, ?_, ?_⟩
        · intro x hx
          rcases List.mem_append.1 hx with hx | hx
          · exact r3 x hx
          · simp at hx; subst hx; exact ⟨g3, g4⟩
        · rw [(g5 hz).2, r4, List.flatMap_append]; simp
      · dsimp only; omega
    · right
      refine ⟨(l, (a : Int), e'), ?_, i2, a, rfl, i4, fun hz => ?_⟩
      · have : (decide ((l.length : Int) < m) && decide (e' = 0)) = false := by
          by_cases q1 : (l.length : Int) < m
          · have q2 : ¬ e' = 0 := fun h => q ⟨q1, h⟩
            simp [q2]
          · simp [q1]
        rw [this]; rfl
      · subst hz
        obtain ⟨r0, r1, r2, r3, r4⟩ := i5 rfl
        have : ¬ (l.length : Int) < m := fun h => q ⟨h, rfl⟩
        exact ⟨r0, Int.le_antisymm r2 (Int.not_lt.1 this), r3, r4⟩
  · refine ⟨rfl, by simp, k1, rfl, h2, fun hz => ?_⟩
    by_cases q : 16 < m
    · simp [q] at hz
    · simp [q] at hz
      exact ⟨hz, by omega, by simpa using h3, by simp [Small], by simp⟩
theorem listB (s : List UInt8) (k : Nat) (l : List Int) (T : List UInt8) (h : k ≤ s.length) (hl : s.length ≤ 1073741824) (hs : Small l) (h16 : l.length ≤ 16) (hd : s.drop k = put (l.length : Int) ++ (l.flatMap put ++ T)) :
    ∃ k' : Nat, fn_term_reader_list_p0i_sii 16 s (k : Int) 0 = some (l, (k' : Int), 0) ∧ s.drop k' = T ∧ k' = k + (put (l.length : Int)).length + (l.flatMap put).length ∧ k' ≤ s.length := by
  unfold fn_term_reader_list_p0i_sii
  obtain ⟨h1, h2, h3⟩ := numB s k (l.length : Int) _ h hl (by omega) (by omega) hd
  simp only [h1, Option.bind_some]
  rw [decide_eq_false (by omega), cond_false, Option.bind_some]
  have key : ∀ j, j ≤ l.length → s.drop (k + (put (l.length : Int)).length + ((l.take j).flatMap put).length) = (l.drop j).flatMap put ++ T ∧ k + (put (l.length : Int)).length + ((l.take j).flatMap put).length ≤ s.length := by
    intro j hj
    have e : l.flatMap put = (l.take j).flatMap put ++ (l.drop j).flatMap put := by rw [← List.flatMap_append, List.take_append_drop]
    have hL := congrArg List.length h2
    rw [e, List.append_assoc] at h2
    simp only [List.length_drop, List.length_append, e] at hL
    refine ⟨by rw [← List.drop_drop, h2, List.drop_left], by omega⟩
  have hloop := loop_nat (body := fn_term_reader_list_p0i_sii_l1 s (l.length : Int)) (fun j : Nat => (l.take j, (j : Int), ((k + (put (l.length : Int)).length + ((l.take j).flatMap put).length : Nat) : Int), (0 : Int))) l.length (b := (l, ((k + (put (l.length : Int)).length + (l.flatMap put).length : Nat) : Int), 0)) ?_ ?_
  · have hloop' : loop (fn_term_reader_list_p0i_sii_l1 s (l.length : Int)) ([], 0, ((k + (put (l.length : Int)).length : Nat) : Int), 0) = some (l, ((k + (put (l.length : Int)).length + (l.flatMap put).length : Nat) : Int), 0) := by simpa using hloop
    rw [hloop']
    refine ⟨_, rfl, ?_, rfl, ?_⟩
    · have := (key l.length (by omega)).1
      simpa using this
    · have := (key l.length (by omega)).2
      simpa using this
  · intro j hj
    obtain ⟨q1, q2⟩ := key j (by omega)
    have hx := hs l[j] (List.getElem_mem hj)
    rw [List.drop_eq_getElem_cons hj, List.flatMap_cons, List.append_assoc] at q1
    obtain ⟨b1, b2, b3⟩ := numB s _ l[j] _ q2 hl hx.1 hx.2 q1
    unfold fn_term_reader_list_p0i_sii_l1
    dsimp only
    rw [decide_eq_true (by omega), show decide ((0 : Int) = 0) = true from rfl, Bool.and_self, cond_true, b1, Option.bind_some]
    dsimp only
    rw [app_eq (by simp; omega), Option.bind_some, w64s hj (by omega), take_snoc hj, List.flatMap_append]
    simp [Nat.add_assoc]
  · unfold fn_term_reader_list_p0i_sii_l1
    simp
abbrev Tm := Int × Int × Int × List Int × List Int × List Int
def tCalls (x : Tm) : Bool := ((!decide (x.2.1 = 0)) || (!decide (x.2.2.1 = 0))) || (decide (0 < x.2.2.2.2.2.length))
def tRight (x : Tm) : Bool :=
  if x.1 = 1 then decide (x.2.2.2.1.length = 1) && decide (x.2.2.2.2.1.length = 0) && !tCalls x
  else if x.1 = 2 then decide (0 < x.2.2.2.1.length) && !tCalls x
  else if x.1 = 3 then decide (x.2.2.2.1.length = 0) && decide (x.2.2.2.2.1.length = 0) && !tCalls x
  else if x.1 = 4 then decide (x.2.2.2.1.length = 1) else false
def tForm (x : Tm) : Int := if tRight x = true then if 16 < x.2.2.2.1.length ∨ 16 < x.2.2.2.2.1.length ∨ 16 < x.2.2.2.2.2.length then 6 else 0 else 3
theorem bnd (a b : Bool) : (cond a (some b) (some false) : Option Bool) = some (a && b) := by cases a <;> rfl
theorem dn1 (n : Nat) : decide ((n : Int) = 1) = decide (n = 1) := by by_cases h : n = 1 <;> simp [h] <;> omega
theorem dn0 (n : Nat) : decide ((n : Int) = 0) = decide (n = 0) := by by_cases h : n = 0 <;> simp [h] <;> omega
theorem dp0 (n : Nat) : decide (0 < (n : Int)) = decide (0 < n) := by by_cases h : 0 < n <;> simp [h] <;> omega
theorem d16 (n : Nat) : decide (16 < (n : Int)) = decide (16 < n) := by by_cases h : 16 < n <;> simp [h] <;> omega
theorem tForm_eq (x : Tm) : fn_term_form x = some (tForm x) := by
  obtain ⟨k, g, d, to, args, ps⟩ := x
  have hc : fn_term_calls (k, g, d, to, args, ps) = some (tCalls (k, g, d, to, args, ps)) := by unfold fn_term_calls tCalls; simp only [dp0]
  unfold fn_term_form tForm
  have hr : ∀ b : Bool, (cond (!b) (some 3) (cond (((decide (16 < ((to.length : Nat) : Int))) || (decide (16 < ((args.length : Nat) : Int)))) || (decide (16 < ((ps.length : Nat) : Int)))) (some 6) (some 0)) : Option Int) = some (if b = true then if 16 < to.length ∨ 16 < args.length ∨ 16 < ps.length then 6 else 0 else 3) := by
    intro b
    cases b with
    | false => rfl
    | true =>
      simp only [d16, Bool.not_true, cond_false, if_true]
      by_cases h1 : 16 < to.length <;> by_cases h2 : 16 < args.length <;> by_cases h3 : 16 < ps.length <;> simp [h1, h2, h3]
  dsimp only at *
  have hm : ∀ (m : Option Bool) (b : Bool), m = some b → (m.bind fun t194 => cond (!t194) (some 3) (cond (((decide (16 < ((to.length : Nat) : Int))) || (decide (16 < ((args.length : Nat) : Int)))) || (decide (16 < ((ps.length : Nat) : Int)))) (some 6) (some 0)) : Option Int) = some (if b = true then if 16 < to.length ∨ 16 < args.length ∨ 16 < ps.length then 6 else 0 else 3) := by
    rintro _ b rfl; exact hr b
  refine hm _ _ ?_
  simp only [hc, Option.bind_some, dn1, dn0, dp0]
  unfold tRight
  dsimp only
  by_cases k1 : k = 1
  · simp [k1, bnd, Bool.and_assoc]
  · by_cases k2 : k = 2
    · simp [k2, bnd, Bool.and_assoc]
    · by_cases k3 : k = 3
      · simp [k3, bnd, Bool.and_assoc]
      · by_cases k4 : k = 4
        · simp [k4]
        · simp [k1, k2, k3, k4]
def pl (l : List Int) : List UInt8 := put (l.length : Int) ++ l.flatMap put
def tPut (x : Tm) : List UInt8 := put x.1 ++
  if x.1 = 1 then put (x.2.2.2.1.getD 0 0)
  else if x.1 = 2 then pl x.2.2.2.1 ++ pl x.2.2.2.2.1
  else if x.1 = 4 then put x.2.1 ++ put x.2.2.1 ++ put (x.2.2.2.1.getD 0 0) ++ pl x.2.2.2.2.2 ++ pl x.2.2.2.2.1 else []
theorem lebPut_eq (n : Int) : fn_leb_Put n = some (put n) := by
  unfold fn_leb_Put; rw [lebAll_eq _ (by simp)]; simp
theorem pl_len (l : List Int) (h : l.length ≤ 16) : (pl l).length ≤ 85 := by
  have := putAll_length l
  have := put_len5 (l.length : Int)
  unfold pl; simp only [List.length_append]; omega
theorem putList_eq (l : List Int) (h : l.length ≤ 16) : fn_term_putList l = some (pl l) := by
  unfold fn_term_putList
  have h1 := putAll_length l
  have h2 := put_len5 (l.length : Int)
  rw [lebPut_eq, Option.bind_some, lebAll_eq l (by omega), Option.bind_some, app_eq (by omega)]; rfl
theorem wrS_eq (a b : List UInt8) (h : a.length + b.length ≤ 1000000) : wrS a b = some (a ++ b) := app_eq (by omega)
theorem tForm_zero {x : Tm} (h : tForm x = 0) : tRight x = true ∧ x.2.2.2.1.length ≤ 16 ∧ x.2.2.2.2.1.length ≤ 16 ∧ x.2.2.2.2.2.length ≤ 16 := by
  unfold tForm at h
  split at h
  · split at h
    · cases h
    · rename_i q; exact ⟨by assumption, by omega, by omega, by omega⟩
  · cases h
theorem tPut_eq (x : Tm) : fn_term_Put x = some (if tForm x = 0 then (tPut x, 0) else ([], tForm x)) := by
  unfold fn_term_Put
  rw [show fn_term_form (x.1, x.2.1, x.2.2.1, x.2.2.2.1, x.2.2.2.2.1, x.2.2.2.2.2) = some (tForm x) from tForm_eq x, Option.bind_some]
  by_cases hf : tForm x = 0
  · obtain ⟨hr, l1, l2, l3⟩ := tForm_zero hf
    obtain ⟨k, g, d, to, args, ps⟩ := x
    dsimp only at l1 l2 l3 hr ⊢
    have b0 := put_len5 k
    rw [if_pos hf, decide_eq_true hf, Bool.not_true, cond_false, lebPut_eq, Option.bind_some, wrS_eq _ _ (by simp; omega), Option.bind_some, List.nil_append]
    unfold tRight at hr
    unfold tPut
    dsimp only at hr ⊢
    by_cases k1 : k = 1
    · rw [if_pos k1] at hr ⊢
      simp only [Bool.and_eq_true, decide_eq_true_eq] at hr
      match to, hr.1.1 with
      | [t], _ =>
        have b1 := put_len5 t
        rw [decide_eq_true k1, cond_true, show getI [t] 0 = some t from rfl, Option.bind_some, lebPut_eq, Option.bind_some, wrS_eq _ _ (by omega)]
        rfl
    · rw [if_neg k1] at hr ⊢
      rw [decide_eq_false k1, cond_false]
      by_cases k2 : k = 2
      · have b1 := pl_len to l1
        have b2 := pl_len args l2
        rw [if_pos k2, decide_eq_true k2, cond_true, putList_eq to l1, Option.bind_some, wrS_eq _ _ (by omega), Option.bind_some, putList_eq args l2, Option.bind_some, wrS_eq _ _ (by simp only [List.length_append]; omega)]
        simp
      · rw [if_neg k2] at hr ⊢
        rw [decide_eq_false k2, cond_false]
        by_cases k4 : k = 4
        · rw [if_neg (by omega), if_pos k4] at hr
          rw [if_pos k4]
          simp only [decide_eq_true_eq] at hr
          match to, hr with
          | [t], _ =>
            have b1 := put_len5 t
            have b2 := put_len5 g
            have b3 := put_len5 d
            have b4 := pl_len args l2
            have b5 := pl_len ps l3
            rw [decide_eq_true k4, cond_true, show getI [t] 0 = some t from rfl, Option.bind_some, lebAll_eq _ (by simp), Option.bind_some, wrS_eq _ _ (by simp; omega), Option.bind_some, putList_eq ps l3, Option.bind_some, wrS_eq _ _ (by simp; omega), Option.bind_some, putList_eq args l2, Option.bind_some, wrS_eq _ _ (by simp; omega)]
            simp
        · rw [if_neg k4, decide_eq_false k4, cond_false]
          simp
  · rw [if_neg hf, decide_eq_false hf]; rfl
theorem awake19 : fn_law19_awake = some true := by
  unfold fn_law19_awake
  rw [tPut_eq, tPut_eq]
  decide
/-- What is taken is, put, the bytes that were taken. -/
theorem takeA (s : List UInt8) (hl : s.length ≤ 1073741824) : ∃ (y : Tm) (n e : Int), fn_term_Take s = some (y.1, y.2.1, y.2.2.1, y.2.2.2.1, y.2.2.2.2.1, y.2.2.2.2.2, n, e) ∧ (e = 0 → ∃ m : Nat, n = (m : Int) ∧ m ≤ s.length ∧ tForm y = 0 ∧ tPut y = s.take m) := by
  unfold fn_term_Take
  obtain ⟨k, a, e, h1, h2, h3, h4, h5, h6⟩ := numA s 0 0 (by omega) hl
  have h1' : fn_term_reader_number_p0_sii s 0 0 = some (k, (a : Int), e) := h1
  rw [h1', Option.bind_some]
  by_cases he : e = 0
  · subst he
    obtain ⟨_, q0⟩ := h5 rfl
    rw [List.take_zero, List.nil_append] at q0
    simp only [decide_true, cond_true]
    unfold fn_term_reader_fields_p0p1_sii_iiinnn
    by_cases k1 : k = 1
    · subst k1
      obtain ⟨t, b, f, g1, g2, g3, g4, g5, g6⟩ := numA s a 0 h2 hl
      simp only [decide_true, cond_true, g1, Option.bind_some]
      by_cases hf : f = 0
      · subst hf
        refine ⟨(1, 0, 0, [t], [], []), (b : Int), 0, rfl, fun _ => ⟨b, rfl, g2, rfl, ?_⟩⟩
        rw [(g5 rfl).2, q0]; rfl
      · exact ⟨(0, 0, 0, [], [], []), 0, f, by simp [hf], fun h => absurd h hf⟩
    · rw [decide_eq_false k1, cond_false]
      by_cases k2 : k = 2
      · subst k2
        obtain ⟨l, b, f, g1, g2, g3, g4⟩ := listA s a 0 h2 hl
        simp only [decide_true, cond_true, g1, Option.bind_some]
        have hc : (cond ((decide (f = 0)) && (decide (((l.length : Nat) : Int) = 0))) (some 3) (some f) : Option Int) = some (if f = 0 ∧ l.length = 0 then 3 else f) := by
          by_cases q1 : f = 0 <;> by_cases q2 : l.length = 0 <;> simp [q1, q2]
        rw [hc, Option.bind_some]
        obtain ⟨l2, b2, f2, i1, i2, i3, i4⟩ := listA s b (if f = 0 ∧ l.length = 0 then 3 else f) g2 hl
        simp only [i1, Option.bind_some]
        by_cases hf : f2 = 0
        · subst hf
          obtain ⟨j1, j2, j3⟩ := i4 rfl
          by_cases q : f = 0 ∧ l.length = 0
          · rw [if_pos q] at j1; cases j1
          · rw [if_neg q] at j1
            obtain ⟨u1, u2, u3⟩ := g4 j1
            have hlen : 0 < l.length := by
              have : ¬ l.length = 0 := fun h => q ⟨j1, h⟩
              omega
            refine ⟨(2, 0, 0, l, l2, []), (b2 : Int), 0, rfl, fun _ => ⟨b2, rfl, i2, ?_, ?_⟩⟩
            · unfold tForm tRight tCalls
              simp [hlen]; omega
            · rw [j3, u3, q0]; unfold tPut pl; simp
        · exact ⟨(0, 0, 0, [], [], []), 0, f2, by simp [hf], fun h => absurd h hf⟩
      · rw [decide_eq_false k2, cond_false]
        by_cases k3 : k = 3
        · subst k3
          refine ⟨(3, 0, 0, [], [], []), (a : Int), 0, rfl, fun _ => ⟨a, rfl, h2, rfl, ?_⟩⟩
          rw [q0]; unfold tPut; simp
        · rw [decide_eq_false k3, cond_false]
          by_cases k4 : k = 4
          · subst k4
            obtain ⟨t1, b1, f1, g1, g2, g3, g4, g5, g6⟩ := numA s a 0 h2 hl
            simp only [decide_true, cond_true, g1, Option.bind_some]
            obtain ⟨t2, b2, f2, g1', g2', g3', g4', g5', g6'⟩ := numA s b1 f1 g2 hl
            simp only [g1', Option.bind_some]
            obtain ⟨t3, b3, f3, i1, i2, i3, i4, i5, i6⟩ := numA s b2 f2 g2' hl
            simp only [i1, Option.bind_some]
            obtain ⟨l4, b4, f4, j1, j2, j3, j4⟩ := listA s b3 f3 i2 hl
            simp only [j1, Option.bind_some]
            obtain ⟨l5, b5, f5, m1, m2, m3, m4⟩ := listA s b4 f4 j2 hl
            simp only [m1, Option.bind_some]
            by_cases hf : f5 = 0
            · subst hf
              obtain ⟨u1, u2, u3⟩ := m4 rfl
              obtain ⟨v1, v2, v3⟩ := j4 u1
              obtain ⟨w1, w2⟩ := i5 v1
              obtain ⟨x1, x2⟩ := g5' w1
              obtain ⟨y1, y2⟩ := g5 x1
              refine ⟨(4, t1, t2, [t3], l5, l4), (b5 : Int), 0, rfl, fun _ => ⟨b5, rfl, m2, ?_, ?_⟩⟩
              · unfold tForm tRight
                simp; omega
              · rw [u3, v3, w2, x2, y2, q0]; unfold tPut pl; simp
            · exact ⟨(0, 0, 0, [], [], []), 0, f5, by simp [hf], fun h => absurd h hf⟩
          · rw [decide_eq_false k4, cond_false]
            exact ⟨(0, 0, 0, [], [], []), 0, 3, rfl, fun h => by cases h⟩
  · simp only [decide_eq_false he, cond_false]
    exact ⟨(0, 0, 0, [], [], []), 0, e, by simp [he], fun h => absurd h he⟩
theorem within_eq (xa : List Int) (n : Int) (hn : xa.length ≤ 1073741824) : fn_ref19_within xa n = some (!xa.any (fun x => decide (x < 0) || decide (n ≤ x))) := by
  unfold fn_ref19_within
  rw [loop_some (body := fn_ref19_within_l1 xa n) xa (fun x => decide (x < 0) || decide (n ≤ x)) (.inr false) (.inl ()) ?_ ?_]
  · cases xa.any (fun x => decide (x < 0) || decide (n ≤ x)) <;> rfl
  · intro k hk
    unfold fn_ref19_within_l1
    by_cases q : xa[k] < 0 <;> by_cases q2 : n ≤ xa[k] <;> simp [hk, getN hk, w64s hk (by omega : xa.length ≤ 9223372036854775807), q, q2]
  · simp [fn_ref19_within_l1]
theorem small_of {xa : List Int} (h : (!xa.any (fun x => decide (x < 0) || decide (2147483648 ≤ x))) = true) : Small xa := by
  intro n hn
  have h' : xa.any (fun x => decide (x < 0) || decide (2147483648 ≤ x)) = false := by
    cases q : xa.any (fun x => decide (x < 0) || decide (2147483648 ≤ x)) with
    | false => rfl
    | true => rw [q] at h; cases h
  have := List.any_eq_false.1 h' n hn
  simp at this; omega
theorem plain_eq (xa : Tm) : fn_ref19_Plain (xa.1, xa.2.1, xa.2.2.1, xa.2.2.2.1, xa.2.2.2.2.1, xa.2.2.2.2.2) = some false ∨ (fn_ref19_Plain (xa.1, xa.2.1, xa.2.2.1, xa.2.2.2.1, xa.2.2.2.2.1, xa.2.2.2.2.2) = some true ∧ xa.2.2.2.1.length ≤ 20 ∧ xa.2.2.2.2.1.length ≤ 20 ∧ xa.2.2.2.2.2.length ≤ 20 ∧ Small xa.2.2.2.1 ∧ Small xa.2.2.2.2.1 ∧ Small xa.2.2.2.2.2 ∧ Small [xa.2.1, xa.2.2.1]) := by
  unfold fn_ref19_Plain
  dsimp only
  by_cases q : xa.2.2.2.1.length ≤ 20 ∧ xa.2.2.2.2.1.length ≤ 20 ∧ xa.2.2.2.2.2.length ≤ 20
  · obtain ⟨q1, q2, q3⟩ := q
    have e1 : (((decide ((((xa.2.2.2.1.length : Nat) : Int)) ≤ 20)) && (decide ((((xa.2.2.2.2.1.length : Nat) : Int)) ≤ 20))) && (decide ((((xa.2.2.2.2.2.length : Nat) : Int)) ≤ 20))) = true := by simp; omega
    rw [e1, cond_true, within_eq _ _ (by omega), within_eq _ _ (by omega), within_eq _ _ (by omega), within_eq _ _ (by simp)]
    simp only [Option.bind_some]
    cases c1 : (!xa.2.2.2.1.any (fun x => decide (x < 0) || decide (2147483648 ≤ x))) with
    | false => exact .inl rfl
    | true =>
      cases c2 : (!xa.2.2.2.2.1.any (fun x => decide (x < 0) || decide (2147483648 ≤ x))) with
      | false => exact .inl rfl
      | true =>
        cases c3 : (!xa.2.2.2.2.2.any (fun x => decide (x < 0) || decide (2147483648 ≤ x))) with
        | false => exact .inl rfl
        | true =>
          cases c4 : (!([xa.2.1, xa.2.2.1] : List Int).any (fun x => decide (x < 0) || decide (2147483648 ≤ x))) with
          | false => exact .inl rfl
          | true => exact .inr ⟨rfl, q1, q2, q3, small_of c1, small_of c2, small_of c3, small_of c4⟩
  · have e1 : (((decide ((((xa.2.2.2.1.length : Nat) : Int)) ≤ 20)) && (decide ((((xa.2.2.2.2.1.length : Nat) : Int)) ≤ 20))) && (decide ((((xa.2.2.2.2.2.length : Nat) : Int)) ≤ 20))) = false := by simp; omega
    rw [e1]; exact .inl rfl
end Go.Proofs.Ytgeofnfjgjodgaa
