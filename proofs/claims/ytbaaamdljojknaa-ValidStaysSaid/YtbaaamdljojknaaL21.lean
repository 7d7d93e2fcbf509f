/- Well-formed or not, of bodies of any size (layer 21): the program and the reference tell the same. -/
import Derived.Test.YtbaaamdljojknaaW21
namespace Go.Proofs.Ytbaaamdljojknaa
open Go.RowKit
set_option linter.unusedVariables false
set_option linter.unnecessarySimpa false
set_option linter.unusedSimpArgs false
set_option maxRecDepth 20000
theorem rowCheckL (t : List St) (n : Int) : fn_row_Check t n = some (rck n t) := by
  by_cases h : 16 < t.length
  · unfold fn_row_Check rck
    rw [decide_eq_true (by omega), if_pos h]; rfl
  · exact rowCheck_eq t n (by omega)
theorem sigCheckL (s : Sg) : fn_sig_Check s = some (chk s) := by
  obtain ⟨n, B, A, R⟩ := s
  unfold fn_sig_Check chk
  dsimp only at *
  by_cases h0 : n < 0
  · rw [decide_eq_true h0, if_pos h0]; rfl
  · rw [decide_eq_false h0, if_neg h0, cond_false, three16]
    by_cases h1 : 16 < n ∨ 16 < B.length ∨ 16 < A.length
    · rw [decide_eq_true h1, if_pos h1]; rfl
    · rw [decide_eq_false h1, if_neg h1, cond_false]
      rw [loop_some (body := fn_sig_Check_l1 (n, B, A, R)) B (bad1 n) (.inr 7) (.inl ()) ?_ ?_]
      · cases hb : B.any (bad1 n) with
        | true => rfl
        | false =>
          simp only [Bool.false_eq_true, if_false, Option.bind_some]
          rw [argsl (body := fn_sig_Check_l2 (n, B, A, R)) (n := n) (A := A) (by omega) ?_ ?_]
          · rw [rowCheckL R n]
            simp only [Option.bind_some]
            cases lc n A <;> rfl
          · intro k hk
            unfold fn_sig_Check_l2
            simp only [dlt hk, cond_true, getN hk, Option.bind_some]
            rw [rowCheckL, Option.bind_some]
          · simp [fn_sig_Check_l2]
      · intro k hk
        unfold fn_sig_Check_l1 fn_sig_Check_1_ip0_ikkk
        simp only [dlt hk, cond_true, getN hk, Option.bind_some, w64s hk (by omega : B.length ≤ 9223372036854775807)]
        generalize B[k] = b
        obtain ⟨b1, b2⟩ := b
        have e (x : Int) : (!((decide (0 ≤ x)) && (decide (x < n)))) = (decide (x < 0) || decide (n ≤ x)) := by
          by_cases p : x < 0 <;> by_cases q : n ≤ x <;> simp [p, q] <;> omega
        simp only [e, bad1]
        by_cases p1 : b1 < 0 <;> by_cases p2 : n ≤ b1 <;> by_cases p3 : b2 < 0 <;> by_cases p4 : n ≤ b2 <;> simp [p1, p2, p3, p4]
      · simp [fn_sig_Check_l1]
theorem chk_small {s : Sg} (h : chk s = 0) : s.2.1.length ≤ 20 ∧ s.2.2.1.length ≤ 20 ∧ s.2.2.2.length ≤ 20 ∧ ∀ t ∈ s.2.2.1, t.length ≤ 20 := by
  unfold chk at h
  by_cases h0 : s.1 < 0
  · rw [if_pos h0] at h; cases h
  · rw [if_neg h0] at h
    by_cases h1 : 16 < s.1 ∨ 16 < s.2.1.length ∨ 16 < s.2.2.1.length
    · rw [if_pos h1] at h; cases h
    · rw [if_neg h1] at h
      cases hb : s.2.1.any (bad1 s.1) with
      | true => rw [hb] at h; simp at h
      | false =>
        rw [hb] at h
        simp only [Bool.false_eq_true, if_false] at h
        unfold lc at h
        cases hf : s.2.2.1.findIdx? (fun t => !decide (rck s.1 t = 0)) with
        | some k =>
          exfalso
          obtain ⟨hk, h5, _⟩ := List.findIdx?_eq_some_iff_getElem.1 hf
          have e : s.2.2.1.getD k [] = s.2.2.1[k] := by simp [List.getD, hk]
          rw [hf] at h
          simp only [e] at h
          simp [h] at h5
        | none =>
          rw [hf] at h
          have hr := (rck_zero h).1
          refine ⟨by omega, by omega, by omega, fun t ht => ?_⟩
          have := List.findIdx?_eq_none_iff.1 hf t ht
          have := (rck_zero (by simpa using this)).1
          omega
theorem needs19L (x : Tm) (a : Ar) (hR : a.2.2.2.1.length ≤ 20) (hL : ∀ t ∈ a.2.2.1, t.length ≤ 20) (hS : ∀ s ∈ a.2.2.2.2, s.2.1.length ≤ 20 ∧ s.2.2.1.length ≤ 20 ∧ s.2.2.2.length ≤ 20 ∧ ∀ t ∈ s.2.2.1, t.length ≤ 20) :
    ∃ l e, fn_term_Needs x a = some (l, e) ∧ fn_ref19_Needs x a = some (l, e) := by
  by_cases hf : tForm x = 0
  · obtain ⟨_, l2, l3, l4⟩ := tForm_zero hf
    obtain ⟨l, e, h1, h2, _⟩ := needs19 x a (by omega) (by omega) (by omega) hR hL hS
    exact ⟨l, e, h1, h2⟩
  · refine ⟨[], tForm x, ?_, ?_⟩
    · unfold fn_term_Needs
      rw [show fn_term_form (x.1, x.2.1, x.2.2.1, x.2.2.2.1, x.2.2.2.2.1, x.2.2.2.2.2) = some (tForm x) from tForm_eq x, Option.bind_some, decide_eq_false hf]; rfl
    · unfold fn_ref19_Needs
      rw [show fn_ref19_Form (x.1, x.2.1, x.2.2.1, x.2.2.2.1, x.2.2.2.2.1, x.2.2.2.2.2) = some (tForm x) from refTForm_eq x, Option.bind_some, decide_eq_false hf]; rfl
def lB (b : Bo) : Flt := if 65536 < b.2.2.1.length then (6, 1, 0, 0) else vBounds b
def lL (b : Bo) : Flt := if b.2.2.2.1 = [] then (14, 2, 0, 0) else if 65536 < b.2.2.2.1.length then (6, 2, 0, 0) else vLoc b
def lS (b : Bo) : Flt := if 65536 < b.2.2.2.2.2.1.length then (6, 4, 0, 0) else vSig b
def lkR (X : List Blk) : Unit ⊕ Flt := ((List.range X.length).findSome? (fun k => if 65536 < stm (X.take (k + 1)) then some (.inr (6, 5, (k : Int), 0) : Unit ⊕ Flt) else none)).getD (.inl ())
def lK (b : Bo) : Flt := if b.2.2.2.2.2.2 = [] then (14, 5, 0, 0) else if 65536 < b.2.2.2.2.2.2.length then (6, 5, 0, 0) else match lkR b.2.2.2.2.2.2 with | .inr f => f | .inl () => (0, 0, 0, 0)
theorem lkR_six {X : List Blk} {f : Flt} (h : lkR X = .inr f) : f.1 = 6 := by
  unfold lkR at h
  cases hf : (List.range X.length).findSome? (fun k => if 65536 < stm (X.take (k + 1)) then some (.inr (6, 5, (k : Int), 0) : Unit ⊕ Flt) else none) with
  | none => rw [hf] at h; cases h
  | some v =>
    rw [hf] at h
    simp only [Option.getD_some] at h
    subst h
    obtain ⟨k, _, hk⟩ := List.exists_of_findSome?_eq_some hf
    by_cases q : 65536 < stm (X.take (k + 1))
    · rw [if_pos q] at hk; cases hk; rfl
    · rw [if_neg q] at hk; cases hk
theorem lL_zero {b : Bo} (h : (lL b).1 = 0) : b.2.2.2.1 ≠ [] ∧ b.2.2.2.1.length ≤ 65536 ∧ ∀ t ∈ b.2.2.2.1, t.length ≤ 20 := by
  unfold lL at h
  by_cases q : b.2.2.2.1 = []
  · rw [if_pos q] at h; cases h
  · rw [if_neg q] at h
    by_cases q2 : 65536 < b.2.2.2.1.length
    · rw [if_pos q2] at h; cases h
    · rw [if_neg q2] at h
      refine ⟨q, by omega, fun t ht => ?_⟩
      unfold vLoc at h
      rw [if_neg q] at h
      cases hf : b.2.2.2.1.findIdx? (fun t => !decide (rck b.2.1 t = 0)) with
      | some k =>
        exfalso
        obtain ⟨hk, h5, _⟩ := List.findIdx?_eq_some_iff_getElem.1 hf
        have e : b.2.2.2.1.getD k [] = b.2.2.2.1[k] := by simp [List.getD, hk]
        rw [hf] at h
        simp only [e] at h
        simp [h] at h5
      | none =>
        have := List.findIdx?_eq_none_iff.1 hf t ht
        have := (rck_zero (by simpa using this)).1
        omega
theorem vRet_zero {b : Bo} (h : (vRet b).1 = 0) : b.2.2.2.2.1.length ≤ 20 := by
  unfold vRet at h
  by_cases q : rck b.1 b.2.2.2.2.1 = 0
  · have := (rck_zero q).1; omega
  · rw [if_neg q] at h; exact absurd h q
theorem lS_zero {b : Bo} (h : (lS b).1 = 0) : ∀ s ∈ b.2.2.2.2.2.1, s.2.1.length ≤ 20 ∧ s.2.2.1.length ≤ 20 ∧ s.2.2.2.length ≤ 20 ∧ ∀ t ∈ s.2.2.1, t.length ≤ 20 := by
  unfold lS at h
  by_cases q2 : 65536 < b.2.2.2.2.2.1.length
  · rw [if_pos q2] at h; cases h
  · rw [if_neg q2] at h
    intro s hs
    unfold vSig at h
    cases hf : b.2.2.2.2.2.1.findIdx? (fun s => !decide (chk s = 0)) with
    | some k =>
      exfalso
      obtain ⟨hk, h5, _⟩ := List.findIdx?_eq_some_iff_getElem.1 hf
      have e : b.2.2.2.2.2.1.getD k (0, [], [], []) = b.2.2.2.2.2.1[k] := by simp [List.getD, hk]
      rw [hf] at h
      simp only [e] at h
      simp [h] at h5
    | none =>
      have := List.findIdx?_eq_none_iff.1 hf s hs
      exact chk_small (by simpa using this)
theorem lBounds_eq (b : Bo) : fn_valid_bounds_az b = some (lB b) := by
  unfold fn_valid_bounds_az lB
  by_cases h1 : 65536 < b.2.2.1.length
  · rw [decide_eq_true (by omega), cond_true, if_pos h1]
  · unfold vBounds
    rw [if_neg h1, decide_eq_false (by omega), cond_false, loop_search (body := fn_valid_bounds_az_l1 b) b.2.2.1 (bad1 b.1) (fun k => (.inr (7, 1, (k : Int), 0) : Unit ⊕ Flt)) (.inl ()) ?_ ?_]
    · cases b.2.2.1.findIdx? (bad1 b.1) <;> rfl
    · intro k hk
      unfold fn_valid_bounds_az_l1 fn_valid_bounds_1_ip0_iikkkkk fn_tick_Counter_Add_zii
      simp only [dlt hk, cond_true, getN hk, Option.bind_some, w64s hk (by omega : b.2.2.1.length ≤ 9223372036854775807)]
      generalize b.2.2.1[k] = x
      obtain ⟨x1, x2⟩ := x
      have e (x : Int) : (!((decide (0 ≤ x)) && (decide (x < b.1)))) = (decide (x < 0) || decide (b.1 ≤ x)) := by
        by_cases p : x < 0 <;> by_cases q : b.1 ≤ x <;> simp [p, q] <;> omega
      simp only [e, bad1]
      by_cases p1 : x1 < 0 <;> by_cases p2 : b.1 ≤ x1 <;> by_cases p3 : x2 < 0 <;> by_cases p4 : b.1 ≤ x2 <;> simp [p1, p2, p3, p4]
    · simp [fn_valid_bounds_az_l1]
theorem lLoc_eq (b : Bo) : fn_valid_locals_az b = some (lL b) := by
  unfold fn_valid_locals_az lL
  by_cases q : b.2.2.2.1 = []
  · rw [if_pos q, q]; rfl
  · have q' : ¬ ((b.2.2.2.1.length : Nat) : Int) = 0 := fun hc => q (List.length_eq_zero_iff.1 (by omega))
    rw [if_neg q, decide_eq_false q', cond_false]
    by_cases h1 : 65536 < b.2.2.2.1.length
    · rw [decide_eq_true (by omega), cond_true, if_pos h1]
    · unfold vLoc
      rw [if_neg h1, if_neg q, decide_eq_false (by omega), cond_false, loop_search (body := fn_valid_locals_az_l1 b) b.2.2.2.1 (fun t => !decide (rck b.2.1 t = 0)) (fun k => (.inr (rck b.2.1 (b.2.2.2.1.getD k []), 2, (k : Int), 0) : Unit ⊕ Flt)) (.inl ()) ?_ ?_]
      · cases b.2.2.2.1.findIdx? (fun t => !decide (rck b.2.1 t = 0)) <;> rfl
      · intro k hk
        unfold fn_valid_locals_az_l1 fn_tick_Counter_Add_zii
        have e : b.2.2.2.1.getD k [] = b.2.2.2.1[k] := by simp [List.getD, hk]
        simp only [dlt hk, cond_true, getN hk, Option.bind_some, w64s hk (by omega : b.2.2.2.1.length ≤ 9223372036854775807), e, rowCheckL]
        cases (!decide (rck b.2.1 b.2.2.2.1[k] = 0)) <;> rfl
      · simp [fn_valid_locals_az_l1]
theorem lRet_eq {b : Bo} (hL : b.2.2.2.1 ≠ []) : fn_valid_ret_az b = some (vRet b) := by
  unfold fn_valid_ret_az vRet
  have hp : 0 < b.2.2.2.1.length := List.length_pos_iff.2 hL
  have e0 : b.2.2.2.1.getD 0 [] = b.2.2.2.1[0] := by simp [List.getD, hp]
  have g0 : getI b.2.2.2.1 0 = some b.2.2.2.1[0] := getN (k := 0) hp
  rw [rowCheckL, Option.bind_some, g0, Option.bind_some]
  by_cases q : rck b.1 b.2.2.2.2.1 = 0
  · have := (rck_zero q).1
    rw [rowShape_eq _ _ (by omega), e0, Option.bind_some, if_pos q, q]
    cases shp b.2.2.2.2.1 b.2.2.2.1[0] <;> rfl
  · rw [if_neg q, decide_eq_false q]; rfl
theorem lSig_eq (b : Bo) : fn_valid_sigs_az b = some (lS b) := by
  unfold fn_valid_sigs_az lS
  by_cases h1 : 65536 < b.2.2.2.2.2.1.length
  · rw [decide_eq_true (by omega), cond_true, if_pos h1]
  · unfold vSig
    rw [if_neg h1, decide_eq_false (by omega), cond_false, loop_search (body := fn_valid_sigs_az_l1 b) b.2.2.2.2.2.1 (fun s => !decide (chk s = 0)) (fun k => (.inr (chk (b.2.2.2.2.2.1.getD k (0, [], [], [])), 4, (k : Int), 0) : Unit ⊕ Flt)) (.inl ()) ?_ ?_]
    · cases b.2.2.2.2.2.1.findIdx? (fun s => !decide (chk s = 0)) <;> rfl
    · intro k hk
      unfold fn_valid_sigs_az_l1 fn_tick_Counter_Add_zii
      have e : b.2.2.2.2.2.1.getD k (0, [], [], []) = b.2.2.2.2.2.1[k] := by simp [List.getD, hk]
      simp only [dlt hk, cond_true, getN hk, Option.bind_some, w64s hk (by omega : b.2.2.2.2.2.1.length ≤ 9223372036854775807), e, show fn_sig_Check (b.2.2.2.2.2.1[k].1, b.2.2.2.2.2.1[k].2.1, b.2.2.2.2.2.1[k].2.2.1, b.2.2.2.2.2.1[k].2.2.2) = _ from sigCheckL _]
      cases (!decide (chk b.2.2.2.2.2.1[k] = 0)) <;> rfl
    · simp [fn_valid_sigs_az_l1]
end Go.Proofs.Ytbaaamdljojknaa
