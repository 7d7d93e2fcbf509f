/- What layer 17's functions compute (calls), in plain words. -/
import Derived.Test.YtbennpandomacaaGreatQ16
namespace Go.Proofs.YtbennpandomacaaGreat
open Go.RowKit
set_option linter.unusedVariables false
set_option linter.unnecessarySimpa false
set_option linter.unusedSimpArgs false
abbrev Sg := Int × List (Int × Int) × List (List St) × List St
def bad1 (n : Int) (b : Int × Int) : Bool := (((decide (b.1 < 0)) || (decide (n ≤ b.1))) || (decide (b.2 < 0))) || (decide (n ≤ b.2))
def lc (n : Int) (A : List (List St)) : Unit ⊕ Int := match A.findIdx? (fun t => !decide (rck n t = 0)) with | some k => .inr (rck n (A.getD k [])) | none => .inl ()
def chk (s : Sg) : Int :=
  if s.1 < 0 then 7 else if 16 < s.1 ∨ 16 < s.2.1.length ∨ 16 < s.2.2.1.length then 6 else if s.2.1.any (bad1 s.1) then 7
  else match lc s.1 s.2.2.1 with | .inr e => e | .inl () => rck s.1 s.2.2.2
theorem three16 (a : Int) (b c : Nat) : (((decide (16 < a)) || (decide (16 < ((b : Nat) : Int)))) || (decide (16 < ((c : Nat) : Int)))) = decide (16 < a ∨ 16 < b ∨ 16 < c) := by
  by_cases h1 : 16 < a <;> by_cases h2 : 16 < b <;> by_cases h3 : 16 < c <;> simp [h1, h2, h3] <;> omega
theorem argsl {n : Int} {A : List (List St)} {body : Int → Option (Int ⊕ (Unit ⊕ Int))} (hn : A.length ≤ 1000) (hb : ∀ (k : Nat) (h : k < A.length), body (k : Int) = cond (!decide (rck n A[k] = 0)) (some (.inr (.inr (rck n A[k])))) (some (.inl (IntKind.wrap .i64 ((k : Int) + 1))))) (he : body (A.length : Int) = some (.inr (.inl ()))) : loop body 0 = some (lc n A) := by
  rw [loop_search A (fun t => !decide (rck n t = 0)) (fun k => .inr (rck n (A.getD k []))) (.inl ()) ?_ he]
  · rfl
  · intro k hk
    rw [hb k hk, w64s hk (by omega : A.length ≤ 9223372036854775807)]
    have : A.getD k [] = A[k] := by simp [List.getD, hk]
    rw [this]
    cases (!decide (rck n A[k] = 0)) <;> rfl
theorem sigCheck_eq (s : Sg) (hr : s.2.2.2.length ≤ 1000) (ha : ∀ t ∈ s.2.2.1, t.length ≤ 1000) : fn_sig_Check s = some (chk s) := by
  obtain ⟨n, B, A, R⟩ := s
  unfold fn_sig_Check chk
  dsimp only at *
  by_cases h0 : n < 0
  · rw [decide_eq_true h0, if_pos h0]; rfl
  · rw [decide_eq_false h0, if_neg h0, cond_false, three16]
    by_cases h1 : 16 < n ∨ 16 < B.length ∨ 16 < A.length
    · rw [decide_eq_true h1, if_pos h1]; rfl
    · rw [decide_eq_false h1, if_neg h1, cond_false]
      rw [loop_some (body := fn_sig_Check_l1 (n, B, A, R)) B (bad1 n) (.inr 7) (.inl ()) ?_ ?_]
      · cases hb : B.any (bad1 n) with
        | true => rfl
        | false =>
          simp only [Bool.false_eq_true, if_false, Option.bind_some]
          rw [argsl (body := fn_sig_Check_l2 (n, B, A, R)) (n := n) (A := A) (by omega) ?_ ?_]
          · rw [rowCheck_eq R n (by omega)]
            simp only [Option.bind_some]
            cases lc n A <;> rfl
          · intro k hk
            unfold fn_sig_Check_l2
            have := ha A[k] (List.getElem_mem hk)
            simp only [dlt hk, cond_true, getN hk, Option.bind_some]
            rw [rowCheck_eq _ _ (by omega), Option.bind_some]
          · simp [fn_sig_Check_l2]
      · intro k hk
        unfold fn_sig_Check_l1 fn_sig_Check_1_ip0_ikkk
        simp only [dlt hk, cond_true, getN hk, Option.bind_some, w64s hk (by omega : B.length ≤ 9223372036854775807)]
        generalize B[k] = b
        obtain ⟨b1, b2⟩ := b
        have e (x : Int) : (!((decide (0 ≤ x)) && (decide (x < n)))) = (decide (x < 0) || decide (n ≤ x)) := by
          by_cases p : x < 0 <;> by_cases q : n ≤ x <;> simp [p, q] <;> omega
        simp only [e, bad1]
        by_cases p1 : b1 < 0 <;> by_cases p2 : n ≤ b1 <;> by_cases p3 : b2 < 0 <;> by_cases p4 : n ≤ b2 <;> simp [p1, p2, p3, p4]
      · simp [fn_sig_Check_l1]
theorem refSCheck_eq (s : Sg) : fn_ref17_Check s = some (chk s) := by
  obtain ⟨n, B, A, R⟩ := s
  unfold fn_ref17_Check chk
  dsimp only at *
  by_cases h0 : n < 0
  · rw [decide_eq_true h0, if_pos h0]; rfl
  · rw [decide_eq_false h0, if_neg h0, cond_false, three16]
    by_cases h1 : 16 < n ∨ 16 < B.length ∨ 16 < A.length
    · rw [decide_eq_true h1, if_pos h1]; rfl
    · rw [decide_eq_false h1, if_neg h1, cond_false]
      rw [loop_some (body := fn_ref17_Check_l1 (n, B, A, R)) B (bad1 n) (.inr 7) (.inl ()) ?_ ?_]
      · cases hb : B.any (bad1 n) with
        | true => rfl
        | false =>
          simp only [Bool.false_eq_true, if_false, Option.bind_some]
          rw [argsl (body := fn_ref17_Check_l2 (n, B, A, R)) (n := n) (A := A) (by omega) ?_ ?_]
          · rw [refCheck_eq R n]
            simp only [Option.bind_some]
            cases lc n A <;> rfl
          · intro k hk
            unfold fn_ref17_Check_l2
            simp only [dlt hk, cond_true, getN hk, Option.bind_some]
            rw [refCheck_eq _ _, Option.bind_some]
          · simp [fn_ref17_Check_l2]
      · intro k hk
        unfold fn_ref17_Check_l1
        simp only [dlt hk, cond_true, getN hk, Option.bind_some, w64s hk (by omega : B.length ≤ 9223372036854775807)]
        generalize B[k] = b
        show cond (bad1 n b) _ _ = _
        cases bad1 n b <;> rfl
      · simp [fn_ref17_Check_l1]
theorem rck_zero {n : Int} {t : List St} (h : rck n t = 0) : t.length ≤ 16 ∧ rin n t = false := by
  unfold rck at h
  by_cases q : 16 < t.length
  · rw [if_pos q] at h; cases h
  · rw [if_neg q] at h
    cases hr : rin n t with
    | true => rw [hr] at h; cases h
    | false => exact ⟨by omega, rfl⟩
theorem chk_zero {s : Sg} (h : chk s = 0) : 0 ≤ s.1 ∧ s.1 ≤ 16 ∧ s.2.1.length ≤ 16 ∧ s.2.2.1.length ≤ 16 ∧ (∀ b ∈ s.2.1, bad1 s.1 b = false) ∧ (∀ t ∈ s.2.2.1, t.length ≤ 16 ∧ rin s.1 t = false) ∧ s.2.2.2.length ≤ 16 ∧ rin s.1 s.2.2.2 = false := by
  unfold chk at h
  by_cases h0 : s.1 < 0
  · rw [if_pos h0] at h; cases h
  · rw [if_neg h0] at h
    by_cases h1 : 16 < s.1 ∨ 16 < s.2.1.length ∨ 16 < s.2.2.1.length
    · rw [if_pos h1] at h; cases h
    · rw [if_neg h1] at h
      cases hb : s.2.1.any (bad1 s.1) with
      | true => rw [hb] at h; cases h
      | false =>
        rw [hb] at h
        simp only [Bool.false_eq_true, if_false] at h
        unfold lc at h
        cases hf : s.2.2.1.findIdx? (fun t => !decide (rck s.1 t = 0)) with
        | some k =>
          rw [hf] at h
          obtain ⟨hk, h2, _⟩ := List.findIdx?_eq_some_iff_getElem.1 hf
          have : s.2.2.1.getD k [] = s.2.2.1[k] := by simp [List.getD, hk]
          simp only [this] at h
          simp [h] at h2
        | none =>
          rw [hf] at h
          have hz := List.findIdx?_eq_none_iff.1 hf
          refine ⟨by omega, by omega, by omega, by omega, fun b hb2 => ?_, fun t ht => rck_zero (by simpa using hz t ht), (rck_zero h).1, (rck_zero h).2⟩
          have := List.any_eq_false.1 hb b hb2
          simpa using this
theorem shp_sbs (names : List Int) (xs ys : List St) : shp xs (ys.map (sbs names)) = shp xs ys := by
  unfold shp; rw [List.map_map]; rfl
theorem shp_sbs2 (names : List Int) (xs ys : List St) : shp (xs.map (sbs names)) ys = shp xs ys := by
  rw [shp_comm, shp_sbs, shp_comm]
def mis (A C : List (List St)) (k : Nat) : Bool := !shp (C.getD k []) (A.getD k [])
def fl (names : List Int) (A C : List (List St)) (j : Nat) : List Nd := rel 5 (16 * (j : Int)) (C.getD j []) ((A.getD j []).map (sbs names))
def fls (names : List Int) (A C : List (List St)) : Nat → List Nd
  | 0 => []
  | k + 1 => fls names A C k ++ fl names A C k
theorem fls_len (names : List Int) (A C : List (List St)) (hc : ∀ t ∈ C, t.length ≤ 20) : ∀ k, (fls names A C k).length ≤ 40 * k
  | 0 => by simp [fls]
  | k + 1 => by
    have ih := fls_len names A C hc k
    have h1 := rel_len 5 (C.getD k []) ((A.getD k []).map (sbs names)) (16 * (k : Int))
    have h2 : (C.getD k []).length ≤ 20 := by
      by_cases h : k < C.length
      · have : C.getD k [] = C[k] := by simp [List.getD, h]
        rw [this]; exact hc _ (List.getElem_mem h)
      · have : C.getD k [] = [] := by simp [List.getD, List.getElem?_eq_none (Nat.not_lt.1 h)]
        rw [this]; simp
    simp only [fls, List.length_append, fl]
    omega
def bds (names : List Int) (B : List (Int × Int)) : Nat → List Nd
  | 0 => []
  | k + 1 => bds names B k ++ [(names.getD (B.getD k (0, 0)).1.toNat 0, names.getD (B.getD k (0, 0)).2.toNat 0, 4, (k : Int), false)]
theorem bds_len (names : List Int) (B : List (Int × Int)) : ∀ k, (bds names B k).length = k
  | 0 => rfl
  | k + 1 => by simp [bds, bds_len names B k]
def csp (s : Sg) (names : List Int) (C : List (List St)) (D : List St) : List Nd × Int :=
  if chk s ≠ 0 then ([], chk s)
  else if ¬ (names.length : Int) = s.1 ∨ ¬ C.length = s.2.2.1.length then ([], 2)
  else if (List.range s.2.2.1.length).any (mis s.2.2.1 C) then ([], 8)
  else if shp D s.2.2.2 then (bds names s.2.1 s.2.1.length ++ fls names s.2.2.1 C s.2.2.1.length ++ rel 6 0 (s.2.2.2.map (sbs names)) D, 0) else ([], 8)
theorem bounds_loop {names : List Int} {n : Int} {B : List (Int × Int)} {body : (List Nd × Int) → Option ((List Nd × Int) ⊕ List Nd)} (hB : B.length ≤ 16) (hn : (names.length : Int) = n) (hb : ∀ b ∈ B, bad1 n b = false)
    (hgo : ∀ (l : List Nd) (k : Nat) (h : k < B.length), body (l, (k : Int)) = ((getI names B[k].1).bind fun x => (getI names B[k].2).bind fun y => (app l [(x, y, 4, (k : Int), false)]).bind fun z => some (.inl (z, IntKind.wrap .i64 ((k : Int) + 1))))) (he : ∀ l, body (l, (B.length : Int)) = some (.inr l)) :
    loop body ([], 0) = some (bds names B B.length) := by
  refine loop_nat (body := body) (fun k => (bds names B k, (k : Int))) B.length ?_ (he _)
  intro k hk
  have h1 := hb B[k] (List.getElem_mem hk)
  have e : B.getD k (0, 0) = B[k] := by simp [List.getD, hk]
  unfold bad1 at h1
  simp at h1
  rw [hgo _ k hk, getI_in (by omega) (by omega), Option.bind_some, getI_in (by omega) (by omega), Option.bind_some, app_eq (by simp [bds_len]; omega), Option.bind_some, w64s hk (by omega)]
  simp only [bds, e]
theorem rin_len {names : List Int} {n : Int} {t : List St} (hn : (names.length : Int) = n) (h : rin n t = false) : rin names.length t = false := by rw [hn]; exact h
theorem sigCall_eq (s : Sg) (names : List Int) (C : List (List St)) (D : List St) (hr : s.2.2.2.length ≤ 20) (ha : ∀ t ∈ s.2.2.1, t.length ≤ 20) (hC : ∀ t ∈ C, t.length ≤ 20) (hD : D.length ≤ 20) :
    fn_sig_Call s names C D = some (csp s names C D) := by
  have hck := sigCheck_eq s (by omega) (fun t ht => by have := ha t ht; omega)
  unfold fn_sig_Call fn_sig_callable csp
  rw [show fn_sig_Check (s.1, s.2.1, s.2.2.1, s.2.2.2) = some (chk s) from hck]
  obtain ⟨n, B, A, R⟩ := s
  dsimp only at *
  by_cases h0 : chk (n, B, A, R) = 0
  · obtain ⟨n0, n1, hB, hA, hb, hat, hR, hrin⟩ := chk_zero h0
    dsimp only at n0 n1 hB hA hb hat hR hrin
    simp only [h0, Option.bind_some, decide_true, Bool.not_true, cond_false, ne_eq, not_true_eq_false, if_false]
    by_cases h1 : ¬ (names.length : Int) = n ∨ ¬ C.length = A.length
    · have : ((!decide ((((names.length : Nat) : Int)) = n)) || (!decide ((((C.length : Nat) : Int)) = (((A.length : Nat) : Int))))) = true := by simp; omega
      rw [this, if_pos h1]; rfl
    · have : ((!decide ((((names.length : Nat) : Int)) = n)) || (!decide ((((C.length : Nat) : Int)) = (((A.length : Nat) : Int))))) = false := by simp; omega
      rw [this, if_neg h1, cond_false]
      have hn : (names.length : Int) = n := by omega
      have hl : C.length = A.length := by omega
      rw [loop_some (body := fn_sig_callable_l1 (n, B, A, R) C) (List.range A.length) (mis A C) (.inr 8) (.inl ()) ?_ ?_]
      · cases hm : (List.range A.length).any (mis A C) with
        | true => rfl
        | false =>
          simp only [Bool.false_eq_true, if_false, Option.bind_some]
          rw [rowShape_eq D R (by omega)]
          cases hs : shp D R with
          | false => rfl
          | true =>
            simp only [Option.bind_some, Bool.not_true, cond_false, decide_true, if_true]
            rw [bounds_loop (body := fn_sig_Call_l1 (n, B, A, R) names) hB hn hb ?_ ?_]
            · simp only [Option.bind_some]
              have hfl := loop_nat (body := fn_sig_Call_l2 (n, B, A, R) names C) (fun k => (bds names B B.length ++ fls names A C k, (k : Int))) A.length (b := bds names B B.length ++ fls names A C A.length) ?_ ?_
              · have hfl' : loop (fn_sig_Call_l2 (n, B, A, R) names C) (bds names B B.length, 0) = some (bds names B B.length ++ fls names A C A.length) := by
                  have e0 : (bds names B B.length, (0 : Int)) = (bds names B B.length ++ fls names A C 0, ((0 : Nat) : Int)) := by simp [fls]
                  rw [e0]; exact hfl
                have q1 := fls_len names A C hC A.length
                have q2 := bds_len names B B.length
                have q3 := rel_len 6 (R.map (sbs names)) D 0
                rw [List.length_map] at q3
                rw [hfl', Option.bind_some, rowSubst_eq R names (by omega), rin_len hn hrin]
                simp only [Bool.false_eq_true, if_false, Option.bind_some]
                rw [relFlow_eq _ _ _ _ (by simp; omega) (by omega) (by omega), shp_sbs2, shp_comm, hs]
                simp only [if_true, Option.bind_some]
                rw [app_eq (by simp only [List.length_append]; omega)]
                rfl
              · intro k hk
                have hkC : k < C.length := by omega
                have ht := hat A[k] (List.getElem_mem hk)
                have hc := hC C[k] (List.getElem_mem hkC)
                have e1 : A.getD k [] = A[k] := by simp [List.getD, hk]
                have e2 : C.getD k [] = C[k] := by simp [List.getD, hkC]
                have hsh : shp C[k] A[k] = true := by
                  have := List.any_eq_false.1 hm k (List.mem_range.2 hk)
                  unfold mis at this
                  rw [e1, e2] at this
                  simpa using this
                have q1 := fls_len names A C hC k
                have q2 := bds_len names B B.length
                have q3 := rel_len 5 C[k] (A[k].map (sbs names)) (16 * (k : Int))
                unfold fn_sig_Call_l2
                simp only [dlt hk, cond_true, getN hk, Option.bind_some]
                rw [rowSubst_eq _ names (by omega), rin_len hn ht.2]
                simp only [Bool.false_eq_true, if_false, Option.bind_some, getN hkC]
                rw [w64 (x := 16 * (k : Int)) (by omega) (by omega), relFlow_eq _ _ _ _ (by omega) (by omega) (by omega), shp_sbs, hsh]
                simp only [if_true, Option.bind_some]
                rw [app_eq (by simp only [List.length_append]; omega), Option.bind_some, w64s hk (by omega)]
                simp only [fls, fl, e1, e2, List.append_assoc]
              · simp [fn_sig_Call_l2]
            · intro l k hk
              unfold fn_sig_Call_l1
              simp only [dlt hk, cond_true, getN hk, Option.bind_some]
            · intro l; simp [fn_sig_Call_l1]
      · intro k hk
        simp only [List.length_range] at hk
        have hkC : k < C.length := by omega
        have e1 : A.getD k [] = A[k] := by simp [List.getD, hk]
        have e2 : C.getD k [] = C[k] := by simp [List.getD, hkC]
        have hc := hC C[k] (List.getElem_mem hkC)
        unfold fn_sig_callable_l1
        simp only [dlt hk, cond_true, getN hk, getN hkC, Option.bind_some, List.getElem_range, mis, e1, e2, w64s hk (by omega : A.length ≤ 9223372036854775807)]
        rw [rowShape_eq _ _ (by omega), Option.bind_some]
        cases shp C[k] A[k] <;> rfl
      · simp [fn_sig_callable_l1]
  · simp [h0]
theorem refCall_eq (s : Sg) (names : List Int) (C : List (List St)) (D : List St) (hr : s.2.2.2.length ≤ 20) (ha : ∀ t ∈ s.2.2.1, t.length ≤ 20) (hC : ∀ t ∈ C, t.length ≤ 20) (hD : D.length ≤ 20) :
    fn_ref17_Call s names C D = some (csp s names C D) := by
  unfold fn_ref17_Call csp
  rw [show fn_ref17_Check (s.1, s.2.1, s.2.2.1, s.2.2.2) = some (chk s) from refSCheck_eq s]
  obtain ⟨n, B, A, R⟩ := s
  dsimp only at *
  by_cases h0 : chk (n, B, A, R) = 0
  · obtain ⟨n0, n1, hB, hA, hb, hat, hR, hrin⟩ := chk_zero h0
    dsimp only at n0 n1 hB hA hb hat hR hrin
    simp only [h0, Option.bind_some, decide_true, Bool.not_true, cond_false, ne_eq, not_true_eq_false, if_false]
    by_cases h1 : ¬ (names.length : Int) = n ∨ ¬ C.length = A.length
    · have : ((!decide ((((names.length : Nat) : Int)) = n)) || (!decide ((((C.length : Nat) : Int)) = (((A.length : Nat) : Int))))) = true := by simp; omega
      rw [this, if_pos h1]; rfl
    · have : ((!decide ((((names.length : Nat) : Int)) = n)) || (!decide ((((C.length : Nat) : Int)) = (((A.length : Nat) : Int))))) = false := by simp; omega
      rw [this, if_neg h1, cond_false]
      have hn : (names.length : Int) = n := by omega
      have hl : C.length = A.length := by omega
      rw [bounds_loop (body := fn_ref17_Call_l1 (n, B, A, R) names) hB hn hb ?_ ?_]
      · simp only [Option.bind_some]
        have q2 := bds_len names B B.length
        have hfl := loop_find (body := fn_ref17_Call_l2 (n, B, A, R) names C) (fun k => mis A C k = true) (fun k => (bds names B B.length ++ fls names A C k, (k : Int))) A.length (fun _ => .inr ([], 8)) (.inl (bds names B B.length ++ fls names A C A.length)) ?_ ?_ ?_
        · have e0 : (bds names B B.length, (0 : Int)) = (bds names B B.length ++ fls names A C 0, ((0 : Nat) : Int)) := by simp [fls]
          rw [e0]
          rcases hfl with ⟨k, k1, k2, _, k3⟩ | ⟨k1, k3⟩
          · have : (List.range A.length).any (mis A C) = true := List.any_eq_true.2 ⟨k, List.mem_range.2 k1, k2⟩
            rw [k3, this]; rfl
          · have : (List.range A.length).any (mis A C) = false := by
              rw [List.any_eq_false]; intro k hk; exact k1 k (List.mem_range.1 hk)
            rw [k3, this]
            have q1 := fls_len names A C hC A.length
            have q3 := rel_len 6 (R.map (sbs names)) D 0
            rw [List.length_map] at q3
            simp only [Option.bind_some, Bool.false_eq_true, if_false]
            rw [refSubst_eq R names (by omega), rin_len hn hrin]
            simp only [Bool.false_eq_true, if_false, Option.bind_some]
            rw [refFlow_eq _ _ _ _ (by simp; omega) (by omega) (by omega), shp_sbs2, shp_comm]
            cases hs : shp D R with
            | false => rfl
            | true =>
              simp only [if_true, Option.bind_some, decide_true, Bool.not_true, cond_false]
              rw [app_eq (by simp only [List.length_append]; omega)]
              rfl
        · intro k hk hp
          have hkC : k < C.length := by omega
          have ht := hat A[k] (List.getElem_mem hk)
          have hc := hC C[k] (List.getElem_mem hkC)
          have e1 : A.getD k [] = A[k] := by simp [List.getD, hk]
          have e2 : C.getD k [] = C[k] := by simp [List.getD, hkC]
          have hsh : shp C[k] A[k] = true := by
            unfold mis at hp
            rw [e1, e2] at hp
            simpa using hp
          have q1 := fls_len names A C hC k
          have q3 := rel_len 5 C[k] (A[k].map (sbs names)) (16 * (k : Int))
          unfold fn_ref17_Call_l2
          simp only [dlt hk, cond_true, getN hk, Option.bind_some]
          rw [refSubst_eq _ names (by omega), rin_len hn ht.2]
          simp only [Bool.false_eq_true, if_false, Option.bind_some, getN hkC]
          rw [w64 (x := 16 * (k : Int)) (by omega) (by omega), refFlow_eq _ _ _ _ (by omega) (by omega) (by omega), shp_sbs, hsh]
          simp only [if_true, Option.bind_some, decide_true, Bool.not_true, cond_false]
          rw [app_eq (by simp only [List.length_append]; omega), Option.bind_some, w64s hk (by omega)]
          simp only [fls, fl, e1, e2, List.append_assoc]
        · intro k hk hp
          have hkC : k < C.length := by omega
          have ht := hat A[k] (List.getElem_mem hk)
          have hc := hC C[k] (List.getElem_mem hkC)
          have e1 : A.getD k [] = A[k] := by simp [List.getD, hk]
          have e2 : C.getD k [] = C[k] := by simp [List.getD, hkC]
          have hsh : shp C[k] A[k] = false := by
            unfold mis at hp
            rw [e1, e2] at hp
            simpa using hp
          unfold fn_ref17_Call_l2
          simp only [dlt hk, cond_true, getN hk, Option.bind_some]
          rw [refSubst_eq _ names (by omega), rin_len hn ht.2]
          simp only [Bool.false_eq_true, if_false, Option.bind_some, getN hkC]
          rw [w64 (x := 16 * (k : Int)) (by omega) (by omega), refFlow_eq _ _ _ _ (by omega) (by omega) (by omega), shp_sbs, hsh]
          rfl
        · simp [fn_ref17_Call_l2]
      · intro l k hk
        unfold fn_ref17_Call_l1
        simp only [dlt hk, cond_true, getN hk, Option.bind_some]
      · intro l; simp [fn_ref17_Call_l1]
  · simp [h0]
theorem csp_len (s : Sg) (names : List Int) (C : List (List St)) (D : List St) (hs : s.2.1.length ≤ 20 ∧ s.2.2.1.length ≤ 20 ∧ s.2.2.2.length ≤ 20) (hC : ∀ t ∈ C, t.length ≤ 20) : (csp s names C D).1.length ≤ 1000000 := by
  have q1 := fls_len names s.2.2.1 C hC s.2.2.1.length
  have q2 := bds_len names s.2.1 s.2.1.length
  have q3 := rel_len 6 (s.2.2.2.map (sbs names)) D 0
  rw [List.length_map] at q3
  unfold csp
  split
  · simp
  · split
    · simp
    · split
      · simp
      · split
        · simp only [List.length_append]; omega
        · simp
end Go.Proofs.YtbennpandomacaaGreat
