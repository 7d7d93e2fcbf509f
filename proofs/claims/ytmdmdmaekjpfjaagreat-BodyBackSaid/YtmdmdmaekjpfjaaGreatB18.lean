import Derived.Test.YtmdmdmaekjpfjaaGreatV17
namespace Go.Proofs.YtmdmdmaekjpfjaaGreat
open Go.RowKit Lb
set_option linter.unusedVariables false
set_option linter.unnecessarySimpa false
set_option linter.unusedSimpArgs false
abbrev Stm := Int × Int × Int × Int × Bool
def sDst (k : Int) : Bool := (((decide (k = 1)) || (decide (k = 2))) || (decide (k = 3))) || (decide (k = 5))
def sSrc (k : Int) : Bool := (decide (1 ≤ k)) && (decide (k ≤ 4))
def sReg (k : Int) : Bool := (decide (k = 2)) || (decide (k = 3))
def fOk (x : Stm) : Bool := decide (0 ≤ x.1) && decide (x.1 ≤ 5) && (sDst x.1 || decide (x.2.1 = 0)) && (sSrc x.1 || decide (x.2.2.1 = 0)) && (sReg x.1 || (decide (x.2.2.2.1 = 0) && !x.2.2.2.2))
theorem six {k : Int} (h : decide (0 ≤ k) && decide (k ≤ 5)) : k = 0 ∨ k = 1 ∨ k = 2 ∨ k = 3 ∨ k = 4 ∨ k = 5 := by simp at h; omega
theorem fieldsOf_eq (k : Int) : fn_stmt_fieldsOf k = some (if decide (0 ≤ k) && decide (k ≤ 5) then (sDst k, sSrc k, sReg k, true) else (false, false, false, false)) := by
  by_cases h : (decide (0 ≤ k) && decide (k ≤ 5)) = true
  · rcases six h with rfl | rfl | rfl | rfl | rfl | rfl <;> rfl
  · rw [if_neg h]
    have h' : k < 0 ∨ 5 < k := by simp at h; omega
    have e (j : Int) (h0 : 0 ≤ j) (h5 : j ≤ 5) : decide (k = j) = false := by simp; omega
    unfold fn_stmt_fieldsOf
    simp only [e 0 (by omega) (by omega), e 1 (by omega) (by omega), e 2 (by omega) (by omega), e 3 (by omega) (by omega), e 4 (by omega) (by omega), e 5 (by omega) (by omega), cond_false, Option.bind_some]
theorem form_eq (x : Stm) : fn_stmt_form x = some (if fOk x then (sDst x.1, sSrc x.1, sReg x.1, 0) else (false, false, false, 3)) := by
  obtain ⟨k, d, s, r, m⟩ := x
  unfold fn_stmt_form
  rw [fieldsOf_eq]
  by_cases h : (decide (0 ≤ k) && decide (k ≤ 5)) = true
  · simp only [h, if_true, Option.bind_some, Bool.not_true, cond_false]
    have ho : fn_stmt_own (k, d, s, r, m) (sDst k, sSrc k, sReg k) = some (k, if sDst k then d else 0, if sSrc k then s else 0, if sReg k then r else 0, if sReg k then m else false) := by
      unfold fn_stmt_own
      cases sDst k <;> cases sSrc k <;> cases sReg k <;> rfl
    rw [ho, Option.bind_some]
    unfold fOk
    simp only [h, Bool.true_and]
    cases sDst k <;> cases sSrc k <;> cases sReg k <;> simp
    all_goals (by_cases q1 : d = 0 <;> by_cases q2 : s = 0 <;> by_cases q3 : r = 0 <;> cases m <;> simp [q1, q2, q3])
  · have h' : (decide (0 ≤ k) && decide (k ≤ 5)) = false := by simpa using h
    unfold fOk
    simp [h']
def sNum (r : Int) (m : Bool) : Int := 2 * r + if m then 1 else 0
def sPut (x : Stm) : List UInt8 := numsPut [true, sDst x.1, sSrc x.1, sReg x.1] [x.1, x.2.1, x.2.2.1, sNum x.2.2.2.1 x.2.2.2.2]
theorem sNum_eq {r : Int} {m : Bool} (h0 : 0 ≤ r) (h1 : r < 2147483648) : (cond m (some (IntKind.wrap .i64 ((IntKind.wrap .i64 (2 * r)) + 1))) (some (IntKind.wrap .i64 (2 * r))) : Option Int) = some (sNum r m) := by
  rw [w64 (x := 2 * r) (by omega) (by omega), w64 (x := 2 * r + 1) (by omega) (by omega)]
  cases m <;> simp [sNum]
theorem refForm_eq (x : Stm) : fn_ref18_Form x = some (fOk x) := by
  obtain ⟨k, d, s, r, m⟩ := x
  have h1 : fn_ref18_Dst k = some (sDst k) := rfl
  have h2 : fn_ref18_Src k = some (sSrc k) := rfl
  have h3 : fn_ref18_Region k = some (sReg k) := rfl
  unfold fn_ref18_Form fOk
  simp only [h1, h2, h3, Option.bind_some]
  cases (decide (0 ≤ k) && decide (k ≤ 5)) <;> simp
  cases (sDst k || decide (d = 0)) <;> simp
  cases (sSrc k || decide (s = 0)) <;> simp
def sTake (l : List UInt8) : Int × Int × Int × Int × Bool × Int × Int :=
  if (take l).2.2 ≠ 0 then (0, 0, 0, 0, false, 0, (take l).2.2)
  else if 5 < (take l).1 then (0, 0, 0, 0, false, 0, 3)
  else if (nums [sDst (take l).1, sSrc (take l).1, sReg (take l).1] (l.drop (take l).2.1.toNat)).1 ≠ 0 then (0, 0, 0, 0, false, 0, (nums [sDst (take l).1, sSrc (take l).1, sReg (take l).1] (l.drop (take l).2.1.toNat)).1)
  else let N := nums [sDst (take l).1, sSrc (take l).1, sReg (take l).1] (l.drop (take l).2.1.toNat); ((take l).1, N.2.1.getD 0 0, N.2.1.getD 1 0, N.2.1.getD 2 0 / 2, decide (N.2.1.getD 2 0 % 2 = 1), (take l).2.1 + N.2.2, 0)
/-- One number behind others. -/
theorem one_eq (has : Bool) (e : Int) (l : List UInt8) (k : Nat) (h : k ≤ l.length) (hl : l.length ≤ 1073741824) :
    fn_stmt_Take_1_bp0p1p2_i_s_i has e l (k : Int) = some (if has = true ∧ e = 0 then ((take (l.drop k)).1, (take (l.drop k)).2.2, (k : Int) + (take (l.drop k)).2.1) else (0, e, (k : Int))) := by
  unfold fn_stmt_Take_1_bp0p1p2_i_s_i
  cases has with
  | false => simp
  | true =>
    by_cases he : e = 0
    · subst he
      simp only [Bool.not_true, decide_true, Bool.or_self, cond_false, sub_tail l k h, Option.bind_some, true_and, if_true]
      rw [lebTake_eq _ (by simp; omega)]
      rcases take_cases (l.drop k) with ⟨n, m, ht, _, _, m0, m1, _⟩ | ⟨e, ht, he⟩
      · simp only [List.length_drop] at m1
        simp only [ht, Option.bind_some]
        rw [w64 (by omega) (by omega)]
      · simp only [ht, Option.bind_some]
        rw [w64 (by omega) (by omega)]
    · simp [he]
theorem stmtTake_eq (l : List UInt8) (hl : l.length ≤ 1073741824) : fn_stmt_Take l = some (sTake l) := by
  unfold fn_stmt_Take sTake
  rw [lebTake_eq l hl]
  rcases take_cases l with ⟨k, m, ht, k0, k1, m0, m1, _⟩ | ⟨e, ht, he⟩
  · rw [ht, Option.bind_some]
    simp only [decide_true, Bool.not_true, cond_false, ne_eq, not_true_eq_false, if_false, Int.toNat_natCast, fieldsOf_eq]
    by_cases h5 : 5 < k
    · have : (decide (0 ≤ k) && decide (k ≤ 5)) = false := by simp; omega
      simp [this, h5]
    · have : (decide (0 ≤ k) && decide (k ≤ 5)) = true := by simp; omega
      simp only [this, if_true, if_neg h5, Option.bind_some, Bool.not_true, cond_false]
      have st := one_eq (l := l) (hl := hl)
      have fin (n r : Int) (hr : 0 ≤ r) : IntKind.wrap .i64 (Int.tdiv r 2) = r / 2 ∨ ¬ r ≤ 4294967295 := by
        by_cases q : r ≤ 4294967295
        · left; rw [Int.tdiv_eq_ediv_of_nonneg hr, w64 (by omega) (by omega)]
        · exact .inr q
      have tw (r : Int) (hr : 0 ≤ r) (hr2 : r ≤ 4294967295) : IntKind.wrap .i64 (Int.tdiv r 2) = r / 2 ∧ Int.tmod r 2 = r % 2 := by
        constructor
        · rw [Int.tdiv_eq_ediv_of_nonneg hr, w64 (by omega) (by omega)]
        · exact Int.tmod_eq_emod_of_nonneg hr
      have z0 : IntKind.wrap .i64 0 = 0 := by decide
      have dr (a b : Nat) : (l.drop a).drop b = l.drop (a + b) := by rw [List.drop_drop]
      have no (b : Bool) (e : Int) (q : Nat) (he : e ≠ 0) (hq : q ≤ l.length) : fn_stmt_Take_1_bp0p1p2_i_s_i b e l (q : Int) = some (0, e, (q : Int)) := by
        rw [st _ _ _ hq, if_neg (by simp [he])]
      have ye (e : Int) (q : Nat) (hq : q ≤ l.length) : fn_stmt_Take_1_bp0p1p2_i_s_i false e l (q : Int) = some (0, e, (q : Int)) := by
        rw [st _ _ _ hq, if_neg (by simp)]
      have ys (q : Nat) (hq : q ≤ l.length) : fn_stmt_Take_1_bp0p1p2_i_s_i true 0 l (q : Int) = some ((take (l.drop q)).1, (take (l.drop q)).2.2, (q : Int) + (take (l.drop q)).2.1) := by
        rw [st _ _ _ hq, if_pos (by simp)]
      have am (a b : Nat) : (a : Int) + (b : Int) = ((a + b : Nat) : Int) := by omega
      have tz (q : Nat) : (q : Int) + 0 = (q : Int) := by omega
      have i0 : decide ((0 : Int) % 2 = 1) = false := by decide
      have dd : (0 : Int) / 2 = 0 := by decide
      cases h1 : sDst k <;> cases h2 : sSrc k <;> cases h3 : sReg k <;>
        simp only [nums, ye _ _ m1, Option.bind_some, Bool.false_eq_true, if_false]
      all_goals
        first
        | simp [z0]; done
        | (rw [ys m m1, Option.bind_some]
           rcases take_cases (l.drop m) with ⟨n2, q2, t2, a2, b2, c2, d2, _⟩ | ⟨e2, t2, f2⟩
           · simp only [List.length_drop] at d2
             have g2 : m + q2 ≤ l.length := by omega
             have w2 := tw n2 a2 b2
             simp only [t2, ne_eq, not_true_eq_false, if_false, Int.toNat_natCast, am, dr, ye _ _ g2, Option.bind_some, decide_true, Bool.not_true, cond_false]
             first
             | simp [z0, w2]; done
             | (rw [ys _ g2, Option.bind_some]
                rcases take_cases (l.drop (m + q2)) with ⟨n3, q3, t3, a3, b3, c3, d3, _⟩ | ⟨e3, t3, f3⟩
                · simp only [List.length_drop] at d3
                  have g3 : m + q2 + q3 ≤ l.length := by omega
                  have w3 := tw n3 a3 b3
                  simp only [t3, ne_eq, not_true_eq_false, if_false, Int.toNat_natCast, am, dr, ye _ _ g3, Option.bind_some, decide_true, Bool.not_true, cond_false]
                  first
                  | (simp [z0, w3, Nat.add_assoc]; done)
                  | (rw [ys _ g3, Option.bind_some]
                     rcases take_cases (l.drop (m + q2 + q3)) with ⟨n4, q4, t4, a4, b4, c4, d4, _⟩ | ⟨e4, t4, f4⟩
                     · have w4 := tw n4 a4 b4
                       simp only [t4, ne_eq, not_true_eq_false, if_false, Int.toNat_natCast, am, dr, Option.bind_some]
                       simp [z0, w4, Nat.add_assoc]; done
                     · simp [t4, f4])
                · simp only [t3, ne_eq, f3, not_false_eq_true, if_true, tz, no _ _ _ f3 g2, Option.bind_some]
                  simp [f3])
           · simp only [t2, ne_eq, f2, not_false_eq_true, if_true, tz, no _ _ _ f2 m1, Option.bind_some]
             simp [f2])
  · rw [ht, Option.bind_some]; simp [he]
theorem refSTake_eq (l : List UInt8) (hl : l.length ≤ 1073741824) : fn_ref18_Take l = some (sTake l) := by
  unfold fn_ref18_Take sTake
  rw [refTake_eq l hl]
  rcases take_cases l with ⟨k, m, ht, k0, k1, m0, m1, _⟩ | ⟨e, ht, he⟩
  · have g1 : fn_ref18_Dst k = some (sDst k) := rfl
    have g2 : fn_ref18_Src k = some (sSrc k) := rfl
    have g3 : fn_ref18_Region k = some (sReg k) := rfl
    rw [ht, Option.bind_some]
    simp only [decide_true, Bool.not_true, cond_false, ne_eq, not_true_eq_false, if_false, Int.toNat_natCast, g1, g2, g3, Option.bind_some]
    by_cases h5 : 5 < k
    · simp [h5]
    · simp only [if_neg h5, decide_eq_false h5, cond_false]
      have dr (a b : Nat) : (l.drop a).drop b = l.drop (a + b) := by rw [List.drop_drop]
      have rt (q : Nat) : fn_ref02_Take (l.drop q) = some (take (l.drop q)) := refTake_eq _ (by simp; omega)
      have tw (r : Int) (hr : 0 ≤ r) (hr2 : r ≤ 4294967295) : IntKind.wrap .i64 (Int.tdiv r 2) = r / 2 ∧ Int.tmod r 2 = r % 2 := by
        constructor
        · rw [Int.tdiv_eq_ediv_of_nonneg hr, w64 (by omega) (by omega)]
        · exact Int.tmod_eq_emod_of_nonneg hr
      have am (a b : Nat) (h : a + b ≤ l.length) : IntKind.wrap .i64 ((a : Int) + (b : Int)) = ((a + b : Nat) : Int) := by rw [w64 (by omega) (by omega)]; rfl
      cases h1 : sDst k <;> cases h2 : sSrc k <;> cases h3 : sReg k <;>
        simp only [nums, cond_true, cond_false, Option.bind_some]
      all_goals
        first
        | simp; done
        | (rw [sub_tail l m m1, Option.bind_some, rt, Option.bind_some]
           rcases take_cases (l.drop m) with ⟨n2, q2, t2, a2, b2, c2, d2, _⟩ | ⟨e2, t2, f2⟩
           · simp only [List.length_drop] at d2
             have g2 : m + q2 ≤ l.length := by omega
             have w2 := tw n2 a2 b2
             simp only [t2, ne_eq, not_true_eq_false, if_false, Int.toNat_natCast, am _ _ g2, dr, Option.bind_some, decide_true, Bool.not_true, cond_false]
             first
             | simp [w2]; done
             | (rw [sub_tail l _ g2, Option.bind_some, rt, Option.bind_some]
                rcases take_cases (l.drop (m + q2)) with ⟨n3, q3, t3, a3, b3, c3, d3, _⟩ | ⟨e3, t3, f3⟩
                · simp only [List.length_drop] at d3
                  have g3 : m + q2 + q3 ≤ l.length := by omega
                  have w3 := tw n3 a3 b3
                  simp only [t3, ne_eq, not_true_eq_false, if_false, Int.toNat_natCast, am _ _ g3, dr, Option.bind_some, decide_true, Bool.not_true, cond_false]
                  first
                  | (simp [w3, Nat.add_assoc]; done)
                  | (rw [sub_tail l _ g3, Option.bind_some, rt, Option.bind_some]
                     rcases take_cases (l.drop (m + q2 + q3)) with ⟨n4, q4, t4, a4, b4, c4, d4, _⟩ | ⟨e4, t4, f4⟩
                     · simp only [List.length_drop] at d4
                       have g4 : m + q2 + q3 + q4 ≤ l.length := by omega
                       have w4 := tw n4 a4 b4
                       simp only [t4, ne_eq, not_true_eq_false, if_false, Int.toNat_natCast, am _ _ g4, dr, Option.bind_some]
                       simp [w4, Nat.add_assoc]; done
                     · simp [t4, f4])
                · simp [t3, f3])
           · simp [t2, f2])
  · rw [ht, Option.bind_some]; simp [he]
theorem sTake_ok (l : List UInt8) (h : (sTake l).2.2.2.2.2.2 = 0) : ∃ (m : Nat), (sTake l).2.2.2.2.2.1 = (m : Int) ∧ m ≤ l.length ∧ fOk ((sTake l).1, (sTake l).2.1, (sTake l).2.2.1, (sTake l).2.2.2.1, (sTake l).2.2.2.2.1) = true ∧ 0 ≤ (sTake l).2.2.2.1 ∧ (sTake l).2.2.2.1 < 2147483648 ∧ sPut ((sTake l).1, (sTake l).2.1, (sTake l).2.2.1, (sTake l).2.2.2.1, (sTake l).2.2.2.2.1) = l.take m ∧ okN (sTake l).2.1 ∧ okN (sTake l).2.2.1 := by
  rcases take_cases l with ⟨k, m, ht, k0, k1, m0, m1, hp⟩ | ⟨e, ht, he⟩
  · unfold sTake at h ⊢
    simp only [ht, ne_eq, not_true_eq_false, if_false, Int.toNat_natCast] at h ⊢
    by_cases h5 : 5 < k
    · simp [h5] at h
    · simp only [if_neg h5] at h ⊢
      have pn := put_nums [sDst k, sSrc k, sReg k] (l.drop m)
      generalize nums [sDst k, sSrc k, sReg k] (l.drop m) = N at *
      obtain ⟨e, ns, q⟩ := N
      dsimp only at h ⊢ pn
      by_cases he : e = 0
      · subst he
        obtain ⟨p1, p2, p3, p4⟩ := pn rfl
        rcases ns with _ | ⟨d, _ | ⟨s, _ | ⟨r, _ | ⟨_, _⟩⟩⟩⟩
        case cons.cons.cons.nil =>
          have a0 := p4 0 (by simp) (by simp)
          have a1 := p4 1 (by simp) (by simp)
          have a2 := p4 2 (by simp) (by simp)
          simp only [List.length_drop] at p1
          simp at a0 a1 a2
          simp only [not_true_eq_false, if_false, List.getD_cons_zero, List.getD_cons_succ]
          refine ⟨m + q, by omega, by omega, ?_, by omega, by omega, ?_, ⟨by omega, by omega⟩, ⟨by omega, by omega⟩⟩
          · unfold fOk
            have hk : (decide (0 ≤ k) && decide (k ≤ 5)) = true := by simp; omega
            try dsimp only
            rw [hk]
            cases c1 : sDst k <;> cases c2 : sSrc k <;> cases c3 : sReg k <;> simp_all
          · unfold sPut
            have e2 : sNum (r / 2) (decide (r % 2 = 1)) = r := by
              unfold sNum
              by_cases q : r % 2 = 1
              · simp [q]; omega
              · simp [q]; omega
            try dsimp only
            rw [e2]
            simp only [numsPut] at p2 ⊢
            rw [hp, p2, List.take_add]
        all_goals simp at p3
      · simp only [he, not_false_eq_true, if_true] at h
  · unfold sTake at h
    simp [ht, he] at h
theorem sTake_put (x : Stm) (l : List UInt8) (hf : fOk x = true) (h1 : 0 ≤ x.2.1) (h2 : 0 ≤ x.2.2.1) (h3 : 0 ≤ x.2.2.2.1) (g1 : x.2.1 ≤ 4294967295) (g2 : x.2.2.1 ≤ 4294967295) (g3 : x.2.2.2.1 < 2147483648) : sTake (sPut x ++ l) = (x.1, x.2.1, x.2.2.1, x.2.2.2.1, x.2.2.2.2, (((sPut x).length : Nat) : Int), 0) := by
  obtain ⟨k, d, s, r, m⟩ := x
  dsimp only at *
  unfold fOk at hf
  simp only [Bool.and_eq_true] at hf
  obtain ⟨⟨⟨⟨k0, k5⟩, f1⟩, f2⟩, f3⟩ := hf
  simp at k0 k5
  have pk : put k ≠ [] := fun h => by have := (put_nil k).1 h; omega
  have nb : 0 ≤ sNum r m ∧ sNum r m ≤ 4294967295 := by unfold sNum; cases m <;> simp <;> omega
  have hn := nums_put [sDst k, sSrc k, sReg k] [d, s, sNum r m] l rfl (by
    intro j j1 j2
    rcases j with _ | _ | _ | j
    · simp only [List.getElem_cons_zero]
      refine ⟨fun _ h => by have := (put_nil d).1 h; omega, fun h => ?_⟩
      rw [h] at f1; simpa using f1
    · simp only [List.getElem_cons_succ, List.getElem_cons_zero]
      refine ⟨fun _ h => by have := (put_nil s).1 h; omega, fun h => ?_⟩
      rw [h] at f2; simpa using f2
    · simp only [List.getElem_cons_succ, List.getElem_cons_zero]
      refine ⟨fun _ h => by have := (put_nil _).1 h; omega, fun h => ?_⟩
      rw [h] at f3
      simp at f3
      simp [sNum, f3.1, f3.2]
    · simp at j1; omega)
  have e : sPut (k, d, s, r, m) = put k ++ numsPut [sDst k, sSrc k, sReg k] [d, s, sNum r m] := rfl
  have ht := take_put k pk (numsPut [sDst k, sSrc k, sReg k] [d, s, sNum r m] ++ l)
  have hl := put_length k
  have es : (size k).toNat = (put k).length := by omega
  unfold sTake
  rw [e, List.append_assoc, ht]
  simp only [ne_eq, not_true_eq_false, if_false, es, List.drop_left, hn, if_neg (show ¬ 5 < k by omega)]
  have er : sNum r m / 2 = r ∧ decide (sNum r m % 2 = 1) = m := by
    unfold sNum
    cases m <;> simp <;> omega
  simp only [List.getD_cons_zero, List.getD_cons_succ]
  rw [er.1, er.2, List.length_append]
  simp only [Prod.mk.injEq, true_and, and_true]
  omega
end Go.Proofs.YtmdmdmaekjpfjaaGreat
