/- What layer 18's functions compute (statements), in plain words. -/
import Derived.Test.YtaaicohpbafegaaQ16
import Derived.Test.YtaaicohpbafegaaQ02
namespace Go.Proofs.Ytaaicohpbafegaa
open Go.RowKit Lb
set_option linter.unusedVariables false
/-- What is taken is right, or nothing is taken. -/
theorem take_cases (l : List UInt8) : (∃ (n : Int) (k : Nat), take l = (n, (k : Int), 0) ∧ 0 ≤ n ∧ n ≤ 4294967295 ∧ 1 ≤ k ∧ k ≤ l.length ∧ put n = l.take k) ∨ (∃ e, take l = (0, 0, e) ∧ e ≠ 0) := by
  by_cases h : (take l).2.2 = 0
  · obtain ⟨h1, h2, h3⟩ := put_take l h
    refine .inl ⟨(take l).1, (take l).2.1.toNat, ?_, ?_, ?_, by omega, by omega, h3⟩
    · generalize take l = t at *
      obtain ⟨a, b, c⟩ := t
      dsimp only at *
      rw [h, Int.toNat_of_nonneg (by omega)]
    all_goals
      have hne : ¬ put (take l).1 = [] := by
        intro h0; rw [h0] at h3
        have := congrArg List.length h3
        simp at this; omega
      have hb : ¬ ((take l).1 < 0 ∨ 4294967295 < (take l).1) := fun q => hne ((put_nil (take l).1).2 q)
      omega
  · refine .inr ⟨(take l).2.2, ?_, h⟩
    have : (take l).2.2 = 0 ∨ take l = (0, 0, (take l).2.2) := by
      unfold take
      split
      · exact .inr rfl
      · split
        · exact .inl rfl
        · split
          · exact .inr rfl
          · split
            · exact .inr rfl
            · split
              · exact .inr rfl
              · exact .inl rfl
    rcases this with h' | h'
    · exact absurd h' h
    · exact h'
/-- Numbers where they are due, 0 where not: the error, the numbers, how many bytes. -/
def nums : List Bool → List UInt8 → Int × List Int × Nat
  | [], _ => (0, [], 0)
  | false :: hs, s => ((nums hs s).1, 0 :: (nums hs s).2.1, (nums hs s).2.2)
  | true :: hs, s => if (take s).2.2 ≠ 0 then ((take s).2.2, [], 0) else ((nums hs (s.drop (take s).2.1.toNat)).1, (take s).1 :: (nums hs (s.drop (take s).2.1.toNat)).2.1, (take s).2.1.toNat + (nums hs (s.drop (take s).2.1.toNat)).2.2)
def numsPut : List Bool → List Int → List UInt8
  | true :: hs, n :: ns => put n ++ numsPut hs ns
  | false :: hs, _ :: ns => numsPut hs ns
  | _, _ => []
theorem nums_put : ∀ (hs : List Bool) (ns : List Int) (s : List UInt8), hs.length = ns.length → (∀ k (h1 : k < hs.length) (h2 : k < ns.length), (hs[k] = true → put ns[k] ≠ []) ∧ (hs[k] = false → ns[k] = 0)) → nums hs (numsPut hs ns ++ s) = (0, ns, (numsPut hs ns).length)
  | [], [], s, _, _ => rfl
  | [], _ :: _, _, h, _ => by simp at h
  | _ :: _, [], _, h, _ => by simp at h
  | b :: hs, n :: ns, s, h, hp => by
    have ih := fun s => nums_put hs ns s (by simpa using h) (fun k h1 h2 => hp (k + 1) (by simpa using h1) (by simpa using h2))
    have h0 := hp 0 (by simp) (by simp)
    simp only [List.getElem_cons_zero] at h0
    cases b with
    | false => rw [h0.2 rfl]; simp only [nums, numsPut, ih]
    | true =>
      have ht := take_put n (h0.1 rfl) (numsPut hs ns ++ s)
      have hl := put_length n
      simp only [nums, numsPut, List.append_assoc, ht, ne_eq, not_true_eq_false, if_false]
      have e : (size n).toNat = (put n).length := by omega
      rw [e, List.drop_left, ih, List.length_append]
theorem put_nums : ∀ (hs : List Bool) (s : List UInt8), (nums hs s).1 = 0 → (nums hs s).2.2 ≤ s.length ∧ numsPut hs (nums hs s).2.1 = s.take (nums hs s).2.2 ∧ (nums hs s).2.1.length = hs.length ∧ ∀ k (h1 : k < hs.length) (h2 : k < (nums hs s).2.1.length), (0 ≤ (nums hs s).2.1[k] ∧ (nums hs s).2.1[k] ≤ 4294967295) ∧ (hs[k] = false → (nums hs s).2.1[k] = 0)
  | [], s, _ => by simp [nums, numsPut]
  | false :: hs, s, h => by
    obtain ⟨h1, h2, h3, h4⟩ := put_nums hs s h
    refine ⟨h1, h2, by simp [nums, h3], fun k k1 k2 => ?_⟩
    cases k with
    | zero => simp [nums]
    | succ k => exact h4 k (by simpa using k1) (by simpa [nums] using k2)
  | true :: hs, s, h => by
    rcases take_cases s with ⟨n, m, ht, n0, n1, m0, m1, hp⟩ | ⟨e, ht, he⟩
    · simp only [nums, ht, ne_eq, not_true_eq_false, if_false, Int.toNat_natCast] at h ⊢
      obtain ⟨h1, h2, h3, h4⟩ := put_nums hs (s.drop m) h
      simp only [List.length_drop] at h1
      refine ⟨by omega, ?_, by simp [h3], fun k k1 k2 => ?_⟩
      · simp only [numsPut, hp, h2, List.take_add]
      · cases k with
        | zero => exact ⟨⟨n0, n1⟩, fun h => by simp at h⟩
        | succ k => exact h4 k (by simpa using k1) (by simpa using k2)
    · simp [nums, ht, he] at h
abbrev Stm := Int × Int × Int × Int × Bool
def sDst (k : Int) : Bool := (((decide (k = 1)) || (decide (k = 2))) || (decide (k = 3))) || (decide (k = 5))
def sSrc (k : Int) : Bool := (decide (1 ≤ k)) && (decide (k ≤ 4))
def sReg (k : Int) : Bool := (decide (k = 2)) || (decide (k = 3))
def fOk (x : Stm) : Bool := decide (0 ≤ x.1) && decide (x.1 ≤ 5) && (sDst x.1 || decide (x.2.1 = 0)) && (sSrc x.1 || decide (x.2.2.1 = 0)) && (sReg x.1 || (decide (x.2.2.2.1 = 0) && !x.2.2.2.2))
theorem six {k : Int} (h : decide (0 ≤ k) && decide (k ≤ 5)) : k = 0 ∨ k = 1 ∨ k = 2 ∨ k = 3 ∨ k = 4 ∨ k = 5 := by simp at h; omega
theorem fieldsOf_eq (k : Int) : fn_stmt_fieldsOf k = some (if decide (0 ≤ k) && decide (k ≤ 5) then (sDst k, sSrc k, sReg k, true) else (false, false, false, false)) := by
  by_cases h : (decide (0 ≤ k) && decide (k ≤ 5)) = true
  · rcases six h with rfl | rfl | rfl | rfl | rfl | rfl <;> rfl
  · rw [if_neg h]
    have h' : k < 0 ∨ 5 < k := by simp at h; omega
    have e (j : Int) (h0 : 0 ≤ j) (h5 : j ≤ 5) : decide (k = j) = false := by simp; omega
    unfold fn_stmt_fieldsOf
    simp only [e 0 (by omega) (by omega), e 1 (by omega) (by omega), e 2 (by omega) (by omega), e 3 (by omega) (by omega), e 4 (by omega) (by omega), e 5 (by omega) (by omega), cond_false, Option.bind_some]
theorem refForm_eq (x : Stm) : fn_ref18_Form x = some (fOk x) := by
  obtain ⟨k, d, s, r, m⟩ := x
  have h1 : fn_ref18_Dst k = some (sDst k) := rfl
  have h2 : fn_ref18_Src k = some (sSrc k) := rfl
  have h3 : fn_ref18_Region k = some (sReg k) := rfl
  unfold fn_ref18_Form fOk
  simp only [h1, h2, h3, Option.bind_some]
  cases (decide (0 ≤ k) && decide (k ≤ 5)) <;> simp
  cases (sDst k || decide (d = 0)) <;> simp
  cases (sSrc k || decide (s = 0)) <;> simp
theorem form_eq (x : Stm) : fn_stmt_form x = some (if fOk x then (sDst x.1, sSrc x.1, sReg x.1, 0) else (false, false, false, 3)) := by
  obtain ⟨k, d, s, r, m⟩ := x
  unfold fn_stmt_form
  rw [fieldsOf_eq]
  by_cases h : (decide (0 ≤ k) && decide (k ≤ 5)) = true
  · simp only [h, if_true, Option.bind_some, Bool.not_true, cond_false]
    have ho : fn_stmt_own (k, d, s, r, m) (sDst k, sSrc k, sReg k) = some (k, if sDst k then d else 0, if sSrc k then s else 0, if sReg k then r else 0, if sReg k then m else false) := by
      unfold fn_stmt_own
      cases sDst k <;> cases sSrc k <;> cases sReg k <;> rfl
    rw [ho, Option.bind_some]
    unfold fOk
    simp only [h, Bool.true_and]
    cases sDst k <;> cases sSrc k <;> cases sReg k <;> simp
    all_goals (by_cases q1 : d = 0 <;> by_cases q2 : s = 0 <;> by_cases q3 : r = 0 <;> cases m <;> simp [q1, q2, q3])
  · have h' : (decide (0 ≤ k) && decide (k ≤ 5)) = false := by simpa using h
    unfold fOk
    simp [h']
def sNum (r : Int) (m : Bool) : Int := 2 * r + if m then 1 else 0
def sPut (x : Stm) : List UInt8 := numsPut [true, sDst x.1, sSrc x.1, sReg x.1] [x.1, x.2.1, x.2.2.1, sNum x.2.2.2.1 x.2.2.2.2]
theorem sNum_eq {r : Int} {m : Bool} (h0 : 0 ≤ r) (h1 : r < 2147483648) : (cond m (some (IntKind.wrap .i64 ((IntKind.wrap .i64 (2 * r)) + 1))) (some (IntKind.wrap .i64 (2 * r))) : Option Int) = some (sNum r m) := by
  rw [w64 (x := 2 * r) (by omega) (by omega), w64 (x := 2 * r + 1) (by omega) (by omega)]
  cases m <;> simp [sNum]
theorem stmtPut_eq (x : Stm) (h0 : 0 ≤ x.2.2.2.1) (h1 : x.2.2.2.1 < 2147483648) : fn_stmt_Put x = some (if fOk x then (sPut x, 0) else ([], 3)) := by
  obtain ⟨k, d, s, r, m⟩ := x
  dsimp only at h0 h1
  unfold fn_stmt_Put
  rw [form_eq]
  cases hf : fOk (k, d, s, r, m) with
  | false => rfl
  | true =>
    simp only [if_true, Option.bind_some, show (!decide ((0 : Int) = 0)) = false from rfl, cond_false, sNum_eq h0 h1, sPut]
    cases sDst k <;> cases sSrc k <;> cases sReg k <;>
      simp only [cond_true, cond_false, Option.bind_some, app_eq (a := [k]) (b := [d]) (by simp), app_eq (a := [k]) (b := [s]) (by simp), app_eq (a := [k]) (b := [sNum r m]) (by simp), List.singleton_append,
        app_eq (a := [k, d]) (b := [s]) (by simp), app_eq (a := [k, d]) (b := [sNum r m]) (by simp), app_eq (a := [k, s]) (b := [sNum r m]) (by simp), List.cons_append, List.nil_append, app_eq (a := [k, d, s]) (b := [sNum r m]) (by simp)] <;>
      (rw [lebAll_eq _ (by simp)]; simp [numsPut])
theorem refSPut_eq (x : Stm) (h0 : 0 ≤ x.2.2.2.1) (h1 : x.2.2.2.1 < 2147483648) : fn_ref18_Put x = some (if fOk x then (sPut x, 0) else ([], 3)) := by
  obtain ⟨k, d, s, r, m⟩ := x
  dsimp only at h0 h1
  unfold fn_ref18_Put
  rw [refForm_eq]
  cases hf : fOk (k, d, s, r, m) with
  | false => rfl
  | true =>
    have g1 : fn_ref18_Dst k = some (sDst k) := rfl
    have g2 : fn_ref18_Src k = some (sSrc k) := rfl
    have g3 : fn_ref18_Region k = some (sReg k) := rfl
    have b (n : Int) : (put n).length ≤ 5 := put_len5 n
    simp only [if_true, Option.bind_some, Bool.not_true, cond_false, refPut_eq, g1, g2, g3, sPut, w64 (x := 2 * r) (by omega) (by omega), w64 (x := 2 * r + 1) (by omega) (by omega)]
    have e1 : sNum r true = 2 * r + 1 := rfl
    have e2 : sNum r false = 2 * r := by simp [sNum]
    have bk := b k; have bd := b d; have bs := b s; have b1 := b (2 * r + 1); have b2 := b (2 * r)
    cases sDst k <;> cases sSrc k <;> cases sReg k <;> cases m <;>
      simp only [e1, e2, numsPut, cond_true, cond_false, Option.bind_some, Bool.and_true, Bool.and_false, Bool.not_true, Bool.not_false, List.append_nil] <;>
      (repeat (rw [app_eq (by (try simp only [List.length_append]); omega)]; simp only [Option.bind_some])) <;>
      (try rfl) <;> (try simp)
def sTake (l : List UInt8) : Int × Int × Int × Int × Bool × Int × Int :=
  if (take l).2.2 ≠ 0 then (0, 0, 0, 0, false, 0, (take l).2.2)
  else if 5 < (take l).1 then (0, 0, 0, 0, false, 0, 3)
  else if (nums [sDst (take l).1, sSrc (take l).1, sReg (take l).1] (l.drop (take l).2.1.toNat)).1 ≠ 0 then (0, 0, 0, 0, false, 0, (nums [sDst (take l).1, sSrc (take l).1, sReg (take l).1] (l.drop (take l).2.1.toNat)).1)
  else let N := nums [sDst (take l).1, sSrc (take l).1, sReg (take l).1] (l.drop (take l).2.1.toNat); ((take l).1, N.2.1.getD 0 0, N.2.1.getD 1 0, N.2.1.getD 2 0 / 2, decide (N.2.1.getD 2 0 % 2 = 1), (take l).2.1 + N.2.2, 0)
end Go.Proofs.Ytaaicohpbafegaa
