/- What statements need, in plain words. -/
import Derived.Test.YtbaaamdljojknaaQ16
namespace Go.Proofs.Ytbaaamdljojknaa
open Go.RowKit
set_option linter.unusedVariables false
set_option linter.unnecessarySimpa false
set_option linter.unusedSimpArgs false
abbrev Stm := Int × Int × Int × Int × Bool
def sDst (k : Int) : Bool := (((decide (k = 1)) || (decide (k = 2))) || (decide (k = 3))) || (decide (k = 5))
def sSrc (k : Int) : Bool := (decide (1 ≤ k)) && (decide (k ≤ 4))
def sReg (k : Int) : Bool := (decide (k = 2)) || (decide (k = 3))
def fOk (x : Stm) : Bool := decide (0 ≤ x.1) && decide (x.1 ≤ 5) && (sDst x.1 || decide (x.2.1 = 0)) && (sSrc x.1 || decide (x.2.2.1 = 0)) && (sReg x.1 || (decide (x.2.2.2.1 = 0) && !x.2.2.2.2))
theorem six {k : Int} (h : decide (0 ≤ k) && decide (k ≤ 5)) : k = 0 ∨ k = 1 ∨ k = 2 ∨ k = 3 ∨ k = 4 ∨ k = 5 := by simp at h; omega
theorem fieldsOf_eq (k : Int) : fn_stmt_fieldsOf k = some (if decide (0 ≤ k) && decide (k ≤ 5) then (sDst k, sSrc k, sReg k, true) else (false, false, false, false)) := by
  by_cases h : (decide (0 ≤ k) && decide (k ≤ 5)) = true
  · rcases six h with rfl | rfl | rfl | rfl | rfl | rfl <;> rfl
  · rw [if_neg h]
    have h' : k < 0 ∨ 5 < k := by simp at h; omega
    have e (j : Int) (h0 : 0 ≤ j) (h5 : j ≤ 5) : decide (k = j) = false := by simp; omega
    unfold fn_stmt_fieldsOf
    simp only [e 0 (by omega) (by omega), e 1 (by omega) (by omega), e 2 (by omega) (by omega), e 3 (by omega) (by omega), e 4 (by omega) (by omega), e 5 (by omega) (by omega), cond_false, Option.bind_some]
theorem refForm_eq (x : Stm) : fn_ref18_Form x = some (fOk x) := by
  obtain ⟨k, d, s, r, m⟩ := x
  have h1 : fn_ref18_Dst k = some (sDst k) := rfl
  have h2 : fn_ref18_Src k = some (sSrc k) := rfl
  have h3 : fn_ref18_Region k = some (sReg k) := rfl
  unfold fn_ref18_Form fOk
  simp only [h1, h2, h3, Option.bind_some]
  cases (decide (0 ≤ k) && decide (k ≤ 5)) <;> simp
  cases (sDst k || decide (d = 0)) <;> simp
  cases (sSrc k || decide (s = 0)) <;> simp
theorem form_eq (x : Stm) : fn_stmt_form x = some (if fOk x then (sDst x.1, sSrc x.1, sReg x.1, 0) else (false, false, false, 3)) := by
  obtain ⟨k, d, s, r, m⟩ := x
  unfold fn_stmt_form
  rw [fieldsOf_eq]
  by_cases h : (decide (0 ≤ k) && decide (k ≤ 5)) = true
  · simp only [h, if_true, Option.bind_some, Bool.not_true, cond_false]
    have ho : fn_stmt_own (k, d, s, r, m) (sDst k, sSrc k, sReg k) = some (k, if sDst k then d else 0, if sSrc k then s else 0, if sReg k then r else 0, if sReg k then m else false) := by
      unfold fn_stmt_own
      cases sDst k <;> cases sSrc k <;> cases sReg k <;> rfl
    rw [ho, Option.bind_some]
    unfold fOk
    simp only [h, Bool.true_and]
    cases sDst k <;> cases sSrc k <;> cases sReg k <;> simp
    all_goals (by_cases q1 : d = 0 <;> by_cases q2 : s = 0 <;> by_cases q3 : r = 0 <;> cases m <;> simp [q1, q2, q3])
  · have h' : (decide (0 ≤ k) && decide (k ≤ 5)) = false := by simpa using h
    unfold fOk
    simp [h']
def loc (xb : List (List St)) (d : Int) : Bool := decide (0 ≤ d) && decide (d < ((xb.length : Nat) : Int))
theorem loc_ref (xb : List (List St)) (d : Int) : (decide (d < 0) || decide (((xb.length : Nat) : Int) ≤ d)) = !loc xb d := by
  unfold loc
  by_cases h1 : d < 0 <;> by_cases h2 : ((xb.length : Nat) : Int) ≤ d <;> simp [h1, h2] <;> omega
theorem getLoc {xb : List (List St)} {d : Int} (h : loc xb d = true) (hb : ∀ t ∈ xb, t.length ≤ 20) : ∃ t : List St, getI xb d = some t ∧ t.length ≤ 20 := by
  unfold loc at h
  simp at h
  exact ⟨_, getZ h.1 h.2, hb _ (List.getElem_mem _)⟩
/-- A need between regions that there are. -/
def Gd (R : Int) (n : Nd) : Prop := (0 ≤ n.1 ∧ n.1 < R) ∧ (0 ≤ n.2.1 ∧ n.2.1 < R) ∧ (1 ≤ n.2.2.1 ∧ n.2.2.1 ≤ 7) ∧ (0 ≤ n.2.2.2.1 ∧ n.2.2.2.1 ≤ 1000000)
theorem rin_mem {R : Int} {t : List St} (h : rin R t = false) {x : St} (hx : x ∈ t) : 0 ≤ x.1 ∧ x.1 < R := by
  have := List.any_eq_false.1 h x hx
  simp at this; omega
theorem rin_of {R : Int} {t : List St} (h : ∀ x ∈ t, 0 ≤ x.1 ∧ x.1 < R) : rin R t = false := by
  unfold rin
  rw [List.any_eq_false]
  intro x hx
  have := h x hx
  simp; omega
theorem rel_good {R kind : Int} (hk : 1 ≤ kind ∧ kind ≤ 7) : ∀ (xs ys : List St) (f : Int), 0 ≤ f → f + (xs.length : Int) ≤ 1000000 → rin R xs = false → rin R ys = false → ∀ n ∈ rel kind f xs ys, Gd R n
  | x :: xs, y :: ys, f, h0, h1, hx, hy, n, hn => by
    have a1 := rin_mem hx (x := x) (by simp)
    have a2 := rin_mem hy (x := y) (by simp)
    simp only [List.length_cons] at h1
    simp only [rel, List.mem_append] at hn
    rcases hn with hn | hn
    · unfold rel1 at hn
      rcases List.mem_cons.1 hn with rfl | hn
      · exact ⟨a1, a2, hk, h0, by show f ≤ _; omega⟩
      · split at hn
        · rcases List.mem_cons.1 hn with rfl | hn
          · exact ⟨a2, a1, hk, h0, by show f ≤ _; omega⟩
          · simp at hn
        · simp at hn
    · exact rel_good hk xs ys (f + 1) (by omega) (by omega) (rin_of fun z hz => rin_mem hx (by simp [hz])) (rin_of fun z hz => rin_mem hy (by simp [hz])) n hn
  | [], _, _, _, _, _, _, n, hn => by simp [rel] at hn
  | _ :: _, [], _, _, _, _, _, n, hn => by simp [rel] at hn
theorem lo_good {R r : Int} {m : Bool} {xa xb : List St} (hr : 0 ≤ r ∧ r < R) (hl : xa.length ≤ 30) (hx : rin R xa = false) (hy : rin R xb = false) : ∀ n ∈ (lo r m xa xb).1, Gd R n := by
  intro n hn
  unfold lo at hn
  split at hn
  · rename_i hs
    have := lo_len hs
    cases xb with
    | nil => simp at this
    | cons y ys =>
      rcases List.mem_cons.1 hn with rfl | hn
      · exact ⟨hr, rin_mem hy (x := y) (by simp), by simp, by simp⟩
      · exact rel_good (by decide) xa _ 1 (by omega) (by omega) hx (rin_of fun z hz => rin_mem hy (List.mem_of_mem_drop hz)) n hn
  · simp at hn
theorem ag_good {R r : Int} {m : Bool} {xa xb : List St} (hr : 0 ≤ r ∧ r < R) (hl : xa.length ≤ 30) (hx : rin R xa = false) (hy : rin R xb = false) : ∀ n ∈ (ag r m xa xb).1, Gd R n := by
  intro n hn
  unfold ag at hn
  split at hn
  · split at hn
    · simp at hn
    · rename_i x xs y ys _
      simp only [List.length_cons] at hl
      rcases List.mem_cons.1 hn with rfl | hn
      · exact ⟨rin_mem hx (by simp), hr, by simp, by simp⟩
      · rcases List.mem_cons.1 hn with rfl | hn
        · exact ⟨hr, rin_mem hy (by simp), by simp, by simp⟩
        · exact rel_good (by decide) xs ys 1 (by omega) (by omega) (rin_of fun z hz => rin_mem hx (by simp [hz])) (rin_of fun z hz => rin_mem hy (by simp [hz])) n hn
  · simp at hn
theorem getI_mem {α : Type} {l : List α} {i : Int} {x : α} (h : getI l i = some x) : x ∈ l := List.mem_of_getElem? (getI_some h).2.1
theorem stmtNeeds_eq (x : Stm) (xb : List (List St)) (xc : Int) (hb : ∀ t ∈ xb, t.length ≤ 20) : ∃ l e, fn_stmt_Needs x xb xc = some (l, e) ∧ fn_ref18_Needs x xb xc = some (l, e) ∧ l.length ≤ 1000 ∧ ((∀ t ∈ xb, rin xc t = false) → ∀ n ∈ l, Gd xc n) := by
  obtain ⟨k, d, s, r, m⟩ := x
  unfold fn_stmt_Needs fn_ref18_Needs
  have g1 : fn_ref18_Dst k = some (sDst k) := rfl
  have g2 : fn_ref18_Src k = some (sSrc k) := rfl
  have g3 : fn_ref18_Region k = some (sReg k) := rfl
  have g4 (d : Int) : fn_stmt_Needs_1_ip0_k d xb = some (loc xb d) := rfl
  simp only [form_eq, refForm_eq, Option.bind_some, g1, g2, g3, g4, loc_ref]
  cases hf : fOk (k, d, s, r, m) with
  | false => exact ⟨[], 3, rfl, rfl, by simp, by simp⟩
  | true =>
    have hk : k = 0 ∨ k = 1 ∨ k = 2 ∨ k = 3 ∨ k = 4 ∨ k = 5 := by
      unfold fOk at hf
      simp only [Bool.and_eq_true] at hf
      exact six (by simpa using hf.1.1.1)
    have bad : ∃ l e, (some (([] : List Nd), (7 : Int)) : Option (List Nd × Int)) = some (l, e) ∧ (some (([] : List Nd), (7 : Int)) : Option (List Nd × Int)) = some (l, e) ∧ l.length ≤ 1000 ∧ ((∀ t ∈ xb, rin xc t = false) → ∀ n ∈ l, Gd xc n) := ⟨[], 7, rfl, rfl, by simp, by simp⟩
    have good : ∃ l e, (some (([] : List Nd), (0 : Int)) : Option (List Nd × Int)) = some (l, e) ∧ (some (([] : List Nd), (0 : Int)) : Option (List Nd × Int)) = some (l, e) ∧ l.length ≤ 1000 ∧ ((∀ t ∈ xb, rin xc t = false) → ∀ n ∈ l, Gd xc n) := ⟨[], 0, rfl, rfl, by simp, by simp⟩
    rcases hk with rfl | rfl | rfl | rfl | rfl | rfl
    · simpa [sDst, sSrc, sReg] using good
    · have e1 : sDst 1 = true := rfl
      have e2 : sSrc 1 = true := rfl
      have e3 : sReg 1 = false := rfl
      cases h1 : loc xb d with
      | false => simpa [e1, e2, e3, h1] using bad
      | true =>
        cases h2 : loc xb s with
        | false => simpa [e1, e2, e3, h1, h2] using bad
        | true =>
          obtain ⟨t1, a1, b1⟩ := getLoc h1 hb
          obtain ⟨t2, a2, b2⟩ := getLoc h2 hb
          simp [e1, e2, e3, h1, h2, a1, a2]
          rw [relFlow_eq _ _ _ _ (by omega) (by omega) (by omega), refFlow_eq _ _ _ _ (by omega) (by omega) (by omega)]
          have hr := rel_len 1 t2 t1 0
          by_cases q : shp t2 t1 = true
          · exact ⟨rel 1 0 t2 t1, 0, by simp [q], by simp [q], by omega, fun hg => by simpa using rel_good (kind := 1) (by decide) t2 t1 0 (by omega) (by omega) (hg _ (getI_mem a2)) (hg _ (getI_mem a1))⟩
          · exact ⟨[], 8, by simp [q], by simp [q], by simp, by simp⟩
    all_goals try
      (have e1 : sDst 4 = false := rfl
       have e2 : sSrc 4 = true := rfl
       have e3 : sReg 4 = false := rfl
       cases h2 : loc xb s with
       | false => simpa [e1, e2, e3, h2] using bad
       | true => simpa [e1, e2, e3, h2] using good)
    all_goals try
      (have e1 : sDst 5 = true := rfl
       have e2 : sSrc 5 = false := rfl
       have e3 : sReg 5 = false := rfl
       cases h2 : loc xb d with
       | false => simpa [e1, e2, e3, h2] using bad
       | true => simpa [e1, e2, e3, h2] using good)
    · have e1 : sDst 2 = true := rfl
      have e2 : sSrc 2 = true := rfl
      have e3 : sReg 2 = true := rfl
      cases h1 : loc xb d with
      | false => simpa [e1, e2, e3, h1] using bad
      | true =>
        cases h2 : loc xb s with
        | false => simpa [e1, e2, e3, h1, h2] using bad
        | true =>
          cases h3 : (decide (r < 0) || decide (xc ≤ r)) with
          | true => simpa [e1, e2, e3, h1, h2, h3] using bad
          | false =>
            obtain ⟨t1, a1, b1⟩ := getLoc h1 hb
            obtain ⟨t2, a2, b2⟩ := getLoc h2 hb
            have hq := lo_bound r m t2 t1 (by omega)
            refine ⟨(lo r m t2 t1).1, (lo r m t2 t1).2, ?_, ?_, by omega, fun hg => lo_good (by simp at h3; omega) (by omega) (hg _ (getI_mem a2)) (hg _ (getI_mem a1))⟩
            · simp [e1, e2, e3, h1, h2, h3, a1, a2, relLoan_eq t2 t1 r m (by omega)]
            · simp [e1, e2, e3, h1, h2, h3, a1, a2, refLoan_eq t2 t1 r m (by omega)]
    · have e1 : sDst 3 = true := rfl
      have e2 : sSrc 3 = true := rfl
      have e3 : sReg 3 = true := rfl
      cases h1 : loc xb d with
      | false => simpa [e1, e2, e3, h1] using bad
      | true =>
        cases h2 : loc xb s with
        | false => simpa [e1, e2, e3, h1, h2] using bad
        | true =>
          cases h3 : (decide (r < 0) || decide (xc ≤ r)) with
          | true => simpa [e1, e2, e3, h1, h2, h3] using bad
          | false =>
            obtain ⟨t1, a1, b1⟩ := getLoc h1 hb
            obtain ⟨t2, a2, b2⟩ := getLoc h2 hb
            have hq := ag_bound r m t2 t1 (by omega)
            refine ⟨(ag r m t2 t1).1, (ag r m t2 t1).2, ?_, ?_, by omega, fun hg => ag_good (by simp at h3; omega) (by omega) (hg _ (getI_mem a2)) (hg _ (getI_mem a1))⟩
            · simp [e1, e2, e3, h1, h2, h3, a1, a2, relAgain_eq t2 t1 r m (by omega)]
            · simp [e1, e2, e3, h1, h2, h3, a1, a2, refAgain_eq t2 t1 r m (by omega)]
end Go.Proofs.Ytbaaamdljojknaa
