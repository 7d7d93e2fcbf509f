/- Layer 18's law of needs. -/
import Derived.Test.YtaaicohpbafegaaP18
namespace Go.Proofs.Ytaaicohpbafegaa
open Go.RowKit Lb
set_option linter.unusedVariables false
set_option linter.unnecessarySimpa false
set_option linter.unusedSimpArgs false
def loc (xb : List (List St)) (d : Int) : Bool := decide (0 ≤ d) && decide (d < ((xb.length : Nat) : Int))
theorem loc_ref (xb : List (List St)) (d : Int) : (decide (d < 0) || decide (((xb.length : Nat) : Int) ≤ d)) = !loc xb d := by
  unfold loc
  by_cases h1 : d < 0 <;> by_cases h2 : ((xb.length : Nat) : Int) ≤ d <;> simp [h1, h2] <;> omega
theorem getLoc {xb : List (List St)} {d : Int} (h : loc xb d = true) (hb : ∀ t ∈ xb, t.length ≤ 20) : ∃ t : List St, getI xb d = some t ∧ t.length ≤ 20 := by
  unfold loc at h
  simp at h
  exact ⟨_, getZ h.1 h.2, hb _ (List.getElem_mem _)⟩
theorem stmtNeeds_eq (x : Stm) (xb : List (List St)) (xc : Int) (hb : ∀ t ∈ xb, t.length ≤ 20) : ∃ l e, fn_stmt_Needs x xb xc = some (l, e) ∧ fn_ref18_Needs x xb xc = some (l, e) ∧ l.length ≤ 1000 := by
  obtain ⟨k, d, s, r, m⟩ := x
  unfold fn_stmt_Needs fn_ref18_Needs
  have g1 : fn_ref18_Dst k = some (sDst k) := rfl
  have g2 : fn_ref18_Src k = some (sSrc k) := rfl
  have g3 : fn_ref18_Region k = some (sReg k) := rfl
  have g4 (d : Int) : fn_stmt_Needs_1_ip0_k d xb = some (loc xb d) := rfl
  simp only [form_eq, refForm_eq, Option.bind_some, g1, g2, g3, g4, loc_ref]
  cases hf : fOk (k, d, s, r, m) with
  | false => exact ⟨[], 3, rfl, rfl, by simp⟩
  | true =>
    have hk : k = 0 ∨ k = 1 ∨ k = 2 ∨ k = 3 ∨ k = 4 ∨ k = 5 := by
      unfold fOk at hf
      simp only [Bool.and_eq_true] at hf
      exact six (by simpa using hf.1.1.1)
    have bad : ∃ l e, (some (([] : List Nd), (7 : Int)) : Option (List Nd × Int)) = some (l, e) ∧ (some (([] : List Nd), (7 : Int)) : Option (List Nd × Int)) = some (l, e) ∧ l.length ≤ 1000 := ⟨[], 7, rfl, rfl, by simp⟩
    have good : ∃ l e, (some (([] : List Nd), (0 : Int)) : Option (List Nd × Int)) = some (l, e) ∧ (some (([] : List Nd), (0 : Int)) : Option (List Nd × Int)) = some (l, e) ∧ l.length ≤ 1000 := ⟨[], 0, rfl, rfl, by simp⟩
    rcases hk with rfl | rfl | rfl | rfl | rfl | rfl
    · simpa [sDst, sSrc, sReg] using good
    · have e1 : sDst 1 = true := rfl
      have e2 : sSrc 1 = true := rfl
      have e3 : sReg 1 = false := rfl
      cases h1 : loc xb d with
      | false => simpa [e1, e2, e3, h1] using bad
      | true =>
        cases h2 : loc xb s with
        | false => simpa [e1, e2, e3, h1, h2] using bad
        | true =>
          obtain ⟨t1, a1, b1⟩ := getLoc h1 hb
          obtain ⟨t2, a2, b2⟩ := getLoc h2 hb
          simp [e1, e2, e3, h1, h2, a1, a2]
          rw [relFlow_eq _ _ _ _ (by omega) (by omega) (by omega), refFlow_eq _ _ _ _ (by omega) (by omega) (by omega)]
          have hr := rel_len 1 t2 t1 0
          by_cases q : shp t2 t1 = true
          · exact ⟨rel 1 0 t2 t1, 0, by simp [q], by simp [q], by omega⟩
          · exact ⟨[], 8, by simp [q], by simp [q], by simp⟩
    all_goals try
      (have e1 : sDst 4 = false := rfl
       have e2 : sSrc 4 = true := rfl
       have e3 : sReg 4 = false := rfl
       cases h2 : loc xb s with
       | false => simpa [e1, e2, e3, h2] using bad
       | true => simpa [e1, e2, e3, h2] using good)
    all_goals try
      (have e1 : sDst 5 = true := rfl
       have e2 : sSrc 5 = false := rfl
       have e3 : sReg 5 = false := rfl
       cases h2 : loc xb d with
       | false => simpa [e1, e2, e3, h2] using bad
       | true => simpa [e1, e2, e3, h2] using good)
    · have e1 : sDst 2 = true := rfl
      have e2 : sSrc 2 = true := rfl
      have e3 : sReg 2 = true := rfl
      cases h1 : loc xb d with
      | false => simpa [e1, e2, e3, h1] using bad
      | true =>
        cases h2 : loc xb s with
        | false => simpa [e1, e2, e3, h1, h2] using bad
        | true =>
          cases h3 : (decide (r < 0) || decide (xc ≤ r)) with
          | true => simpa [e1, e2, e3, h1, h2, h3] using bad
          | false =>
            obtain ⟨t1, a1, b1⟩ := getLoc h1 hb
            obtain ⟨t2, a2, b2⟩ := getLoc h2 hb
            have hq := lo_bound r m t2 t1 (by omega)
            refine ⟨(lo r m t2 t1).1, (lo r m t2 t1).2, ?_, ?_, by omega⟩
            · simp [e1, e2, e3, h1, h2, h3, a1, a2, relLoan_eq t2 t1 r m (by omega)]
            · simp [e1, e2, e3, h1, h2, h3, a1, a2, refLoan_eq t2 t1 r m (by omega)]
    · have e1 : sDst 3 = true := rfl
      have e2 : sSrc 3 = true := rfl
      have e3 : sReg 3 = true := rfl
      cases h1 : loc xb d with
      | false => simpa [e1, e2, e3, h1] using bad
      | true =>
        cases h2 : loc xb s with
        | false => simpa [e1, e2, e3, h1, h2] using bad
        | true =>
          cases h3 : (decide (r < 0) || decide (xc ≤ r)) with
          | true => simpa [e1, e2, e3, h1, h2, h3] using bad
          | false =>
            obtain ⟨t1, a1, b1⟩ := getLoc h1 hb
            obtain ⟨t2, a2, b2⟩ := getLoc h2 hb
            have hq := ag_bound r m t2 t1 (by omega)
            refine ⟨(ag r m t2 t1).1, (ag r m t2 t1).2, ?_, ?_, by omega⟩
            · simp [e1, e2, e3, h1, h2, h3, a1, a2, relAgain_eq t2 t1 r m (by omega)]
            · simp [e1, e2, e3, h1, h2, h3, a1, a2, refAgain_eq t2 t1 r m (by omega)]
theorem few_eq (xb : List (List St)) (hn : xb.length ≤ 1073741824) : fn_law18_few xb = some (if 20 < xb.length then false else !xb.any (fun t => !decide (t.length ≤ 20))) := by
  unfold fn_law18_few
  by_cases h : 20 < xb.length
  · rw [if_pos h, decide_eq_true (by omega)]; rfl
  · rw [if_neg h, decide_eq_false (by omega), cond_false]
    rw [loop_some (body := fn_law18_few_l1 xb) xb (fun t => !decide (t.length ≤ 20)) (.inr false) (.inl ()) ?_ ?_]
    · cases xb.any (fun t => !decide (t.length ≤ 20)) <;> rfl
    · intro k hk
      unfold fn_law18_few_l1
      simp only [dlt hk, cond_true, getN hk, Option.bind_some, w64s hk (by omega : xb.length ≤ 9223372036854775807), Few_eq]
      by_cases q : xb[k].length ≤ 20
      · have : decide (((xb[k].length : Nat) : Int) ≤ 20) = true := by simp; omega
        simp [this, q]
      · have : decide (((xb[k].length : Nat) : Int) ≤ 20) = false := by simp; omega
        simp [this, q]
    · simp [fn_law18_few_l1]
theorem StmtNeeds_true (xa : (Int × Int × Int × Int × Bool)) (xb : (List (List (Int × Bool)))) (xc : Int) (k0 : Tp.Ok (.cons (.int .i64) (.cons (.int .i64) (.cons (.int .i64) (.cons (.int .i64) (.one .bool))))) xa) (k1 : Tp.Ok (.sl (.one (.sl (.cons (.int .i64) (.one .bool))))) xb) (k2 : Tp.Ok (.int .i64) xc) : fn_law18_StmtNeeds xa xb xc = some true := by
  unfold fn_law18_StmtNeeds
  rw [awake18]
  by_cases hn : xb.length ≤ 1073741824
  · rw [few_eq xb hn, Option.bind_some]
    by_cases h : 20 < xb.length
    · rw [if_pos h]; rfl
    · rw [if_neg h]
      cases hf : xb.any (fun t => !decide (t.length ≤ 20)) with
      | true => rfl
      | false =>
        have hb : ∀ t ∈ xb, t.length ≤ 20 := by
          intro t ht
          have := List.any_eq_false.1 hf t ht
          simpa using this
        obtain ⟨l, e, q1, q2, q3⟩ := stmtNeeds_eq xa xb xc hb
        have qc : fn_stmt_Check (xa.1, xa.2.1, xa.2.2.1, xa.2.2.2.1, xa.2.2.2.2) xb xc = some e := by
          unfold fn_stmt_Check; dsimp only; rw [q1]; rfl
        dsimp only
        rw [Bool.not_false, Bool.not_true, cond_false, q1, Option.bind_some, q2, Option.bind_some, Doc_eq l (by omega), Option.bind_some, refSame_eq l l (by omega), Option.bind_some, qc]
        simp
  · unfold fn_law18_few
    rw [decide_eq_true (by omega)]; rfl
end Go.Proofs.Ytaaicohpbafegaa
