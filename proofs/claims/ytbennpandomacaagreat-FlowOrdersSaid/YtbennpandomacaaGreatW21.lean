/- What valid.Check computes without a counter (layer 21), in plain words. -/
import Derived.Test.YtbennpandomacaaGreatV21
namespace Go.Proofs.YtbennpandomacaaGreat
open Go.RowKit
set_option linter.unusedVariables false
set_option linter.unnecessarySimpa false
set_option linter.unusedSimpArgs false
theorem vCode_zero {b : Bo} : (vCode b).1 = 0 → vCode b = (0, 0, 0, 0) := by
  unfold vCode
  cases hf : b.2.2.2.2.2.2.findIdx? (fun x => (blkE b x).isSome) with
  | none => intro _; rfl
  | some k =>
    obtain ⟨hk, h5, _⟩ := List.findIdx?_eq_some_iff_getElem.1 hf
    have e : b.2.2.2.2.2.2.getD k ([], 0, 0, 0, [], [], []) = b.2.2.2.2.2.2[k] := by simp [List.getD, hk]
    simp only [e]
    intro hz
    exfalso
    generalize b.2.2.2.2.2.2[k] = x at *
    unfold blkE at hz h5
    cases hg : x.1.findIdx? (fun s => !decide (sE b.2.2.2.1 b.2.1 s = 0)) with
    | some j =>
      obtain ⟨hj, h6, _⟩ := List.findIdx?_eq_some_iff_getElem.1 hg
      have e2 : x.1.getD j (0, 0, 0, 0, false) = x.1[j] := by simp [List.getD, hj]
      rw [hg] at hz
      simp only [fltOf, e2] at hz
      simp [hz] at h6
    | none =>
      rw [hg] at hz h5
      by_cases q : tE (arOf b) x.2 = 0
      · simp [q] at h5
      · simp [q, fltOf] at hz
section
variable {b : Bo} (h : Sm b)
include h
theorem vBounds_eq : fn_valid_bounds_az b = some (vBounds b) := by
  have h1 := h.bounds
  unfold fn_valid_bounds_az vBounds
  rw [decide_eq_false (by omega), cond_false, loop_search (body := fn_valid_bounds_az_l1 b) b.2.2.1 (bad1 b.1) (fun k => (.inr (7, 1, (k : Int), 0) : Unit ⊕ Flt)) (.inl ()) ?_ ?_]
  · cases b.2.2.1.findIdx? (bad1 b.1) <;> rfl
  · intro k hk
    unfold fn_valid_bounds_az_l1 fn_valid_bounds_1_ip0_iikkkkk fn_tick_Counter_Add_zii
    simp only [dlt hk, cond_true, getN hk, Option.bind_some, w64s hk (by omega : b.2.2.1.length ≤ 9223372036854775807)]
    generalize b.2.2.1[k] = x
    obtain ⟨x1, x2⟩ := x
    have e (x : Int) : (!((decide (0 ≤ x)) && (decide (x < b.1)))) = (decide (x < 0) || decide (b.1 ≤ x)) := by
      by_cases p : x < 0 <;> by_cases q : b.1 ≤ x <;> simp [p, q] <;> omega
    simp only [e, bad1]
    by_cases p1 : x1 < 0 <;> by_cases p2 : b.1 ≤ x1 <;> by_cases p3 : x2 < 0 <;> by_cases p4 : b.1 ≤ x2 <;> simp [p1, p2, p3, p4]
  · simp [fn_valid_bounds_az_l1]
theorem vLoc_eq : fn_valid_locals_az b = some (vLoc b) := by
  have h1 := h.locals
  have h4 := h.loc
  unfold fn_valid_locals_az vLoc
  by_cases q : b.2.2.2.1 = []
  · rw [if_pos q, q]; rfl
  · have q' : ¬ ((b.2.2.2.1.length : Nat) : Int) = 0 := fun hc => q (List.length_eq_zero_iff.1 (by omega))
    rw [if_neg q, decide_eq_false q', cond_false, decide_eq_false (by omega), cond_false, loop_search (body := fn_valid_locals_az_l1 b) b.2.2.2.1 (fun t => !decide (rck b.2.1 t = 0)) (fun k => (.inr (rck b.2.1 (b.2.2.2.1.getD k []), 2, (k : Int), 0) : Unit ⊕ Flt)) (.inl ()) ?_ ?_]
    · cases b.2.2.2.1.findIdx? (fun t => !decide (rck b.2.1 t = 0)) <;> rfl
    · intro k hk
      unfold fn_valid_locals_az_l1 fn_tick_Counter_Add_zii
      have e : b.2.2.2.1.getD k [] = b.2.2.2.1[k] := by simp [List.getD, hk]
      simp only [dlt hk, cond_true, getN hk, Option.bind_some, w64s hk (by omega : b.2.2.2.1.length ≤ 9223372036854775807), e, rowCheck20 _ (h4 _ (List.getElem_mem hk))]
      cases (!decide (rck b.2.1 b.2.2.2.1[k] = 0)) <;> rfl
    · simp [fn_valid_locals_az_l1]
theorem vRet_eq (hL : b.2.2.2.1 ≠ []) : fn_valid_ret_az b = some (vRet b) := by
  have h3 := h.ret
  unfold fn_valid_ret_az vRet
  have hp : 0 < b.2.2.2.1.length := List.length_pos_iff.2 hL
  have e0 : b.2.2.2.1.getD 0 [] = b.2.2.2.1[0] := by simp [List.getD, hp]
  have g0 : getI b.2.2.2.1 0 = some b.2.2.2.1[0] := getN (k := 0) hp
  rw [rowCheck20 _ h3, Option.bind_some, g0, Option.bind_some, rowShape_eq _ _ (by omega), e0, Option.bind_some]
  by_cases q : rck b.1 b.2.2.2.2.1 = 0
  · rw [if_pos q, q]
    cases shp b.2.2.2.2.1 b.2.2.2.1[0] <;> rfl
  · rw [if_neg q, decide_eq_false q]; rfl
theorem vSig_eq : fn_valid_sigs_az b = some (vSig b) := by
  have h1 := h.sigs
  have hs := fun s (hs : s ∈ b.2.2.2.2.2.1) => sgl h hs
  unfold fn_valid_sigs_az vSig
  rw [decide_eq_false (by omega), cond_false, loop_search (body := fn_valid_sigs_az_l1 b) b.2.2.2.2.2.1 (fun s => !decide (chk s = 0)) (fun k => (.inr (chk (b.2.2.2.2.2.1.getD k (0, [], [], [])), 4, (k : Int), 0) : Unit ⊕ Flt)) (.inl ()) ?_ ?_]
  · cases b.2.2.2.2.2.1.findIdx? (fun s => !decide (chk s = 0)) <;> rfl
  · intro k hk
    unfold fn_valid_sigs_az_l1 fn_tick_Counter_Add_zii
    have e : b.2.2.2.2.2.1.getD k (0, [], [], []) = b.2.2.2.2.2.1[k] := by simp [List.getD, hk]
    have hs' := hs _ (List.getElem_mem hk)
    simp only [dlt hk, cond_true, getN hk, Option.bind_some, w64s hk (by omega : b.2.2.2.2.2.1.length ≤ 9223372036854775807), e, show fn_sig_Check (b.2.2.2.2.2.1[k].1, b.2.2.2.2.2.1[k].2.1, b.2.2.2.2.2.1[k].2.2.1, b.2.2.2.2.2.1[k].2.2.2) = _ from hs']
    cases (!decide (chk b.2.2.2.2.2.1[k] = 0)) <;> rfl
  · simp [fn_valid_sigs_az_l1]
theorem vBlk_eq : fn_valid_blocks_az b = some (vBlk b) := by
  have h1 := h.blocks
  have h2 := h.many
  unfold fn_valid_blocks_az vBlk
  by_cases q : b.2.2.2.2.2.2 = []
  · rw [if_pos q, q]; rfl
  · have q' : ¬ ((b.2.2.2.2.2.2.length : Nat) : Int) = 0 := fun hc => q (List.length_eq_zero_iff.1 (by omega))
    rw [if_neg q, decide_eq_false q', cond_false, decide_eq_false (by omega), cond_false]
    have hl1 := loop_nat (body := fn_valid_blocks_az_l1 b) (fun k : Nat => (((stm (b.2.2.2.2.2.2.take k) : Nat) : Int), (k : Int))) b.2.2.2.2.2.2.length (b := .inl ()) ?_ ?_
    · have hl1' : loop (fn_valid_blocks_az_l1 b) (0, 0) = some (.inl ()) := by simpa [stm] using hl1
      rw [hl1']; rfl
    · intro k hk
      have a1 := stm_snoc hk
      have a2 := sum_take (fun x : Blk => x.1.length) b.2.2.2.2.2.2 (k + 1)
      have a3 : stm (b.2.2.2.2.2.2.take (k + 1)) ≤ stm b.2.2.2.2.2.2 := a2
      unfold fn_valid_blocks_az_l1 fn_tick_Counter_Add_zii
      simp only [dlt hk, cond_true, getN hk, Option.bind_some, w64s hk (by omega : b.2.2.2.2.2.2.length ≤ 9223372036854775807)]
      rw [w64 (by omega) (by omega), decide_eq_false (by omega), cond_false, a1]
      simp
    · unfold fn_valid_blocks_az_l1
      simp
theorem vCode_eq : fn_valid_code_az b = some (vCode b) := by
  have h1 := h.blocks
  have hst := fun x (hx : x ∈ b.2.2.2.2.2.2) => h.stmts hx
  have hT := fun x (hx : x ∈ b.2.2.2.2.2.2) => termE h hx
  have hS := fun x => stmtE h (x := x)
  unfold fn_valid_code_az vCode
  rw [loop_search (body := fn_valid_code_az_l2 b) b.2.2.2.2.2.2 (fun x => (blkE b x).isSome) (fun k => (.inr (fltOf k (blkE b (b.2.2.2.2.2.2.getD k ([], 0, 0, 0, [], [], [])))) : Unit ⊕ Flt)) (.inl ()) ?_ ?_]
  · cases b.2.2.2.2.2.2.findIdx? (fun x => (blkE b x).isSome) <;> rfl
  · intro k hk
    unfold fn_valid_code_az_l2
    have e : b.2.2.2.2.2.2.getD k ([], 0, 0, 0, [], [], []) = b.2.2.2.2.2.2[k] := by simp [List.getD, hk]
    obtain ⟨l, hT', _⟩ := hT _ (List.getElem_mem hk)
    have hst' := hst _ (List.getElem_mem hk)
    simp only [dlt hk, cond_true, getN hk, Option.bind_some, w64s hk (by omega : b.2.2.2.2.2.2.length ≤ 9223372036854775807), e]
    generalize b.2.2.2.2.2.2[k] = x at *
    rw [loop_search (body := fn_valid_code_az_l1 b k x) x.1 (fun s => !decide (sE b.2.2.2.1 b.2.1 s = 0)) (fun j => (.inr (.inr (.inr (sE b.2.2.2.1 b.2.1 (x.1.getD j (0, 0, 0, 0, false)), 6, (k : Int), (j : Int)))) : Unit ⊕ (Int ⊕ (Unit ⊕ Flt)))) (.inl ()) ?_ ?_]
    · unfold blkE
      cases hf : x.1.findIdx? (fun s => !decide (sE b.2.2.2.1 b.2.1 s = 0)) with
      | some j => rfl
      | none =>
        simp only [Option.bind_some]
        unfold fn_tick_Counter_Add_zii fn_term_Check
        rw [Option.bind_some, show fn_term_Needs (x.2.1, x.2.2.1, x.2.2.2.1, x.2.2.2.2.1, x.2.2.2.2.2.1, x.2.2.2.2.2.2) (((b.2.2.2.2.2.2.length : Nat) : Int), b.2.1, b.2.2.2.1, b.2.2.2.2.1, b.2.2.2.2.2.1) = _ from hT', Option.bind_some]
        by_cases q3 : tE (arOf b) x.2 = 0
        · simp [q3]
        · simp [q3, fltOf]
    · intro j hj
      obtain ⟨l, hS', _⟩ := hS x.1[j]
      have e2 : x.1.getD j (0, 0, 0, 0, false) = x.1[j] := by simp [List.getD, hj]
      unfold fn_valid_code_az_l1 fn_tick_Counter_Add_zii fn_stmt_Check
      simp only [dlt hj, cond_true, getN hj, Option.bind_some, w64s hj (by omega : x.1.length ≤ 9223372036854775807), e2, show fn_stmt_Needs (x.1[j].1, x.1[j].2.1, x.1[j].2.2.1, x.1[j].2.2.2.1, x.1[j].2.2.2.2) b.2.2.2.1 b.2.1 = _ from hS']
      cases (!decide (sE b.2.2.2.1 b.2.1 x.1[j] = 0)) <;> rfl
    · simp [fn_valid_code_az_l1]
  · simp [fn_valid_code_az_l2]
theorem validCheck_eq : fn_valid_Check_az b = some (vck b) := by
  unfold fn_valid_Check_az vck fn_tick_Counter_Add_zii
  have hh : fn_valid_head_az b = some (vHead b) := by
    unfold fn_valid_head_az vHead
    by_cases q : b.1 < 1 ∨ b.2.1 < b.1
    · have : (decide (b.1 < 1) || decide (b.2.1 < b.1)) = true := by simpa using q
      rw [this, if_pos q]; rfl
    · have : (decide (b.1 < 1) || decide (b.2.1 < b.1)) = false := by simpa using q
      rw [this, if_neg q, cond_false]
      by_cases q2 : 65536 < b.2.1
      · rw [decide_eq_true q2, if_pos q2]; rfl
      · rw [decide_eq_false q2, if_neg q2]; rfl
  rw [Option.bind_some, show fn_valid_head_az (b.1, b.2.1, b.2.2.1, b.2.2.2.1, b.2.2.2.2.1, b.2.2.2.2.2.1, b.2.2.2.2.2.2) = _ from hh, show fn_valid_bounds_az (b.1, b.2.1, b.2.2.1, b.2.2.2.1, b.2.2.2.2.1, b.2.2.2.2.2.1, b.2.2.2.2.2.2) = _ from vBounds_eq h, show fn_valid_locals_az (b.1, b.2.1, b.2.2.1, b.2.2.2.1, b.2.2.2.2.1, b.2.2.2.2.2.1, b.2.2.2.2.2.2) = _ from vLoc_eq h,
    show fn_valid_sigs_az (b.1, b.2.1, b.2.2.1, b.2.2.2.1, b.2.2.2.2.1, b.2.2.2.2.2.1, b.2.2.2.2.2.2) = _ from vSig_eq h, show fn_valid_blocks_az (b.1, b.2.1, b.2.2.1, b.2.2.2.1, b.2.2.2.2.1, b.2.2.2.2.2.1, b.2.2.2.2.2.2) = _ from vBlk_eq h, show fn_valid_code_az (b.1, b.2.1, b.2.2.1, b.2.2.2.1, b.2.2.2.2.1, b.2.2.2.2.2.1, b.2.2.2.2.2.2) = _ from vCode_eq h]
  have hret : (vLoc b).1 = 0 → fn_valid_ret_az (b.1, b.2.1, b.2.2.1, b.2.2.2.1, b.2.2.2.2.1, b.2.2.2.2.2.1, b.2.2.2.2.2.2) = some (vRet b) := by
    intro hz
    refine vRet_eq h (fun hc => ?_)
    unfold vLoc at hz
    rw [if_pos hc] at hz; cases hz
  have hz6 : (vCode b).1 = 0 → vCode b = (0, 0, 0, 0) := vCode_zero
  generalize vHead b = v1
  generalize vBounds b = v2
  generalize vLoc b = v3 at *
  generalize vRet b = v4 at *
  generalize vSig b = v5
  generalize vBlk b = v6
  generalize vCode b = v7 at *
  unfold or0
  by_cases q1 : v1.1 = 0 <;> by_cases q2 : v2.1 = 0 <;> by_cases q3 : v3.1 = 0 <;> by_cases q4 : v4.1 = 0 <;> by_cases q5 : v5.1 = 0 <;> by_cases q6 : v6.1 = 0 <;> by_cases q7 : v7.1 = 0 <;> simp_all
end
end Go.Proofs.YtbennpandomacaaGreat
