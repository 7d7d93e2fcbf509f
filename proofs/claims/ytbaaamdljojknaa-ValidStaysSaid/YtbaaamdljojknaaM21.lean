/- Well-formed or not, of bodies of any size (layer 21): blocks, their code, all together. -/
import Derived.Test.YtbaaamdljojknaaL21
namespace Go.Proofs.Ytbaaamdljojknaa
open Go.RowKit
set_option linter.unusedVariables false
set_option linter.unnecessarySimpa false
set_option linter.unusedSimpArgs false
set_option maxRecDepth 20000
theorem stm_bound {X : List Blk} (hx : ∀ x ∈ X, x.1.length ≤ 140737488351232) (k : Nat) : stm (X.take k) ≤ X.length * 140737488351232 := by
  have key : ∀ l : List Blk, (∀ x ∈ l, x.1.length ≤ 140737488351232) → stm l ≤ l.length * 140737488351232 := by
    intro l
    induction l with
    | nil => intro _; simp [stm]
    | cons x l ih =>
      intro h
      have h1 := ih (fun y hy => h y (List.mem_cons_of_mem _ hy))
      have h2 := h x (List.mem_cons_self ..)
      unfold stm at *
      simp only [List.map_cons, List.sum_cons, List.length_cons, Nat.succ_mul]
      omega
  have h1 := key X hx
  have h2 := sum_take (fun x : Blk => x.1.length) X k
  unfold stm at *
  omega
section
variable {b : Bo} (hx : ∀ x ∈ b.2.2.2.2.2.2, x.1.length ≤ 140737488351232)
include hx
theorem blk_step {body : (Int × Int) → Option ((Int × Int) ⊕ (Unit ⊕ Flt))} (hX : b.2.2.2.2.2.2.length ≤ 65536)
    (hb : ∀ i k, body (i, k) = cond (decide (k < ((b.2.2.2.2.2.2.length : Nat) : Int))) ((getI b.2.2.2.2.2.2 k).bind fun x => cond (decide (65536 < (IntKind.wrap .i64 (i + ((x.1.length : Nat) : Int))))) (some (.inr (.inr (6, 5, k, 0)))) (some (.inl (IntKind.wrap .i64 (i + ((x.1.length : Nat) : Int)), IntKind.wrap .i64 (k + 1))))) (some (.inr (.inl ())))) :
    loop body (0, 0) = some (lkR b.2.2.2.2.2.2) := by
  have h := loop_stop (body := body) b.2.2.2.2.2.2.length (fun k : Nat => (((stm (b.2.2.2.2.2.2.take k) : Nat) : Int), (k : Int))) (fun k => if 65536 < stm (b.2.2.2.2.2.2.take (k + 1)) then some (.inr (6, 5, (k : Int), 0) : Unit ⊕ Flt) else none) (.inl ()) ?_ ?_
  · unfold lkR
    rw [← h]; simp [stm]
  · intro k hk
    have a1 := stm_snoc hk
    have a2 := stm_bound hx k
    have a3 := stm_bound hx (k + 1)
    have a4 : b.2.2.2.2.2.2.length * 140737488351232 ≤ 65536 * 140737488351232 := Nat.mul_le_mul_right _ hX
    rw [hb]
    simp only [dlt hk, cond_true, getN hk, Option.bind_some, w64s hk (by omega : b.2.2.2.2.2.2.length ≤ 9223372036854775807)]
    have e : IntKind.wrap .i64 (((stm (b.2.2.2.2.2.2.take k) : Nat) : Int) + ((b.2.2.2.2.2.2[k].1.length : Nat) : Int)) = ((stm (b.2.2.2.2.2.2.take (k + 1)) : Nat) : Int) := by
      rw [w64 (by omega) (by omega), a1]; omega
    rw [e]
    by_cases q : 65536 < stm (b.2.2.2.2.2.2.take (k + 1))
    · rw [decide_eq_true (by omega), if_pos q]; rfl
    · rw [decide_eq_false (by omega), if_neg q]; rfl
  · rw [hb]; simp
theorem lBlk_eq : fn_valid_blocks_az b = some (lK b) := by
  unfold fn_valid_blocks_az lK
  by_cases q : b.2.2.2.2.2.2 = []
  · rw [if_pos q, q]; rfl
  · have q' : ¬ ((b.2.2.2.2.2.2.length : Nat) : Int) = 0 := fun hc => q (List.length_eq_zero_iff.1 (by omega))
    rw [if_neg q, decide_eq_false q', cond_false]
    by_cases h1 : 65536 < b.2.2.2.2.2.2.length
    · rw [decide_eq_true (by omega), cond_true, if_pos h1]
    · rw [if_neg h1, decide_eq_false (by omega), cond_false, blk_step (body := fn_valid_blocks_az_l1 b) hx (by omega) (fun i k => rfl)]
      cases lkR b.2.2.2.2.2.2 <;> rfl
theorem lHead_eq : fn_ref21_head b = some (or0 (vHead b) (lB b)) := by
  obtain ⟨u, n, B, L, R, S, X⟩ := b
  unfold fn_ref21_head vHead lB vBounds or0
  dsimp only at *
  by_cases q : u < 1 ∨ n < u
  · have : (decide (u < 1) || decide (n < u)) = true := by simpa using q
    rw [this, if_pos q]; rfl
  · have : (decide (u < 1) || decide (n < u)) = false := by simpa using q
    rw [this, if_neg q, cond_false]
    by_cases q2 : 65536 < n
    · rw [decide_eq_true q2, if_pos q2]; rfl
    · rw [decide_eq_false q2, if_neg q2, cond_false]
      by_cases q3 : 65536 < B.length
      · rw [decide_eq_true (by omega), if_pos q3]; rfl
      · rw [decide_eq_false (by omega), if_neg q3, cond_false, loop_search (body := fn_ref21_head_l1 (u, n, B, L, R, S, X)) B (bad1 u) (fun k => (.inr (7, 1, (k : Int), 0) : Unit ⊕ Flt)) (.inl ()) ?_ ?_]
        · cases B.findIdx? (bad1 u) <;> rfl
        · intro k hk
          unfold fn_ref21_head_l1
          simp only [dlt hk, cond_true, getN hk, Option.bind_some, w64s hk (by omega : B.length ≤ 9223372036854775807)]
          show cond (bad1 u B[k]) _ _ = _
          cases bad1 u B[k] <;> rfl
        · simp [fn_ref21_head_l1]
omit hx in
theorem lTypes_eq : fn_ref21_types b = some (or0 (lL b) (or0 (vRet b) (lS b))) := by
  obtain ⟨u, n, B, L, R, S, X⟩ := b
  unfold fn_ref21_types lL vLoc vRet lS vSig
  dsimp only at *
  by_cases q : L = []
  · subst q; rfl
  · have q' : ¬ ((L.length : Nat) : Int) = 0 := fun hc => q (List.length_eq_zero_iff.1 (by omega))
    rw [if_neg q, decide_eq_false q', cond_false]
    by_cases g1 : 65536 < L.length
    · rw [decide_eq_true (by omega), cond_true, if_pos g1]; rfl
    · rw [if_neg g1, if_neg q, decide_eq_false (by omega), cond_false, loop_search (body := fn_ref21_types_l1 (u, n, B, L, R, S, X)) L (fun t => !decide (rck n t = 0)) (fun k => (.inr (rck n (L.getD k []), 2, (k : Int), 0) : Unit ⊕ Flt)) (.inl ()) ?_ ?_]
      · cases hf : L.findIdx? (fun t => !decide (rck n t = 0)) with
        | some k =>
          obtain ⟨hk, h5, _⟩ := List.findIdx?_eq_some_iff_getElem.1 hf
          have e : L.getD k [] = L[k] := by simp [List.getD, hk]
          have : ¬ rck n L[k] = 0 := by simpa using h5
          simp only [or0, e, if_neg this]; rfl
        | none =>
          have hp : 0 < L.length := List.length_pos_iff.2 q
          have e0 : L.getD 0 [] = L[0] := by simp [List.getD, hp]
          have hL0 : L[0].length ≤ 16 := by
            have := List.findIdx?_eq_none_iff.1 hf L[0] (List.getElem_mem hp)
            exact (rck_zero (by simpa using this)).1
          simp only [Option.bind_some, refCheck_eq]
          by_cases q2 : rck u R = 0
          · have g0 : getI L 0 = some L[0] := getN (k := 0) hp
            simp only [q2, decide_true, Bool.not_true, cond_false, g0, Option.bind_some, e0]
            rw [refShape_eq _ _ (by omega), shp_comm, Option.bind_some]
            cases hs : shp R L[0] with
            | false => rfl
            | true =>
              simp only [Bool.not_true, cond_false]
              by_cases g2 : 65536 < S.length
              · rw [decide_eq_true (by omega), if_pos g2]; rfl
              · rw [decide_eq_false (by omega), if_neg g2, cond_false, loop_search (body := fn_ref21_types_l2 (u, n, B, L, R, S, X)) S (fun s => !decide (chk s = 0)) (fun k => (.inr (chk (S.getD k (0, [], [], [])), 4, (k : Int), 0) : Unit ⊕ Flt)) (.inl ()) ?_ ?_]
                · cases S.findIdx? (fun s => !decide (chk s = 0)) <;> rfl
                · intro k hk
                  unfold fn_ref21_types_l2
                  have e : S.getD k (0, [], [], []) = S[k] := by simp [List.getD, hk]
                  simp only [dlt hk, cond_true, getN hk, Option.bind_some, w64s hk (by omega : S.length ≤ 9223372036854775807), e, show fn_ref17_Check (S[k].1, S[k].2.1, S[k].2.2.1, S[k].2.2.2) = _ from refSCheck_eq S[k]]
                  cases (!decide (chk S[k] = 0)) <;> rfl
                · simp [fn_ref21_types_l2]
          · simp [q2, or0]
      · intro k hk
        unfold fn_ref21_types_l1
        have e : L.getD k [] = L[k] := by simp [List.getD, hk]
        simp only [dlt hk, cond_true, getN hk, Option.bind_some, w64s hk (by omega : L.length ≤ 9223372036854775807), e, refCheck_eq]
        cases (!decide (rck n L[k] = 0)) <;> rfl
      · simp [fn_ref21_types_l1]
variable (hL : ∀ t ∈ b.2.2.2.1, t.length ≤ 20) (hR : b.2.2.2.2.1.length ≤ 20) (hS : ∀ s ∈ b.2.2.2.2.2.1, s.2.1.length ≤ 20 ∧ s.2.2.1.length ≤ 20 ∧ s.2.2.2.length ≤ 20 ∧ ∀ t ∈ s.2.2.1, t.length ≤ 20)
include hL hR hS
omit hx hR hS in
theorem stmtL {x : Stm} : ∃ l, fn_stmt_Needs x b.2.2.2.1 b.2.1 = some (l, sE b.2.2.2.1 b.2.1 x) ∧ fn_ref18_Needs x b.2.2.2.1 b.2.1 = some (l, sE b.2.2.2.1 b.2.1 x) := by
  obtain ⟨l, e, h1, h2, _⟩ := stmtNeeds_eq x b.2.2.2.1 b.2.1 hL
  have : sE b.2.2.2.1 b.2.1 x = e := by unfold sE; rw [h2]; rfl
  exact ⟨l, by rw [h1, this], by rw [h2, this]⟩
omit hx in
theorem termL {x : Tm} : ∃ l, fn_term_Needs x (arOf b) = some (l, tE (arOf b) x) ∧ fn_ref19_Needs x (arOf b) = some (l, tE (arOf b) x) := by
  obtain ⟨l, e, h1, h2⟩ := needs19L x (arOf b) hR hL hS
  have : tE (arOf b) x = e := by unfold tE; rw [h2]; rfl
  exact ⟨l, by rw [h1, this], by rw [h2, this]⟩
theorem lCode_eq (hX : b.2.2.2.2.2.2.length ≤ 65536) : fn_valid_code_az b = some (vCode b) := by
  unfold fn_valid_code_az vCode
  rw [loop_search (body := fn_valid_code_az_l2 b) b.2.2.2.2.2.2 (fun x => (blkE b x).isSome) (fun k => (.inr (fltOf k (blkE b (b.2.2.2.2.2.2.getD k ([], 0, 0, 0, [], [], [])))) : Unit ⊕ Flt)) (.inl ()) ?_ ?_]
  · cases b.2.2.2.2.2.2.findIdx? (fun x => (blkE b x).isSome) <;> rfl
  · intro k hk
    unfold fn_valid_code_az_l2
    have e : b.2.2.2.2.2.2.getD k ([], 0, 0, 0, [], [], []) = b.2.2.2.2.2.2[k] := by simp [List.getD, hk]
    have hst' := hx _ (List.getElem_mem hk)
    simp only [dlt hk, cond_true, getN hk, Option.bind_some, w64s hk (by omega : b.2.2.2.2.2.2.length ≤ 9223372036854775807), e]
    generalize b.2.2.2.2.2.2[k] = x at *
    obtain ⟨l, hT', _⟩ := termL hL hR hS (x := x.2)
    rw [loop_search (body := fn_valid_code_az_l1 b k x) x.1 (fun s => !decide (sE b.2.2.2.1 b.2.1 s = 0)) (fun j => (.inr (.inr (.inr (sE b.2.2.2.1 b.2.1 (x.1.getD j (0, 0, 0, 0, false)), 6, (k : Int), (j : Int)))) : Unit ⊕ (Int ⊕ (Unit ⊕ Flt)))) (.inl ()) ?_ ?_]
    · unfold blkE
      cases hf : x.1.findIdx? (fun s => !decide (sE b.2.2.2.1 b.2.1 s = 0)) with
      | some j => rfl
      | none =>
        simp only [Option.bind_some]
        unfold fn_tick_Counter_Add_zii fn_term_Check
        rw [Option.bind_some, show fn_term_Needs (x.2.1, x.2.2.1, x.2.2.2.1, x.2.2.2.2.1, x.2.2.2.2.2.1, x.2.2.2.2.2.2) (((b.2.2.2.2.2.2.length : Nat) : Int), b.2.1, b.2.2.2.1, b.2.2.2.2.1, b.2.2.2.2.2.1) = _ from hT', Option.bind_some]
        by_cases q3 : tE (arOf b) x.2 = 0
        · simp [q3]
        · simp [q3, fltOf]
    · intro j hj
      obtain ⟨l, hS', _⟩ := stmtL (b := b) hL (x := x.1[j])
      have e2 : x.1.getD j (0, 0, 0, 0, false) = x.1[j] := by simp [List.getD, hj]
      unfold fn_valid_code_az_l1 fn_tick_Counter_Add_zii fn_stmt_Check
      simp only [dlt hj, cond_true, getN hj, Option.bind_some, w64s hj (by omega : x.1.length ≤ 9223372036854775807), e2, show fn_stmt_Needs (x.1[j].1, x.1[j].2.1, x.1[j].2.2.1, x.1[j].2.2.2.1, x.1[j].2.2.2.2) b.2.2.2.1 b.2.1 = _ from hS']
      cases (!decide (sE b.2.2.2.1 b.2.1 x.1[j] = 0)) <;> rfl
    · simp [fn_valid_code_az_l1]
  · simp [fn_valid_code_az_l2]
theorem lBlocks_eq : fn_ref21_blocks b = some (or0 (lK b) (vCode b)) := by
  unfold fn_ref21_blocks lK vCode
  by_cases q : b.2.2.2.2.2.2 = []
  · rw [if_pos q, q]; rfl
  · have q' : ¬ ((b.2.2.2.2.2.2.length : Nat) : Int) = 0 := fun hc => q (List.length_eq_zero_iff.1 (by omega))
    rw [if_neg q, decide_eq_false q', cond_false]
    by_cases h1 : 65536 < b.2.2.2.2.2.2.length
    · rw [decide_eq_true (by omega), cond_true, if_pos h1]; rfl
    · rw [if_neg h1, decide_eq_false (by omega), cond_false, blk_step (body := fn_ref21_blocks_l1 b) hx (by omega) (fun i k => rfl)]
      cases hk6 : lkR b.2.2.2.2.2.2 with
      | inr f =>
        have := lkR_six hk6
        simp only [Option.bind_some, or0]
        rw [if_neg (by omega)]
      | inl u =>
      rw [Option.bind_some]
      dsimp only
      rw [loop_search (body := fn_ref21_blocks_l3 b) b.2.2.2.2.2.2 (fun x => (blkE b x).isSome) (fun k => (.inr (fltOf k (blkE b (b.2.2.2.2.2.2.getD k ([], 0, 0, 0, [], [], [])))) : Unit ⊕ Flt)) (.inl ()) ?_ ?_]
      · cases b.2.2.2.2.2.2.findIdx? (fun x => (blkE b x).isSome) <;> rfl
      · intro k hk
        unfold fn_ref21_blocks_l3
        have e : b.2.2.2.2.2.2.getD k ([], 0, 0, 0, [], [], []) = b.2.2.2.2.2.2[k] := by simp [List.getD, hk]
        have hst' := hx _ (List.getElem_mem hk)
        simp only [dlt hk, cond_true, getN hk, Option.bind_some, w64s hk (by omega : b.2.2.2.2.2.2.length ≤ 9223372036854775807), e]
        generalize b.2.2.2.2.2.2[k] = x at *
        obtain ⟨l, _, hT'⟩ := termL hL hR hS (x := x.2)
        rw [loop_search (body := fn_ref21_blocks_l2 b k x) x.1 (fun s => !decide (sE b.2.2.2.1 b.2.1 s = 0)) (fun j => (.inr (.inr (.inr (sE b.2.2.2.1 b.2.1 (x.1.getD j (0, 0, 0, 0, false)), 6, (k : Int), (j : Int)))) : Unit ⊕ (Int ⊕ (Unit ⊕ Flt)))) (.inl ()) ?_ ?_]
        · unfold blkE
          cases hf : x.1.findIdx? (fun s => !decide (sE b.2.2.2.1 b.2.1 s = 0)) with
          | some j => rfl
          | none =>
            simp only [Option.bind_some]
            rw [show fn_ref19_Needs (x.2.1, x.2.2.1, x.2.2.2.1, x.2.2.2.2.1, x.2.2.2.2.2.1, x.2.2.2.2.2.2) (((b.2.2.2.2.2.2.length : Nat) : Int), b.2.1, b.2.2.2.1, b.2.2.2.2.1, b.2.2.2.2.2.1) = _ from hT', Option.bind_some]
            by_cases q3 : tE (arOf b) x.2 = 0
            · simp [q3]
            · simp [q3, fltOf]
        · intro j hj
          obtain ⟨l, _, hS'⟩ := stmtL (b := b) hL (x := x.1[j])
          have e2 : x.1.getD j (0, 0, 0, 0, false) = x.1[j] := by simp [List.getD, hj]
          unfold fn_ref21_blocks_l2
          simp only [dlt hj, cond_true, getN hj, Option.bind_some, w64s hj (by omega : x.1.length ≤ 9223372036854775807), e2, show fn_ref18_Needs (x.1[j].1, x.1[j].2.1, x.1[j].2.2.1, x.1[j].2.2.2.1, x.1[j].2.2.2.2) b.2.2.2.1 b.2.1 = _ from hS']
          cases (!decide (sE b.2.2.2.1 b.2.1 x.1[j] = 0)) <;> rfl
        · simp [fn_ref21_blocks_l2]
      · simp [fn_ref21_blocks_l3]
end
/-- Of bodies of any size: the first fault. -/
noncomputable def lck (b : Bo) : Flt := or0 (vHead b) (or0 (lB b) (or0 (lL b) (or0 (vRet b) (or0 (lS b) (or0 (lK b) (vCode b))))))
theorem vHead_eq (b : Bo) : fn_valid_head_az b = some (vHead b) := by
  unfold fn_valid_head_az vHead
  by_cases q : b.1 < 1 ∨ b.2.1 < b.1
  · have : (decide (b.1 < 1) || decide (b.2.1 < b.1)) = true := by simpa using q
    rw [this, if_pos q]; rfl
  · have : (decide (b.1 < 1) || decide (b.2.1 < b.1)) = false := by simpa using q
    rw [this, if_neg q, cond_false]
    by_cases q2 : 65536 < b.2.1
    · rw [decide_eq_true q2, if_pos q2]; rfl
    · rw [decide_eq_false q2, if_neg q2]; rfl
theorem lK_zero {b : Bo} (h : (lK b).1 = 0) : b.2.2.2.2.2.2.length ≤ 65536 := by
  unfold lK at h
  by_cases q : b.2.2.2.2.2.2 = []
  · rw [q]; simp
  · rw [if_neg q] at h
    by_cases q2 : 65536 < b.2.2.2.2.2.2.length
    · rw [if_pos q2] at h; cases h
    · omega
theorem lCheck_eq {b : Bo} (hx : ∀ x ∈ b.2.2.2.2.2.2, x.1.length ≤ 140737488351232) : fn_valid_Check_az b = some (lck b) ∧ fn_ref21_Check b = some (lck b) := by
  have eb : (b.1, b.2.1, b.2.2.1, b.2.2.2.1, b.2.2.2.2.1, b.2.2.2.2.2.1, b.2.2.2.2.2.2) = b := rfl
  have h1 := vHead_eq b
  have h2 := lBounds_eq b
  have h3 := lLoc_eq b
  have h4 : (lL b).1 = 0 → fn_valid_ret_az b = some (vRet b) := fun h => lRet_eq (lL_zero h).1
  have h5 := lSig_eq b
  have h6 := lBlk_eq hx
  have h7 : (lL b).1 = 0 → (vRet b).1 = 0 → (lS b).1 = 0 → (lK b).1 = 0 → fn_valid_code_az b = some (vCode b) := fun a1 a2 a3 a4 => lCode_eq hx (lL_zero a1).2.2 (vRet_zero a2) (lS_zero a3) (lK_zero a4)
  have r1 := lHead_eq hx
  have r2 := lTypes_eq (b := b)
  have r3 : (lL b).1 = 0 → (vRet b).1 = 0 → (lS b).1 = 0 → fn_ref21_blocks b = some (or0 (lK b) (vCode b)) := fun a1 a2 a3 => lBlocks_eq hx (lL_zero a1).2.2 (vRet_zero a2) (lS_zero a3)
  have hz6 : (vCode b).1 = 0 → vCode b = (0, 0, 0, 0) := vCode_zero
  unfold fn_valid_Check_az fn_ref21_Check fn_tick_Counter_Add_zii lck
  simp only [eb, Option.bind_some, h1, h2, h3, h5, h6, r1, r2]
  generalize vHead b = v1 at *
  generalize lB b = v2 at *
  generalize lL b = v3 at *
  generalize vRet b = v4 at *
  generalize lS b = v5 at *
  generalize lK b = v6 at *
  generalize vCode b = v7 at *
  generalize fn_valid_ret_az b = o1 at *
  generalize fn_valid_code_az b = o2 at *
  generalize fn_ref21_blocks b = o3 at *
  unfold or0 at *
  by_cases q1 : v1.1 = 0 <;> by_cases q2 : v2.1 = 0 <;> by_cases q3 : v3.1 = 0 <;> by_cases q4 : v4.1 = 0 <;> by_cases q5 : v5.1 = 0 <;> by_cases q6 : v6.1 = 0 <;> by_cases q7 : v7.1 = 0 <;> simp_all
end Go.Proofs.Ytbaaamdljojknaa
