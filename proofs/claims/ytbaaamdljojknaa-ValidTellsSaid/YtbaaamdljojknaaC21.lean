/- What valid.Check computes with a counter (layer 21), in plain words. -/
import Derived.Test.YtbaaamdljojknaaW21
namespace Go.Proofs.Ytbaaamdljojknaa
open Go.RowKit
set_option linter.unusedVariables false
set_option linter.unnecessarySimpa false
set_option linter.unusedSimpArgs false
set_option linter.unusedSectionVars false
theorem sum_eq {a c : Nat} (h : a + c ≤ 1000000000) : fn_tick_sum (a : Int) (c : Int) = some ((a + c : Nat) : Int) := by
  unfold fn_tick_sum
  rw [w64 (by omega) (by omega), decide_eq_false (by omega), cond_false, w64 (by omega) (by omega)]; rfl
theorem add1_eq {a c : Nat} (h : a + c ≤ 1000000000) (q0 q2 q3 q4 q5 q6 : Int) : fn_tick_Counter_Add_p0c1i_iiiiiii (c : Int) q0 (a : Int) q2 q3 q4 q5 q6 = some ((a + c : Nat) : Int) := by
  unfold fn_tick_Counter_Add_p0c1i_iiiiiii fn_tick_isPart
  simp only [Option.bind_some]
  rw [show ((decide ((0 : Int) ≤ 1)) && (decide ((1 : Int) < 7))) = true from rfl, Bool.true_and, decide_eq_true (by omega), cond_true, sum_eq h]; rfl
/-- A list searched, with steps counted. -/
theorem loop_searchC {α β : Type} {body : (Int × Int) → Option ((Int × Int) ⊕ β)} (xa : List α) (t : α → Bool) (hit : Nat → Int → β) (e : Int → β) (q : Nat) (hb : ∀ (k : Nat) (h : k < xa.length), body ((k : Int), ((q + k : Nat) : Int)) = some (if t xa[k] then .inr (hit k ((q + k + 1 : Nat) : Int)) else .inl (((k + 1 : Nat) : Int), ((q + k + 1 : Nat) : Int)))) (he : body ((xa.length : Int), ((q + xa.length : Nat) : Int)) = some (.inr (e ((q + xa.length : Nat) : Int)))) :
    ∃ c : Nat, c ≤ xa.length ∧ loop body (0, (q : Int)) = some (match xa.findIdx? t with | some k => hit k ((q + c : Nat) : Int) | none => e ((q + c : Nat) : Int)) := by
  have key := loop_find (body := body) (fun k => ∃ h : k < xa.length, t xa[k] = true) (fun k : Nat => ((k : Int), ((q + k : Nat) : Int))) xa.length (fun k => hit k ((q + k + 1 : Nat) : Int)) (e ((q + xa.length : Nat) : Int)) (fun k hk hp => by
      rw [hb k hk, if_neg (fun h => hp ⟨hk, h⟩)]; rfl) (fun k hk ⟨_, hp⟩ => by rw [hb k hk, if_pos hp]) he
  rcases key with ⟨k, h1, ⟨_, h2⟩, h3, h4⟩ | ⟨h1, h2⟩
  · refine ⟨k + 1, h1, ?_⟩
    have : xa.findIdx? t = some k := by
      rw [List.findIdx?_eq_some_iff_getElem]
      exact ⟨h1, h2, fun j hj => fun hc => h3 j hj ⟨by omega, by simpa using hc⟩⟩
    rw [this]; exact h4
  · refine ⟨xa.length, Nat.le_refl _, ?_⟩
    have : xa.findIdx? t = none := by
      rw [List.findIdx?_eq_none_iff]
      intro x hx
      obtain ⟨k, hk, rfl⟩ := List.getElem_of_mem hx
      cases hc : t xa[k] with
      | false => rfl
      | true => exact absurd ⟨hk, hc⟩ (h1 k hk)
    rw [this]; exact h2
abbrev Fltc := Int × Int × Int × Int × Int
def wc (f : Flt) (c : Int) : Fltc := (f.1, f.2.1, f.2.2.1, f.2.2.2, c)
section
variable {b : Bo} (h : Sm b) (q0 q2 q3 q4 q5 q6 : Int) {q : Nat} (hq : q ≤ 150000)
include h hq
theorem cBounds_eq : ∃ c : Nat, c ≤ b.2.2.1.length ∧ fn_valid_bounds_ap0_iiiiiii b q0 (q : Int) q2 q3 q4 q5 q6 = some (wc (vBounds b) ((q + c : Nat) : Int)) := by
  have h1 := h.bounds
  obtain ⟨c, hc, hl⟩ := loop_searchC (body := fn_valid_bounds_ap0_iiiiiii_l1 b q0 q2 q3 q4 q5 q6) b.2.2.1 (bad1 b.1) (fun k c => (.inr (7, 1, (k : Int), 0, c) : Int ⊕ Fltc)) (fun c => .inl c) q (by
    intro k hk
    unfold fn_valid_bounds_ap0_iiiiiii_l1 fn_valid_bounds_1_ip0_iikkkkk
    simp only [dlt hk, cond_true, getN hk, Option.bind_some, w64s hk (by omega : b.2.2.1.length ≤ 9223372036854775807), show fn_tick_Counter_Add_p0c1i_iiiiiii 1 q0 ((q + k : Nat) : Int) q2 q3 q4 q5 q6 = _ from add1_eq (a := q + k) (c := 1) (by omega) q0 q2 q3 q4 q5 q6]
    generalize b.2.2.1[k] = x
    obtain ⟨x1, x2⟩ := x
    have e (x : Int) : (!((decide (0 ≤ x)) && (decide (x < b.1)))) = (decide (x < 0) || decide (b.1 ≤ x)) := by
      by_cases p : x < 0 <;> by_cases q : b.1 ≤ x <;> simp [p, q] <;> omega
    simp only [e, bad1]
    by_cases p1 : x1 < 0 <;> by_cases p2 : b.1 ≤ x1 <;> by_cases p3 : x2 < 0 <;> by_cases p4 : b.1 ≤ x2 <;> simp [p1, p2, p3, p4]) (by simp [fn_valid_bounds_ap0_iiiiiii_l1])
  refine ⟨c, hc, ?_⟩
  unfold fn_valid_bounds_ap0_iiiiiii vBounds
  rw [decide_eq_false (by omega), cond_false, hl]
  cases b.2.2.1.findIdx? (bad1 b.1) <;> rfl
theorem cLoc_eq : ∃ c : Nat, c ≤ b.2.2.2.1.length ∧ fn_valid_locals_ap0_iiiiiii b q0 (q : Int) q2 q3 q4 q5 q6 = some (wc (vLoc b) ((q + c : Nat) : Int)) := by
  have h1 := h.locals
  have h4 := h.loc
  unfold fn_valid_locals_ap0_iiiiiii vLoc
  by_cases hL : b.2.2.2.1 = []
  · exact ⟨0, Nat.zero_le _, by rw [if_pos hL, hL]; rfl⟩
  · have q' : ¬ ((b.2.2.2.1.length : Nat) : Int) = 0 := fun hc => hL (List.length_eq_zero_iff.1 (by omega))
    obtain ⟨c, hc, hl⟩ := loop_searchC (body := fn_valid_locals_ap0_iiiiiii_l1 b q0 q2 q3 q4 q5 q6) b.2.2.2.1 (fun t => !decide (rck b.2.1 t = 0)) (fun k c => (.inr (rck b.2.1 (b.2.2.2.1.getD k []), 2, (k : Int), 0, c) : Int ⊕ Fltc)) (fun c => .inl c) q (by
      intro k hk
      have e : b.2.2.2.1.getD k [] = b.2.2.2.1[k] := by simp [List.getD, hk]
      unfold fn_valid_locals_ap0_iiiiiii_l1
      simp only [dlt hk, cond_true, getN hk, Option.bind_some, w64s hk (by omega : b.2.2.2.1.length ≤ 9223372036854775807), e, rowCheck20 _ (h4 _ (List.getElem_mem hk)), show fn_tick_Counter_Add_p0c1i_iiiiiii 1 q0 ((q + k : Nat) : Int) q2 q3 q4 q5 q6 = _ from add1_eq (a := q + k) (c := 1) (by omega) q0 q2 q3 q4 q5 q6]
      cases (!decide (rck b.2.1 b.2.2.2.1[k] = 0)) <;> rfl) (by simp [fn_valid_locals_ap0_iiiiiii_l1])
    refine ⟨c, hc, ?_⟩
    rw [if_neg hL, decide_eq_false q', cond_false, decide_eq_false (by omega), cond_false, hl]
    cases b.2.2.2.1.findIdx? (fun t => !decide (rck b.2.1 t = 0)) <;> rfl
theorem cRet_eq (hL : b.2.2.2.1 ≠ []) : fn_valid_ret_ap0_iiiiiii b q0 (q : Int) q2 q3 q4 q5 q6 = some (vRet b) := vRet_eq h hL
theorem cSig_eq : ∃ c : Nat, c ≤ b.2.2.2.2.2.1.length ∧ fn_valid_sigs_ap0_iiiiiii b q0 (q : Int) q2 q3 q4 q5 q6 = some (wc (vSig b) ((q + c : Nat) : Int)) := by
  have h1 := h.sigs
  have hs := fun s (hs : s ∈ b.2.2.2.2.2.1) => sgl h hs
  obtain ⟨c, hc, hl⟩ := loop_searchC (body := fn_valid_sigs_ap0_iiiiiii_l1 b q0 q2 q3 q4 q5 q6) b.2.2.2.2.2.1 (fun s => !decide (chk s = 0)) (fun k c => (.inr (chk (b.2.2.2.2.2.1.getD k (0, [], [], [])), 4, (k : Int), 0, c) : Int ⊕ Fltc)) (fun c => .inl c) q (by
    intro k hk
    have e : b.2.2.2.2.2.1.getD k (0, [], [], []) = b.2.2.2.2.2.1[k] := by simp [List.getD, hk]
    have hs' := hs _ (List.getElem_mem hk)
    unfold fn_valid_sigs_ap0_iiiiiii_l1
    simp only [dlt hk, cond_true, getN hk, Option.bind_some, w64s hk (by omega : b.2.2.2.2.2.1.length ≤ 9223372036854775807), e, show fn_sig_Check (b.2.2.2.2.2.1[k].1, b.2.2.2.2.2.1[k].2.1, b.2.2.2.2.2.1[k].2.2.1, b.2.2.2.2.2.1[k].2.2.2) = _ from hs', show fn_tick_Counter_Add_p0c1i_iiiiiii 1 q0 ((q + k : Nat) : Int) q2 q3 q4 q5 q6 = _ from add1_eq (a := q + k) (c := 1) (by omega) q0 q2 q3 q4 q5 q6]
    cases (!decide (chk b.2.2.2.2.2.1[k] = 0)) <;> rfl) (by simp [fn_valid_sigs_ap0_iiiiiii_l1])
  refine ⟨c, hc, ?_⟩
  unfold fn_valid_sigs_ap0_iiiiiii vSig
  rw [decide_eq_false (by omega), cond_false, hl]
  cases b.2.2.2.2.2.1.findIdx? (fun s => !decide (chk s = 0)) <;> rfl
theorem cBlk_eq : ∃ c : Nat, c ≤ b.2.2.2.2.2.2.length ∧ fn_valid_blocks_ap0_iiiiiii b q0 (q : Int) q2 q3 q4 q5 q6 = some (wc (vBlk b) ((q + c : Nat) : Int)) := by
  have h1 := h.blocks
  have h2 := h.many
  unfold fn_valid_blocks_ap0_iiiiiii vBlk
  by_cases hX : b.2.2.2.2.2.2 = []
  · exact ⟨0, Nat.zero_le _, by rw [if_pos hX, hX]; rfl⟩
  · have q' : ¬ ((b.2.2.2.2.2.2.length : Nat) : Int) = 0 := fun hc => hX (List.length_eq_zero_iff.1 (by omega))
    refine ⟨b.2.2.2.2.2.2.length, Nat.le_refl _, ?_⟩
    rw [if_neg hX, decide_eq_false q', cond_false, decide_eq_false (by omega), cond_false]
    have hl1 := loop_nat (body := fn_valid_blocks_ap0_iiiiiii_l1 b q0 q2 q3 q4 q5 q6) (fun k : Nat => (((stm (b.2.2.2.2.2.2.take k) : Nat) : Int), (k : Int), ((q + k : Nat) : Int))) b.2.2.2.2.2.2.length (b := .inl ((q + b.2.2.2.2.2.2.length : Nat) : Int)) ?_ ?_
    · have hl1' : loop (fn_valid_blocks_ap0_iiiiiii_l1 b q0 q2 q3 q4 q5 q6) (0, 0, (q : Int)) = some (.inl ((q + b.2.2.2.2.2.2.length : Nat) : Int)) := by simpa [stm] using hl1
      rw [hl1']; rfl
    · intro k hk
      have a1 := stm_snoc hk
      have a2 := sum_take (fun x : Blk => x.1.length) b.2.2.2.2.2.2 (k + 1)
      have a3 : stm (b.2.2.2.2.2.2.take (k + 1)) ≤ stm b.2.2.2.2.2.2 := a2
      unfold fn_valid_blocks_ap0_iiiiiii_l1
      simp only [dlt hk, cond_true, getN hk, Option.bind_some, w64s hk (by omega : b.2.2.2.2.2.2.length ≤ 9223372036854775807), show fn_tick_Counter_Add_p0c1i_iiiiiii 1 q0 ((q + k : Nat) : Int) q2 q3 q4 q5 q6 = _ from add1_eq (a := q + k) (c := 1) (by omega) q0 q2 q3 q4 q5 q6]
      rw [w64 (by omega) (by omega), decide_eq_false (by omega), cond_false, a1]
      simp [Nat.add_assoc]
    · unfold fn_valid_blocks_ap0_iiiiiii_l1
      simp
theorem cCode_eq : ∃ c : Nat, c ≤ stm b.2.2.2.2.2.2 + b.2.2.2.2.2.2.length ∧ fn_valid_code_ap0_iiiiiii b q0 (q : Int) q2 q3 q4 q5 q6 = some (wc (vCode b) ((q + c : Nat) : Int)) := by
  have h1 := h.blocks
  have hmany := h.many
  have hst := fun x (hx : x ∈ b.2.2.2.2.2.2) => h.stmts hx
  have hT := fun x (hx : x ∈ b.2.2.2.2.2.2) => termE h hx
  have hS := fun x => stmtE h (x := x)
  -- one block
  have hin : ∀ (k : Nat) (hk : k < b.2.2.2.2.2.2.length) (p : Nat), p ≤ 200000 → ∃ c : Nat, c ≤ b.2.2.2.2.2.2[k].1.length + 1 ∧ fn_valid_code_ap0_iiiiiii_l2 b q0 q2 q3 q4 q5 q6 ((k : Int), (p : Int)) = some (if (blkE b b.2.2.2.2.2.2[k]).isSome then .inr (.inr (wc (fltOf k (blkE b b.2.2.2.2.2.2[k])) ((p + c : Nat) : Int))) else .inl (((k + 1 : Nat) : Int), ((p + (b.2.2.2.2.2.2[k].1.length + 1) : Nat) : Int))) := by
    intro k hk p hp
    obtain ⟨l, hT', _⟩ := hT _ (List.getElem_mem hk)
    have hst' := hst _ (List.getElem_mem hk)
    unfold fn_valid_code_ap0_iiiiiii_l2
    simp only [dlt hk, cond_true, getN hk, Option.bind_some, w64s hk (by omega : b.2.2.2.2.2.2.length ≤ 9223372036854775807)]
    generalize b.2.2.2.2.2.2[k] = x at *
    have hone : ∀ (j : Nat) (hj : j < x.1.length), fn_valid_code_ap0_iiiiiii_l1 b q0 q2 q3 q4 q5 q6 (k : Int) x ((j : Int), ((p + j : Nat) : Int)) = some (if (!decide (sE b.2.2.2.1 b.2.1 x.1[j] = 0)) then .inr (.inr (.inr (.inr (sE b.2.2.2.1 b.2.1 x.1[j], 6, (k : Int), (j : Int), ((p + j + 1 : Nat) : Int))))) else .inl (((j + 1 : Nat) : Int), ((p + j + 1 : Nat) : Int))) := by
      intro j hj
      obtain ⟨l, hS', _⟩ := hS x.1[j]
      unfold fn_valid_code_ap0_iiiiiii_l1 fn_stmt_Check
      simp only [dlt hj, cond_true, getN hj, Option.bind_some, w64s hj (by omega : x.1.length ≤ 9223372036854775807), show fn_stmt_Needs (x.1[j].1, x.1[j].2.1, x.1[j].2.2.1, x.1[j].2.2.2.1, x.1[j].2.2.2.2) b.2.2.2.1 b.2.1 = _ from hS', show fn_tick_Counter_Add_p0c1i_iiiiiii 1 q0 ((p + j : Nat) : Int) q2 q3 q4 q5 q6 = _ from add1_eq (a := p + j) (c := 1) (by omega) q0 q2 q3 q4 q5 q6]
      cases (!decide (sE b.2.2.2.1 b.2.1 x.1[j] = 0)) <;> rfl
    have key := loop_find (body := fn_valid_code_ap0_iiiiiii_l1 b q0 q2 q3 q4 q5 q6 (k : Int) x) (fun j => ∃ hj : j < x.1.length, (!decide (sE b.2.2.2.1 b.2.1 x.1[j] = 0)) = true) (fun j : Nat => ((j : Int), ((p + j : Nat) : Int))) x.1.length (fun j => .inr (.inr (.inr (sE b.2.2.2.1 b.2.1 (x.1.getD j (0, 0, 0, 0, false)), 6, (k : Int), (j : Int), ((p + j + 1 : Nat) : Int))))) (.inl ((p + x.1.length : Nat) : Int)) (fun j hj hp => by
        rw [hone j hj, if_neg (fun h => hp ⟨hj, h⟩)]; rfl) (fun j hj ⟨_, hp⟩ => by
        have e2 : x.1.getD j (0, 0, 0, 0, false) = x.1[j] := by simp [List.getD, hj]
        rw [hone j hj, if_pos hp, e2]) (by simp [fn_valid_code_ap0_iiiiiii_l1])
    rcases key with ⟨j, j1, ⟨_, j2⟩, j3, j4⟩ | ⟨j1, j2⟩
    · have hf : x.1.findIdx? (fun s => !decide (sE b.2.2.2.1 b.2.1 s = 0)) = some j := by
        rw [List.findIdx?_eq_some_iff_getElem]
        exact ⟨j1, j2, fun i hi => fun hc => j3 i hi ⟨by omega, by simpa using hc⟩⟩
      have hb : blkE b x = some (sE b.2.2.2.1 b.2.1 (x.1.getD j (0, 0, 0, 0, false)), 6, (j : Int)) := by unfold blkE; rw [hf]
      refine ⟨j + 1, by omega, ?_⟩
      have j4' : loop (fn_valid_code_ap0_iiiiiii_l1 b q0 q2 q3 q4 q5 q6 (k : Int) x) (0, (p : Int)) = _ := j4
      rw [j4', hb]; rfl
    · have hf : x.1.findIdx? (fun s => !decide (sE b.2.2.2.1 b.2.1 s = 0)) = none := by
        rw [List.findIdx?_eq_none_iff]
        intro s hs
        obtain ⟨i, hi, rfl⟩ := List.getElem_of_mem hs
        cases hc : (!decide (sE b.2.2.2.1 b.2.1 x.1[i] = 0)) with
        | false => rfl
        | true => exact absurd ⟨hi, hc⟩ (j1 i hi)
      have j2' : loop (fn_valid_code_ap0_iiiiiii_l1 b q0 q2 q3 q4 q5 q6 (k : Int) x) (0, (p : Int)) = _ := j2
      refine ⟨x.1.length + 1, Nat.le_refl _, ?_⟩
      rw [j2', Option.bind_some]
      dsimp only
      unfold fn_term_Check
      rw [show fn_tick_Counter_Add_p0c1i_iiiiiii 1 q0 ((p + x.1.length : Nat) : Int) q2 q3 q4 q5 q6 = _ from add1_eq (a := p + x.1.length) (c := 1) (by omega) q0 q2 q3 q4 q5 q6, Option.bind_some, show fn_term_Needs (x.2.1, x.2.2.1, x.2.2.2.1, x.2.2.2.2.1, x.2.2.2.2.2.1, x.2.2.2.2.2.2) (((b.2.2.2.2.2.2.length : Nat) : Int), b.2.1, b.2.2.2.1, b.2.2.2.2.1, b.2.2.2.2.2.1) = _ from hT', Option.bind_some]
      unfold blkE
      rw [hf]
      by_cases q3 : tE (arOf b) x.2 = 0
      · simp [q3, Nat.add_assoc]
      · simp [q3, fltOf, wc, Nat.add_assoc]
  have hbg : ∀ k, k ≤ b.2.2.2.2.2.2.length → stm (b.2.2.2.2.2.2.take k) ≤ stm b.2.2.2.2.2.2 := fun k _ => sum_take (fun x : Blk => x.1.length) b.2.2.2.2.2.2 k
  have hfull : stm (b.2.2.2.2.2.2.take b.2.2.2.2.2.2.length) = stm b.2.2.2.2.2.2 := by rw [List.take_length]
  -- by whether a block is amiss
  cases hf : b.2.2.2.2.2.2.findIdx? (fun x => (blkE b x).isSome) with
  | none =>
    refine ⟨stm b.2.2.2.2.2.2 + b.2.2.2.2.2.2.length, Nat.le_refl _, ?_⟩
    have hn := List.findIdx?_eq_none_iff.1 hf
    have hl := loop_nat (body := fn_valid_code_ap0_iiiiiii_l2 b q0 q2 q3 q4 q5 q6) (fun k : Nat => ((k : Int), ((q + (stm (b.2.2.2.2.2.2.take k) + k) : Nat) : Int))) b.2.2.2.2.2.2.length (b := .inl ((q + (stm b.2.2.2.2.2.2 + b.2.2.2.2.2.2.length) : Nat) : Int)) ?_ ?_
    · have hl' : loop (fn_valid_code_ap0_iiiiiii_l2 b q0 q2 q3 q4 q5 q6) (0, (q : Int)) = some (.inl ((q + (stm b.2.2.2.2.2.2 + b.2.2.2.2.2.2.length) : Nat) : Int)) := by simpa [stm] using hl
      unfold fn_valid_code_ap0_iiiiiii vCode
      rw [hl', hf]; rfl
    · intro k hk
      have a1 := hbg k (by omega)
      obtain ⟨c, _, hc⟩ := hin k hk (q + (stm (b.2.2.2.2.2.2.take k) + k)) (by omega)
      have := hn _ (List.getElem_mem hk)
      rw [hc, if_neg (by simp [this]), stm_snoc hk]
      simp only [Option.some.injEq, Sum.inl.injEq, Prod.mk.injEq, true_and]
      omega
    · unfold fn_valid_code_ap0_iiiiiii_l2
      simp
  | some k =>
    obtain ⟨hk, h5, h6⟩ := List.findIdx?_eq_some_iff_getElem.1 hf
    have e : b.2.2.2.2.2.2.getD k ([], 0, 0, 0, [], [], []) = b.2.2.2.2.2.2[k] := by simp [List.getD, hk]
    have a1 := hbg k (by omega)
    have a2 := hbg (k + 1) (by omega)
    have a3 := stm_snoc hk
    obtain ⟨c, hc0, hc⟩ := hin k hk (q + (stm (b.2.2.2.2.2.2.take k) + k)) (by omega)
    have hgo : ∀ j, j ≤ k → loop (fn_valid_code_ap0_iiiiiii_l2 b q0 q2 q3 q4 q5 q6) (0, (q : Int)) = loop (fn_valid_code_ap0_iiiiiii_l2 b q0 q2 q3 q4 q5 q6) ((j : Int), ((q + (stm (b.2.2.2.2.2.2.take j) + j) : Nat) : Int)) := by
      intro j
      induction j with
      | zero => intro _; simp [stm]
      | succ j ih =>
        intro hj
        rw [ih (by omega)]
        have hj' : j < b.2.2.2.2.2.2.length := by omega
        have a4 := hbg j (by omega)
        obtain ⟨c', _, hc'⟩ := hin j hj' (q + (stm (b.2.2.2.2.2.2.take j) + j)) (by omega)
        have := h6 j (by omega)
        rw [if_neg (by simpa using this)] at hc'
        rw [loop_next hc', stm_snoc hj']
        congr 3
        omega
    refine ⟨stm (b.2.2.2.2.2.2.take k) + k + c, by omega, ?_⟩
    unfold fn_valid_code_ap0_iiiiiii vCode
    rw [hgo k (Nat.le_refl _), hf]
    rw [if_pos h5] at hc
    rw [loop_end hc, Option.bind_some]
    simp only [e, Nat.add_assoc]
end
theorem cCheck_eq {b : Bo} (h : Sm b) (q0 q2 q3 q4 q5 q6 : Int) {q : Nat} (hq : q ≤ 100000) : ∃ c : Nat, 1 ≤ c ∧ c ≤ 1 + b.2.2.1.length + b.2.2.2.1.length + b.2.2.2.2.2.1.length + 2 * b.2.2.2.2.2.2.length + stm b.2.2.2.2.2.2 ∧ fn_valid_Check_ap0_iiiiiii b q0 (q : Int) q2 q3 q4 q5 q6 = some (wc (vck b) ((q + c : Nat) : Int)) := by
  have hb0 := h.bounds
  have hb1 := h.locals
  have hb2 := h.sigs
  have hb3 := h.blocks
  have hb4 := h.many
  have hh : ∀ p : Int, fn_valid_head_ap0_iiiiiii b q0 p q2 q3 q4 q5 q6 = some ((vHead b).1, (vHead b).2.1, (vHead b).2.2.1, (vHead b).2.2.2) := by
    intro p
    show _ = some (vHead b)
    unfold fn_valid_head_ap0_iiiiiii vHead
    by_cases q : b.1 < 1 ∨ b.2.1 < b.1
    · have : (decide (b.1 < 1) || decide (b.2.1 < b.1)) = true := by simpa using q
      rw [this, if_pos q]; rfl
    · have : (decide (b.1 < 1) || decide (b.2.1 < b.1)) = false := by simpa using q
      rw [this, if_neg q, cond_false]
      by_cases q2 : 65536 < b.2.1
      · rw [decide_eq_true q2, if_pos q2]; rfl
      · rw [decide_eq_false q2, if_neg q2]; rfl
  unfold fn_valid_Check_ap0_iiiiiii vck
  rw [show fn_tick_Counter_Add_p0c1i_iiiiiii 1 q0 (q : Int) q2 q3 q4 q5 q6 = _ from add1_eq (a := q) (c := 1) (by omega) q0 q2 q3 q4 q5 q6, Option.bind_some, show fn_valid_head_ap0_iiiiiii (b.1, b.2.1, b.2.2.1, b.2.2.2.1, b.2.2.2.2.1, b.2.2.2.2.2.1, b.2.2.2.2.2.2) q0 ((q + 1 : Nat) : Int) q2 q3 q4 q5 q6 = _ from hh _, Option.bind_some]
  rcases (Decidable.em ((vHead b).1 = 0)).symm with z1 | z1
  · refine ⟨1, Nat.le_refl _, by omega, ?_⟩
    simp [z1, or0, wc]
  obtain ⟨c2, k2, e2⟩ := cBounds_eq h q0 q2 q3 q4 q5 q6 (q := q + 1) (by omega)
  have e2' : fn_valid_bounds_ap0_iiiiiii (b.1, b.2.1, b.2.2.1, b.2.2.2.1, b.2.2.2.2.1, b.2.2.2.2.2.1, b.2.2.2.2.2.2) q0 ((q + 1 : Nat) : Int) q2 q3 q4 q5 q6 = _ := e2
  simp only [wc, z1, decide_true, Bool.not_true, cond_false]
  rw [e2', Option.bind_some]
  rcases (Decidable.em ((vBounds b).1 = 0)).symm with z2 | z2
  · refine ⟨1 + c2, by omega, by omega, ?_⟩
    simp [z1, z2, or0, wc, Nat.add_assoc]
  obtain ⟨c3, k3, e3⟩ := cLoc_eq h q0 q2 q3 q4 q5 q6 (q := q + 1 + c2) (by omega)
  have e3' : fn_valid_locals_ap0_iiiiiii (b.1, b.2.1, b.2.2.1, b.2.2.2.1, b.2.2.2.2.1, b.2.2.2.2.2.1, b.2.2.2.2.2.2) q0 ((q + 1 + c2 : Nat) : Int) q2 q3 q4 q5 q6 = _ := e3
  simp only [wc, z2, decide_true, Bool.not_true, cond_false]
  rw [e3', Option.bind_some]
  rcases (Decidable.em ((vLoc b).1 = 0)).symm with z3 | z3
  · refine ⟨1 + c2 + c3, by omega, by omega, ?_⟩
    simp [z1, z2, z3, or0, wc, Nat.add_assoc]
  have hL : b.2.2.2.1 ≠ [] := fun hc => by unfold vLoc at z3; rw [if_pos hc] at z3; cases z3
  have e4 : fn_valid_ret_ap0_iiiiiii (b.1, b.2.1, b.2.2.1, b.2.2.2.1, b.2.2.2.2.1, b.2.2.2.2.2.1, b.2.2.2.2.2.2) q0 ((q + 1 + c2 + c3 : Nat) : Int) q2 q3 q4 q5 q6 = some ((vRet b).1, (vRet b).2.1, (vRet b).2.2.1, (vRet b).2.2.2) := cRet_eq h q0 q2 q3 q4 q5 q6 (q := q + 1 + c2 + c3) (by omega) hL
  simp only [wc, z3, decide_true, Bool.not_true, cond_false]
  rw [e4, Option.bind_some]
  rcases (Decidable.em ((vRet b).1 = 0)).symm with z4 | z4
  · refine ⟨1 + c2 + c3, by omega, by omega, ?_⟩
    simp [z1, z2, z3, z4, or0, wc, Nat.add_assoc]
  obtain ⟨c5, k5, e5⟩ := cSig_eq h q0 q2 q3 q4 q5 q6 (q := q + 1 + c2 + c3) (by omega)
  have e5' : fn_valid_sigs_ap0_iiiiiii (b.1, b.2.1, b.2.2.1, b.2.2.2.1, b.2.2.2.2.1, b.2.2.2.2.2.1, b.2.2.2.2.2.2) q0 ((q + 1 + c2 + c3 : Nat) : Int) q2 q3 q4 q5 q6 = _ := e5
  simp only [wc, z4, decide_true, Bool.not_true, cond_false]
  rw [e5', Option.bind_some]
  rcases (Decidable.em ((vSig b).1 = 0)).symm with z5 | z5
  · refine ⟨1 + c2 + c3 + c5, by omega, by omega, ?_⟩
    simp [z1, z2, z3, z4, z5, or0, wc, Nat.add_assoc]
  obtain ⟨c6, k6, e6⟩ := cBlk_eq h q0 q2 q3 q4 q5 q6 (q := q + 1 + c2 + c3 + c5) (by omega)
  have e6' : fn_valid_blocks_ap0_iiiiiii (b.1, b.2.1, b.2.2.1, b.2.2.2.1, b.2.2.2.2.1, b.2.2.2.2.2.1, b.2.2.2.2.2.2) q0 ((q + 1 + c2 + c3 + c5 : Nat) : Int) q2 q3 q4 q5 q6 = _ := e6
  simp only [wc, z5, decide_true, Bool.not_true, cond_false]
  rw [e6', Option.bind_some]
  rcases (Decidable.em ((vBlk b).1 = 0)).symm with z6 | z6
  · refine ⟨1 + c2 + c3 + c5 + c6, by omega, by omega, ?_⟩
    simp [z1, z2, z3, z4, z5, z6, or0, wc, Nat.add_assoc]
  obtain ⟨c7, k7, e7⟩ := cCode_eq h q0 q2 q3 q4 q5 q6 (q := q + 1 + c2 + c3 + c5 + c6) (by omega)
  have e7' : fn_valid_code_ap0_iiiiiii (b.1, b.2.1, b.2.2.1, b.2.2.2.1, b.2.2.2.2.1, b.2.2.2.2.2.1, b.2.2.2.2.2.2) q0 ((q + 1 + c2 + c3 + c5 + c6 : Nat) : Int) q2 q3 q4 q5 q6 = _ := e7
  simp only [wc, z6, decide_true, Bool.not_true, cond_false]
  rw [e7', Option.bind_some]
  refine ⟨1 + c2 + c3 + c5 + c6 + c7, by omega, by omega, ?_⟩
  by_cases z7 : (vCode b).1 = 0
  · have := vCode_zero z7
    simp [z1, z2, z3, z4, z5, z6, or0, wc, this, Nat.add_assoc]
  · simp [z1, z2, z3, z4, z5, z6, z7, or0, wc, Nat.add_assoc]
end Go.Proofs.Ytbaaamdljojknaa
