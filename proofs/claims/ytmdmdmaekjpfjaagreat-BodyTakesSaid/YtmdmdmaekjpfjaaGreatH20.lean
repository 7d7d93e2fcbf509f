/- Bodies: held against each other. -/
import Derived.Test.YtmdmdmaekjpfjaaGreatG20
namespace Go.Proofs.YtmdmdmaekjpfjaaGreat
open Go.RowKit Lb
set_option linter.unusedVariables false
set_option linter.unnecessarySimpa false
set_option linter.unusedSimpArgs false
instance dLi : DecidableEq (List Int) := instDecidableEqList
instance dTm : DecidableEq Tm := @instDecidableEqProd _ _ Int.instDecidableEq (@instDecidableEqProd _ _ Int.instDecidableEq (@instDecidableEqProd _ _ Int.instDecidableEq (@instDecidableEqProd _ _ dLi (@instDecidableEqProd _ _ dLi dLi))))
instance dStm : DecidableEq Stm := @instDecidableEqProd _ _ Int.instDecidableEq (@instDecidableEqProd _ _ Int.instDecidableEq (@instDecidableEqProd _ _ Int.instDecidableEq (@instDecidableEqProd _ _ Int.instDecidableEq instDecidableEqBool)))
instance dSt : DecidableEq St := @instDecidableEqProd _ _ Int.instDecidableEq instDecidableEqBool
instance dBd : DecidableEq (Int × Int) := @instDecidableEqProd _ _ Int.instDecidableEq Int.instDecidableEq
instance dT : DecidableEq (List St) := @instDecidableEqList _ dSt
instance dTs : DecidableEq (List (List St)) := @instDecidableEqList _ dT
instance dBs : DecidableEq (List (Int × Int)) := @instDecidableEqList _ dBd
instance dSgt : DecidableEq Sgt := @instDecidableEqProd _ _ Int.instDecidableEq (@instDecidableEqProd _ _ dBs (@instDecidableEqProd _ _ dTs dT))
instance dSs : DecidableEq (List Stm) := @instDecidableEqList _ dStm
instance dBlk : DecidableEq Blok := @instDecidableEqProd _ _ dSs dTm
instance dLs : DecidableEq (List Sgt) := @instDecidableEqList _ dSgt
instance dLb : DecidableEq (List Blok) := @instDecidableEqList _ dBlk
instance dBod : DecidableEq Bod := @instDecidableEqProd _ _ Int.instDecidableEq (@instDecidableEqProd _ _ Int.instDecidableEq (@instDecidableEqProd _ _ dBs (@instDecidableEqProd _ _ dTs (@instDecidableEqProd _ _ dT (@instDecidableEqProd _ _ dLs dLb)))))
structure Sz (b : Bod) : Prop where
  B : b.2.2.1.length ≤ 65536
  L : b.2.2.2.1.length ≤ 65536 ∧ ∀ t ∈ b.2.2.2.1, t.length ≤ 65536
  R : b.2.2.2.2.1.length ≤ 65536
  S : b.2.2.2.2.2.1.length ≤ 65536 ∧ ∀ g ∈ b.2.2.2.2.2.1, g.2.1.length ≤ 65536 ∧ g.2.2.1.length ≤ 65536 ∧ (∀ t ∈ g.2.2.1, t.length ≤ 65536) ∧ g.2.2.2.length ≤ 65536
  X : b.2.2.2.2.2.2.length ≤ 65536 ∧ ∀ x ∈ b.2.2.2.2.2.2, x.1.length ≤ 65536 ∧ x.2.2.2.2.1.length ≤ 20 ∧ x.2.2.2.2.2.1.length ≤ 20 ∧ x.2.2.2.2.2.2.length ≤ 20
theorem Sz.zero : Sz zB := ⟨by simp, by simp, by simp, by simp, by simp⟩
theorem pmany_all {α : Type} {p : Ps α} {P : α → Prop} (hP : ∀ s x m, p s = .inr (x, m) → P x) : ∀ (n : Nat) (s : List UInt8) (l : List α) (m : Nat), pmany p n s = .inr (l, m) → l.length = n ∧ ∀ x ∈ l, P x
  | 0, s, l, m, h => by cases h; simp
  | n + 1, s, l, m, h => by
    obtain ⟨x, a, j, h1, h2, rfl⟩ := pb_inr h
    obtain ⟨ys, b, j', h3, h4, rfl⟩ := pb_inr h2
    cases h4
    obtain ⟨g1, g2⟩ := pmany_all hP n _ _ _ h3
    refine ⟨by simp [g1], fun y hy => ?_⟩
    rcases List.mem_cons.1 hy with rfl | hy
    · exact hP _ _ _ h1
    · exact g2 y hy
theorem plist_all {α : Type} {p : Ps α} {P : α → Prop} (hP : ∀ s x m, p s = .inr (x, m) → P x) {most : Int} {s : List UInt8} {l : List α} {m : Nat} (h : plist most p s = .inr (l, m)) : (l.length : Int) ≤ most ∧ ∀ x ∈ l, P x := by
  obtain ⟨n, a, j, h1, h2, rfl⟩ := pb_inr h
  obtain ⟨h3, h4⟩ := pcount_inr h1
  obtain ⟨_, n0, _⟩ := pnum_inr h3
  obtain ⟨g1, g2⟩ := pmany_all hP _ _ _ _ h2
  exact ⟨by omega, g2⟩
theorem Sz.of {s : List UInt8} {b : Bod} {m : Nat} (h : pbody s = .inr (b, m)) : Sz b := by
  obtain ⟨u, _, _, _, h, _⟩ := pb_inr h
  obtain ⟨n, _, _, _, h, _⟩ := pb_inr h
  obtain ⟨B, _, _, h1, h, _⟩ := pb_inr h
  obtain ⟨L, _, _, h2, h, _⟩ := pb_inr h
  obtain ⟨R, _, _, h3, h, _⟩ := pb_inr h
  obtain ⟨S, _, _, h4, h, _⟩ := pb_inr h
  obtain ⟨X, _, _, h5, h, _⟩ := pb_inr h
  cases h
  have ty (s x m) (h : ptype s = .inr (x, m)) : x.length ≤ 65536 := by have := (plist_all (P := fun _ => True) (fun _ _ _ _ => trivial) h).1; omega
  have k1 := (plist_all (P := fun _ => True) (fun _ _ _ _ => trivial) h1).1
  have k2 := plist_all (P := fun t => t.length ≤ 65536) ty h2
  have k4 := plist_all (P := fun (g : Sgt) => g.2.1.length ≤ 65536 ∧ g.2.2.1.length ≤ 65536 ∧ (∀ t ∈ g.2.2.1, t.length ≤ 65536) ∧ g.2.2.2.length ≤ 65536) (fun s g m h => by
    obtain ⟨n, _, _, _, h, _⟩ := pb_inr h
    obtain ⟨B, _, _, h1, h, _⟩ := pb_inr h
    obtain ⟨A, _, _, h2, h, _⟩ := pb_inr h
    obtain ⟨R, _, _, h3, h, _⟩ := pb_inr h
    cases h
    have k1 := (plist_all (P := fun _ => True) (fun _ _ _ _ => trivial) h1).1
    have k2 := plist_all (P := fun t => t.length ≤ 65536) ty h2
    refine ⟨?_, ?_, k2.2, ty _ _ _ h3⟩ <;> dsimp only at * <;> omega) h4
  have k5 := plist_all (P := fun (x : Blok) => x.1.length ≤ 65536 ∧ x.2.2.2.2.1.length ≤ 20 ∧ x.2.2.2.2.2.1.length ≤ 20 ∧ x.2.2.2.2.2.2.length ≤ 20) (fun s x m h => by
    obtain ⟨l, _, _, h1, h, _⟩ := pb_inr h
    obtain ⟨t, _, _, h2, h, _⟩ := pb_inr h
    cases h
    have k1 := (plist_all (P := fun _ => True) (fun _ _ _ _ => trivial) h1).1
    obtain ⟨_, q1, q2, q3⟩ := tForm_zero (pterm_inr h2).2.2.2.2.1
    refine ⟨?_, ?_, ?_, ?_⟩ <;> dsimp only at * <;> omega) h5
  refine ⟨?_, ⟨?_, k2.2⟩, ty _ _ _ h3, ⟨?_, k4.2⟩, ⟨?_, k5.2⟩⟩ <;> dsimp only at * <;> omega
theorem Sz.tk {s : List UInt8} : Sz (tk s).1 := by
  unfold Go.Proofs.YtmdmdmaekjpfjaaGreat.tk
  split
  · split
    · exact Sz.zero
    · rename_i h
      split
      · exact Sz.of h
      · exact Sz.zero
  · exact Sz.zero
theorem eqBounds (xa xb : List (Int × Int)) (hn : xa.length ≤ 1073741824) : fn_slices_Equal_api_Bound_api_Bound xa xb = some (decide (xa = xb)) := by
  unfold fn_slices_Equal_api_Bound_api_Bound
  by_cases hl : xa.length = xb.length
  · rw [dlen hl, cond_false, loop_alike (body := fn_slices_Equal_api_Bound_api_Bound_l1 xa xb) xa xb (.inr false) (.inl ()) hl ?_ ?_]
    · by_cases h : xa = xb <;> simp [h]
    · intro k hk
      have h2 : k < xb.length := by omega
      unfold fn_slices_Equal_api_Bound_api_Bound_l1
      simp only [dlt hk, cond_true, getN hk, getN h2, Option.bind_some, w64s hk (by omega : xa.length ≤ 9223372036854775807)]
      generalize xa[k] = a at *
      generalize xb[k] = b at *
      obtain ⟨a1, a2⟩ := a
      obtain ⟨b1, b2⟩ := b
      by_cases q1 : a1 = b1 <;> by_cases q2 : a2 = b2 <;> simp [q1, q2]
    · simp [fn_slices_Equal_api_Bound_api_Bound_l1]
  · rw [dlen' hl, cond_true]
    have : ¬ xa = xb := fun h => hl (by rw [h])
    simp [this]
theorem eqSlots (xa xb : List (St)) (hn : xa.length ≤ 1073741824) : fn_slices_Equal_api_Slot_api_Slot xa xb = some (decide (xa = xb)) := by
  unfold fn_slices_Equal_api_Slot_api_Slot
  by_cases hl : xa.length = xb.length
  · rw [dlen hl, cond_false, loop_alike (body := fn_slices_Equal_api_Slot_api_Slot_l1 xa xb) xa xb (.inr false) (.inl ()) hl ?_ ?_]
    · by_cases h : xa = xb <;> simp [h]
    · intro k hk
      have h2 : k < xb.length := by omega
      unfold fn_slices_Equal_api_Slot_api_Slot_l1
      simp only [dlt hk, cond_true, getN hk, getN h2, Option.bind_some, w64s hk (by omega : xa.length ≤ 9223372036854775807)]
      generalize xa[k] = a at *
      generalize xb[k] = b at *
      obtain ⟨a1, a2⟩ := a
      obtain ⟨b1, b2⟩ := b
      by_cases q1 : a1 = b1 <;> cases a2 <;> cases b2 <;> simp [q1]
    · simp [fn_slices_Equal_api_Slot_api_Slot_l1]
  · rw [dlen' hl, cond_true]
    have : ¬ xa = xb := fun h => hl (by rw [h])
    simp [this]
theorem rowSame20 (xa xb : List St) (hn : xa.length ≤ 1073741824) : fn_row_Same xa xb = some (decide (xa = xb)) := by
  unfold fn_row_Same; rw [eqSlots xa xb hn]; rfl
theorem eqTypes (xa xb : List (List St)) (hn : xa.length ≤ 1073741824) (h : ∀ t ∈ xa, t.length ≤ 1073741824) : fn_slices_EqualFunc_api_Type_api_Type_api_Type_api_Type_kk_row_Same xa xb = some (decide (xa = xb)) := by
  unfold fn_slices_EqualFunc_api_Type_api_Type_api_Type_api_Type_kk_row_Same
  by_cases hl : xa.length = xb.length
  · rw [dlen hl, cond_false, loop_alike (body := fn_slices_EqualFunc_api_Type_api_Type_api_Type_api_Type_kk_row_Same_l1 xa xb) xa xb (.inr false) (.inl ()) hl ?_ ?_]
    · by_cases h : xa = xb <;> simp [h]
    · intro k hk
      have h2 : k < xb.length := by omega
      unfold fn_slices_EqualFunc_api_Type_api_Type_api_Type_api_Type_kk_row_Same_l1
      simp only [dlt hk, cond_true, getN hk, getN h2, Option.bind_some, w64s hk (by omega : xa.length ≤ 9223372036854775807), rowSame20 _ _ (h _ (List.getElem_mem hk))]
      by_cases q : xa[k] = xb[k] <;> simp [q]
    · simp [fn_slices_EqualFunc_api_Type_api_Type_api_Type_api_Type_kk_row_Same_l1]
  · rw [dlen' hl, cond_true]
    have : ¬ xa = xb := fun h => hl (by rw [h])
    simp [this]
theorem sameSig20 (a b : Sgt) (h1 : a.2.1.length ≤ 1073741824) (h2 : a.2.2.1.length ≤ 1073741824) (h3 : ∀ t ∈ a.2.2.1, t.length ≤ 1073741824) (h4 : a.2.2.2.length ≤ 1073741824) : fn_body_sameSig a b = some (decide (a = b)) := by
  unfold fn_body_sameSig
  rw [eqBounds _ _ h1, eqTypes _ _ h2 h3, rowSame20 _ _ h4]
  obtain ⟨a1, a2, a3, a4⟩ := a
  obtain ⟨b1, b2, b3, b4⟩ := b
  dsimp only
  by_cases q1 : a1 = b1 <;> by_cases q2 : a2 = b2 <;> by_cases q3 : a3 = b3 <;> by_cases q4 : a4 = b4 <;> simp [q1, q2, q3, q4]
theorem eqSigs (xa xb : List (Sgt)) (hn : xa.length ≤ 1073741824) (h : ∀ g ∈ xa, g.2.1.length ≤ 65536 ∧ g.2.2.1.length ≤ 65536 ∧ (∀ t ∈ g.2.2.1, t.length ≤ 65536) ∧ g.2.2.2.length ≤ 65536) : fn_slices_EqualFunc_api_Sig_api_Sig_api_Sig_api_Sig_kk_body_sameSig xa xb = some (decide (xa = xb)) := by
  unfold fn_slices_EqualFunc_api_Sig_api_Sig_api_Sig_api_Sig_kk_body_sameSig
  by_cases hl : xa.length = xb.length
  · rw [dlen hl, cond_false, loop_alike (body := fn_slices_EqualFunc_api_Sig_api_Sig_api_Sig_api_Sig_kk_body_sameSig_l1 xa xb) xa xb (.inr false) (.inl ()) hl ?_ ?_]
    · by_cases h : xa = xb <;> simp [h]
    · intro k hk
      have h2 : k < xb.length := by omega
      unfold fn_slices_EqualFunc_api_Sig_api_Sig_api_Sig_api_Sig_kk_body_sameSig_l1
      simp only [dlt hk, cond_true, getN hk, getN h2, Option.bind_some, w64s hk (by omega : xa.length ≤ 9223372036854775807)]
      have hk' := h _ (List.getElem_mem hk)
      rw [show fn_body_sameSig (xa[k].1, xa[k].2.1, xa[k].2.2.1, xa[k].2.2.2) (xb[k].1, xb[k].2.1, xb[k].2.2.1, xb[k].2.2.2) = _ from sameSig20 xa[k] xb[k] (by omega) (by omega) (fun t ht => by have := hk'.2.2.1 t ht; omega) (by omega)]
      by_cases q : xa[k] = xb[k] <;> simp [q]
    · simp [fn_slices_EqualFunc_api_Sig_api_Sig_api_Sig_api_Sig_kk_body_sameSig_l1]
  · rw [dlen' hl, cond_true]
    have : ¬ xa = xb := fun h => hl (by rw [h])
    simp [this]
theorem eqStmts (xa xb : List (Stm)) (hn : xa.length ≤ 1073741824) : fn_slices_Equal_api_Stmt_api_Stmt xa xb = some (decide (xa = xb)) := by
  unfold fn_slices_Equal_api_Stmt_api_Stmt
  by_cases hl : xa.length = xb.length
  · rw [dlen hl, cond_false, loop_alike (body := fn_slices_Equal_api_Stmt_api_Stmt_l1 xa xb) xa xb (.inr false) (.inl ()) hl ?_ ?_]
    · by_cases h : xa = xb <;> simp [h]
    · intro k hk
      have h2 : k < xb.length := by omega
      unfold fn_slices_Equal_api_Stmt_api_Stmt_l1
      simp only [dlt hk, cond_true, getN hk, getN h2, Option.bind_some, w64s hk (by omega : xa.length ≤ 9223372036854775807)]
      have e : ((decide (xa[k].1 = xb[k].1)) && ((decide (xa[k].2.1 = xb[k].2.1)) && ((decide (xa[k].2.2.1 = xb[k].2.2.1)) && ((decide (xa[k].2.2.2.1 = xb[k].2.2.2.1)) && (xa[k].2.2.2.2 == xb[k].2.2.2.2))))) = decide (xa[k] = xb[k]) := by
        rw [Bool.eq_iff_iff]; simp [Prod.ext_iff]
      rw [e]
      by_cases q : xa[k] = xb[k] <;> simp [q]
    · simp [fn_slices_Equal_api_Stmt_api_Stmt_l1]
  · rw [dlen' hl, cond_true]
    have : ¬ xa = xb := fun h => hl (by rw [h])
    simp [this]
theorem sameBlock20 (a b : Blok) (h1 : a.1.length ≤ 1073741824) (h2 : a.2.2.2.2.1.length ≤ 20) (h3 : a.2.2.2.2.2.1.length ≤ 20) (h4 : a.2.2.2.2.2.2.length ≤ 20) : fn_body_sameBlock a b = some (decide (a = b)) := by
  unfold fn_body_sameBlock
  rw [eqStmts _ _ h1, tSame_both, show fn_ref19_Same (a.2.1, a.2.2.1, a.2.2.2.1, a.2.2.2.2.1, a.2.2.2.2.2.1, a.2.2.2.2.2.2) (b.2.1, b.2.2.1, b.2.2.2.1, b.2.2.2.2.1, b.2.2.2.2.2.1, b.2.2.2.2.2.2) = _ from tSame_eq a.2 b.2 h2 h3 h4]
  obtain ⟨a1, a2⟩ := a
  obtain ⟨b1, b2⟩ := b
  dsimp only
  by_cases q1 : a1 = b1 <;> by_cases q2 : a2 = b2 <;> simp [q1, q2]
theorem eqBlocks (xa xb : List (Blok)) (hn : xa.length ≤ 1073741824) (h : ∀ x ∈ xa, x.1.length ≤ 65536 ∧ x.2.2.2.2.1.length ≤ 20 ∧ x.2.2.2.2.2.1.length ≤ 20 ∧ x.2.2.2.2.2.2.length ≤ 20) : fn_slices_EqualFunc_api_Block_api_Block_api_Block_api_Block_kk_body_sameBlock xa xb = some (decide (xa = xb)) := by
  unfold fn_slices_EqualFunc_api_Block_api_Block_api_Block_api_Block_kk_body_sameBlock
  by_cases hl : xa.length = xb.length
  · rw [dlen hl, cond_false, loop_alike (body := fn_slices_EqualFunc_api_Block_api_Block_api_Block_api_Block_kk_body_sameBlock_l1 xa xb) xa xb (.inr false) (.inl ()) hl ?_ ?_]
    · by_cases h : xa = xb <;> simp [h]
    · intro k hk
      have h2 : k < xb.length := by omega
      unfold fn_slices_EqualFunc_api_Block_api_Block_api_Block_api_Block_kk_body_sameBlock_l1
      simp only [dlt hk, cond_true, getN hk, getN h2, Option.bind_some, w64s hk (by omega : xa.length ≤ 9223372036854775807)]
      have hk' := h _ (List.getElem_mem hk)
      rw [show fn_body_sameBlock ((xa[k].1, (xa[k].2.1, xa[k].2.2.1, xa[k].2.2.2.1, xa[k].2.2.2.2.1, xa[k].2.2.2.2.2.1, xa[k].2.2.2.2.2.2))) ((xb[k].1, (xb[k].2.1, xb[k].2.2.1, xb[k].2.2.2.1, xb[k].2.2.2.2.1, xb[k].2.2.2.2.2.1, xb[k].2.2.2.2.2.2))) = _ from sameBlock20 xa[k] xb[k] (by omega) (by omega) (by omega) (by omega)]
      by_cases q : xa[k] = xb[k] <;> simp [q]
    · simp [fn_slices_EqualFunc_api_Block_api_Block_api_Block_api_Block_kk_body_sameBlock_l1]
  · rw [dlen' hl, cond_true]
    have : ¬ xa = xb := fun h => hl (by rw [h])
    simp [this]
theorem bodySame_eq (a b : Bod) (h : Sz a) : fn_body_Same a b = some (decide (a = b)) := by
  unfold fn_body_Same
  have hL := h.L; have hS := h.S; have hX := h.X
  rw [eqBounds _ _ (by have := h.B; omega), eqTypes _ _ (by omega) (fun t ht => by have := hL.2 t ht; omega), rowSame20 _ _ (by have := h.R; omega), eqSigs _ _ (by omega) hS.2, eqBlocks _ _ (by omega) hX.2]
  obtain ⟨a1, a2, a3, a4, a5, a6, a7⟩ := a
  obtain ⟨b1, b2, b3, b4, b5, b6, b7⟩ := b
  dsimp only
  by_cases q1 : a1 = b1 <;> by_cases q2 : a2 = b2 <;> by_cases q3 : a3 = b3 <;> by_cases q4 : a4 = b4 <;> by_cases q5 : a5 = b5 <;> by_cases q6 : a6 = b6 <;> by_cases q7 : a7 = b7 <;> simp [q1, q2, q3, q4, q5, q6, q7]
theorem l2_eq (x y : Blok) (h1 : x.1.length ≤ 65536) (hl : x.1.length = y.1.length) : loop (fn_ref20_Same_l2 x y) 0 = some (if x.1 = y.1 then (.inl () : Unit ⊕ (Int ⊕ (Unit ⊕ Bool))) else .inr (.inr (.inr false))) := by
  rw [loop_alike (body := fn_ref20_Same_l2 x y) x.1 y.1 (.inr (.inr (.inr false))) (.inl ()) hl ?_ ?_]
  · intro k hk
    have h2 : k < y.1.length := by omega
    unfold fn_ref20_Same_l2
    simp only [dlt hk, cond_true, getN hk, getN h2, Option.bind_some, w64s hk (by omega : x.1.length ≤ 9223372036854775807)]
    have e : ((decide (x.1[k].1 = y.1[k].1)) && ((decide (x.1[k].2.1 = y.1[k].2.1)) && ((decide (x.1[k].2.2.1 = y.1[k].2.2.1)) && ((decide (x.1[k].2.2.2.1 = y.1[k].2.2.2.1)) && (x.1[k].2.2.2.2 == y.1[k].2.2.2.2))))) = decide (x.1[k] = y.1[k]) := by
      rw [Bool.eq_iff_iff]; simp [Prod.ext_iff]
    rw [e]
    by_cases q : x.1[k] = y.1[k] <;> simp [q]
  · simp [fn_ref20_Same_l2]
theorem refSame20_eq (a b : Bod) (h : Sz a) : fn_ref20_Same a b = some (decide (a = b)) := by
  unfold fn_ref20_Same
  have hB := h.B; have hL := h.L; have hR := h.R; have hS := h.S; have hX := h.X
  rw [refBounds_eq _ _ (by omega), refTypes_eq _ _ (by omega) (fun t ht => by have := hL.2 t ht; omega), same15_eq _ _ (by omega)]
  by_cases q6 : a.2.2.2.2.2.1.length = b.2.2.2.2.2.1.length
  · by_cases q7 : a.2.2.2.2.2.2.length = b.2.2.2.2.2.2.length
    · have e1 : loop (fn_ref20_Same_l1 a b) 0 = some (if a.2.2.2.2.2.1 = b.2.2.2.2.2.1 then (.inl () : Unit ⊕ Bool) else .inr false) := by
        rw [loop_alike (body := fn_ref20_Same_l1 a b) a.2.2.2.2.2.1 b.2.2.2.2.2.1 (.inr false) (.inl ()) q6 ?_ ?_]
        · intro k hk
          have h2 : k < b.2.2.2.2.2.1.length := by omega
          have hk' := hS.2 _ (List.getElem_mem hk)
          unfold fn_ref20_Same_l1
          simp only [dlt hk, cond_true, getN hk, getN h2, Option.bind_some, w64s hk (by omega : a.2.2.2.2.2.1.length ≤ 9223372036854775807)]
          rw [show fn_ref17_Same (a.2.2.2.2.2.1[k].1, a.2.2.2.2.2.1[k].2.1, a.2.2.2.2.2.1[k].2.2.1, a.2.2.2.2.2.1[k].2.2.2) (b.2.2.2.2.2.1[k].1, b.2.2.2.2.2.1[k].2.1, b.2.2.2.2.2.1[k].2.2.1, b.2.2.2.2.2.1[k].2.2.2) = _ from refSigSame_eq a.2.2.2.2.2.1[k] b.2.2.2.2.2.1[k] (by omega) (by omega) (fun t ht => by have := hk'.2.2.1 t ht; omega) (by omega)]
          by_cases q : a.2.2.2.2.2.1[k] = b.2.2.2.2.2.1[k] <;> simp [q]
        · simp [fn_ref20_Same_l1]
      have e2 : loop (fn_ref20_Same_l3 a b) 0 = some (if a.2.2.2.2.2.2 = b.2.2.2.2.2.2 then (.inl () : Unit ⊕ Bool) else .inr false) := by
        rw [loop_alike (body := fn_ref20_Same_l3 a b) a.2.2.2.2.2.2 b.2.2.2.2.2.2 (.inr false) (.inl ()) q7 ?_ ?_]
        · intro k hk
          have h2 : k < b.2.2.2.2.2.2.length := by omega
          have hk' := hX.2 _ (List.getElem_mem hk)
          unfold fn_ref20_Same_l3
          simp only [dlt hk, cond_true, getN hk, getN h2, Option.bind_some, w64s hk (by omega : a.2.2.2.2.2.2.length ≤ 9223372036854775807)]
          generalize a.2.2.2.2.2.2[k] = x at *
          generalize b.2.2.2.2.2.2[k] = y at *
          by_cases hl : x.1.length = y.1.length
          · rw [dlen hl, cond_false, show fn_ref19_Same (x.2.1, x.2.2.1, x.2.2.2.1, x.2.2.2.2.1, x.2.2.2.2.2.1, x.2.2.2.2.2.2) (y.2.1, y.2.2.1, y.2.2.2.1, y.2.2.2.2.1, y.2.2.2.2.2.1, y.2.2.2.2.2.2) = _ from tSame_eq x.2 y.2 hk'.2.1 hk'.2.2.1 hk'.2.2.2, l2_eq x y hk'.1 hl]
            obtain ⟨x1, x2⟩ := x
            obtain ⟨y1, y2⟩ := y
            dsimp only
            by_cases p1 : x1 = y1 <;> by_cases p2 : x2 = y2 <;> simp [p1, p2]
          · have : ¬ x = y := fun h => hl (by rw [h])
            rw [dlen' hl, cond_true, if_neg this]
        · simp [fn_ref20_Same_l3]
      rw [e1, e2, dlen q6, dlen q7]
      obtain ⟨a1, a2, a3, a4, a5, a6, a7⟩ := a
      obtain ⟨b1, b2, b3, b4, b5, b6, b7⟩ := b
      dsimp only
      by_cases p1 : a1 = b1 <;> by_cases p2 : a2 = b2 <;> by_cases p3 : a3 = b3 <;> by_cases p4 : a4 = b4 <;> by_cases p5 : a5 = b5 <;> by_cases p6 : a6 = b6 <;> by_cases p7 : a7 = b7 <;> simp [p1, p2, p3, p4, p5, p6, p7]
    · have : ¬ a = b := fun h => q7 (by rw [h])
      rw [dlen' q7, decide_eq_false this]
      generalize (!decide (a.1 = b.1) || !decide (a.2.1 = b.2.1)) = u
      generalize decide (a.2.2.1 = b.2.2.1) = v
      generalize decide (a.2.2.2.1 = b.2.2.2.1) = w
      generalize decide (a.2.2.2.2.1 = b.2.2.2.2.1) = z
      cases u <;> cases v <;> cases w <;> cases z <;> simp
  · have : ¬ a = b := fun h => q6 (by rw [h])
    rw [dlen' q6, decide_eq_false this]
    generalize (!decide (a.1 = b.1) || !decide (a.2.1 = b.2.1)) = u
    generalize decide (a.2.2.1 = b.2.2.1) = v
    generalize decide (a.2.2.2.1 = b.2.2.2.1) = w
    generalize decide (a.2.2.2.2.1 = b.2.2.2.2.1) = z
    cases u <;> cases v <;> cases w <;> cases z <;> simp
end Go.Proofs.YtmdmdmaekjpfjaaGreat
