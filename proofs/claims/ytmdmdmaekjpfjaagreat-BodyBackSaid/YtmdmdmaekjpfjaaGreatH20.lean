import Derived.Test.YtmdmdmaekjpfjaaGreatG20
namespace Go.Proofs.YtmdmdmaekjpfjaaGreat
open Go.RowKit Lb
set_option linter.unusedVariables false
set_option linter.unnecessarySimpa false
set_option linter.unusedSimpArgs false
instance dLi : DecidableEq (List Int) := instDecidableEqList
instance dTm : DecidableEq Tm := @instDecidableEqProd _ _ Int.instDecidableEq (@instDecidableEqProd _ _ Int.instDecidableEq (@instDecidableEqProd _ _ Int.instDecidableEq (@instDecidableEqProd _ _ dLi (@instDecidableEqProd _ _ dLi dLi))))
instance dStm : DecidableEq Stm := @instDecidableEqProd _ _ Int.instDecidableEq (@instDecidableEqProd _ _ Int.instDecidableEq (@instDecidableEqProd _ _ Int.instDecidableEq (@instDecidableEqProd _ _ Int.instDecidableEq instDecidableEqBool)))
instance dSt : DecidableEq St := @instDecidableEqProd _ _ Int.instDecidableEq instDecidableEqBool
instance dBd : DecidableEq (Int × Int) := @instDecidableEqProd _ _ Int.instDecidableEq Int.instDecidableEq
instance dT : DecidableEq (List St) := @instDecidableEqList _ dSt
instance dTs : DecidableEq (List (List St)) := @instDecidableEqList _ dT
instance dBs : DecidableEq (List (Int × Int)) := @instDecidableEqList _ dBd
instance dSgt : DecidableEq Sgt := @instDecidableEqProd _ _ Int.instDecidableEq (@instDecidableEqProd _ _ dBs (@instDecidableEqProd _ _ dTs dT))
instance dSs : DecidableEq (List Stm) := @instDecidableEqList _ dStm
instance dBlk : DecidableEq Blok := @instDecidableEqProd _ _ dSs dTm
instance dLs : DecidableEq (List Sgt) := @instDecidableEqList _ dSgt
instance dLb : DecidableEq (List Blok) := @instDecidableEqList _ dBlk
instance dBod : DecidableEq Bod := @instDecidableEqProd _ _ Int.instDecidableEq (@instDecidableEqProd _ _ Int.instDecidableEq (@instDecidableEqProd _ _ dBs (@instDecidableEqProd _ _ dTs (@instDecidableEqProd _ _ dT (@instDecidableEqProd _ _ dLs dLb)))))
structure Sz (b : Bod) : Prop where
  B : b.2.2.1.length ≤ 65536
  L : b.2.2.2.1.length ≤ 65536 ∧ ∀ t ∈ b.2.2.2.1, t.length ≤ 65536
  R : b.2.2.2.2.1.length ≤ 65536
  S : b.2.2.2.2.2.1.length ≤ 65536 ∧ ∀ g ∈ b.2.2.2.2.2.1, g.2.1.length ≤ 65536 ∧ g.2.2.1.length ≤ 65536 ∧ (∀ t ∈ g.2.2.1, t.length ≤ 65536) ∧ g.2.2.2.length ≤ 65536
  X : b.2.2.2.2.2.2.length ≤ 65536 ∧ ∀ x ∈ b.2.2.2.2.2.2, x.1.length ≤ 65536 ∧ x.2.2.2.2.1.length ≤ 20 ∧ x.2.2.2.2.2.1.length ≤ 20 ∧ x.2.2.2.2.2.2.length ≤ 20
theorem l2_eq (x y : Blok) (h1 : x.1.length ≤ 65536) (hl : x.1.length = y.1.length) : loop (fn_ref20_Same_l2 x y) 0 = some (if x.1 = y.1 then (.inl () : Unit ⊕ (Int ⊕ (Unit ⊕ Bool))) else .inr (.inr (.inr false))) := by
  rw [loop_alike (body := fn_ref20_Same_l2 x y) x.1 y.1 (.inr (.inr (.inr false))) (.inl ()) hl ?_ ?_]
  · intro k hk
    have h2 : k < y.1.length := by omega
    unfold fn_ref20_Same_l2
    simp only [dlt hk, cond_true, getN hk, getN h2, Option.bind_some, w64s hk (by omega : x.1.length ≤ 9223372036854775807)]
    have e : ((decide (x.1[k].1 = y.1[k].1)) && ((decide (x.1[k].2.1 = y.1[k].2.1)) && ((decide (x.1[k].2.2.1 = y.1[k].2.2.1)) && ((decide (x.1[k].2.2.2.1 = y.1[k].2.2.2.1)) && (x.1[k].2.2.2.2 == y.1[k].2.2.2.2))))) = decide (x.1[k] = y.1[k]) := by
      rw [Bool.eq_iff_iff]; simp [Prod.ext_iff]
    rw [e]
    by_cases q : x.1[k] = y.1[k] <;> simp [q]
  · simp [fn_ref20_Same_l2]
theorem refSame20_eq (a b : Bod) (h : Sz a) : fn_ref20_Same a b = some (decide (a = b)) := by
  unfold fn_ref20_Same
  have hB := h.B; have hL := h.L; have hR := h.R; have hS := h.S; have hX := h.X
  rw [refBounds_eq _ _ (by omega), refTypes_eq _ _ (by omega) (fun t ht => by have := hL.2 t ht; omega), same15_eq _ _ (by omega)]
  by_cases q6 : a.2.2.2.2.2.1.length = b.2.2.2.2.2.1.length
  · by_cases q7 : a.2.2.2.2.2.2.length = b.2.2.2.2.2.2.length
    · have e1 : loop (fn_ref20_Same_l1 a b) 0 = some (if a.2.2.2.2.2.1 = b.2.2.2.2.2.1 then (.inl () : Unit ⊕ Bool) else .inr false) := by
        rw [loop_alike (body := fn_ref20_Same_l1 a b) a.2.2.2.2.2.1 b.2.2.2.2.2.1 (.inr false) (.inl ()) q6 ?_ ?_]
        · intro k hk
          have h2 : k < b.2.2.2.2.2.1.length := by omega
          have hk' := hS.2 _ (List.getElem_mem hk)
          unfold fn_ref20_Same_l1
          simp only [dlt hk, cond_true, getN hk, getN h2, Option.bind_some, w64s hk (by omega : a.2.2.2.2.2.1.length ≤ 9223372036854775807)]
          rw [show fn_ref17_Same (a.2.2.2.2.2.1[k].1, a.2.2.2.2.2.1[k].2.1, a.2.2.2.2.2.1[k].2.2.1, a.2.2.2.2.2.1[k].2.2.2) (b.2.2.2.2.2.1[k].1, b.2.2.2.2.2.1[k].2.1, b.2.2.2.2.2.1[k].2.2.1, b.2.2.2.2.2.1[k].2.2.2) = _ from refSigSame_eq a.2.2.2.2.2.1[k] b.2.2.2.2.2.1[k] (by omega) (by omega) (fun t ht => by have := hk'.2.2.1 t ht; omega) (by omega)]
          by_cases q : a.2.2.2.2.2.1[k] = b.2.2.2.2.2.1[k] <;> simp [q]
        · simp [fn_ref20_Same_l1]
      have e2 : loop (fn_ref20_Same_l3 a b) 0 = some (if a.2.2.2.2.2.2 = b.2.2.2.2.2.2 then (.inl () : Unit ⊕ Bool) else .inr false) := by
        rw [loop_alike (body := fn_ref20_Same_l3 a b) a.2.2.2.2.2.2 b.2.2.2.2.2.2 (.inr false) (.inl ()) q7 ?_ ?_]
        · intro k hk
          have h2 : k < b.2.2.2.2.2.2.length := by omega
          have hk' := hX.2 _ (List.getElem_mem hk)
          unfold fn_ref20_Same_l3
          simp only [dlt hk, cond_true, getN hk, getN h2, Option.bind_some, w64s hk (by omega : a.2.2.2.2.2.2.length ≤ 9223372036854775807)]
          generalize a.2.2.2.2.2.2[k] = x at *
          generalize b.2.2.2.2.2.2[k] = y at *
          by_cases hl : x.1.length = y.1.length
          · rw [dlen hl, cond_false, show fn_ref19_Same (x.2.1, x.2.2.1, x.2.2.2.1, x.2.2.2.2.1, x.2.2.2.2.2.1, x.2.2.2.2.2.2) (y.2.1, y.2.2.1, y.2.2.2.1, y.2.2.2.2.1, y.2.2.2.2.2.1, y.2.2.2.2.2.2) = _ from tSame_eq x.2 y.2 hk'.2.1 hk'.2.2.1 hk'.2.2.2, l2_eq x y hk'.1 hl]
            obtain ⟨x1, x2⟩ := x
            obtain ⟨y1, y2⟩ := y
            dsimp only
            by_cases p1 : x1 = y1 <;> by_cases p2 : x2 = y2 <;> simp [p1, p2]
          · have : ¬ x = y := fun h => hl (by rw [h])
            rw [dlen' hl, cond_true, if_neg this]
        · simp [fn_ref20_Same_l3]
      rw [e1, e2, dlen q6, dlen q7]
      obtain ⟨a1, a2, a3, a4, a5, a6, a7⟩ := a
      obtain ⟨b1, b2, b3, b4, b5, b6, b7⟩ := b
      dsimp only
      by_cases p1 : a1 = b1 <;> by_cases p2 : a2 = b2 <;> by_cases p3 : a3 = b3 <;> by_cases p4 : a4 = b4 <;> by_cases p5 : a5 = b5 <;> by_cases p6 : a6 = b6 <;> by_cases p7 : a7 = b7 <;> simp [p1, p2, p3, p4, p5, p6, p7]
    · have : ¬ a = b := fun h => q7 (by rw [h])
      rw [dlen' q7, decide_eq_false this]
      generalize (!decide (a.1 = b.1) || !decide (a.2.1 = b.2.1)) = u
      generalize decide (a.2.2.1 = b.2.2.1) = v
      generalize decide (a.2.2.2.1 = b.2.2.2.1) = w
      generalize decide (a.2.2.2.2.1 = b.2.2.2.2.1) = z
      cases u <;> cases v <;> cases w <;> cases z <;> simp
  · have : ¬ a = b := fun h => q6 (by rw [h])
    rw [dlen' q6, decide_eq_false this]
    generalize (!decide (a.1 = b.1) || !decide (a.2.1 = b.2.1)) = u
    generalize decide (a.2.2.1 = b.2.2.1) = v
    generalize decide (a.2.2.2.1 = b.2.2.2.1) = w
    generalize decide (a.2.2.2.2.1 = b.2.2.2.2.1) = z
    cases u <;> cases v <;> cases w <;> cases z <;> simp
end Go.Proofs.YtmdmdmaekjpfjaaGreat
