/- Layer 21's law of what stays well-formed. -/
import Derived.Test.YtbaaamdljojknaaM21
import Derived.Test.YtbaaamdljojknaaP21a
namespace Go.Proofs.Ytbaaamdljojknaa
open Go.RowKit
set_option linter.unusedVariables false
set_option linter.unnecessarySimpa false
set_option linter.unusedSimpArgs false
set_option maxRecDepth 20000
theorem or0_iff {a b : Flt} : (or0 a b).1 = 0 ↔ a.1 = 0 ∧ b.1 = 0 := by
  unfold or0
  by_cases q : a.1 = 0
  · rw [if_pos q]; exact ⟨fun h => ⟨q, h⟩, fun h => h.2⟩
  · rw [if_neg q]; exact ⟨fun h => absurd h q, fun h => absurd h.1 q⟩
theorem lck_iff (b : Bo) : (lck b).1 = 0 ↔ (vHead b).1 = 0 ∧ (lB b).1 = 0 ∧ (lL b).1 = 0 ∧ (vRet b).1 = 0 ∧ (lS b).1 = 0 ∧ (lK b).1 = 0 ∧ (vCode b).1 = 0 := by
  unfold lck; simp only [or0_iff]
theorem okL {b : Bo} (hx : ∀ x ∈ b.2.2.2.2.2.2, x.1.length ≤ 140737488351232) : fn_valid_OK b = some (decide ((lck b).1 = 0)) ∧ fn_ref21_OK b = some (decide ((lck b).1 = 0)) := by
  obtain ⟨h1, h2⟩ := lCheck_eq hx
  constructor
  · unfold fn_valid_OK
    rw [show fn_valid_Check_az (b.1, b.2.1, b.2.2.1, b.2.2.2.1, b.2.2.2.2.1, b.2.2.2.2.2.1, b.2.2.2.2.2.2) = _ from h1]; rfl
  · unfold fn_ref21_OK
    rw [show fn_ref21_Check (b.1, b.2.1, b.2.2.1, b.2.2.2.1, b.2.2.2.2.1, b.2.2.2.2.2.1, b.2.2.2.2.2.2) = _ from h2]; rfl
theorem lB_iff (b : Bo) (h : b.2.2.1.length ≤ 65536) : (lB b).1 = 0 ↔ ∀ x ∈ b.2.2.1, bad1 b.1 x = false := by
  unfold lB vBounds
  rw [if_neg (by omega)]
  cases hf : b.2.2.1.findIdx? (bad1 b.1) with
  | none => exact ⟨fun _ x hx => by simpa using List.findIdx?_eq_none_iff.1 hf x hx, fun _ => rfl⟩
  | some k =>
    obtain ⟨hk, h5, _⟩ := List.findIdx?_eq_some_iff_getElem.1 hf
    refine ⟨fun h => by simp at h, fun h => ?_⟩
    rw [h _ (List.getElem_mem hk)] at h5; cases h5
theorem blkE_iff (b : Bo) (x : Blk) : blkE b x = none ↔ (∀ s ∈ x.1, sE b.2.2.2.1 b.2.1 s = 0) ∧ tE (arOf b) x.2 = 0 := by
  unfold blkE
  cases hf : x.1.findIdx? (fun s => !decide (sE b.2.2.2.1 b.2.1 s = 0)) with
  | some j =>
    obtain ⟨hj, h6, _⟩ := List.findIdx?_eq_some_iff_getElem.1 hf
    refine ⟨fun h => by simp at h, fun h => ?_⟩
    have := h.1 _ (List.getElem_mem hj)
    simp [this] at h6
  | none =>
    have hn : ∀ s ∈ x.1, sE b.2.2.2.1 b.2.1 s = 0 := fun s hs => by simpa using List.findIdx?_eq_none_iff.1 hf s hs
    by_cases q : tE (arOf b) x.2 = 0
    · exact ⟨fun _ => ⟨hn, q⟩, fun _ => by simp [q]⟩
    · simp [q]
theorem blkE_ne {b : Bo} {x : Blk} {e p j : Int} (h : blkE b x = some (e, p, j)) : e ≠ 0 := by
  unfold blkE at h
  cases hf : x.1.findIdx? (fun s => !decide (sE b.2.2.2.1 b.2.1 s = 0)) with
  | some j =>
    obtain ⟨hj, h6, _⟩ := List.findIdx?_eq_some_iff_getElem.1 hf
    have e2 : x.1.getD j (0, 0, 0, 0, false) = x.1[j] := by simp [List.getD, hj]
    rw [hf] at h
    simp only [e2, Option.some.injEq, Prod.mk.injEq] at h
    intro he; rw [← h.1] at he; simp [he] at h6
  | none =>
    rw [hf] at h
    by_cases q : tE (arOf b) x.2 = 0
    · simp [q] at h
    · simp only [if_neg q, Option.some.injEq, Prod.mk.injEq] at h
      intro he; exact q (h.1.trans he)
theorem vCode_iff (b : Bo) : (vCode b).1 = 0 ↔ ∀ x ∈ b.2.2.2.2.2.2, blkE b x = none := by
  unfold vCode
  cases hf : b.2.2.2.2.2.2.findIdx? (fun x => (blkE b x).isSome) with
  | none => exact ⟨fun _ x hx => by simpa using List.findIdx?_eq_none_iff.1 hf x hx, fun _ => rfl⟩
  | some k =>
    obtain ⟨hk, h5, _⟩ := List.findIdx?_eq_some_iff_getElem.1 hf
    have e : b.2.2.2.2.2.2.getD k ([], 0, 0, 0, [], [], []) = b.2.2.2.2.2.2[k] := by simp [List.getD, hk]
    simp only [e]
    refine ⟨fun h => ?_, fun h => ?_⟩
    · exfalso
      cases hb : blkE b b.2.2.2.2.2.2[k] with
      | none => simp [hb] at h5
      | some v =>
        obtain ⟨e1, p1, j1⟩ := v
        rw [hb] at h
        simp only [fltOf] at h
        exact blkE_ne hb h
    · rw [h _ (List.getElem_mem hk)] at h5; simp at h5
theorem lK_iff {b : Bo} (h1 : b.2.2.2.2.2.2 ≠ []) (h2 : b.2.2.2.2.2.2.length ≤ 65536) (h3 : stm b.2.2.2.2.2.2 ≤ 65536) : (lK b).1 = 0 := by
  unfold lK
  rw [if_neg h1, if_neg (by omega)]
  have : lkR b.2.2.2.2.2.2 = .inl () := by
    unfold lkR
    have : (List.range b.2.2.2.2.2.2.length).findSome? (fun k => if 65536 < stm (b.2.2.2.2.2.2.take (k + 1)) then some (.inr (6, 5, (k : Int), 0) : Unit ⊕ Flt) else none) = none := by
      rw [List.findSome?_eq_none_iff]
      intro k _
      have a2 := sum_take (fun x : Blk => x.1.length) b.2.2.2.2.2.2 (k + 1)
      have a3 : stm (b.2.2.2.2.2.2.take (k + 1)) ≤ stm b.2.2.2.2.2.2 := a2
      rw [if_neg (by omega)]
    rw [this]; rfl
  rw [this]
theorem stm_set (X : List Blk) (j : Nat) (hj : j < X.length) (y : Blk) (h : y.1.length ≤ X[j].1.length) : stm (X.set j y) ≤ stm X := by
  induction X generalizing j with
  | nil => simp at hj
  | cons x X ih =>
    cases j with
    | zero => unfold stm; simp at h ⊢; omega
    | succ j =>
      have := ih j (by simpa using hj) (by simpa using h)
      unfold stm at *
      simp at this ⊢; omega
theorem bad1_in (n : Int) (x : Int × Int) : decide (bad1 n x = false) = ((((decide (0 ≤ x.1)) && (decide (x.1 < n))) && (decide (0 ≤ x.2))) && (decide (x.2 < n))) := by
  rw [Bool.eq_iff_iff]
  unfold bad1
  simp only [decide_eq_true_eq, Bool.and_eq_true, Bool.or_eq_false_iff, decide_eq_false_iff_not]
  omega
theorem ValidStays_true (xa : Bo) (xb : Int × Int) (xc : Int) (xd : Int) (k0 : Tp.Ok tyBody xa) (k1 : Tp.Ok (.cons (.int .i64) (.one (.int .i64))) xb) (k2 : Tp.Ok (.int .i64) xc) (k3 : Tp.Ok (.int .i64) xd) (q0 : Tp.Fit tyBody xa) (q1 : Tp.Fit (.cons (.int .i64) (.one (.int .i64))) xb) (q2 : Tp.Fit (.int .i64) xc) (q3 : Tp.Fit (.int .i64) xd) : fn_law21_ValidStays xa xb xc xd = some true := by
  have hx := fit_body q0
  obtain ⟨o1, o2⟩ := okL hx
  have eb : (xa.1, xa.2.1, xa.2.2.1, xa.2.2.2.1, xa.2.2.2.2.1, xa.2.2.2.2.2.1, xa.2.2.2.2.2.2) = xa := rfl
  unfold fn_law21_ValidStays
  simp only [eb, o1, o2, awake21]
  rcases small20 xa hx with h | ⟨h, hs⟩
  · rw [h]; simp
  · rw [h]
    by_cases hz : (lck xa).1 = 0
    · obtain ⟨z1, z2, z3, z4, z5, z6, z7⟩ := (lck_iff xa).1 hz
      have hb0 := hs.bounds
      have hb3 := hs.blocks
      have hb4 := hs.many
      simp only [Option.bind_some, hz, decide_true, Bool.not_true, cond_false, cond_true]
      rw [app_eq (by simp; omega), Option.bind_some, app_eq (by simp; omega), Option.bind_some, Option.bind_some, List.nil_append]
      obtain ⟨m1, _⟩ := okL (b := (xa.1, xa.2.1, xa.2.2.1 ++ [(xb.1, xb.2)], xa.2.2.2.1, xa.2.2.2.2.1, xa.2.2.2.2.2.1, xa.2.2.2.2.2.2)) hx
      have hm : (lck (xa.1, xa.2.1, xa.2.2.1 ++ [(xb.1, xb.2)], xa.2.2.2.1, xa.2.2.2.2.1, xa.2.2.2.2.2.1, xa.2.2.2.2.2.2)).1 = 0 ↔ bad1 xa.1 xb = false := by
        rw [lck_iff]
        have hB := lB_iff (xa.1, xa.2.1, xa.2.2.1 ++ [(xb.1, xb.2)], xa.2.2.2.1, xa.2.2.2.2.1, xa.2.2.2.2.2.1, xa.2.2.2.2.2.2) (by simp; omega)
        have hA := (lB_iff xa (by omega)).1 z2
        rw [hB]
        refine ⟨fun hh => hh.2.1 xb (by simp), fun hh => ⟨z1, fun y hy => ?_, z3, z4, z5, z6, z7⟩⟩
        rcases List.mem_append.1 hy with q | q
        · exact hA y q
        · simp at q; subst q; exact hh
      have hd : decide ((lck (xa.1, xa.2.1, xa.2.2.1 ++ [(xb.1, xb.2)], xa.2.2.2.1, xa.2.2.2.2.1, xa.2.2.2.2.2.1, xa.2.2.2.2.2.2)).1 = 0) = ((((decide (0 ≤ xb.1)) && (decide (xb.1 < xa.1))) && (decide (0 ≤ xb.2))) && (decide (xb.2 < xa.1))) := by
        rw [decide_eq_decide.2 hm]
        exact bad1_in xa.1 xb
      rw [m1, Option.bind_some, hd]
      simp only [beq_self_eq_true, Bool.not_true, cond_false]
      by_cases hc : xc < 0 ∨ ((xa.2.2.2.2.2.2.length : Nat) : Int) ≤ xc ∨ xd < 0
      · have : ((decide (xc < 0) || decide (((xa.2.2.2.2.2.2.length : Nat) : Int) ≤ xc)) || decide (xd < 0)) = true := by simp; omega
        rw [this]; rfl
      · have : ((decide (xc < 0) || decide (((xa.2.2.2.2.2.2.length : Nat) : Int) ≤ xc)) || decide (xd < 0)) = false := by simp; omega
        rw [this, cond_false]
        obtain ⟨j, rfl⟩ : ∃ j : Nat, xc = (j : Int) := ⟨xc.toNat, by omega⟩
        obtain ⟨i, rfl⟩ : ∃ i : Nat, xd = (i : Int) := ⟨xd.toNat, by omega⟩
        have hj : j < xa.2.2.2.2.2.2.length := by omega
        simp only [getN hj, Option.bind_some]
        by_cases hi : xa.2.2.2.2.2.2[j].1.length ≤ i
        · rw [decide_eq_true (by omega)]; rfl
        · have hst := hs.stmts (List.getElem_mem hj)
          rw [decide_eq_false (by omega), cond_false, app_eq (by simp; omega), Option.bind_some, List.nil_append, subL_eq (by omega) (by omega) (by omega), Option.bind_some, w64 (by omega) (by omega), subL_eq (by omega) (by omega) (by omega), Option.bind_some]
          rw [app_eq (by simp; omega), Option.bind_some, List.nil_append, app_eq (by simp; omega), Option.bind_some, getN hj, Option.bind_some]
          generalize hy : ((xa.2.2.2.2.2.2[j].1.take (i : Int).toNat).drop (0 : Int).toNat ++ (xa.2.2.2.2.2.2[j].1.take (((xa.2.2.2.2.2.2[j].1.length : Nat) : Int)).toNat).drop ((i : Int) + 1).toNat) = ys
          have hyl : ys.length ≤ xa.2.2.2.2.2.2[j].1.length := by rw [← hy]; simp; omega
          have hym : ∀ s ∈ ys, s ∈ xa.2.2.2.2.2.2[j].1 := fun s hs => by
            rw [← hy] at hs
            rcases List.mem_append.1 hs with q | q
            · exact List.mem_of_mem_take (List.mem_of_mem_drop q)
            · exact List.mem_of_mem_take (List.mem_of_mem_drop q)
          have hX' : ∀ x ∈ xa.2.2.2.2.2.2.set (j : Int).toNat (ys, (xa.2.2.2.2.2.2[j].2.1, xa.2.2.2.2.2.2[j].2.2.1, xa.2.2.2.2.2.2[j].2.2.2.1, xa.2.2.2.2.2.2[j].2.2.2.2.1, xa.2.2.2.2.2.2[j].2.2.2.2.2.1, xa.2.2.2.2.2.2[j].2.2.2.2.2.2)), x.1.length ≤ 140737488351232 := fun x hxx => by
            rcases List.mem_or_eq_of_mem_set hxx with q | q
            · exact hx x q
            · subst q; have := hx _ (List.getElem_mem hj); show ys.length ≤ _; omega
          obtain ⟨n1, _⟩ := okL (b := (xa.1, xa.2.1, xa.2.2.1, xa.2.2.2.1, xa.2.2.2.2.1, xa.2.2.2.2.2.1, xa.2.2.2.2.2.2.set (j : Int).toNat (ys, (xa.2.2.2.2.2.2[j].2.1, xa.2.2.2.2.2.2[j].2.2.1, xa.2.2.2.2.2.2[j].2.2.2.1, xa.2.2.2.2.2.2[j].2.2.2.2.1, xa.2.2.2.2.2.2[j].2.2.2.2.2.1, xa.2.2.2.2.2.2[j].2.2.2.2.2.2)))) hX'
          rw [n1]
          have hcode := (vCode_iff xa).1 z7
          have hl : (lck (xa.1, xa.2.1, xa.2.2.1, xa.2.2.2.1, xa.2.2.2.2.1, xa.2.2.2.2.2.1, xa.2.2.2.2.2.2.set (j : Int).toNat (ys, (xa.2.2.2.2.2.2[j].2.1, xa.2.2.2.2.2.2[j].2.2.1, xa.2.2.2.2.2.2[j].2.2.2.1, xa.2.2.2.2.2.2[j].2.2.2.2.1, xa.2.2.2.2.2.2[j].2.2.2.2.2.1, xa.2.2.2.2.2.2[j].2.2.2.2.2.2)))).1 = 0 := by
            rw [lck_iff]
            refine ⟨z1, z2, z3, z4, z5, lK_iff ?_ (by simp; omega) ?_, (vCode_iff _).2 (fun x hxx => (blkE_iff _ _).2 ?_)⟩
            · show List.set _ _ _ ≠ []
              intro q
              have := congrArg List.length q
              simp at this; rw [this] at hj; simp at hj
            · have := stm_set xa.2.2.2.2.2.2 j hj (ys, (xa.2.2.2.2.2.2[j].2.1, xa.2.2.2.2.2.2[j].2.2.1, xa.2.2.2.2.2.2[j].2.2.2.1, xa.2.2.2.2.2.2[j].2.2.2.2.1, xa.2.2.2.2.2.2[j].2.2.2.2.2.1, xa.2.2.2.2.2.2[j].2.2.2.2.2.2)) hyl
              show stm (List.set _ _ _) ≤ _
              rw [Int.toNat_natCast]; omega
            · have ha : arOf (xa.1, xa.2.1, xa.2.2.1, xa.2.2.2.1, xa.2.2.2.2.1, xa.2.2.2.2.2.1, xa.2.2.2.2.2.2.set (j : Int).toNat (ys, (xa.2.2.2.2.2.2[j].2.1, xa.2.2.2.2.2.2[j].2.2.1, xa.2.2.2.2.2.2[j].2.2.2.1, xa.2.2.2.2.2.2[j].2.2.2.2.1, xa.2.2.2.2.2.2[j].2.2.2.2.2.1, xa.2.2.2.2.2.2[j].2.2.2.2.2.2))) = arOf xa := by
                unfold arOf; simp only [List.length_set]
              rw [ha]
              rcases List.mem_or_eq_of_mem_set hxx with q | q
              · exact (blkE_iff xa x).1 (hcode x q)
              · have := (blkE_iff xa _).1 (hcode _ (List.getElem_mem hj))
                subst q
                exact ⟨fun s hs => this.1 s (hym s hs), this.2⟩
          rw [hl]; rfl
    · simp [hz]
end Go.Proofs.Ytbaaamdljojknaa
