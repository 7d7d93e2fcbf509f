/- What layer 21's laws share. -/
import Derived.Test.YtbaaamdljojknaaW21
namespace Go.Proofs.Ytbaaamdljojknaa
open Go.RowKit
set_option linter.unusedVariables false
set_option linter.unnecessarySimpa false
set_option linter.unusedSimpArgs false
theorem tE_ret {a : Ar} {t : List St} {L : List (List St)} (h : a.2.2.1 = t :: L) (hs : shp t a.2.2.2.1 = true) (ht : t.length ≤ 20) : tE a (3, 0, 0, [], [], []) = 0 := by
  unfold tE
  have : ∃ l, fn_ref19_Needs (3, 0, 0, [], [], []) a = some (l, 0) := by
    unfold fn_ref19_Needs
    rw [show fn_ref19_Form ((3 : Int), 0, 0, [], [], []) = _ from refTForm_eq (3, 0, 0, [], [], [])]
    simp only [refWithin_eq _ _ (show ([] : List Int).length ≤ 1000 by simp)]
    have h0 : getI a.2.2.1 0 = some t := by rw [h]; rfl
    have h1 : ¬ ((a.2.2.1.length : Nat) : Int) = 0 := by rw [h]; simp; omega
    have h2 : ¬ a.2.2.1 = [] := by rw [h]; simp
    rw [h0]
    simp only [Option.bind_some]
    rw [refFlow_eq t a.2.2.2.1 7 0 (by omega) (by decide) (by decide), hs]
    refine ⟨rel 7 0 t a.2.2.2.1, ?_⟩
    have e1 : tForm (3, 0, 0, [], [], []) = 0 := by decide
    have e2 : ∀ n, bad n [] = false := fun n => rfl
    simp [e1, e2, h1, h2]
  obtain ⟨l, hl⟩ := this
  rw [hl]; rfl
theorem smAll (u n : Int) (L : List (List St)) (X : List Blk) (hL : L.length ≤ 10) (hl : ∀ t ∈ L, t.length ≤ 20) (hX : X.length ≤ 8) (ht : ∀ x ∈ X, x.2.2.2.2.1.length ≤ 20 ∧ x.2.2.2.2.2.1.length ≤ 20 ∧ x.2.2.2.2.2.2.length ≤ 20) (hm : stm X ≤ 24) : Sm (u, n, [], L, [], [], X) :=
  ⟨by simp, hL, hl, by simp, by simp, by simp, hX, ht, hm⟩
abbrev b21 : Bo := (1, 1, [], [[]], [], [], [([], (3, 0, 0, [], [], []))])
theorem vck21 : (vck b21).1 = 0 := by
  have hr : tE (arOf b21) (3, 0, 0, [], [], []) = 0 := tE_ret (t := []) (L := []) rfl rfl (by simp)
  have hc : vCode b21 = (0, 0, 0, 0) := by
    have h2 : blkE b21 ([], (3, 0, 0, [], [], [])) = none := by
      unfold blkE
      simp only [hr]
      rfl
    unfold vCode
    simp only [List.findIdx?_cons, h2]
    rfl
  unfold vck
  rw [hc]; rfl
theorem awake21 : fn_law21_awake = some true := by
  unfold fn_law21_awake fn_valid_OK
  have s1 : Sm (0, 0, [], [], [], [], []) := smAll 0 0 [] [] (by simp) (by simp) (by simp) (by simp) (by simp [stm])
  have s2 : Sm (1, 1, [], [], [], [], []) := smAll 1 1 [] [] (by simp) (by simp) (by simp) (by simp) (by simp [stm])
  have s3 : Sm b21 := smAll 1 1 [[]] _ (by simp) (by simp) (by simp) (by simp) (by simp [stm])
  have v1 : vck (0, 0, [], [], [], [], []) = (7, 0, 0, 0) := rfl
  have v2 : vck (1, 1, [], [], [], [], []) = (14, 2, 0, 0) := rfl
  have v3 := vck21
  rw [show fn_valid_Check_az (0, 0, [], [], [], [], []) = _ from validCheck_eq s1, show fn_valid_Check_az (1, 1, [], [], [], [], []) = _ from validCheck_eq s2, v1, v2]
  simp only [Option.bind_some]
  rw [show fn_valid_Check_az (1, 1, [], [[]], [], [], [([], (3, 0, 0, [], [], []))]) = _ from validCheck_eq s3]
  simp only [Option.bind_some]
  rw [v3]
  rfl
end Go.Proofs.Ytbaaamdljojknaa
