/- Layer 27's laws: what its constraints give at one small body. -/
import Derived.Test.YtelekeapfgfknaaQ27
namespace Go.Proofs.Ytelekeapfgfknaa
open Go.RowKit Nu
set_option linter.unusedVariables false
set_option linter.unnecessarySimpa false
set_option linter.unusedSimpArgs false
set_option maxRecDepth 20000
abbrev b27 : Bo := (1, 3, [], [[(1, false)], [(2, false)]], [(0, false)], [], [([(1, 0, 1, 0, false)], (3, 0, 0, [], [], []))])
theorem sm27 : Sm b27 := ⟨by decide, by decide, by decide, by decide, by decide, by decide, by decide, by decide, by decide⟩
theorem st27 : fn_ref18_Needs (1, 0, 1, 0, false) b27.2.2.2.1 b27.2.1 = some ([(2, 1, 1, 0, false)], 0) := by
  unfold fn_ref18_Needs
  rw [show fn_ref18_Form ((1 : Int), 0, 1, 0, false) = _ from refForm_eq (1, 0, 1, 0, false)]
  have e : fn_ref16_Flow [(2, false)] [(1, false)] 1 0 = some ([(2, 1, 1, 0, false)], 0) := by
    rw [refFlow_eq _ _ _ _ (by decide) (by decide) (by decide)]; rfl
  show ((fn_ref16_Flow [(2, false)] [(1, false)] 1 0).bind _) = _
  rw [e]; rfl
theorem tm27 : fn_ref19_Needs (3, 0, 0, [], [], []) (arOf b27) = some ([(1, 0, 7, 0, false)], 0) := by
  unfold fn_ref19_Needs
  rw [show fn_ref19_Form ((3 : Int), 0, 0, [], [], []) = _ from refTForm_eq (3, 0, 0, [], [], [])]
  simp only [refWithin_eq _ _ (show ([] : List Int).length ≤ 1000 by simp)]
  have e : fn_ref16_Flow [(1, false)] [(0, false)] 7 0 = some ([(1, 0, 7, 0, false)], 0) := by
    rw [refFlow_eq _ _ _ _ (by decide) (by decide) (by decide)]; rfl
  show ((fn_ref16_Flow [(1, false)] [(0, false)] 7 0).bind _) = _
  rw [e]; rfl
theorem vck27 : (vck b27).1 = 0 := by
  have hs : sE b27.2.2.2.1 b27.2.1 (1, 0, 1, 0, false) = 0 := by unfold sE; rw [st27]; rfl
  have hr : tE (arOf b27) (3, 0, 0, [], [], []) = 0 := by unfold tE; rw [tm27]; rfl
  have hc : vCode b27 = (0, 0, 0, 0) := by
    have h1 : blkE b27 ([(1, 0, 1, 0, false)], (3, 0, 0, [], [], [])) = none := by
      unfold blkE
      simp only [List.findIdx?_cons, hs, hr]
      rfl
    unfold vCode
    simp only [List.findIdx?_cons, h1]
    rfl
  unfold vck
  rw [hc]; rfl
theorem xs27 : xs b27 = b27.2.2.2.2.2.2 := by unfold xs; rw [if_pos vck27]
theorem egA27 : egA b27 = [(2, 1, (0, 0, 1, 0, false)), (1, 0, (0, 1, 7, 0, false))] := by
  unfold egA
  have h2 : bg (xs b27) (xs b27).length = 2 := by rw [xs27]; decide
  rw [h2]
  have hx : (xs b27).length = 1 := by rw [xs27]; rfl
  have e0 : (xs b27)[0]'(by omega) = ([(1, 0, 1, 0, false)], (3, 0, 0, [], [], [])) := by simp only [xs27]; rfl
  have bg0 : bg (xs b27) 0 = 0 := rfl
  have a0 := egN_at (b := b27) (j := 0) (k := 0) (by omega) (by omega)
  have a1 := egN_at (b := b27) (j := 0) (k := 1) (by omega) (by rw [e0]; decide)
  rw [bg0, e0] at a0 a1
  have n0 : nds b27 ([(1, 0, 1, 0, false)], (3, 0, 0, [], [], [])) 0 = [(2, 1, 1, 0, false)] := by
    unfold nds
    rw [dif_pos (by decide)]
    show ((fn_ref18_Needs (1, 0, 1, 0, false) b27.2.2.2.1 b27.2.1).getD ([], 0)).1 = _
    rw [st27]; rfl
  have n1 : nds b27 ([(1, 0, 1, 0, false)], (3, 0, 0, [], [], [])) 1 = [(1, 0, 7, 0, false)] := by
    unfold nds
    rw [dif_neg (by decide), tm27]; rfl
  unfold egs at a0 a1
  rw [n0] at a0; rw [n1] at a1
  show ([] ++ egN b27 0) ++ egN b27 1 = _
  rw [show egN b27 0 = _ from a0, show egN b27 1 = _ from a1]; rfl
theorem awake27 : fn_law27_awake = some true := by
  unfold fn_law27_awake
  have t0 : text 0 = [48] := by decide +kernel
  have t1 : text 1 = [49] := by decide +kernel
  have t2 : text 2 = [50] := by decide +kernel
  have p1 : pedge (2, 1, (0, 0, 1, 0, false)) = [50, 58, 49, 32, 97, 116, 32, 48, 46, 48, 32, 102, 108, 111, 119, 32, 48] := by
    unfold pedge pair ptext words; simp only [t0, t1, t2]; decide +kernel
  have p2 : pedge (1, 0, (0, 1, 7, 0, false)) = [49, 58, 48, 32, 97, 116, 32, 48, 46, 49, 32, 111, 117, 116, 32, 48] := by
    unfold pedge pair ptext words; simp only [t0, t1, t2]; decide +kernel
  rw [show fn_cons_Of_az (1, 3, [], [[(1, false)], [(2, false)]], [(0, false)], [], [([(1, 0, 1, 0, false)], (3, 0, 0, [], [], []))]) = _ from consOf_eq sm27, Option.bind_some, consLines_eq _ (by have := egA_len sm27; omega) (egA_ok sm27), egA27]
  simp only [Option.bind_some, List.map_cons, List.map_nil, p1, p2]
  rfl
end Go.Proofs.Ytelekeapfgfknaa
