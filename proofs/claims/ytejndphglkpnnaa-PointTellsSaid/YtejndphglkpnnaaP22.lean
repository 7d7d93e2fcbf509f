/- Layer 22's laws. -/
import Derived.Test.YtejndphglkpnnaaQ22
import Derived.Test.YtejndphglkpnnaaQ01
namespace Go.Proofs.Ytejndphglkpnnaa
open Go.RowKit
set_option linter.unusedVariables false
set_option linter.unnecessarySimpa false
set_option linter.unusedSimpArgs false
abbrev b22 : Bo := (1, 1, [], [[]], [], [], [([(0, 0, 0, 0, false), (0, 0, 0, 0, false)], (3, 0, 0, [], [], [])), ([], (3, 0, 0, [], [], []))])
theorem sm22 : Sm b22 := ⟨by decide, by decide, by decide, by decide, by decide, by decide, by decide, by decide, by decide⟩
theorem vck22 : (vck b22).1 = 0 := by
  have hr : tE (arOf b22) (3, 0, 0, [], [], []) = 0 := tE_ret (t := []) (L := []) rfl rfl (by simp)
  have hc : vCode b22 = (0, 0, 0, 0) := by
    have h1 : blkE b22 ([(0, 0, 0, 0, false), (0, 0, 0, 0, false)], (3, 0, 0, [], [], [])) = none := by
      unfold blkE
      simp only [List.findIdx?_cons, sE_nop, hr]
      rfl
    have h2 : blkE b22 ([], (3, 0, 0, [], [], [])) = none := by
      unfold blkE
      simp only [hr]
      rfl
    unfold vCode
    simp only [List.findIdx?_cons, h1, h2]
    rfl
  unfold vck
  rw [hc]; rfl
theorem awake22 : fn_law22_awake = some true := by
  unfold fn_law22_awake
  rw [show fn_point_New (1, 1, [], [[]], [], [], [([(0, 0, 0, 0, false), (0, 0, 0, 0, false)], (3, 0, 0, [], [], [])), ([], (3, 0, 0, [], [], []))]) = _ from pointNew_eq sm22]
  have hx : xs b22 = b22.2.2.2.2.2.2 := by unfold xs; rw [if_pos vck22]
  rw [hx]
  have hb : bg b22.2.2.2.2.2.2 b22.2.2.2.2.2.2.length = 4 := by decide
  have a1 := at_eq (X := b22.2.2.2.2.2.2) (by decide) (by decide) (j := 1) (k := 0) (by decide) (by decide)
  have a2 := ends_eq (X := b22.2.2.2.2.2.2) (by decide) (by decide) (j := 0) (k := 2) (by decide) (by decide)
  have a3 := ends_eq (X := b22.2.2.2.2.2.2) (by decide) (by decide) (j := 0) (k := 1) (by decide) (by decide)
  rw [Option.bind_some, show fn_point_Points_At _ 3 = _ from a1, show fn_point_Points_Ends _ 2 = _ from a2, show fn_point_Points_Ends _ 1 = _ from a3]
  rfl
theorem clone_eq (l : List Int) (h : l.length ≤ 1000000) : fn_slices_Clone_int_int l = some l := by
  unfold fn_slices_Clone_int_int
  rw [app_eq (by simp; omega), nilb_eq (fun e => by subst e; rfl)]
  simp
def cnt (X : List Blk) : Nat → Nat
  | 0 => 0
  | n + 1 => cnt X n + if ((alls X).getD n (0, 0, false)).2.1 = 0 then 1 else 0
theorem alls_getD (X : List Blk) {j k : Nat} (hj : j < X.length) (hk : k ≤ X[j].1.length) : (alls X).getD (bg X j + k) (0, 0, false) = ((j : Int), (k : Int), decide (k = X[j].1.length)) := by
  have := alls_get X hj hk
  simp [List.getD, this]
theorem cnt_in (X : List Blk) {j : Nat} (hj : j < X.length) (h0 : cnt X (bg X j) = j) : ∀ k, k ≤ X[j].1.length → cnt X (bg X j + k + 1) = j + 1
  | 0, hk => by
    show cnt X (bg X j) + (if ((alls X).getD (bg X j + 0) (0, 0, false)).2.1 = 0 then 1 else 0) = j + 1
    rw [alls_getD X hj hk, h0]; rfl
  | k + 1, hk => by
    have ih := cnt_in X hj h0 k (by omega)
    show cnt X (bg X j + k + 1) + (if ((alls X).getD (bg X j + (k + 1)) (0, 0, false)).2.1 = 0 then 1 else 0) = j + 1
    rw [alls_getD X hj hk, ih, if_neg (by dsimp only; omega)]
theorem cnt_bg (X : List Blk) : ∀ j, j ≤ X.length → cnt X (bg X j) = j
  | 0, _ => by simp [bg, stm, cnt]
  | j + 1, h => by
    have ih := cnt_bg X j (by omega)
    rw [bg_succ (show j < X.length by omega)]
    exact cnt_in X (by omega) ih _ (Nat.le_refl _)
theorem begins_loop {X : List Blk} (hX : X.length ≤ 1000) (hb : bg X X.length ≤ 100000) : loop (fn_law22_PointTells_l1 (alls X)) ([], 0, 0) = some (bgs X, ((X.length : Nat) : Int)) := by
  have hl := alls_len X
  have hL := loop_nat (body := fn_law22_PointTells_l1 (alls X)) (fun n : Nat => ((bgs X).take (cnt X n), ((cnt X n : Nat) : Int), (n : Int))) (alls X).length (b := (bgs X, ((X.length : Nat) : Int))) ?_ ?_
  · exact hL
  · intro n hn
    obtain ⟨j, k, hj, hk, rfl, _⟩ := locate X X.length (Nat.le_refl _) n (by omega)
    have hg := alls_get X hj hk
    rw [List.getElem?_eq_getElem hn] at hg
    have hc := cnt_in X hj (cnt_bg X j (by omega)) k hk
    unfold fn_law22_PointTells_l1
    simp only [dlt hn, cond_true, getN hn, Option.bind_some, Option.some.inj hg, w64s hn (by omega : (alls X).length ≤ 9223372036854775807), hc]
    cases k with
    | zero =>
      have h0 := cnt_bg X j (by omega)
      rw [Nat.add_zero, h0, show decide (((0 : Nat) : Int) = 0) = true from rfl, cond_true, app_eq (by simp; omega), Option.bind_some, w64 (by omega) (by omega)]
      have e : (bgs X).take (j + 1) = (bgs X).take j ++ [((bg X j : Nat) : Int)] := by
        rw [take_snoc (by rw [bgs_len]; exact hj)]; simp [bgs]
      rw [e]; rfl
    | succ k =>
      have h0 := cnt_in X hj (cnt_bg X j (by omega)) k (by omega)
      have h1 : cnt X (bg X j + (k + 1)) = j + 1 := h0
      rw [decide_eq_false (by omega), cond_false, h1]
  · have h1 := cnt_bg X X.length (Nat.le_refl _)
    unfold fn_law22_PointTells_l1
    dsimp only
    rw [decide_eq_false (by omega), cond_false, hl, h1, List.take_of_length_le (by rw [bgs_len]; exact Nat.le_refl _)]
theorem PointTells_true (xa : Bo) (xb : Int) (xc : Int) (xd : Int) (k0 : Tp.Ok tyBody xa) (k1 : Tp.Ok (.int .i64) xb) (k2 : Tp.Ok (.int .i64) xc) (k3 : Tp.Ok (.int .i64) xd) (q0 : Tp.Fit tyBody xa) (q1 : Tp.Fit (.int .i64) xb) (q2 : Tp.Fit (.int .i64) xc) (q3 : Tp.Fit (.int .i64) xd) : fn_law22_PointTells xa xb xc xd = some true := by
  unfold fn_law22_PointTells
  rcases small20 xa (fit_body q0) with h | ⟨h, hs⟩
  · rw [show fn_ref20_Small (xa.1, xa.2.1, xa.2.2.1, xa.2.2.2.1, xa.2.2.2.2.1, xa.2.2.2.2.2.1, xa.2.2.2.2.2.2) = some false from h, awake22]; rfl
  · rw [show fn_ref20_Small (xa.1, xa.2.1, xa.2.2.1, xa.2.2.2.1, xa.2.2.2.2.1, xa.2.2.2.2.2.1, xa.2.2.2.2.2.2) = some true from h, show fn_point_New (xa.1, xa.2.1, xa.2.2.1, xa.2.2.2.1, xa.2.2.2.2.1, xa.2.2.2.2.2.1, xa.2.2.2.2.2.2) = _ from pointNew_eq hs, show fn_ref22_All (xa.1, xa.2.1, xa.2.2.1, xa.2.2.2.1, xa.2.2.2.2.1, xa.2.2.2.2.2.1, xa.2.2.2.2.2.2) = _ from refAll_eq hs]
    obtain ⟨hb, hX⟩ := xs_bound hs (Nat.le_refl _)
    generalize xs xa = X at *
    have hl := alls_len X
    simp only [Option.bind_some, Bool.not_true, cond_false]
    rw [begins_loop (by omega) (by omega), Option.bind_some]
    have hOf : ∃ m t, fn_point_Points_Of (some (bgs X, ((bg X X.length : Nat) : Int))) xc xd = some (m, t) ∧ fn_ref22_Of (alls X) xc xd = some (m, t) := by
      by_cases hc : ∃ (j k : Nat) (hj : j < X.length), xc = (j : Int) ∧ xd = (k : Int) ∧ k ≤ X[j].1.length
      · obtain ⟨j, k, hj, rfl, rfl, hk⟩ := hc
        exact ⟨_, _, of_eq (by omega) (by omega) hj hk, refOf_eq (by omega) hj hk⟩
      · exact ⟨_, _, of_none (by omega) (by omega) hc, refOf_none (by omega) hc⟩
    obtain ⟨m, t, o1, o2⟩ := hOf
    have e1 : fn_point_Points_Len (some (bgs X, ((bg X X.length : Nat) : Int))) = some ((bg X X.length : Nat) : Int) := rfl
    have e2 : fn_point_Points_Blocks (some (bgs X, ((bg X X.length : Nat) : Int))) = some ((X.length : Nat) : Int) := by
      unfold fn_point_Points_Blocks; simp [bgs_len]
    have e3 : fn_point_Points_Begins (some (bgs X, ((bg X X.length : Nat) : Int))) = some (bgs X) := by
      unfold fn_point_Points_Begins
      simp only [Option.isNone_some, cond_false, Option.bind_some]
      rw [clone_eq _ (by rw [bgs_len]; omega)]; rfl
    rw [o1, o2, e1, e2, e3, hl]
    simp only [Option.bind_some, decide_true, Bool.not_true, cond_false, Bool.false_or, beq_self_eq_true, same01_eq (bgs X) (bgs X) (by rw [bgs_len]; omega), awake22]
    by_cases hn : xb < 0 ∨ ((bg X X.length : Nat) : Int) ≤ xb
    · have : (decide (xb < 0) || decide (((bg X X.length : Nat) : Int) ≤ xb)) = true := by simpa using hn
      rw [at_none hn, ends_none hn, Option.bind_some]
      simp only [this, cond_true]
      rfl
    · have : (decide (xb < 0) || decide (((bg X X.length : Nat) : Int) ≤ xb)) = false := by simpa using hn
      obtain ⟨n, rfl⟩ := Int.eq_ofNat_of_zero_le (show 0 ≤ xb by omega)
      obtain ⟨j, k, hj, hk, rfl, _⟩ := locate X X.length (Nat.le_refl _) n (by omega)
      have hn' : bg X j + k < (alls X).length := by omega
      have hg := alls_get X hj hk
      rw [List.getElem?_eq_getElem hn'] at hg
      rw [at_eq (by omega) (by omega) hj hk, ends_eq (by omega) (by omega) hj hk, Option.bind_some]
      simp only [this, cond_false, getN hn', Option.bind_some, Option.some.inj hg]
      simp
def ends (X : List Blk) : Nat → Nat
  | 0 => 0
  | n + 1 => ends X n + if ((alls X).getD n (0, 0, false)).2.2 then 1 else 0
theorem ends_in (X : List Blk) {j : Nat} (hj : j < X.length) (h0 : ends X (bg X j) = j) : ∀ k, k ≤ X[j].1.length → ends X (bg X j + k) = j
  | 0, hk => h0
  | k + 1, hk => by
    have ih := ends_in X hj h0 k (by omega)
    show ends X (bg X j + k) + (if ((alls X).getD (bg X j + k) (0, 0, false)).2.2 then 1 else 0) = j
    rw [alls_getD X hj (by omega), ih, if_neg (by simp; omega)]
    rfl
theorem ends_bg (X : List Blk) : ∀ j, j ≤ X.length → ends X (bg X j) = j
  | 0, _ => by simp [bg, stm, ends]
  | j + 1, h => by
    have ih := ends_bg X j (by omega)
    have hj : j < X.length := by omega
    have h1 := ends_in X hj ih X[j].1.length (Nat.le_refl _)
    rw [bg_succ hj]
    show ends X (bg X j + X[j].1.length) + (if ((alls X).getD (bg X j + X[j].1.length) (0, 0, false)).2.2 then 1 else 0) = j + 1
    rw [alls_getD X hj (Nat.le_refl _), h1]; simp
theorem ends_le (X : List Blk) {j k : Nat} (hj : j < X.length) (hk : k ≤ X[j].1.length) : ends X (bg X j + k) = j := ends_in X hj (ends_bg X j (by omega)) k hk
theorem PointBack_true (xa : Bo) (k0 : Tp.Ok tyBody xa) (q0 : Tp.Fit tyBody xa) : fn_law22_PointBack xa = some true := by
  unfold fn_law22_PointBack
  rcases small20 xa (fit_body q0) with h | ⟨h, hs⟩
  · rw [show fn_ref20_Small (xa.1, xa.2.1, xa.2.2.1, xa.2.2.2.1, xa.2.2.2.2.1, xa.2.2.2.2.2.1, xa.2.2.2.2.2.2) = some false from h, awake22]; rfl
  · rw [show fn_ref20_Small (xa.1, xa.2.1, xa.2.2.1, xa.2.2.2.1, xa.2.2.2.2.1, xa.2.2.2.2.2.1, xa.2.2.2.2.2.2) = some true from h, show fn_point_New (xa.1, xa.2.1, xa.2.2.1, xa.2.2.2.1, xa.2.2.2.2.1, xa.2.2.2.2.2.1, xa.2.2.2.2.2.2) = _ from pointNew_eq hs]
    obtain ⟨hb, hX⟩ := xs_bound hs (Nat.le_refl _)
    generalize xs xa = X at *
    have hl := alls_len X
    simp only [Option.bind_some, Bool.not_true, cond_false]
    have e1 : fn_point_Points_Len (some (bgs X, ((bg X X.length : Nat) : Int))) = some ((bg X X.length : Nat) : Int) := rfl
    have e2 : fn_point_Points_Blocks (some (bgs X, ((bg X X.length : Nat) : Int))) = some ((X.length : Nat) : Int) := by
      unfold fn_point_Points_Blocks; simp [bgs_len]
    have hL := loop_nat (body := fn_law22_PointBack_l1 (some (bgs X, ((bg X X.length : Nat) : Int)))) (fun n : Nat => (((ends X n : Nat) : Int), (n : Int))) (bg X X.length) (b := .inl ((X.length : Nat) : Int)) ?_ ?_
    · have hL' : loop (fn_law22_PointBack_l1 (some (bgs X, ((bg X X.length : Nat) : Int)))) (0, 0) = some (.inl ((X.length : Nat) : Int)) := hL
      rw [hL', e2, awake22]
      simp only [Option.bind_some, decide_true, cond_true]
      rfl
    · intro n hn
      obtain ⟨j, k, hj, hk, rfl, _⟩ := locate X X.length (Nat.le_refl _) n (by omega)
      have hc := ends_le X hj hk
      unfold fn_law22_PointBack_l1
      simp only [e1, Option.bind_some, dlt hn, cond_true, at_eq (show X.length ≤ 1000 by omega) (by omega) hj hk, of_eq (show X.length ≤ 1000 by omega) (by omega) hj hk, ends_eq (show X.length ≤ 1000 by omega) (by omega) hj hk, decide_true, Bool.not_true, Bool.or_self, cond_false]
      by_cases q : k = X[j].1.length
      · have h1 : ends X (bg X j + k + 1) = ends X (bg X j + k) + 1 := by
          show ends X (bg X j + k) + (if ((alls X).getD (bg X j + k) (0, 0, false)).2.2 then 1 else 0) = _
          rw [alls_getD X hj hk]; simp [q]
        rw [decide_eq_true q, cond_true, w64 (by omega) (by omega), w64 (by omega) (by omega), h1]
        rfl
      · have h1 : ends X (bg X j + k + 1) = ends X (bg X j + k) := by
          show ends X (bg X j + k) + (if ((alls X).getD (bg X j + k) (0, 0, false)).2.2 then 1 else 0) = _
          rw [alls_getD X hj hk]; simp [q]
        rw [decide_eq_false q, cond_false, w64 (by omega) (by omega), h1]
        rfl
    · have he := ends_bg X X.length (Nat.le_refl _)
      unfold fn_law22_PointBack_l1
      dsimp only
      rw [e1, Option.bind_some, decide_eq_false (by omega), cond_false, he]
end Go.Proofs.Ytejndphglkpnnaa
