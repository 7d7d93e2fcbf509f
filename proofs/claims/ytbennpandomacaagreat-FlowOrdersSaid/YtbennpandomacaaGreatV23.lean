/- A body's flow, and the reference's steps: the same graph. -/
import Derived.Test.YtbennpandomacaaGreatQ23
namespace Go.Proofs.YtbennpandomacaaGreat
open Go.RowKit
set_option linter.unusedVariables false
set_option linter.unnecessarySimpa false
set_option linter.unusedSimpArgs false
set_option maxRecDepth 20000
abbrev ptsOf (X : List Blk) : Pts := some (bgs X, ((bg X X.length : Nat) : Int))
abbrev arcs (X : List Blk) : ArG := arcN X (bg X X.length)
theorem arcs_bound {X : List Blk} (hT : Tos X) {n : Nat} (hn : n ≤ bg X X.length) : (arcN X n).length ≤ 1024 := by
  have h1 := arcN_len X n
  have h2 := hT.pts
  have : n * bg X X.length ≤ 32 * 32 := Nat.mul_le_mul (by omega) h2
  omega
theorem ai_snoc (E : ArG) (n : Nat) (H : List Nat) : ai (E ++ H.map (fun m => (n, m))) = ai E ++ (li H).map (fun x => ((n : Int), x)) := by
  simp [ai, li, Function.comp_def]
theorem arcN_at {X : List Blk} {j k : Nat} (hj : j < X.length) (hk : k ≤ X[j].1.length) : arcN X (bg X j + k + 1) = arcN X (bg X j + k) ++ ((List.range (bg X X.length)).filter (gs X j k)).map (fun m => (bg X j + k, m)) := by
  simp only [arcN, nxp_at hj hk]
theorem gs_mid {X : List Blk} {j k : Nat} (hj : j < X.length) (hk : k < X[j].1.length) : (List.range (bg X X.length)).filter (gs X j k) = [bg X j + k + 1] := by
  have h1 := bg_succ hj
  have h2 := bg_mono X (i := j + 1) (j := X.length) hj (Nat.le_refl _)
  have : gs X j k = fun m => decide (m = bg X j + k + 1) := by
    funext m; unfold gs; rw [blk_get hj, if_neg (by omega)]
  rw [this, filter_one _ _ (by omega)]
theorem new_inner {n : Nat} {H : List Nat} {E : ArG} (hl : E.length + H.length ≤ 1000000) : loop (fn_flow_New_l1 (n : Int) (li H)) (ai E, 0) = some (ai (E ++ H.map (fun m => (n, m)))) := by
  have := loop_map (li H) (fun x : Int => ((n : Int), x)) (ai E) (by rw [ai_len, li_len]; omega) (body := fn_flow_New_l1 (n : Int) (li H)) (fun c i => by
    unfold fn_flow_New_l1
    cases hg : getI (li H) i with
    | none => simp [hg]
    | some x => simp [hg])
  rw [this, ai_snoc]
theorem begins_eq {X : List Blk} (h : X.length ≤ 1000) : fn_point_Points_Begins (ptsOf X) = some (bgs X) := by
  have hc : ∀ l : List Int, l.length ≤ 1073741824 → fn_slices_Clone_int_int l = some l := fun l hl => clone_eq l hl
  unfold fn_point_Points_Begins ptsOf
  simp only [Option.isNone_some, cond_false, Option.bind_some]
  rw [hc _ (by rw [bgs_len]; omega)]; rfl
theorem flowNew_eq {b : Bo} (h : Sm b) : fn_flow_New b = some (flG (ptsOf (xs b)) (bg (xs b) (xs b).length) (arcs (xs b))) := by
  have hT := xs_tos h
  have h32 := hT.pts
  have h8 := hT.few
  unfold fn_flow_New
  rw [show fn_point_New (b.1, b.2.1, b.2.2.1, b.2.2.2.1, b.2.2.2.2.1, b.2.2.2.2.2.1, b.2.2.2.2.2.2) = _ from pointNew_eq h]
  have e1 : fn_point_Points_Len (ptsOf (xs b)) = some ((bg (xs b) (xs b).length : Nat) : Int) := rfl
  simp only [Option.bind_some, begins_eq (show (xs b).length ≤ 1000 by omega), e1]
  have hl := loop_nat (body := fn_flow_New_l2 b (ptsOf (xs b)) ((bg (xs b) (xs b).length : Nat) : Int)) (fun n : Nat => (bgs (xs b), ai (arcN (xs b) n), (n : Int))) (bg (xs b) (xs b).length) (b := ai (arcs (xs b))) ?_ ?_
  · rw [show loop (fn_flow_New_l2 b (ptsOf (xs b)) ((bg (xs b) (xs b).length : Nat) : Int)) (bgs (xs b), [], 0) = _ from hl]
    simp only [Option.bind_some]
    have hin := arcN_in (xs b) _ (Nat.le_refl _)
    have hb := arcs_bound hT (Nat.le_refl _)
    rw [show fn_graph_New ((bg (xs b) (xs b).length : Nat) : Int) (ai (arcs (xs b))) = _ from New_ok (N := bg (xs b) (xs b).length) (E := arcs (xs b)) hin (by omega) (Nat.le_trans hb (by decide))]; rfl
  · intro n hn
    obtain ⟨j, k, hj, hk, rfl, _⟩ := locate (xs b) (xs b).length (Nat.le_refl _) n hn
    obtain ⟨hv, ex⟩ := xs_eq hj
    have hb := arcs_bound hT (Nat.le_of_lt hn)
    have hat := at_eq (X := xs b) (by omega) (by omega) hj hk
    have hen := ends_eq (X := xs b) (by omega) (by omega) hj hk
    have hfl : ((List.range (bg (xs b) (xs b).length)).filter (gs (xs b) j k)).length ≤ 32 := Nat.le_trans (List.length_filter_le _ _) (by simp; omega)
    have hin := new_inner (n := bg (xs b) j + k) (H := (List.range (bg (xs b) (xs b).length)).filter (gs (xs b) j k)) (E := arcN (xs b) (bg (xs b) j + k)) (by omega)
    rw [← arcN_at hj hk] at hin
    unfold fn_flow_New_l2
    simp only [dlt hn, cond_true, hat, hen, Option.bind_some]
    by_cases q : k = (xs b)[j].1.length
    · have hgb : getI b.2.2.2.2.2.2 (j : Int) = some (xs b)[j] := by rw [← ex]; exact getN hj
      have hh := heads_eq hT hj
      rw [← q] at hh
      simp only [decide_eq_true q, cond_true, hgb, Option.bind_some]
      rw [show fn_flow_heads ((xs b)[j].2.1, (xs b)[j].2.2.1, (xs b)[j].2.2.2.1, (xs b)[j].2.2.2.2.1, (xs b)[j].2.2.2.2.2.1, (xs b)[j].2.2.2.2.2.2) (bgs (xs b)) = _ from hh]
      simp only [Option.bind_some, hin, w64s hn (by omega)]
    · have hkl : k < (xs b)[j].1.length := by omega
      rw [gs_mid hj hkl] at hin
      simp only [decide_eq_false q, cond_false, Option.bind_some, w64s hn (by omega)]
      rw [show ([((bg (xs b) j + k + 1 : Nat) : Int)] : List Int) = li [bg (xs b) j + k + 1] from rfl, hin]; rfl
  · unfold fn_flow_New_l2
    simp only [dge (show ¬ bg (xs b) (xs b).length < bg (xs b) (xs b).length by omega), cond_false]
theorem goes_eq {b : Bo} (h : Sm b) {j k m : Nat} (hj : j < (xs b).length) (hk : k ≤ (xs b)[j].1.length) : fn_ref23_Goes b (alls (xs b)) ((bg (xs b) j + k : Nat) : Int) (m : Int) = some (gs (xs b) j k m) := by
  have hT := xs_tos h
  have h32 := hT.pts
  obtain ⟨hv, ex⟩ := xs_eq hj
  have hg : getI (alls (xs b)) ((bg (xs b) j + k : Nat) : Int) = some ((j : Int), (k : Int), decide (k = (xs b)[j].1.length)) := by
    have := alls_get (xs b) hj hk
    unfold getI; rw [if_pos (by omega), Int.toNat_natCast, this]
  have h1 := bg_succ hj
  have h2 := bg_mono (xs b) (i := j + 1) (j := (xs b).length) hj (Nat.le_refl _)
  have hgb : getI b.2.2.2.2.2.2 (j : Int) = some (xs b)[j] := by rw [← ex]; exact getN hj
  unfold fn_ref23_Goes
  simp only [hg, Option.bind_some]
  unfold gs
  rw [blk_get hj]
  by_cases q : k = (xs b)[j].1.length
  · simp only [decide_eq_true q, Bool.not_true, cond_false, hgb, Option.bind_some]
    rw [if_pos q]
    have hm : (xs b)[j] ∈ xs b := List.getElem_mem hj
    have hlen := hT.len _ hm
    have hgd := hT.good _ hm
    rw [loop_some (xs b)[j].2.2.2.2.1 (fun t => decide (bg (xs b) t.toNat = m)) (.inr true) (.inl ()) ?_ ?_]
    · cases ((xs b)[j].2.2.2.2.1).any (fun t => decide (bg (xs b) t.toNat = m)) <;> rfl
    · intro i hi
      obtain ⟨t0, t1⟩ := hgd _ (List.getElem_mem hi)
      have e : fn_ref22_Of (alls (xs b)) (xs b)[j].2.2.2.2.1[i] 0 = some (((bg (xs b) ((xs b)[j].2.2.2.2.1[i]).toNat : Nat) : Int), true) := by
        have := refOf_eq (X := xs b) (by omega) (j := ((xs b)[j].2.2.2.2.1[i]).toNat) (k := 0) (by omega) (by omega)
        rwa [Int.toNat_of_nonneg t0] at this
      unfold fn_ref23_Goes_l1
      simp only [dlt hi, cond_true, getN hi, Option.bind_some, e, Bool.true_and, w64s hi (by omega : (xs b)[j].2.2.2.2.1.length ≤ 9223372036854775807)]
      by_cases c : bg (xs b) ((xs b)[j].2.2.2.2.1[i]).toNat = m
      · simp [c]
      · have c' : ¬ ((bg (xs b) ((xs b)[j].2.2.2.2.1[i]).toNat : Nat) : Int) = (m : Int) := by omega
        simp [c, c']
    · unfold fn_ref23_Goes_l1
      simp
  · simp only [decide_eq_false q, Bool.not_false, cond_true]
    rw [if_neg q, w64 (by omega) (by omega)]
    congr 1
    by_cases c : m = bg (xs b) j + k + 1
    · rw [decide_eq_true c, decide_eq_true (by omega)]
    · rw [decide_eq_false c, decide_eq_false (by omega)]
theorem refArcs23_eq {b : Bo} (h : Sm b) : fn_ref23_Arcs b = some (ai (arcs (xs b))) := by
  have hT := xs_tos h
  have h32 := hT.pts
  have hal := alls_len (xs b)
  unfold fn_ref23_Arcs
  rw [show fn_ref22_All (b.1, b.2.1, b.2.2.1, b.2.2.2.1, b.2.2.2.2.1, b.2.2.2.2.2.1, b.2.2.2.2.2.2) = _ from refAll_eq h]
  simp only [Option.bind_some]
  have hl := loop_nat (body := fn_ref23_Arcs_l2 b (alls (xs b))) (fun n : Nat => (ai (arcN (xs b) n), (n : Int))) (bg (xs b) (xs b).length) (b := ai (arcs (xs b))) ?_ ?_
  · rw [show loop (fn_ref23_Arcs_l2 b (alls (xs b))) ([], 0) = _ from hl]; rfl
  · intro n hn
    obtain ⟨j, k, hj, hk, rfl, _⟩ := locate (xs b) (xs b).length (Nat.le_refl _) n hn
    have hb := arcs_bound hT (Nat.le_of_lt hn)
    have hin := loop_nat (body := fn_ref23_Arcs_l1 b (alls (xs b)) ((bg (xs b) j + k : Nat) : Int)) (fun i : Nat => (ai (arcN (xs b) (bg (xs b) j + k) ++ ((List.range i).filter (gs (xs b) j k)).map (fun m => (bg (xs b) j + k, m))), (i : Int))) (bg (xs b) (xs b).length) (b := ai (arcN (xs b) (bg (xs b) j + k + 1))) ?_ ?_
    · unfold fn_ref23_Arcs_l2
      simp only [hal, dlt hn, cond_true]
      have hin' : loop (fn_ref23_Arcs_l1 b (alls (xs b)) ((bg (xs b) j + k : Nat) : Int)) (ai (arcN (xs b) (bg (xs b) j + k)), 0) = some (ai (arcN (xs b) (bg (xs b) j + k + 1))) := by simpa using hin
      rw [hin', Option.bind_some, w64s hn (by omega)]
    · intro i hi
      have hfl : ((List.range i).filter (gs (xs b) j k)).length ≤ 32 := Nat.le_trans (List.length_filter_le _ _) (by simp; omega)
      unfold fn_ref23_Arcs_l1
      simp only [hal, dlt hi, cond_true, show fn_ref23_Goes (b.1, b.2.1, b.2.2.1, b.2.2.2.1, b.2.2.2.2.1, b.2.2.2.2.2.1, b.2.2.2.2.2.2) (alls (xs b)) ((bg (xs b) j + k : Nat) : Int) (i : Int) = _ from goes_eq h hj hk, Option.bind_some, w64s hi (by omega : bg (xs b) (xs b).length ≤ 9223372036854775807)]
      rw [List.range_succ, List.filter_append]
      cases hgi : gs (xs b) j k i with
      | true =>
        rw [cond_true, app_eq (by rw [ai_len]; simp; omega), Option.bind_some]
        have e : [i].filter (gs (xs b) j k) = [i] := by simp [hgi]
        rw [e]
        simp [ai]
      | false =>
        have e : [i].filter (gs (xs b) j k) = [] := by simp [hgi]
        rw [e, List.append_nil]; rfl
    · unfold fn_ref23_Arcs_l1
      simp only [hal, dge (show ¬ bg (xs b) (xs b).length < bg (xs b) (xs b).length by omega), cond_false, arcN_at hj hk]
  · unfold fn_ref23_Arcs_l2
    simp only [hal, dge (show ¬ bg (xs b) (xs b).length < bg (xs b) (xs b).length by omega), cond_false]
end Go.Proofs.YtbennpandomacaaGreat
