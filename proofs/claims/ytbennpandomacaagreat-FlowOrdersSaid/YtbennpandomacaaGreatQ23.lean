/- What layer 23's functions compute (flow), in plain words. -/
import Derived.Test.YtbennpandomacaaGreatQ22
import Derived.Test.YtbennpandomacaaGreatR10
import Derived.Test.YtbennpandomacaaGreatO23
namespace Go.Proofs.YtbennpandomacaaGreat
open Go.RowKit
set_option linter.unusedVariables false
set_option linter.unnecessarySimpa false
set_option linter.unusedSimpArgs false
set_option maxRecDepth 20000
abbrev nob : Blk := ([], 0, 0, 0, [], [], [])
/-- Does one go from the k-th point of the j-th block to m? -/
def gs (X : List Blk) (j k m : Nat) : Bool := if k = (X.getD j nob).1.length then (X.getD j nob).2.2.2.2.1.any (fun t => decide (bg X t.toNat = m)) else decide (m = bg X j + k + 1)
def nxp (X : List Blk) (n : Nat) : List Nat := (List.range (bg X X.length)).filter (gs X ((alls X).getD n (0, 0, false)).1.toNat ((alls X).getD n (0, 0, false)).2.1.toNat)
def arcN (X : List Blk) : Nat → ArG
  | 0 => []
  | n + 1 => arcN X n ++ (nxp X n).map (fun m => (n, m))
theorem nxp_at {X : List Blk} {j k : Nat} (hj : j < X.length) (hk : k ≤ X[j].1.length) : nxp X (bg X j + k) = (List.range (bg X X.length)).filter (gs X j k) := by
  have h := alls_get X hj hk
  unfold nxp
  rw [List.getD_eq_getElem?_getD, h]; rfl
theorem nxp_lt {X : List Blk} {n m : Nat} (h : m ∈ nxp X n) : m < bg X X.length := by
  unfold nxp at h; exact List.mem_range.1 (List.mem_filter.1 h).1
theorem nxp_len (X : List Blk) (n : Nat) : (nxp X n).length ≤ bg X X.length := by
  unfold nxp; exact Nat.le_trans (List.length_filter_le _ _) (by simp)
theorem arcN_len (X : List Blk) : ∀ n, (arcN X n).length ≤ n * bg X X.length
  | 0 => by simp [arcN]
  | n + 1 => by
    have := arcN_len X n
    have := nxp_len X n
    simp only [arcN, List.length_append, List.length_map, Nat.succ_mul]; omega
theorem arcN_in (X : List Blk) : ∀ n, n ≤ bg X X.length → inN (bg X X.length) (arcN X n)
  | 0, _ => by intro e he; simp [arcN] at he
  | n + 1, hn => by
    intro e he
    simp only [arcN, List.mem_append, List.mem_map] at he
    rcases he with q | ⟨m, hm, rfl⟩
    · exact arcN_in X n (by omega) e q
    · exact ⟨by show n < _; omega, nxp_lt hm⟩
theorem filter_one : ∀ (N p : Nat), p < N → (List.range N).filter (fun m => decide (m = p)) = [p]
  | 0, p, h => by omega
  | N + 1, p, h => by
    rw [List.range_succ, List.filter_append]
    by_cases q : p = N
    · subst q
      have : (List.range p).filter (fun m => decide (m = p)) = [] := by
        rw [List.filter_eq_nil_iff]; intro x hx; have := List.mem_range.1 hx; simp; omega
      rw [this]; simp
    · rw [filter_one N p (by omega)]
      have : ¬ N = p := fun e => q e.symm
      simp [this]
/-- The terminators lead to blocks that are there. -/
structure Tos (X : List Blk) : Prop where
  few : X.length ≤ 8
  pts : bg X X.length ≤ 32
  len : ∀ x ∈ X, x.2.2.2.2.1.length ≤ 20
  good : ∀ x ∈ X, ∀ t ∈ x.2.2.2.2.1, 0 ≤ t ∧ t < (X.length : Int)
theorem vor0_zero {a b : Flt} (h : (or0 a b).1 = 0) : a.1 = 0 ∧ b.1 = 0 := by
  unfold or0 at h; split at h
  · rename_i q; exact ⟨q, h⟩
  · rename_i q; exact absurd h q
theorem vck_code {b : Bo} (h : (vck b).1 = 0) : (vCode b).1 = 0 := by
  unfold vck at h
  obtain ⟨_, h⟩ := vor0_zero h
  obtain ⟨_, h⟩ := vor0_zero h
  obtain ⟨_, h⟩ := vor0_zero h
  obtain ⟨_, h⟩ := vor0_zero h
  obtain ⟨_, h⟩ := vor0_zero h
  exact (vor0_zero h).2
theorem vck_term {b : Bo} (h : (vck b).1 = 0) : ∀ x ∈ b.2.2.2.2.2.2, tE (arOf b) x.2 = 0 := by
  have hc := vck_code h
  unfold vCode at hc
  cases hq : b.2.2.2.2.2.2.findIdx? (fun x => (blkE b x).isSome) with
  | none =>
    intro x hx
    have := List.findIdx?_eq_none_iff.1 hq x hx
    unfold blkE at this
    split at this
    · simp at this
    · by_cases q : tE (arOf b) x.2 = 0
      · exact q
      · rw [if_neg q] at this; simp at this
  | some k =>
    exfalso
    rw [hq] at hc
    obtain ⟨hk, hcc, _⟩ := List.findIdx?_eq_some_iff_getElem.1 hq
    have e : b.2.2.2.2.2.2.getD k ([], 0, 0, 0, [], [], []) = b.2.2.2.2.2.2[k] := by simp [List.getD, hk]
    simp only [e] at hc
    unfold blkE at hcc hc
    split at hcc
    · rename_i j hj
      rw [hj] at hc
      obtain ⟨hj1, hj2, _⟩ := List.findIdx?_eq_some_iff_getElem.1 hj
      have e2 : b.2.2.2.2.2.2[k].1.getD j (0, 0, 0, 0, false) = b.2.2.2.2.2.2[k].1[j] := by simp [List.getD, hj1]
      simp only [e2, fltOf] at hc
      simp [hc] at hj2
    · rename_i hj
      rw [hj] at hc
      by_cases q : tE (arOf b) b.2.2.2.2.2.2[k].2 = 0
      · rw [if_pos q] at hcc; simp at hcc
      · rw [if_neg q] at hc; simp only [fltOf] at hc; exact q hc
theorem tE_to {a : Ar} {x : Tm} (h : tE a x = 0) (hl : x.2.2.2.1.length ≤ 20) (hl2 : x.2.2.2.2.1.length ≤ 20) (hl3 : x.2.2.2.2.2.length ≤ 20) : bad a.1 x.2.2.2.1 = false := by
  cases q : bad a.1 x.2.2.2.1 with
  | false => rfl
  | true =>
    exfalso
    unfold tE fn_ref19_Needs at h
    rw [show fn_ref19_Form (x.1, x.2.1, x.2.2.1, x.2.2.2.1, x.2.2.2.2.1, x.2.2.2.2.2) = _ from refTForm_eq x] at h
    simp only [Option.bind_some] at h
    by_cases q2 : tForm x = 0
    · rw [decide_eq_true q2, Bool.not_true, cond_false, refWithin_eq _ _ (by omega), q] at h
      simp at h
    · rw [decide_eq_false q2, Bool.not_false, cond_true] at h
      exact q2 h
theorem xs_eq {b : Bo} {j : Nat} (hj : j < (xs b).length) : (vck b).1 = 0 ∧ xs b = b.2.2.2.2.2.2 := by
  by_cases q : (vck b).1 = 0
  · exact ⟨q, by unfold xs; rw [if_pos q]⟩
  · unfold xs at hj; rw [if_neg q] at hj; simp at hj
theorem xs_tos {b : Bo} (h : Sm b) : Tos (xs b) := by
  obtain ⟨h1, h2⟩ := xs_bound h (Nat.le_refl _)
  refine ⟨h2, h1, fun x hx => ?_, fun x hx t ht => ?_⟩
  · obtain ⟨j, hj, rfl⟩ := List.getElem_of_mem hx
    obtain ⟨_, e⟩ := xs_eq hj
    exact (h.term _ (by rw [← e]; exact List.getElem_mem hj)).1
  · obtain ⟨j, hj, rfl⟩ := List.getElem_of_mem hx
    obtain ⟨hv, e⟩ := xs_eq hj
    have hm : (xs b)[j] ∈ b.2.2.2.2.2.2 := by rw [← e]; exact List.getElem_mem hj
    obtain ⟨a1, a2, a3⟩ := h.term _ hm
    have hb := tE_to (vck_term hv _ hm) a1 a2 a3
    unfold bad at hb
    rw [List.any_eq_false] at hb
    have := hb t ht
    rw [e]
    unfold arOf at this
    simp at this
    omega
theorem blk_get {X : List Blk} {j : Nat} (hj : j < X.length) : X.getD j nob = X[j] := by simp [List.getD, hj]
/-- The first points of the blocks to which a terminator leads. -/
theorem heads_eq {X : List Blk} (hT : Tos X) {j : Nat} (hj : j < X.length) : fn_flow_heads X[j].2 (bgs X) = some (li ((List.range (bg X X.length)).filter (gs X j X[j].1.length))) := by
  have hm : X[j] ∈ X := List.getElem_mem hj
  have hlen := hT.len _ hm
  have hg := hT.good _ hm
  have hfew := hT.few
  have hlp := loop_carry (body := fn_flow_heads_l1 X[j].2 (bgs X)) X[j].2.2.2.2.1 (fun k => (X[j].2.2.2.2.1.take k).map (fun t : Int => ((bg X t.toNat : Nat) : Int))) (X[j].2.2.2.2.1.map (fun t : Int => ((bg X t.toNat : Nat) : Int))) ?_ ?_
  · unfold fn_flow_heads
    simp only [List.take_zero, List.map_nil] at hlp
    rw [hlp, Option.bind_some]
    unfold srt
    rw [if_pos (by simp; omega)]
    simp only [Option.bind_some]
    unfold cmpt
    simp only [Option.bind_some]
    congr 1
    have hs := List.pairwise_mergeSort (le := fun x y : Int => decide (x ≤ y)) (fun a b c h1 h2 => by simp at *; omega) (fun a b => by simp; omega) (X[j].2.2.2.2.1.map (fun t : Int => ((bg X t.toNat : Nat) : Int)))
    obtain ⟨c1, c2⟩ := compact_sorted (hs.imp (fun h => by simpa using h))
    refine strict_eq c1 (range_strict _ _) (fun a => ?_)
    rw [c2, List.mem_mergeSort]
    unfold li
    simp only [List.mem_map, List.mem_filter, List.mem_range]
    constructor
    · rintro ⟨t, ht, rfl⟩
      obtain ⟨t0, t1⟩ := hg t ht
      refine ⟨bg X t.toNat, ⟨bg_lt X (by omega) (Nat.le_refl _), ?_⟩, rfl⟩
      unfold gs
      rw [blk_get hj, if_pos rfl]
      exact List.any_eq_true.2 ⟨t, ht, by simp⟩
    · rintro ⟨m, ⟨_, hg2⟩, rfl⟩
      unfold gs at hg2
      rw [blk_get hj, if_pos rfl] at hg2
      obtain ⟨t, ht, e⟩ := List.any_eq_true.1 hg2
      exact ⟨t, ht, by simp at e; rw [e]⟩
  · intro k hk
    obtain ⟨t0, t1⟩ := hg _ (List.getElem_mem hk)
    have e : getI (bgs X) X[j].2.2.2.2.1[k] = some ((bg X (X[j].2.2.2.2.1[k]).toNat : Nat) : Int) := by
      have := bgs_get X (k := (X[j].2.2.2.2.1[k]).toNat) (by omega)
      rwa [Int.toNat_of_nonneg t0] at this
    unfold fn_flow_heads_l1
    simp only [dlt hk, cond_true, getN hk, Option.bind_some, e]
    rw [app_eq (by simp; omega), Option.bind_some, w64s hk (by omega), take_snoc hk, List.map_append]; rfl
  · unfold fn_flow_heads_l1
    simp only [dge (show ¬ X[j].2.2.2.2.1.length < X[j].2.2.2.2.1.length by omega), cond_false, List.take_length]
end Go.Proofs.YtbennpandomacaaGreat
