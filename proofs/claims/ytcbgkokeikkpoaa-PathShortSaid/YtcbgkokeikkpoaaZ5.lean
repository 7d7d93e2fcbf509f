/- 'easement/easementlaw14.PathShort' returns true for every input, and each argument reads afterwards as it read before: the row's frame round the walk. -/
import Derived.Test.YtcbgkokeikkpoaaZ4
namespace Go.Proofs.Ytcbgkokeikkpoaa
open Go.RowKit
set_option linter.unusedVariables false
set_option linter.unusedSimpArgs false
set_option linter.unnecessarySimpa false
theorem Of_eq (n : Int) (xb : List (Int × Int)) (hn : xb.length ≤ 1000000) : fn_law10_Of n xb = fn_graph_New n xb := by
  unfold fn_law10_Of
  have := loop_map xb (fun x : Int × Int => x) [] (by simp; omega) (body := fn_law10_Of_l1 xb) (fun c i => by
    unfold fn_law10_Of_l1
    cases hg : getI xb i with
    | none => simp [hg]
    | some x => simp [hg])
  rw [this]
  simp only [List.nil_append, List.map_id', Option.bind_some]
  cases fn_graph_New n xb with
  | none => rfl
  | some r => rfl
theorem Dist_of {N w : Nat} {d : Nat → Option Nat} {bk : List Int} {ls : List (List Int)} (h : w < N) : fn_bfs_Tree_Dist (some (dl N d, bk, ls)) (w : Int) = some (dN (d w)) := by
  unfold fn_bfs_Tree_Dist fn_bfs_Tree_isNode
  rw [show ((!(some (dl N d, bk, ls)).isNone) && decide (0 ≤ (w : Int))) = true by simp, cond_true, Option.bind_some, dl_len, show decide ((w : Int) < (N : Int)) = true from decide_eq_true (by omega)]
  simp only [Option.bind_some, Bool.not_true, cond_false]
  rw [dl_get h]
  rfl
theorem Dist_not {N : Nat} {w : Int} {d : Nat → Option Nat} {bk : List Int} {ls : List (List Int)} (h : w < 0 ∨ (N : Int) ≤ w) : fn_bfs_Tree_Dist (some (dl N d, bk, ls)) w = some (-1) := by
  unfold fn_bfs_Tree_Dist fn_bfs_Tree_isNode
  rcases h with h | h
  · rw [show decide (0 ≤ w) = false from decide_eq_false (by omega), Bool.and_false]; rfl
  · rw [show decide (0 ≤ w) = true from decide_eq_true (by omega), Bool.and_true]
    simp only [Option.isNone_some, Bool.not_false, cond_true, Option.bind_some]
    rw [dl_len, show decide (w < (N : Int)) = false from decide_eq_false (by omega)]
    rfl
theorem Back_of {N w : Nat} {d β : Nat → Option Nat} {ls : List (List Int)} (h : w < N) : fn_bfs_Tree_Back (some (dl N d, dl N β, ls)) (w : Int) = some (dN (β w)) := by
  unfold fn_bfs_Tree_Back fn_bfs_Tree_isNode
  rw [show ((!(some (dl N d, dl N β, ls)).isNone) && decide (0 ≤ (w : Int))) = true by simp, cond_true, Option.bind_some, dl_len, show decide ((w : Int) < (N : Int)) = true from decide_eq_true (by omega)]
  simp only [Option.bind_some, Bool.not_true, cond_false]
  rw [dl_get h]
  rfl
theorem Far_of {N m : Nat} {d β : Nat → Option Nat} (h : m ≤ 1000) : fn_bfs_Tree_Far (some (dl N d, dl N β, lyS N m d)) = some ((m : Int) - 1) := by
  unfold fn_bfs_Tree_Far
  simp only [Option.isNone_some, cond_false, Option.bind_some]
  rw [show (lyS N m d).length = m by simp [lyS], w64 (by omega) (by omega)]
theorem Layer_of {N m k : Nat} {d β : Nat → Option Nat} (h : m ≤ 1000) (hk : k < m) (hN : N ≤ 1000) : fn_bfs_Tree_Layer (some (dl N d, dl N β, lyS N m d)) (k : Int) = some (li ((List.range N).filter fun w => decide (d w = some k))) := by
  unfold fn_bfs_Tree_Layer
  rw [Far_of h, show decide ((k : Int) < 0) = false from decide_eq_false (by omega), cond_false]
  simp only [Option.bind_some]
  rw [show decide ((m : Int) - 1 < (k : Int)) = false from decide_eq_false (by omega), cond_false]
  have e1 : getI (lyS N m d) (k : Int) = some (li ((List.range N).filter fun w => decide (d w = some k))) := getI_map hk
  rw [e1]
  simp only [Option.bind_some]
  unfold fn_slices_Clone_int_int
  rw [clone_eq _ (by rw [li_len]; have := List.length_filter_le (fun w => decide (d w = some k)) (List.range N); rw [List.length_range] at this; omega)]
  rfl
/-- What rises by at most one over an arc is a bound from below. -/
theorem Wk.pot {E : ArG} {v k w : Nat} (h : Nat → Nat) (h0 : h v = 0) (hE : ∀ a b, (a, b) ∈ E → h b ≤ h a + 1) (hw : Wk E v k w) : h w ≤ k := by
  induction hw with
  | zero => omega
  | step _ e ih => have := hE _ _ e; omega
theorem Bend.lt {N : Nat} {E : ArG} {v : Nat} {L : List Nat} {d : Nat → Option Nat} {m : Nat} {β : Nat → Option Nat} (h : Bend N E v L d m β) {w k : Nat} (hw : d w = some k) : k < N := by
  have h1 := h.l.top w k hw
  have h2 := h.l.le h.b.mem h.b.len
  omega
end Go.Proofs.Ytcbgkokeikkpoaa
namespace Go.Proofs.Ytcbgkokeikkpoaa
open Go.RowKit
set_option linter.unusedVariables false
set_option linter.unusedSimpArgs false
set_option linter.unnecessarySimpa false
theorem Bend.closed {N : Nat} {E : ArG} {v : Nat} {L : List Nat} {d : Nat → Option Nat} {m : Nat} {β : Nat → Option Nat} (h : Bend N E v L d m β) {a b k : Nat} (e : (a, b) ∈ E) (ha : d a = some k) : ∃ j, d b = some j ∧ j ≤ k + 1 := by
  obtain ⟨i, hi, e2⟩ := List.mem_iff_getElem.1 ((h.b.mem a).2 (by rw [ha]; rfl))
  exact h.b.done i a b k hi (by rw [List.getElem?_eq_getElem hi, e2]) e ha
theorem Bend.zero {N : Nat} {E : ArG} {v : Nat} {L : List Nat} {d : Nat → Option Nat} {m : Nat} {β : Nat → Option Nat} (h : Bend N E v L d m β) {x : Nat} (hx : d x = some 0) : β x = none := by
  cases hβ : β x with
  | none => rfl
  | some j =>
    obtain ⟨_, k, _, _, e⟩ := h.yes x j hβ
    rw [hx] at e; cases e
theorem Bend.back {N : Nat} {E : ArG} {v : Nat} {L : List Nat} {d : Nat → Option Nat} {m : Nat} {β : Nat → Option Nat} (h : Bend N E v L d m β) {x k : Nat} (hx : d x = some (k + 1)) : ∃ (j : Nat) (hj : j < E.length), β x = some j ∧ E[j].2 = x ∧ d E[j].1 = some k := by
  have hf := (h.b.far x (k + 1)).1 hx
  have : ∃ a, Wk E v k a ∧ (a, x) ∈ E := by
    cases hf.1 with
    | step g e => exact ⟨_, g, e⟩
  obtain ⟨a, g, e⟩ := this
  have hda : d a = some k := by
    cases ha : d a with
    | none => exact absurd g.rch ((h.b.far_not a).1 ha)
    | some j =>
      obtain ⟨i, h1, h2⟩ := h.closed e ha
      rw [hx] at h1; cases h1
      have := ((h.b.far a j).1 ha).2 _ g
      congr 1; omega
  obtain ⟨i, hi, ei⟩ := List.mem_iff_getElem.1 e
  obtain ⟨j, h1, _⟩ := h.low x i ⟨hi, k, by rw [ei], by rw [ei]; exact hda, hx⟩
  obtain ⟨hj, l, h2, h3, h4⟩ := h.yes x j h1
  rw [hx] at h4; cases h4
  exact ⟨j, hj, h1, h2, h3⟩
/-- How many are nearer than k. -/
def ncnt (N : Nat) (d : Nat → Option Nat) (k : Nat) : Nat := (List.range N).countP fun w => match d w with | some j => decide (j < k) | none => false
theorem ncnt_succ (N : Nat) (d : Nat → Option Nat) (k : Nat) : ncnt N d (k + 1) = ncnt N d k + ((List.range N).filter fun w => decide (d w = some k)).length := by
  unfold ncnt
  rw [← List.countP_eq_length_filter]
  induction List.range N with
  | nil => rfl
  | cons x xs ih =>
    rw [List.countP_cons, List.countP_cons, List.countP_cons, ih]
    cases hd : d x with
    | none => simp
    | some j =>
      by_cases c : j = k
      · subst c; simp; omega
      · by_cases c2 : j < k
        · simp [c, c2, show j < k + 1 by omega]; omega
        · simp [c, c2, show ¬ j < k + 1 by omega]
theorem ncnt_zero (N : Nat) (d : Nat → Option Nat) : ncnt N d 0 = 0 := by
  unfold ncnt
  rw [List.countP_eq_zero]
  intro w _
  cases d w <;> simp
theorem ncnt_le (N : Nat) (d : Nat → Option Nat) (k : Nat) : ncnt N d k ≤ N := by
  have := List.countP_le_length (p := fun w => match d w with | some j => decide (j < k) | none => false) (l := List.range N)
  rw [List.length_range] at this; exact this
end Go.Proofs.Ytcbgkokeikkpoaa
namespace Go.Proofs.Ytcbgkokeikkpoaa
open Go.RowKit
set_option linter.unusedVariables false
set_option linter.unusedSimpArgs false
set_option linter.unnecessarySimpa false
open Classical in
/-- Distances up to k, and those one more that the first i arcs tell. -/
noncomputable def stp (E : ArG) (d : Nat → Option Nat) (k i w : Nat) : Option Nat := match d w with
  | some j => if j ≤ k ∨ (j = k + 1 ∧ ∃ (q : Nat) (h : q < E.length), q < i ∧ E[q].2 = w ∧ d E[q].1 = some k) then some j else none
  | none => none
theorem stp_some {E : ArG} {d : Nat → Option Nat} {k i w j : Nat} (h : stp E d k i w = some j) : d w = some j := by
  unfold stp at h
  split at h
  · rename_i j' e
    split at h
    · cases h; exact e
    · cases h
  · cases h
theorem stp_low {E : ArG} {d : Nat → Option Nat} {k i w j : Nat} (h : d w = some j) (hj : j ≤ k) : stp E d k i w = some j := by
  unfold stp
  rw [h]
  simp [hj]
open Classical in
theorem stp_succ {E : ArG} {d : Nat → Option Nat} {k i : Nat} (hi : i < E.length) (x : Nat) : stp E d k (i + 1) x = if d E[i].1 = some k ∧ x = E[i].2 ∧ d x = some (k + 1) then some (k + 1) else stp E d k i x := by
  by_cases c : d E[i].1 = some k ∧ x = E[i].2 ∧ d x = some (k + 1)
  · rw [if_pos c]
    unfold stp
    rw [c.2.2]
    dsimp only
    rw [if_pos (.inr ⟨rfl, i, hi, by omega, c.2.1.symm, c.1⟩)]
  · rw [if_neg c]
    unfold stp
    cases hd : d x with
    | none => rfl
    | some j =>
      simp only
      have : (j ≤ k ∨ (j = k + 1 ∧ ∃ (q : Nat) (h : q < E.length), q < i + 1 ∧ E[q].2 = x ∧ d E[q].1 = some k)) ↔ (j ≤ k ∨ (j = k + 1 ∧ ∃ (q : Nat) (h : q < E.length), q < i ∧ E[q].2 = x ∧ d E[q].1 = some k)) := by
        refine or_congr_right (and_congr_right fun hj => ⟨?_, ?_⟩)
        · rintro ⟨q, h, h1, h2, h3⟩
          by_cases e : q = i
          · subst e; subst hj; exact absurd ⟨h3, h2.symm, hd⟩ c
          · exact ⟨q, h, by omega, h2, h3⟩
        · rintro ⟨q, h, h1, h2, h3⟩; exact ⟨q, h, by omega, h2, h3⟩
      by_cases g : (j ≤ k ∨ (j = k + 1 ∧ ∃ (q : Nat) (h : q < E.length), q < i ∧ E[q].2 = x ∧ d E[q].1 = some k))
      · rw [if_pos g, if_pos (this.2 g)]
      · rw [if_neg g, if_neg (fun h => g (this.1 h))]
theorem dN_eq {o : Option Nat} {k : Nat} : dN o = (k : Int) ↔ o = some k := by
  cases o with
  | none => simp [dN] <;> omega
  | some j => simp [dN] <;> omega
theorem dN_neg {o : Option Nat} : dN o < 0 ↔ o = none := by
  cases o with
  | none => simp [dN]
  | some j => simp [dN]
theorem inner13 {N : Nat} {E : ArG} {v : Nat} {L : List Nat} {d : Nat → Option Nat} {m : Nat} {β : Nat → Option Nat} (hE : inN N E) (he : E.length ≤ 10000) (h : Bend N E v L d m β) {k : Nat} (hk : k ≤ 1000) :
    loop (fn_ref13_Dist_l2 (ai E) (k : Int)) (dl N (stp E d k 0), 0) = some (dl N (stp E d k E.length)) := by
  refine loop_nat (body := fn_ref13_Dist_l2 (ai E) (k : Int)) (fun i : Nat => (dl N (stp E d k i), (i : Int))) E.length ?_ ?_
  · intro i hi
    have ha := (hE _ (List.getElem_mem hi)).1
    have hb := (hE _ (List.getElem_mem hi)).2
    have same : ¬ (d E[i].1 = some k ∧ d E[i].2 = some (k + 1)) → dl N (stp E d k (i + 1)) = dl N (stp E d k i) := fun hn => by
      unfold dl
      apply map_congr_range
      intro x hx
      rw [stp_succ hi, if_neg (fun ⟨c1, c2, c3⟩ => hn ⟨c1, by rw [← c2]; exact c3⟩)]
    unfold fn_ref13_Dist_l2
    dsimp only
    rw [ai_len, dlt hi, cond_true, getI_ai hi]
    simp only [Option.bind_some]
    rw [dl_get ha, dl_get hb, w64s hi (by omega)]
    simp only [Option.bind_some]
    by_cases c : d E[i].1 = some k
    · obtain ⟨j, e1, e2⟩ := h.closed (a := E[i].1) (b := E[i].2) (List.getElem_mem hi) c
      rw [show decide (dN (stp E d k i E[i].1) = (k : Int)) = true from decide_eq_true (dN_eq.2 (stp_low c (Nat.le_refl _))), cond_true]
      simp only [Option.bind_some]
      cases hs : stp E d k i E[i].2 with
      | some j' =>
        rw [show decide (dN (some j') < 0) = false from decide_eq_false (fun hh => by have := dN_neg.1 hh; cases this), cond_false]
        have : dl N (stp E d k (i + 1)) = dl N (stp E d k i) := by
          unfold dl
          apply map_congr_range
          intro x hx
          rw [stp_succ hi]
          split
          · rename_i hc
            have e3 : d E[i].2 = some (k + 1) := by rw [← hc.2.1]; exact hc.2.2
            have e4 := stp_some hs
            rw [e3] at e4; cases e4
            rw [hc.2.1, hs]
          · rfl
        rw [this]
      | none =>
        have hj : j = k + 1 := by
          by_cases hj : j ≤ k
          · rw [stp_low e1 hj] at hs; cases hs
          · omega
        subst hj
        rw [show decide (dN none < 0) = true from rfl, cond_true]
        simp only [Option.bind_some, Int.toNat_natCast]
        rw [w64 (x := (k : Int) + 1) (by omega) (by omega), show (k : Int) + 1 = ((k + 1 : Nat) : Int) by omega, dl_set hb]
        congr 3
        unfold dl
        apply map_congr_range
        intro x hx
        rw [stp_succ hi]
        show dN (if x = E[i].2 then some (k + 1) else stp E d k i x) = _
        by_cases cx : x = E[i].2
        · rw [if_pos cx, if_pos ⟨c, cx, by rw [cx]; exact e1⟩]
        · rw [if_neg cx, if_neg (fun hc => cx hc.2.1)]
    · rw [show decide (dN (stp E d k i E[i].1) = (k : Int)) = false from decide_eq_false (fun hh => c (stp_some (dN_eq.1 hh))), cond_false]
      simp only [Option.bind_some, cond_false]
      rw [same (fun hh => c hh.1)]
  · unfold fn_ref13_Dist_l2
    dsimp only
    rw [ai_len, dge (Nat.lt_irrefl _), cond_false]
theorem round13 {N : Nat} {E : ArG} {v : Nat} {L : List Nat} {d : Nat → Option Nat} {m : Nat} {β : Nat → Option Nat} (h : Bend N E v L d m β) (k : Nat) : dl N (stp E d k E.length) = dl N (stp E d (k + 1) 0) := by
  unfold dl
  apply map_congr_range
  intro x hx
  unfold stp
  cases hd : d x with
  | none => rfl
  | some j =>
    simp only
    have : (j ≤ k ∨ (j = k + 1 ∧ ∃ (q : Nat) (h : q < E.length), q < E.length ∧ E[q].2 = x ∧ d E[q].1 = some k)) ↔ (j ≤ k + 1 ∨ (j = k + 1 + 1 ∧ ∃ (q : Nat) (h : q < E.length), q < 0 ∧ E[q].2 = x ∧ d E[q].1 = some (k + 1))) := by
      constructor
      · rintro (h1 | ⟨h1, _⟩)
        · exact .inl (by omega)
        · exact .inl (by omega)
      · rintro (h1 | ⟨_, q, _, h2, _⟩)
        · by_cases e : j ≤ k
          · exact .inl e
          · obtain rfl : j = k + 1 := by omega
            obtain ⟨q, hq, _, h3, h4⟩ := h.back hd
            exact .inr ⟨rfl, q, hq, hq, h3, h4⟩
        · omega
    by_cases g : (j ≤ k ∨ (j = k + 1 ∧ ∃ (q : Nat) (h : q < E.length), q < E.length ∧ E[q].2 = x ∧ d E[q].1 = some k))
    · rw [if_pos g, if_pos (this.1 g)]
    · rw [if_neg g, if_neg (fun hh => g (this.2 hh))]
theorem refDist0 {N : Nat} {v : Int} (hN : N ≤ 1000) : loop (fn_ref13_Dist_l1 (N : Int)) ([], 0) = some (dl N fun _ => none) := by
  rw [← rep_dl]
  refine loop_nat (body := fn_ref13_Dist_l1 (N : Int)) (fun i : Nat => (List.replicate i (-1 : Int), (i : Int))) N ?_ ?_
  · intro i hi
    unfold fn_ref13_Dist_l1
    dsimp only
    rw [dlt hi, cond_true, app_eq (by rw [List.length_replicate]; simp; omega), Option.bind_some, w64s hi (by omega), List.replicate_succ']
  · unfold fn_ref13_Dist_l1
    dsimp only
    rw [dge (Nat.lt_irrefl _), cond_false]
theorem refDist_ok {N : Nat} {E : ArG} {v : Nat} {L : List Nat} {d : Nat → Option Nat} {m : Nat} {β : Nat → Option Nat} (hE : inN N E) (hN : N ≤ 1000) (he : E.length ≤ 10000) (hv : v < N) (h : Bend N E v L d m β) :
    fn_ref13_Dist (N : Int) (ai E) (v : Int) = some (dl N d) := by
  unfold fn_ref13_Dist
  rw [refDist0 (v := (v : Int)) hN]
  simp only [Option.bind_some]
  rw [show decide ((v : Int) < 0) = false from decide_eq_false (by omega), show decide ((N : Int) ≤ (v : Int)) = false from decide_eq_false (by omega), Bool.or_self, cond_false, dl_get hv]
  simp only [Option.bind_some, Int.toNat_natCast]
  have e0 := dl_set (k := 0) (d := fun _ => none) hv
  rw [show ((0 : Nat) : Int) = 0 from rfl] at e0
  rw [e0]
  have e1 : dl N (fun x => if x = v then some 0 else none) = dl N (stp E d 0 0) := by
    unfold dl
    apply map_congr_range
    intro x hx
    show dN (if x = v then some 0 else none) = _
    by_cases c : x = v
    · rw [if_pos c, c, stp_low h.b.d0 (Nat.le_refl _)]
    · rw [if_neg c]
      unfold stp
      cases hd : d x with
      | none => rfl
      | some j =>
        simp only
        rw [if_neg]
        rintro (h1 | ⟨_, q, _, h2, _⟩)
        · obtain rfl : j = 0 := by omega
          have := ((h.b.far x 0).1 hd).1
          cases this
          exact c rfl
        · omega
  rw [e1]
  have := loop_nat (body := fn_ref13_Dist_l3 (N : Int) (ai E)) (fun k : Nat => (dl N (stp E d k 0), (k : Int))) N (b := dl N (stp E d N 0)) ?_ ?_
  · have e' : loop (fn_ref13_Dist_l3 (N : Int) (ai E)) (dl N (stp E d 0 0), 0) = _ := this
    rw [e']
    simp only [Option.bind_some]
    congr 1
    unfold dl
    apply map_congr_range
    intro x hx
    cases hd : d x with
    | none => unfold stp; rw [hd]
    | some j => rw [stp_low hd (by have := h.lt hd; omega)]
  · intro k hk
    unfold fn_ref13_Dist_l3
    dsimp only
    rw [dlt hk, cond_true, inner13 hE he h (by omega)]
    simp only [Option.bind_some]
    rw [round13 h, w64s hk (by omega)]
  · unfold fn_ref13_Dist_l3
    dsimp only
    rw [dge (Nat.lt_irrefl _), cond_false]
theorem refDist_not {N : Nat} {E : ArG} {v : Int} (hN : N ≤ 1000) (hv : v < 0 ∨ (N : Int) ≤ v) : fn_ref13_Dist (N : Int) (ai E) v = some (dl N fun _ => none) := by
  unfold fn_ref13_Dist
  rw [refDist0 (v := v) hN]
  simp only [Option.bind_some]
  have : (decide (v < 0) || decide ((N : Int) ≤ v)) = true := by simp; omega
  rw [this, cond_true]
end Go.Proofs.Ytcbgkokeikkpoaa
namespace Go.Proofs.Ytcbgkokeikkpoaa
open Go.RowKit
set_option linter.unusedVariables false
set_option linter.unusedSimpArgs false
set_option linter.unnecessarySimpa false
/-- Where arcs lead, one behind the other. -/
def goW (E : ArG) : Int → List Int → Option Int
  | x, [] => some x
  | x, i :: l => if h : (0 ≤ i ∧ i < (E.length : Int)) ∧ ((E.getD i.toNat (0, 0)).1 : Int) = x then goW E ((E.getD i.toNat (0, 0)).2 : Int) l else none
theorem goW_cons {E : ArG} {x i : Int} {l : List Int} : goW E x (i :: l) = if h : (0 ≤ i ∧ i < (E.length : Int)) ∧ ((E.getD i.toNat (0, 0)).1 : Int) = x then goW E ((E.getD i.toNat (0, 0)).2 : Int) l else none := rfl
theorem goW_nil {E : ArG} {x : Int} : goW E x [] = some x := rfl
theorem goW_app {E : ArG} : ∀ {a b : List Int} {x : Int}, goW E x (a ++ b) = (goW E x a).bind fun y => goW E y b
  | [], b, x => rfl
  | i :: a, b, x => by
    show goW E x (i :: (a ++ b)) = _
    rw [goW_cons, goW_cons]
    split
    · exact goW_app
    · rfl
theorem goW_one {E : ArG} {j : Nat} (hj : j < E.length) {x : Nat} (hx : E[j].1 = x) : goW E (x : Int) [(j : Int)] = some (E[j].2 : Int) := by
  rw [goW_cons, dif_pos ⟨⟨by omega, by omega⟩, by simp [hj, hx]⟩, goW_nil]
  simp [hj]
/-- The walk that is told: by the arcs that lead. -/
def sw (E : ArG) (β : Nat → Option Nat) : Nat → Nat → List Nat
  | 0, _ => []
  | k + 1, w => match β w with
    | some j => sw E β k (E.getD j (0, 0)).1 ++ [j]
    | none => []
theorem sw_succ {N : Nat} {E : ArG} {v : Nat} {L : List Nat} {d : Nat → Option Nat} {m : Nat} {β : Nat → Option Nat} (h : Bend N E v L d m β) {x k : Nat} (hx : d x = some (k + 1)) :
    ∃ (j : Nat) (hj : j < E.length), β x = some j ∧ E[j].2 = x ∧ d E[j].1 = some k ∧ sw E β (k + 1) x = sw E β k E[j].1 ++ [j] := by
  obtain ⟨j, hj, h1, h2, h3⟩ := h.back hx
  refine ⟨j, hj, h1, h2, h3, ?_⟩
  rw [show sw E β (k + 1) x = match β x with | some j => sw E β k (E.getD j (0, 0)).1 ++ [j] | none => [] from rfl, h1]
  simp [hj]
theorem li_app (A B : List Nat) : li (A ++ B) = li A ++ li B := by simp [li]
theorem zero_only {N : Nat} {E : ArG} {v : Nat} {L : List Nat} {d : Nat → Option Nat} {m : Nat} {β : Nat → Option Nat} (h : Bend N E v L d m β) {x : Nat} (hx : d x = some 0) : x = v := by
  have := ((h.b.far x 0).1 hx).1
  cases this; rfl
theorem sw_ok {N : Nat} {E : ArG} {v : Nat} {L : List Nat} {d : Nat → Option Nat} {m : Nat} {β : Nat → Option Nat} (h : Bend N E v L d m β) : ∀ {k x : Nat}, d x = some k → goW E (v : Int) (li (sw E β k x)) = some (x : Int) ∧ (sw E β k x).length = k
  | 0, x, hx => by obtain rfl := zero_only h hx; exact ⟨rfl, rfl⟩
  | k + 1, x, hx => by
    obtain ⟨j, hj, h1, h2, h3, h4⟩ := sw_succ h hx
    obtain ⟨g1, g2⟩ := sw_ok h h3
    rw [h4]
    refine ⟨?_, by rw [List.length_append, g2]; rfl⟩
    rw [li_app, goW_app, g1]
    show goW E _ [(j : Int)] = _
    rw [goW_one hj rfl, h2]
/-- All walks of so many arcs. -/
def eW (E : ArG) (v : Nat) (M : List Nat) : Nat := match M.getLast? with | some i => (E.getD i (0, 0)).2 | none => v
def wks (E : ArG) (v : Nat) : Nat → List (List Nat)
  | 0 => [[]]
  | k + 1 => (wks E v k).flatMap fun M => (occ (E.map (·.1)) (eW E v M)).map fun i => M ++ [i]
theorem eW_snoc (E : ArG) (v : Nat) (M : List Nat) (i : Nat) : eW E v (M ++ [i]) = (E.getD i (0, 0)).2 := by unfold eW; rw [List.getLast?_concat]
theorem wks_mem {E : ArG} {v : Nat} : ∀ {k : Nat} {M : List Nat}, M ∈ wks E v k ↔ M.length = k ∧ goW E (v : Int) (li M) = some (eW E v M : Int)
  | 0, M => by
    unfold wks
    constructor
    · intro h; simp at h; subst h; exact ⟨rfl, rfl⟩
    · rintro ⟨h, _⟩; simp [List.length_eq_zero_iff.1 h]
  | k + 1, M => by
    unfold wks
    rw [List.mem_flatMap]
    constructor
    · rintro ⟨A, hA, hM⟩
      obtain ⟨h1, h2⟩ := wks_mem.1 hA
      rw [List.mem_map] at hM
      obtain ⟨i, hi, rfl⟩ := hM
      obtain ⟨hl, he⟩ := occ_arc hi
      refine ⟨by rw [List.length_append, h1]; rfl, ?_⟩
      rw [li_app, goW_app, h2]
      show goW E _ [(i : Int)] = _
      rw [goW_one hl he, eW_snoc]
      simp [hl]
    · rintro ⟨h1, h2⟩
      have hne : M ≠ [] := fun e => by subst e; cases h1
      have hM := List.dropLast_concat_getLast hne
      obtain ⟨A, i, rfl⟩ : ∃ A i, M = A ++ [i] := ⟨_, _, hM.symm⟩
      rw [li_app, goW_app] at h2
      cases hg : goW E (v : Int) (li A) with
      | none => rw [hg] at h2; cases h2
      | some y =>
        rw [hg] at h2
        have h3 : goW E y [(i : Int)] = some (eW E v (A ++ [i]) : Int) := h2
        rw [goW_cons] at h3
        split at h3
        · rename_i hc
          have hi : i < E.length := by omega
          have hy : y = ((E[i].1 : Nat) : Int) := by rw [← hc.2]; simp [hi]
          have hAk : A.length = k := by rw [List.length_append] at h1; simpa using h1
          have hyA : y = (eW E v A : Int) := by
            rcases List.eq_nil_or_concat A with rfl | ⟨B, q, rfl⟩
            · cases hg; rfl
            · rw [List.concat_eq_append, li_app, goW_app] at hg
              cases hq : goW E (v : Int) (li B) with
              | none => rw [hq] at hg; cases hg
              | some z =>
                rw [hq] at hg
                have hg2 : goW E z [(q : Int)] = some y := hg
                rw [goW_cons] at hg2
                split at hg2
                · rw [goW_nil] at hg2
                  cases hg2
                  rw [List.concat_eq_append, eW_snoc]
                  simp
                · cases hg2
          refine ⟨A, wks_mem.2 ⟨hAk, by rw [hg, hyA]⟩, ?_⟩
          rw [List.mem_map]
          refine ⟨i, ?_, rfl⟩
          rw [occ_mem]
          refine ⟨by rw [List.length_map]; exact hi, ?_⟩
          rw [List.getElem_map]
          omega
        · cases h3
theorem eW_of {E : ArG} {v x : Nat} {M : List Nat} (h : goW E (v : Int) (li M) = some (x : Int)) : eW E v M = x := by
  rcases List.eq_nil_or_concat M with rfl | ⟨B, q, rfl⟩
  · have h1 : (some (v : Int) : Option Int) = some (x : Int) := h
    have h2 := Option.some.inj h1
    show v = x
    omega
  · rw [List.concat_eq_append, li_app, goW_app] at h
    cases hq : goW E (v : Int) (li B) with
    | none => rw [hq] at h; cases h
    | some z =>
      rw [hq] at h
      have hg2 : goW E z [(q : Int)] = some (x : Int) := h
      rw [goW_cons] at hg2
      split at hg2
      · rw [goW_nil] at hg2
        have := Option.some.inj hg2
        rw [List.concat_eq_append, eW_snoc]
        simp at this ⊢
        omega
      · cases hg2
theorem wks_wk {E : ArG} {v : Nat} : ∀ {k : Nat} {M : List Nat}, M ∈ wks E v k → Wk E v k (eW E v M)
  | 0, M, h => by unfold wks at h; simp at h; subst h; exact .zero
  | k + 1, M, h => by
    unfold wks at h
    rw [List.mem_flatMap] at h
    obtain ⟨A, hA, hM⟩ := h
    rw [List.mem_map] at hM
    obtain ⟨i, hi, rfl⟩ := hM
    obtain ⟨hl, he⟩ := occ_arc hi
    rw [eW_snoc]
    refine (wks_wk hA).step ?_
    rw [← he]
    have : E.getD i (0, 0) = E[i] := by simp [hl]
    rw [this]
    exact List.getElem_mem hl
theorem wks_sw {N : Nat} {E : ArG} {v : Nat} {L : List Nat} {d : Nat → Option Nat} {m : Nat} {β : Nat → Option Nat} (h : Bend N E v L d m β) {k x : Nat} (hx : d x = some k) : sw E β k x ∈ wks E v k ∧ eW E v (sw E β k x) = x := by
  obtain ⟨h1, h2⟩ := sw_ok h hx
  have := eW_of h1
  exact ⟨wks_mem.2 ⟨h2, by rw [h1, this]⟩, this⟩
theorem wks_len {E : ArG} {v : Nat} : ∀ k, (wks E v k).length ≤ E.length ^ k
  | 0 => Nat.le_refl _
  | k + 1 => by
    unfold wks
    rw [List.length_flatMap]
    have h1 := wks_len (E := E) (v := v) k
    have : ∀ A : List (List Nat), ((A.map fun M => ((occ (E.map (·.1)) (eW E v M)).map fun i => M ++ [i]).length)).sum ≤ A.length * E.length := by
      intro A
      induction A with
      | nil => simp
      | cons a A ih =>
        rw [List.map_cons, List.sum_cons, List.length_cons, Nat.succ_mul, List.length_map]
        have := occ_bound (E.map (·.1)) (eW E v a)
        rw [List.length_map] at this
        omega
    have h2 := this (wks E v k)
    rw [Nat.pow_succ]
    exact Nat.le_trans h2 (Nat.mul_le_mul_right _ h1)
/-- How many walks of so many arcs end there. -/
def nw (E : ArG) (v k w : Nat) : Nat := (wks E v k).countP fun M => decide (eW E v M = w)
theorem filter_cnt {E : ArG} (x w : Nat) : (occ (E.map (·.1)) x).countP (fun i => decide ((E.getD i (0, 0)).2 = w)) = (nxt E x).count w := by
  unfold nxt
  rw [List.count_eq_countP, List.countP_map]
  congr 1
theorem nw_succ (E : ArG) (v k w : Nat) : nw E v (k + 1) w = ((wks E v k).map fun M => (nxt E (eW E v M)).count w).sum := by
  unfold nw
  rw [show wks E v (k + 1) = (wks E v k).flatMap fun M => (occ (E.map (·.1)) (eW E v M)).map fun i => M ++ [i] from rfl, List.countP_flatMap]
  congr 1
  apply List.map_congr_left
  intro M hM
  show List.countP _ (List.map _ _) = _
  rw [List.countP_map, ← filter_cnt]
  congr 1
  funext i
  show decide (eW E v (M ++ [i]) = w) = _
  rw [eW_snoc]
theorem sum_pick {A : List Nat} (hA : A.Nodup) (c : Nat → Nat) (x : Nat) : (A.map fun a => c a * if x = a then 1 else 0).sum = if x ∈ A then c x else 0 := by
  induction A with
  | nil => rfl
  | cons y A ih =>
    rw [List.nodup_cons] at hA
    rw [List.map_cons, List.sum_cons, ih hA.2]
    by_cases e : x = y
    · subst e; rw [if_pos rfl, if_neg hA.1, if_pos (by simp)]; omega
    · rw [if_neg e]
      by_cases g : x ∈ A
      · rw [if_pos g, if_pos (List.mem_cons_of_mem _ g)]; omega
      · rw [if_neg g, if_neg (by simp [e, g]), Nat.mul_zero]
theorem zeros : ∀ A : List Nat, (A.map fun _ => 0).sum = 0
  | [] => rfl
  | y :: A => by rw [List.map_cons, List.sum_cons, zeros A]
/-- Walks grouped by where they end. -/
theorem group_sum {A : List Nat} (hA : A.Nodup) (c : Nat → Nat) (f : List Nat → Nat) : ∀ {W : List (List Nat)}, (∀ M ∈ W, c (f M) ≠ 0 → f M ∈ A) → (A.map fun a => c a * W.countP fun M => decide (f M = a)).sum = (W.map fun M => c (f M)).sum
  | [], _ => by
    simp only [List.countP_nil, Nat.mul_zero, List.map_nil, List.sum_nil]
    exact zeros A

  | M :: W, h => by
    have ih := group_sum hA c f (W := W) (fun M hM => h M (List.mem_cons_of_mem _ hM))
    rw [List.map_cons, List.sum_cons, ← ih]
    have e1 : (A.map fun a => c a * (M :: W).countP fun M => decide (f M = a)) = A.map fun a => (c a * if f M = a then 1 else 0) + c a * W.countP fun M => decide (f M = a) := by
      apply List.map_congr_left
      intro a _
      rw [List.countP_cons]
      by_cases e : f M = a <;> simp [e, Nat.mul_add, Nat.add_comm]
    have e2 : ∀ (A : List Nat) (p q : Nat → Nat), (A.map fun a => p a + q a).sum = (A.map p).sum + (A.map q).sum := by
      intro A p q
      induction A with
      | nil => rfl
      | cons y A ih => simp only [List.map_cons, List.sum_cons, ih]; omega
    rw [e1, e2, sum_pick hA]
    by_cases g : f M ∈ A
    · rw [if_pos g]
    · rw [if_neg g]
      have : c (f M) = 0 := by
        by_cases z : c (f M) = 0
        · exact z
        · exact absurd (h M (by simp) z) g
      omega
theorem nw_layer {N : Nat} {E : ArG} {v : Nat} {L : List Nat} {d : Nat → Option Nat} {m : Nat} {β : Nat → Option Nat} (hE : inN N E) (h : Bend N E v L d m β) {k w : Nat} (hw : d w = some (k + 1)) :
    (((List.range N).filter fun a => decide (d a = some k)).map fun a => (nxt E a).count w * nw E v k a).sum = nw E v (k + 1) w := by
  rw [nw_succ]
  unfold nw
  refine group_sum (List.nodup_range.filter _) (fun a => (nxt E a).count w) (eW E v) (fun M hM hc => ?_)
  have h1 : w ∈ nxt E (eW E v M) := List.count_pos_iff.1 (Nat.pos_of_ne_zero hc)
  have he := nxt_mem.1 h1
  have hwk := wks_wk hM
  rw [List.mem_filter, List.mem_range]
  refine ⟨(hE _ he).1, decide_eq_true ?_⟩
  cases hd : d (eW E v M) with
  | none => exact absurd hwk.rch ((h.b.far_not _).1 hd)
  | some j =>
    have h2 := ((h.b.far _ _).1 hd).2 _ hwk
    obtain ⟨i, h3, h4⟩ := h.closed he hd
    rw [hw] at h3; cases h3
    congr 1; omega
theorem nw_pos {N : Nat} {E : ArG} {v : Nat} {L : List Nat} {d : Nat → Option Nat} {m : Nat} {β : Nat → Option Nat} (h : Bend N E v L d m β) {k x : Nat} (hx : d x = some k) : 0 < nw E v k x := by
  obtain ⟨h1, h2⟩ := wks_sw h hx
  unfold nw
  rw [List.countP_pos_iff]
  exact ⟨_, h1, decide_eq_true h2⟩
/-- Which of two lists is less. -/
def lessR : List Int → List Int → Bool
  | [], [] => false
  | [], _ :: _ => true
  | _ :: _, [] => false
  | x :: xs, y :: ys => if x = y then lessR xs ys else decide (x < y)
theorem lessR_cc {x y : Int} {xs ys : List Int} : lessR (x :: xs) (y :: ys) = if x = y then lessR xs ys else decide (x < y) := rfl
theorem lessR_found : ∀ {k : Nat} {xs ys : List Int} (h1 : k < xs.length) (h2 : k < ys.length), (∀ j (hj : j < k), xs[j]'(by omega) = ys[j]'(by omega)) → xs[k] ≠ ys[k] → lessR xs ys = decide (xs[k] < ys[k])
  | 0, x :: xs, y :: ys, h1, h2, _, hn => by
    rw [lessR_cc]
    exact if_neg hn
  | k + 1, x :: xs, y :: ys, h1, h2, he, hn => by
    have e0 : x = y := he 0 (by omega)
    rw [lessR_cc, if_pos e0, lessR_found (k := k) (by simpa using h1) (by simpa using h2) (fun j hj => by simpa using he (j + 1) (by omega)) (by simpa using hn)]
    rfl
theorem lessR_none : ∀ {xs ys : List Int}, (∀ j (h1 : j < xs.length) (h2 : j < ys.length), xs[j] = ys[j]) → lessR xs ys = decide (xs.length < ys.length)
  | [], [], _ => rfl
  | [], y :: ys, _ => by unfold lessR; simp
  | x :: xs, [], _ => by unfold lessR; simp
  | x :: xs, y :: ys, h => by
    have e0 : x = y := h 0 (by simp) (by simp)
    rw [lessR_cc, if_pos e0, lessR_none (fun j h1 h2 => h (j + 1) (by simpa using h1) (by simpa using h2))]
    simp
theorem lessR_irr : ∀ xs : List Int, lessR xs xs = false
  | [] => rfl
  | x :: xs => by rw [lessR_cc, if_pos rfl, lessR_irr xs]
theorem lessR_asym : ∀ {xs ys : List Int}, lessR xs ys = true → lessR ys xs = false
  | [], [], h => by cases h
  | [], y :: ys, _ => rfl
  | x :: xs, [], h => by cases h
  | x :: xs, y :: ys, h => by
    rw [lessR_cc] at h ⊢
    by_cases e : x = y
    · rw [if_pos e] at h; rw [if_pos e.symm]; exact lessR_asym h
    · rw [if_neg e] at h; rw [if_neg (fun g => e g.symm)]
      have := of_decide_eq_true h
      exact decide_eq_false (by omega)
def lessW (a b : List Nat) : Bool := lessR (li a).reverse (li b).reverse
theorem lessW_snoc (a b : List Nat) (i j : Nat) : lessW (a ++ [i]) (b ++ [j]) = if i = j then lessW a b else decide (i < j) := by
  unfold lessW
  rw [li_app, li_app, List.reverse_append, List.reverse_append]
  show lessR ((i : Int) :: (li a).reverse) ((j : Int) :: (li b).reverse) = _
  rw [lessR_cc]
  by_cases e : i = j
  · subst e; rw [if_pos rfl, if_pos rfl]
  · rw [if_neg e, if_neg (by omega)]
    exact decide_eq_decide.2 (by omega)
/-- Of all shortest walks the one that is told is less than each other one. -/
theorem sw_least {N : Nat} {E : ArG} {v : Nat} {L : List Nat} {d : Nat → Option Nat} {m : Nat} {β : Nat → Option Nat} (h : Bend N E v L d m β) : ∀ {k x : Nat} {M : List Nat}, d x = some k → M ∈ wks E v k → eW E v M = x → M ≠ sw E β k x → lessW (sw E β k x) M = true
  | 0, x, M, hx, hM, he, hn => by
    unfold wks at hM; simp at hM
    exact absurd (by rw [hM]; rfl) hn
  | k + 1, x, M, hx, hM, he, hn => by
    obtain ⟨j, hj, h1, h2, h3, h4⟩ := sw_succ h hx
    rw [h4] at hn ⊢
    unfold wks at hM
    rw [List.mem_flatMap] at hM
    obtain ⟨A, hA, hM⟩ := hM
    rw [List.mem_map] at hM
    obtain ⟨i, hi, rfl⟩ := hM
    obtain ⟨hl, hAi⟩ := occ_arc hi
    rw [eW_snoc] at he
    have hgd : E.getD i (0, 0) = E[i] := by simp [hl]
    rw [hgd] at he
    have hda : d E[i].1 = some k := by
      have hwk := wks_wk hA
      rw [← hAi] at hwk
      cases hd : d E[i].1 with
      | none => exact absurd hwk.rch ((h.b.far_not _).1 hd)
      | some q =>
        have g2 := ((h.b.far _ _).1 hd).2 _ hwk
        obtain ⟨p, g3, g4⟩ := h.closed (a := E[i].1) (b := E[i].2) (List.getElem_mem hl) hd
        rw [he, hx] at g3; cases g3
        congr 1; omega
    obtain ⟨q, g1, g2⟩ := h.low x i ⟨hl, k, he, hda, hx⟩
    rw [h1] at g1; cases g1
    rw [lessW_snoc]
    by_cases e : j = i
    · subst e
      rw [if_pos rfl]
      refine sw_least h h3 hA hAi.symm (fun e2 => hn (by rw [e2]))
    · rw [if_neg e]; exact decide_eq_true (by omega)
end Go.Proofs.Ytcbgkokeikkpoaa
namespace Go.Proofs.Ytcbgkokeikkpoaa
open Go.RowKit
set_option linter.unusedVariables false
set_option linter.unusedSimpArgs false
set_option linter.unnecessarySimpa false
theorem l1_same : fn_bfs_From_kpip0_iiiiiii_l1 = fn_bfs_From_kpiz_l1 := rfl
theorem l3_same : fn_bfs_From_kpip0_iiiiiii_l3 = fn_bfs_From_kpiz_l3 := rfl
/-- What the first p have cost. -/
def cost (E : ArG) (L : List Nat) : Nat := (L.map fun x => 1 + (occ (E.map (·.1)) x).length).sum
theorem add_ok {c n : Nat} {a0 a1 a2 a3 a4 a5 : Int} (hc : c ≤ 1000000000) (hn : n ≤ 1000000000) : fn_tick_Counter_Add_p0c6i_iiiiiii (n : Int) a0 a1 a2 a3 a4 a5 (c : Int) = some ((c + n : Nat) : Int) := by
  unfold fn_tick_Counter_Add_p0c6i_iiiiiii fn_tick_isPart fn_tick_sum
  simp only [Option.bind_some]
  rw [show ((decide ((0 : Int) ≤ 6) && decide ((6 : Int) < 7)) && decide (0 ≤ (n : Int))) = true by simp, cond_true, w64 (x := 9223372036854775807 - (n : Int)) (by omega) (by omega), show decide (9223372036854775807 - (n : Int) < (c : Int)) = false from decide_eq_false (by omega), cond_false, w64 (by omega) (by omega)]
  rfl
theorem outer_step_c {N : Nat} {E : ArG} {v : Nat} {L : List Nat} {p : Nat} {d : Nat → Option Nat} {m : Nat} {β : Nat → Option Nat} {T : List Nat} {q : List Int} {f : Int} (hE : inN N E) (hn : N ≤ 1000) (he : E.length ≤ 10000) (s : Sr N E v L p d m β T q f p) (ht : told E L p T) (hp : p < L.length) {c : Nat} (hc : c ≤ 100000000) :
    ∃ L' d' m' β' T' q' f', fn_bfs_From_kpip0_iiiiiii_l2 (some (mkG N E)) 0 0 0 0 0 0 ((c : Int), dl N d, dl N β, ly m L d, q, f, ((L.length - p : Nat) : Int)) = some (.inl (((c + (1 + (occ (E.map (·.1)) L[p]).length) : Nat) : Int), dl N d', dl N β', ly m' L' d', q', f', ((L'.length - (p + 1) : Nat) : Int)))
      ∧ Sr N E v L' (p + 1) d' m' β' T' q' f' (p + 1) ∧ told E L' (p + 1) T' ∧ L <+: L' := by
  have hLN := s.b.len
  have ha : L[p]? = some L[p] := List.getElem?_eq_getElem hp
  have haL : L[p] ∈ L := List.getElem_mem hp
  have haN := s.b.lt _ haL
  obtain ⟨k, hk⟩ := Option.isSome_iff_exists.1 ((s.b.mem _).1 haL)
  have hr := s.r
  have hdrop : li (L.drop p) = ((L[p] : Nat) : Int) :: li (L.drop (p + 1)) := by rw [List.drop_eq_getElem_cons hp]; rfl
  rw [hdrop] at hr
  obtain ⟨q1, f1, e1, r1, l1⟩ := Pop_eq hr (by have := s.ql; omega)
  have hm1 : ((L.length - p : Nat) : Int) - 1 = ((L.length - (p + 1) : Nat) : Int) := by omega
  rw [hm1] at e1 r1
  have hOl : (occ (E.map (·.1)) L[p]).length ≤ 10000 := by have := occ_bound (E.map (·.1)) L[p]; rw [List.length_map] at this; omega
  obtain ⟨L2, d2, m2, β2, q2, f2, e2, s2, a2, k2, t2, pf⟩ := inner_from (v := v) (p := p) (k := k) hE hn he (O := occ (E.map (·.1)) L[p]) (fun i hi => occ_arc hi) hOl _ 0 L d m β T q1 f1 (Nat.zero_add _) ⟨s.b, s.l, s.k, r1, by rw [l1]; exact s.ql⟩ ha hk (fun i hi => by simp at hi)
  have hnext := s2.b.next a2 k2 (fun b hb => by
    obtain ⟨i, hi, e⟩ := List.mem_iff_getElem.1 hb
    have := t2 i (occ_mem.2 ⟨by rw [List.length_map]; exact hi, by simp [e]⟩) hi
    rw [e] at this; exact this)
  refine ⟨L2, d2, m2, β2, _, q2, f2, ?_, ⟨hnext, s2.l, s2.k, s2.r, s2.ql⟩, ?_, pf⟩
  · unfold fn_bfs_From_kpip0_iiiiiii_l2 fn_stack_Queue_int_Len_p0_rii
    simp only [Option.bind_some]
    rw [show decide ((0 : Int) < ((L.length - p : Nat) : Int)) = true by simp; omega, cond_true, e1]
    simp only [Option.bind_some]
    rw [Out_of (by omega) (by omega) haN]
    simp only [Option.bind_some]
    rw [l1_same, List.length_map, w64 (x := 1 + (((occ (E.map (·.1)) L[p]).length : Nat) : Int)) (by omega) (by omega), show (1 : Int) + (((occ (E.map (·.1)) L[p]).length : Nat) : Int) = ((1 + (occ (E.map (·.1)) L[p]).length : Nat) : Int) by omega, add_ok (by omega) (by omega)]
    simp only [Option.bind_some]
    have e2' : loop (fn_bfs_From_kpiz_l1 (some (mkG N E)) ((L[p] : Nat) : Int) ((occ (E.map (·.1)) L[p]).map (fun i : Nat => (i : Int)))) (0, dl N d, dl N β, ly m L d, q1, f1, ((L.length - (p + 1) : Nat) : Int)) = _ := e2
    rw [e2']
    rfl
  · intro i
    have hp2 : p < L2.length := (List.getElem?_eq_some_iff.1 a2).1
    have hLp : L2[p] = L[p] := by rw [List.getElem?_eq_getElem hp2] at a2; exact Option.some.inj a2
    have hpre : L2.take p = L.take p := by
      obtain ⟨M, rfl⟩ := pf
      rw [List.take_append_of_le_length (by omega)]
    rw [take_snoc hp2, hpre, hLp, List.drop_zero, List.mem_append, ht i, occ_mem]
    constructor
    · rintro (⟨h, h1⟩ | ⟨h, h1⟩)
      · exact ⟨h, List.mem_append_left _ h1⟩
      · rw [List.length_map] at h
        exact ⟨h, List.mem_append_right _ (by simp at h1; simp [h1])⟩
    · rintro ⟨h, h1⟩
      rcases List.mem_append.1 h1 with h1 | h1
      · exact .inl ⟨h, h1⟩
      · simp at h1
        exact .inr ⟨by rw [List.length_map]; exact h, by simp [h1]⟩
theorem sum_const (L : List Nat) (k : Nat) : (L.map fun _ => k).sum = L.length * k := by
  induction L with
  | nil => simp
  | cons y L ih => rw [List.map_cons, List.sum_cons, ih, List.length_cons, Nat.succ_mul, Nat.add_comm]
theorem cnt_cons (k : Nat) (ks : List Nat) (x : Nat) : cnt (k :: ks) x = cnt ks x + (if k = x then 1 else 0) := by
  unfold cnt
  rw [List.countP_cons]
  by_cases h : k = x <;> simp [h]
theorem sum_hit {L : List Nat} (k : Nat) (h : L.Nodup) : (L.map fun x => if k = x then 1 else 0).sum ≤ 1 := by
  induction L with
  | nil => simp
  | cons y L ih =>
    rw [List.nodup_cons] at h
    rw [List.map_cons, List.sum_cons]
    by_cases c : k = y
    · subst c
      have : (L.map fun x => if k = x then 1 else 0).sum = 0 := by
        rw [List.map_congr_left (g := fun _ => 0) (fun x hx => if_neg (fun e => h.1 (by rw [e]; exact hx))), sum_const, Nat.mul_zero]
      rw [this, if_pos rfl]; omega
    · rw [if_neg c]; have := ih h.2; omega
theorem sum_add {L : List Nat} (f g : Nat → Nat) : (L.map fun x => f x + g x).sum = (L.map f).sum + (L.map g).sum := by
  induction L with
  | nil => rfl
  | cons y L ih => simp only [List.map_cons, List.sum_cons, ih]; omega
theorem sum_cnt {L : List Nat} (h : L.Nodup) : ∀ ks : List Nat, (L.map fun x => cnt ks x).sum ≤ ks.length
  | [] => by
    have : (L.map fun x => cnt [] x) = L.map fun _ => 0 := rfl
    rw [this, sum_const]; omega
  | k :: ks => by
    have h1 := sum_cnt h ks
    have h2 := sum_hit k h
    simp only [cnt_cons]
    rw [sum_add (fun x => cnt ks x) (fun x => if k = x then 1 else 0), List.length_cons]
    omega
theorem cost_le (E : ArG) {L : List Nat} (h : L.Nodup) : cost E L ≤ L.length + E.length := by
  have h1 := sum_cnt h (E.map (·.1))
  unfold cost
  rw [sum_add (fun _ => 1) (fun x => (occ (E.map (·.1)) x).length)]
  simp only [occ_len]
  rw [List.length_map] at h1
  have h2 : (L.map fun _ => 1).sum = L.length := by rw [sum_const, Nat.mul_one]
  omega
theorem outer_loop_c {N : Nat} {E : ArG} {v : Nat} (hE : inN N E) (hn : N ≤ 1000) (he : E.length ≤ 10000) : ∀ (r p : Nat) (L : List Nat) (d : Nat → Option Nat) (m : Nat) (β : Nat → Option Nat) (T : List Nat) (q : List Int) (f : Int) (c : Nat), N ≤ p + r → Sr N E v L p d m β T q f p → told E L p T → c = cost E (L.take p) →
    ∃ L' d' m' β', loop (fn_bfs_From_kpip0_iiiiiii_l2 (some (mkG N E)) 0 0 0 0 0 0) ((c : Int), dl N d, dl N β, ly m L d, q, f, ((L.length - p : Nat) : Int)) = some (((cost E L' : Nat) : Int), dl N d', dl N β', ly m' L' d') ∧ Bend N E v L' d' m' β' := by
  have fin : ∀ (p : Nat) (L : List Nat) (d : Nat → Option Nat) (m : Nat) (β : Nat → Option Nat) (T : List Nat) (q : List Int) (f : Int) (c : Nat), Sr N E v L p d m β T q f p → told E L p T → c = cost E (L.take p) → ¬ p < L.length →
      ∃ L' d' m' β', loop (fn_bfs_From_kpip0_iiiiiii_l2 (some (mkG N E)) 0 0 0 0 0 0) ((c : Int), dl N d, dl N β, ly m L d, q, f, ((L.length - p : Nat) : Int)) = some (((cost E L' : Nat) : Int), dl N d', dl N β', ly m' L' d') ∧ Bend N E v L' d' m' β' := by
    intro p L d m β T q f c s ht hc hp
    obtain rfl : p = L.length := by have := s.b.pl; omega
    refine ⟨L, d, m, β, ?_, s.b, s.l, fun w i h => (s.k.yes w i h).2, fun w i h => s.k.low w i ?_ h⟩
    · apply loop_end
      unfold fn_bfs_From_kpip0_iiiiiii_l2 fn_stack_Queue_int_Len_p0_rii
      simp only [Option.bind_some]
      rw [Nat.sub_self, hc, List.take_length]
      rfl
    · obtain ⟨hi, k, _, e2, _⟩ := h
      refine (ht i).2 ⟨hi, ?_⟩
      rw [List.take_length]
      exact (s.b.mem _).2 (by rw [e2]; rfl)
  intro r
  induction r with
  | zero =>
    intro p L d m β T q f c hr s ht hc
    exact fin p L d m β T q f c s ht hc (by have := s.b.len; omega)
  | succ r ih =>
    intro p L d m β T q f c hr s ht hc
    by_cases hp : p < L.length
    · have hb : cost E (L.take p) ≤ 20000 := by
        have h1 := cost_le E (s.b.nd.sublist (List.take_sublist p L))
        have h2 := s.b.len
        rw [List.length_take] at h1
        omega
      obtain ⟨L1, d1, m1, β1, T1, q1, f1, e1, s1, t1, pf⟩ := outer_step_c hE hn he s ht hp (c := c) (by omega)
      have hc1 : c + (1 + (occ (E.map (·.1)) L[p]).length) = cost E (L1.take (p + 1)) := by
        obtain ⟨M, rfl⟩ := pf
        rw [List.take_append_of_le_length (by omega), take_snoc hp, hc]
        unfold cost
        rw [List.map_append, List.sum_append, List.map_cons, List.map_nil, List.sum_cons, List.sum_nil, Nat.add_zero]
      obtain ⟨L2, d2, m2, β2, e2, b2⟩ := ih (p + 1) L1 d1 m1 β1 T1 q1 f1 _ (by omega) s1 t1 hc1
      exact ⟨L2, d2, m2, β2, by rw [loop_next e1]; exact e2, b2⟩
    · exact fin p L d m β T q f c s ht hc hp
theorem From_c_ok {N : Nat} {E : ArG} {v : Nat} (hE : inN N E) (hn : N ≤ 16) (he : E.length ≤ 10000) (hv : v < N) : ∃ L d m β, fn_bfs_From_kpip0_iiiiiii (some (mkG N E)) (v : Int) 0 0 0 0 0 0 0 = some (some (dl N d, dl N β, lyS N m d), ((cost E L : Nat) : Int)) ∧ Bend N E v L d m β := by
  obtain ⟨L, d, m, β, e, b⟩ := outer_loop_c (v := v) hE (by omega) he N 0 [v] (fun w => if w = v then some 0 else none) 1 (fun _ => none) [] [(v : Int)] 0 0 (by omega) ⟨Bfs.start hv, Lm.start v, Bck.start E _, RQ.one _, by simp⟩ (fun i => by simp) rfl
  refine ⟨L, d, m, β, ?_, b⟩
  unfold fn_bfs_From_kpip0_iiiiiii
  rw [Nodes_eq]
  simp only [Option.bind_some]
  rw [Repeat_eq hn, rep_dl]
  simp only [Option.bind_some]
  rw [show decide (0 ≤ (v : Int)) = true by simp, cond_true, Option.bind_some, show decide ((v : Int) < (N : Int)) = true by simp; omega, cond_true, start_ok hv]
  simp only [Option.bind_some]
  rw [Push_first]
  simp only [Option.bind_some]
  have e' : loop (fn_bfs_From_kpip0_iiiiiii_l2 (some (mkG N E)) 0 0 0 0 0 0) (0, dl N (fun w => if w = v then some 0 else none), dl N (fun _ => none), ly 1 [v] (fun w => if w = v then some 0 else none), [(v : Int)], 0, 1) = _ := e
  rw [e']
  simp only [Option.bind_some]
  rw [l3_same, sort_loop b (by omega)]
  rfl
theorem From_c_not {N : Nat} {E : ArG} {v : Int} (hn : N ≤ 16) (hv : v < 0 ∨ (N : Int) ≤ v) : fn_bfs_From_kpip0_iiiiiii (some (mkG N E)) v 0 0 0 0 0 0 0 = some (some (dl N (fun _ => none), dl N (fun _ => none), []), 0) := by
  unfold fn_bfs_From_kpip0_iiiiiii
  rw [Nodes_eq]
  simp only [Option.bind_some]
  rw [Repeat_eq hn, rep_dl]
  simp only [Option.bind_some]
  have hc : (cond (decide (0 ≤ v)) (some (decide (v < (N : Int)))) (some false) : Option Bool) = some false := by
    rcases hv with h | h
    · rw [show decide (0 ≤ v) = false by simp; omega]; rfl
    · rw [show decide (v < (N : Int)) = false by simp; omega]; cases decide (0 ≤ v) <;> rfl
  rw [hc]
  simp only [Option.bind_some, cond_false]
  rw [loop_end (b := (0, dl N (fun _ => none), dl N (fun _ => none), [])) rfl]
  simp only [Option.bind_some]
  rw [loop_end (b := []) rfl]
  rfl
end Go.Proofs.Ytcbgkokeikkpoaa
namespace Go.Proofs.Ytcbgkokeikkpoaa
open Go.RowKit
set_option linter.unusedVariables false
set_option linter.unusedSimpArgs false
set_option linter.unnecessarySimpa false
theorem rep_set {k : Nat} {S : List Int} {x : Int} : (List.replicate (k + 1) (0 : Int) ++ S).set k x = List.replicate k 0 ++ x :: S := by
  rw [List.replicate_succ', List.append_assoc, List.set_append_right (h := by simp)]
  simp
theorem rep_get {k : Nat} {S : List Int} {x : Int} : getI (List.replicate k (0 : Int) ++ x :: S) (k : Int) = some x := by
  rw [getN (by simp)]
  simp
theorem rep_get0 {k : Nat} {S : List Int} : getI (List.replicate (k + 1) (0 : Int) ++ S) (k : Int) = some 0 := by
  rw [getN (by simp; omega)]
  rw [List.getElem_append_left (by simp)]
  simp
theorem Arc_at {N : Nat} {E : ArG} {j : Nat} (hj : j < E.length) : fn_graph_Graph_Arc (some (mkG N E)) (j : Int) = some ((E[j].1 : Int), (E[j].2 : Int), true) := by
  rw [Arc_of, dif_pos ⟨by omega, by omega⟩]
  simp
theorem Short_loop {N : Nat} {E : ArG} {v : Nat} {L : List Nat} {d : Nat → Option Nat} {m : Nat} {β : Nat → Option Nat} {ls : List (List Int)} (hE : inN N E) (h : Bend N E v L d m β) : ∀ {k x : Nat} {S : List Int}, d x = some k → k ≤ 1000 →
    loop (fn_path_Short_kpiiz_l1 (some (mkG N E)) (some (dl N d, dl N β, ls))) ((x : Int), List.replicate k 0 ++ S, (k : Int) - 1) = some (li (sw E β k x) ++ S)
  | 0, x, S, hx, _ => by
    apply loop_end
    unfold fn_path_Short_kpiiz_l1
    rfl
  | k + 1, x, S, hx, hk => by
    obtain ⟨j, hj, h1, h2, h3, h4⟩ := sw_succ h hx
    have hxN := h.b.lt x ((h.b.mem x).2 (by rw [hx]; rfl))
    have ih := Short_loop (S := (j : Int) :: S) (ls := ls) hE h h3 (by omega)
    have e : fn_path_Short_kpiiz_l1 (some (mkG N E)) (some (dl N d, dl N β, ls)) ((x : Int), List.replicate (k + 1) 0 ++ S, ((k + 1 : Nat) : Int) - 1) = some (.inl ((E[j].1 : Int), List.replicate k 0 ++ (j : Int) :: S, (k : Int) - 1)) := by
      rw [show ((k + 1 : Nat) : Int) - 1 = (k : Int) by omega]
      unfold fn_path_Short_kpiiz_l1
      dsimp only
      rw [decide_eq_true (p := (0 : Int) ≤ (k : Int)) (by omega), cond_true, Back_of hxN, h1]
      simp only [Option.bind_some]
      rw [rep_get0]
      simp only [Option.bind_some, Int.toNat_natCast]
      rw [show dN (some j) = (j : Int) from rfl, rep_set, rep_get]
      simp only [Option.bind_some]
      rw [Arc_at hj]
      simp only [Option.bind_some]
      rw [w64 (by omega) (by omega)]
    rw [loop_next e, ih, h4, li_app, List.append_assoc]
    rfl
theorem short_l1_same : fn_path_Short_kpiip0_iiiiiii_l1 = fn_path_Short_kpiiz_l1 := rfl
theorem Short_ok {N : Nat} {E : ArG} {v : Nat} {L : List Nat} {d : Nat → Option Nat} {m : Nat} {β : Nat → Option Nat} {ls : List (List Int)} (hE : inN N E) (hN : N ≤ 1000) (h : Bend N E v L d m β) (e : fn_bfs_From_kpiz (some (mkG N E)) (v : Int) = some (some (dl N d, dl N β, ls))) {x k : Nat} (hx : d x = some k) :
    fn_path_Short_kpiiz (some (mkG N E)) (v : Int) (x : Int) = some (li (sw E β k x), true) := by
  have hxN := h.b.lt x ((h.b.mem x).2 (by rw [hx]; rfl))
  have hk := h.lt hx
  unfold fn_path_Short_kpiiz
  rw [e]
  simp only [Option.bind_some]
  rw [Dist_of hxN, hx]
  simp only [Option.bind_some]
  rw [show dN (some k) = (k : Int) from rfl, decide_eq_false (p := (k : Int) < 0) (by omega), cond_false, mkN (by omega)]
  simp only [Option.bind_some]
  rw [List.length_replicate, w64 (by omega) (by omega)]
  have := Short_loop (S := []) (ls := ls) hE h hx (by omega)
  rw [List.append_nil, List.append_nil] at this
  rw [this]
  rfl
theorem Short_not {g : Option Gr} {v x : Int} {t : Option (List Int × List Int × List (List Int))} (e : fn_bfs_From_kpiz g v = some t) (hd : fn_bfs_Tree_Dist t x = some (-1)) : fn_path_Short_kpiiz g v x = some ([], false) := by
  unfold fn_path_Short_kpiiz
  rw [e]
  simp only [Option.bind_some]
  rw [hd]
  rfl
theorem pWalk_ok {N : Nat} {E : ArG} {x : Int} {l : List Int} (hl : l.length ≤ 1000) (he : E.length ≤ 10000) : fn_path_Walk (some (mkG N E)) x l = some (if 0 ≤ x ∧ x < (N : Int) then (match goW E x l with | some y => (y, true) | none => (0, false)) else (0, false)) := by
  unfold fn_path_Walk
  rw [Nodes_eq]
  simp only [Option.bind_some]
  by_cases h0 : x < 0
  · rw [decide_eq_true h0, if_neg (by omega)]; rfl
  rw [decide_eq_false h0]
  simp only [cond_false, Option.bind_some]
  by_cases h1 : (N : Int) ≤ x
  · rw [decide_eq_true h1, if_neg (by omega)]; rfl
  rw [decide_eq_false h1, if_pos (by omega), cond_false]
  have key : ∀ (r i : Nat) (x : Int), i + r = l.length → loop (fn_path_Walk_l1 (some (mkG N E)) l) (x, (i : Int)) = some (match goW E x (l.drop i) with | some y => .inl y | none => .inr (0, false)) := by
    intro r
    induction r with
    | zero =>
      intro i x hi
      have : l.drop i = [] := List.drop_eq_nil_of_le (by omega)
      rw [this, goW_nil]
      apply loop_end
      unfold fn_path_Walk_l1
      dsimp only
      rw [dge (by omega), cond_false]
    | succ r ih =>
      intro i x hi
      have hil : i < l.length := by omega
      rw [List.drop_eq_getElem_cons hil, goW_cons]
      by_cases hc : (0 ≤ l[i] ∧ l[i] < (E.length : Int)) ∧ ((E.getD (l[i]).toNat (0, 0)).1 : Int) = x
      · rw [dif_pos hc, ← ih (i + 1) _ (by omega)]
        apply loop_next
        unfold fn_path_Walk_l1
        dsimp only
        have hlt : (l[i]).toNat < E.length := by omega
        have hgd : E.getD (l[i]).toNat (0, 0) = E[(l[i]).toNat] := by simp [hlt]
        rw [dlt hil, cond_true, getN hil]
        simp only [Option.bind_some]
        rw [Arc_of, dif_pos hc.1]
        simp only [Option.bind_some]
        have hx : ((E[(l[i]).toNat].1 : Nat) : Int) = x := by rw [← hgd]; exact hc.2
        rw [w64s hil (by omega)]
        simp [hx, hlt]
      · rw [dif_neg hc]
        apply loop_end
        unfold fn_path_Walk_l1
        dsimp only
        rw [dlt hil, cond_true, getN hil]
        simp only [Option.bind_some]
        rw [Arc_of]
        by_cases hr : 0 ≤ l[i] ∧ l[i] < (E.length : Int)
        · rw [dif_pos hr]
          have hlt : (l[i]).toNat < E.length := by omega
          have hgd : E.getD (l[i]).toNat (0, 0) = E[(l[i]).toNat] := by simp [hlt]
          rw [hgd] at hc
          simp only [Option.bind_some]
          rw [decide_eq_false (fun g => hc ⟨hr, g⟩)]
          rfl
        · rw [dif_neg hr]; rfl
  have k0 := key l.length 0 x (Nat.zero_add _)
  rw [List.drop_zero] at k0
  have k1 : loop (fn_path_Walk_l1 (some (mkG N E)) l) (x, 0) = _ := k0
  rw [k1]
  cases goW E x l <;> rfl
theorem rWalk_ok {N : Nat} {E : ArG} {x : Int} {l : List Int} (hl : l.length ≤ 1000) (he : E.length ≤ 10000) : fn_ref14_Walk (N : Int) (ai E) x l = some (if 0 ≤ x ∧ x < (N : Int) then (match goW E x l with | some y => (y, true) | none => (0, false)) else (0, false)) := by
  unfold fn_ref14_Walk
  by_cases h0 : x < 0
  · rw [decide_eq_true h0, if_neg (by omega)]; rfl
  by_cases h1 : (N : Int) ≤ x
  · rw [decide_eq_true h1, Bool.or_true, if_neg (by omega)]; rfl
  rw [decide_eq_false h1, decide_eq_false h0, if_pos (by omega), Bool.or_self, cond_false]
  have key : ∀ (r i : Nat) (x : Int), i + r = l.length → loop (fn_ref14_Walk_l1 (ai E) l) (x, (i : Int)) = some (match goW E x (l.drop i) with | some y => .inl y | none => .inr (0, false)) := by
    intro r
    induction r with
    | zero =>
      intro i x hi
      have : l.drop i = [] := List.drop_eq_nil_of_le (by omega)
      rw [this, goW_nil]
      apply loop_end
      unfold fn_ref14_Walk_l1
      dsimp only
      rw [dge (by omega), cond_false]
    | succ r ih =>
      intro i x hi
      have hil : i < l.length := by omega
      rw [List.drop_eq_getElem_cons hil, goW_cons]
      have arc : ∀ (hr : 0 ≤ l[i] ∧ l[i] < (E.length : Int)), getI (ai E) l[i] = some (((E.getD (l[i]).toNat (0, 0)).1 : Int), ((E.getD (l[i]).toNat (0, 0)).2 : Int)) := fun hr => by
        obtain ⟨q, hq⟩ := Int.eq_ofNat_of_zero_le hr.1
        rw [hq] at hr ⊢
        have hlt : q < E.length := by omega
        rw [getI_ai hlt, Int.toNat_natCast]
        simp [hlt]
      by_cases hc : (0 ≤ l[i] ∧ l[i] < (E.length : Int)) ∧ ((E.getD (l[i]).toNat (0, 0)).1 : Int) = x
      · rw [dif_pos hc, ← ih (i + 1) _ (by omega)]
        apply loop_next
        unfold fn_ref14_Walk_l1
        dsimp only
        rw [dlt hil, cond_true, getN hil]
        simp only [Option.bind_some]
        rw [arc hc.1, decide_eq_false (p := l[i] < 0) (by omega), cond_false]
        simp only [Option.bind_some]
        rw [ai_len, decide_eq_false (p := ((E.length : Nat) : Int) ≤ l[i]) (by omega)]
        simp only [Option.bind_some, cond_false]
        rw [decide_eq_true hc.2, w64s hil (by omega)]
        rfl
      · rw [dif_neg hc]
        apply loop_end
        unfold fn_ref14_Walk_l1
        dsimp only
        rw [dlt hil, cond_true, getN hil]
        simp only [Option.bind_some]
        by_cases hr : 0 ≤ l[i] ∧ l[i] < (E.length : Int)
        · rw [arc hr, decide_eq_false (p := l[i] < 0) (by omega), cond_false]
          simp only [Option.bind_some]
          rw [ai_len, decide_eq_false (p := ((E.length : Nat) : Int) ≤ l[i]) (by omega)]
          simp only [Option.bind_some, cond_false]
          rw [decide_eq_false (fun g => hc ⟨hr, g⟩)]
          rfl
        · rw [ai_len]
          by_cases hneg : l[i] < 0
          · rw [decide_eq_true hneg]; rfl
          · rw [decide_eq_false hneg, decide_eq_true (p := ((E.length : Nat) : Int) ≤ l[i]) (by omega)]; rfl
  have k0 := key l.length 0 x (Nat.zero_add _)
  rw [List.drop_zero] at k0
  have k1 : loop (fn_ref14_Walk_l1 (ai E) l) (x, 0) = _ := k0
  rw [k1]
  cases goW E x l <;> rfl
theorem rev_at {l : List Int} {i : Nat} (h : i < l.length) : l.reverse[i]'(by simpa using h) = l[l.length - 1 - i]'(by omega) := by rw [List.getElem_reverse]
def lessO : List Int → List Int → Unit ⊕ Bool
  | x :: xs, y :: ys => if x = y then lessO xs ys else .inr (decide (x < y))
  | [], _ => .inl ()
  | _ :: _, [] => .inl ()
theorem lessO_R : ∀ xs ys : List Int, (match lessO xs ys with | .inr r => r | .inl () => decide (xs.length < ys.length)) = lessR xs ys
  | [], [] => rfl
  | [], y :: ys => by unfold lessO lessR; simp
  | x :: xs, [] => by unfold lessO lessR; simp
  | x :: xs, y :: ys => by
    have ih := lessO_R xs ys
    rw [lessR_cc, show lessO (x :: xs) (y :: ys) = if x = y then lessO xs ys else .inr (decide (x < y)) from rfl]
    by_cases e : x = y
    · rw [if_pos e, if_pos e, ← ih]
      cases lessO xs ys <;> simp
    · rw [if_neg e, if_neg e]
theorem pLess_ok {a b : List Int} (ha : a.length ≤ 100000) (hb : b.length ≤ 100000) : fn_path_Less a b = some (lessR a.reverse b.reverse) := by
  unfold fn_path_Less
  have hmin : (if ((b.length : Nat) : Int) < ((a.length : Nat) : Int) then ((b.length : Nat) : Int) else ((a.length : Nat) : Int)) = ((min a.length b.length : Nat) : Int) := by split <;> omega
  have key : ∀ (r i : Nat), i + r = min a.length b.length → loop (fn_path_Less_l1 a b) (i : Int) = some (lessO (a.reverse.drop i) (b.reverse.drop i)) := by
    intro r
    induction r with
    | zero =>
      intro i hi
      have e : lessO (a.reverse.drop i) (b.reverse.drop i) = .inl () := by
        by_cases h : a.length ≤ i
        · rw [List.drop_eq_nil_of_le (by simpa using h)]; unfold lessO; rfl
        · have hb0 : b.reverse.drop i = [] := List.drop_eq_nil_of_le (by simp; omega)
          rw [hb0]; cases List.drop i a.reverse <;> rfl
      rw [e]
      apply loop_end
      unfold fn_path_Less_l1
      rw [hmin, dge (by omega), cond_false]
    | succ r ih =>
      intro i hi
      have h1 : i < a.length := by omega
      have h2 : i < b.length := by omega
      rw [List.drop_eq_getElem_cons (l := a.reverse) (by simpa using h1), List.drop_eq_getElem_cons (l := b.reverse) (by simpa using h2)]
      show _ = some (if a.reverse[i]'(by simpa using h1) = b.reverse[i]'(by simpa using h2) then lessO (a.reverse.drop (i + 1)) (b.reverse.drop (i + 1)) else .inr (decide (a.reverse[i]'(by simpa using h1) < b.reverse[i]'(by simpa using h2))))
      have w1 : IntKind.wrap .i64 (IntKind.wrap .i64 (((a.length : Nat) : Int) - 1) - (i : Int)) = ((a.length - 1 - i : Nat) : Int) := by rw [w64 (x := ((a.length : Nat) : Int) - 1) (by omega) (by omega), w64 (by omega) (by omega)]; omega
      have w2 : IntKind.wrap .i64 (IntKind.wrap .i64 (((b.length : Nat) : Int) - 1) - (i : Int)) = ((b.length - 1 - i : Nat) : Int) := by rw [w64 (x := ((b.length : Nat) : Int) - 1) (by omega) (by omega), w64 (by omega) (by omega)]; omega
      by_cases e : a.reverse[i]'(by simpa using h1) = b.reverse[i]'(by simpa using h2)
      · rw [if_pos e, ← ih (i + 1) (by omega)]
        apply loop_next
        unfold fn_path_Less_l1
        rw [hmin, dlt (by omega), cond_true, w1, w2, getN (by omega), getN (by omega)]
        simp only [Option.bind_some]
        rw [← rev_at h1, ← rev_at h2, decide_eq_true e, w64s h1 (by omega)]
        rfl
      · rw [if_neg e]
        apply loop_end
        unfold fn_path_Less_l1
        rw [hmin, dlt (by omega), cond_true, w1, w2, getN (by omega), getN (by omega)]
        simp only [Option.bind_some]
        rw [← rev_at h1, ← rev_at h2, decide_eq_false e]
        rfl
  have k0 := key _ 0 (Nat.zero_add _)
  rw [List.drop_zero, List.drop_zero] at k0
  have k1 : loop (fn_path_Less_l1 a b) 0 = _ := k0
  rw [k1, ← lessO_R]
  simp only [Option.bind_some]
  cases lessO a.reverse b.reverse with
  | inr r => rfl
  | inl u =>
    show some (decide (((a.length : Nat) : Int) < ((b.length : Nat) : Int))) = some (decide (a.reverse.length < b.reverse.length))
    congr 1
    simp
theorem rLess_ok {a b : List Int} (ha : a.length ≤ 100000) (hb : b.length ≤ 100000) : fn_ref14_Less a b = some (lessR a.reverse b.reverse) := by
  unfold fn_ref14_Less
  have key : ∀ (r i : Nat), i + r = min a.length b.length → loop (fn_ref14_Less_l1 a b) ((i + 1 : Nat) : Int) = some (lessO (a.reverse.drop i) (b.reverse.drop i)) := by
    intro r
    induction r with
    | zero =>
      intro i hi
      have e : lessO (a.reverse.drop i) (b.reverse.drop i) = .inl () := by
        by_cases h : a.length ≤ i
        · rw [List.drop_eq_nil_of_le (by simpa using h)]; unfold lessO; rfl
        · have hb0 : b.reverse.drop i = [] := List.drop_eq_nil_of_le (by simp; omega)
          rw [hb0]; cases List.drop i a.reverse <;> rfl
      rw [e]
      apply loop_end
      unfold fn_ref14_Less_l1
      have : (decide (((i + 1 : Nat) : Int) ≤ ((a.length : Nat) : Int)) && decide (((i + 1 : Nat) : Int) ≤ ((b.length : Nat) : Int))) = false := by
        rw [Bool.and_eq_false_iff, decide_eq_false_iff_not, decide_eq_false_iff_not]; omega
      rw [this, cond_false]
    | succ r ih =>
      intro i hi
      have h1 : i < a.length := by omega
      have h2 : i < b.length := by omega
      rw [List.drop_eq_getElem_cons (l := a.reverse) (by simpa using h1), List.drop_eq_getElem_cons (l := b.reverse) (by simpa using h2)]
      show _ = some (if a.reverse[i]'(by simpa using h1) = b.reverse[i]'(by simpa using h2) then lessO (a.reverse.drop (i + 1)) (b.reverse.drop (i + 1)) else .inr (decide (a.reverse[i]'(by simpa using h1) < b.reverse[i]'(by simpa using h2))))
      have w1 : IntKind.wrap .i64 (((a.length : Nat) : Int) - ((i + 1 : Nat) : Int)) = ((a.length - 1 - i : Nat) : Int) := by rw [w64 (by omega) (by omega)]; omega
      have w2 : IntKind.wrap .i64 (((b.length : Nat) : Int) - ((i + 1 : Nat) : Int)) = ((b.length - 1 - i : Nat) : Int) := by rw [w64 (by omega) (by omega)]; omega
      have hc : (decide (((i + 1 : Nat) : Int) ≤ ((a.length : Nat) : Int)) && decide (((i + 1 : Nat) : Int) ≤ ((b.length : Nat) : Int))) = true := by
        rw [decide_eq_true (by omega), decide_eq_true (by omega)]; rfl
      by_cases e : a.reverse[i]'(by simpa using h1) = b.reverse[i]'(by simpa using h2)
      · rw [if_pos e, ← ih (i + 1) (by omega)]
        apply loop_next
        unfold fn_ref14_Less_l1
        rw [hc, cond_true, w1, w2, getN (by omega), getN (by omega)]
        simp only [Option.bind_some]
        rw [← rev_at h1, ← rev_at h2, decide_eq_true e, w64 (by omega) (by omega)]
        rfl
      · rw [if_neg e]
        apply loop_end
        unfold fn_ref14_Less_l1
        rw [hc, cond_true, w1, w2, getN (by omega), getN (by omega)]
        simp only [Option.bind_some]
        rw [← rev_at h1, ← rev_at h2, decide_eq_false e]
        rfl
  have k0 := key _ 0 (Nat.zero_add _)
  rw [List.drop_zero, List.drop_zero] at k0
  have k1 : loop (fn_ref14_Less_l1 a b) 1 = _ := k0
  rw [k1, ← lessO_R]
  simp only [Option.bind_some]
  cases lessO a.reverse b.reverse with
  | inr r => rfl
  | inl u =>
    show some (decide (((a.length : Nat) : Int) < ((b.length : Nat) : Int))) = some (decide (a.reverse.length < b.reverse.length))
    congr 1
    simp
/-- Ways, as they are kept. -/
def sat (x : Nat) : Nat := min x 1048576
theorem sat_sat (p q : Nat) : sat (sat p + sat q) = sat (p + q) := by unfold sat; omega
theorem sat_le (p : Nat) : sat p ≤ 1048576 := by unfold sat; omega
def wl (N : Nat) (W : Nat → Nat) : List Int := (List.range N).map fun w => ((W w : Nat) : Int)
theorem wl_get {N w : Nat} {W : Nat → Nat} (h : w < N) : getI (wl N W) (w : Int) = some ((W w : Nat) : Int) := getI_map h
theorem wl_set {N w k : Nat} {W : Nat → Nat} : (wl N W).set w ((k : Nat) : Int) = wl N (fun x => if x = w then k else W x) := by
  unfold wl
  rw [set_map]
  apply map_congr_range
  intro v hv
  by_cases c : v = w <;> simp [c]
theorem wl_congr {N : Nat} {f g : Nat → Nat} (h : ∀ w, w < N → f w = g w) : wl N f = wl N g := by
  unfold wl
  apply map_congr_range
  intro w hw
  rw [h w hw]
theorem count1 {N : Nat} {d : Nat → Option Nat} {β : Nat → Option Nat} {ls : List (List Int)} {T : Nat → Nat} {k a : Nat} {B : List Nat} (hk : k ≤ 1000) (ha : a < N) (hda : d a = some k) (hB : ∀ x ∈ B, x < N) (hBl : B.length ≤ 100000) :
    loop (fn_path_Count_l1 (some (dl N d, dl N β, ls)) (k : Int) (a : Int) (li B)) (wl N (fun w => sat (T w)), 0) = some (wl N (fun w => sat (if d w = some (k + 1) then T w + B.count w * T a else T w))) := by
  have := loop_nat (body := fn_path_Count_l1 (some (dl N d, dl N β, ls)) (k : Int) (a : Int) (li B)) (fun i : Nat => (wl N (fun w => sat (if d w = some (k + 1) then T w + (B.take i).count w * T a else T w)), (i : Int))) B.length (b := wl N (fun w => sat (if d w = some (k + 1) then T w + B.count w * T a else T w))) ?_ ?_
  · simpa using this
  · intro i hi
    have hx := hB _ (List.getElem_mem hi)
    unfold fn_path_Count_l1
    dsimp only
    rw [li_len, dlt hi, cond_true, getI_li hi]
    simp only [Option.bind_some]
    rw [Dist_of hx, w64 (x := (k : Int) + 1) (by omega) (by omega), w64s hi (by omega)]
    simp only [Option.bind_some]
    rw [take_snoc hi]
    by_cases c : d B[i] = some (k + 1)
    · rw [c, show decide (dN (some (k + 1)) = (k : Int) + 1) = true from decide_eq_true (by show ((k + 1 : Nat) : Int) = _; omega), cond_true, wl_get hx, wl_get ha]
      simp only [Option.bind_some, Int.toNat_natCast]
      have hna : ¬ d a = some (k + 1) := by rw [hda]; simp
      rw [if_pos c, if_neg hna]
      have s1 := sat_le (T B[i] + (B.take i).count B[i] * T a)
      have s2 := sat_le (T a)
      rw [w64 (x := ((sat (T B[i] + (B.take i).count B[i] * T a) : Nat) : Int) + ((sat (T a) : Nat) : Int)) (by omega) (by omega)]
      have e : (if (1048576 : Int) < ((sat (T B[i] + (B.take i).count B[i] * T a) : Nat) : Int) + ((sat (T a) : Nat) : Int) then (1048576 : Int) else ((sat (T B[i] + (B.take i).count B[i] * T a) : Nat) : Int) + ((sat (T a) : Nat) : Int)) = ((sat (T B[i] + (B.take i).count B[i] * T a + T a) : Nat) : Int) := by
        rw [← sat_sat (T B[i] + (B.take i).count B[i] * T a) (T a)]
        generalize sat (T B[i] + (B.take i).count B[i] * T a) = p
        generalize sat (T a) = q
        unfold sat
        split <;> omega
      rw [e, wl_set]
      congr 3
      apply wl_congr
      intro w hw
      by_cases cw : w = B[i]
      · rw [if_pos cw, cw, if_pos c, List.count_append]
        congr 1
        simp [Nat.add_mul, Nat.add_assoc]
      · rw [if_neg cw]
        have : List.count w [B[i]] = 0 := List.count_eq_zero.2 (by simp [cw])
        rw [List.count_append, this]; simp
    · rw [show decide (dN (d B[i]) = (k : Int) + 1) = false from decide_eq_false (fun h => c (dN_eq.1 (by rw [h]; omega))), cond_false]
      congr 3
      apply wl_congr
      intro w hw
      by_cases cw : w = B[i]
      · rw [cw, if_neg c, if_neg c]
      · have : List.count w [B[i]] = 0 := List.count_eq_zero.2 (by simp [cw])
        rw [List.count_append, this]; simp
  · unfold fn_path_Count_l1
    dsimp only
    rw [li_len, dge (Nat.lt_irrefl _), cond_false, List.take_length]
theorem nxt_len (E : ArG) (v : Nat) : (nxt E v).length ≤ E.length := by unfold nxt; rw [List.length_map]; have := occ_bound (E.map (·.1)) v; rwa [List.length_map] at this
theorem count2 {N : Nat} {E : ArG} {d : Nat → Option Nat} {β : Nat → Option Nat} {ls : List (List Int)} {T : Nat → Nat} {k : Nat} {A : List Nat} (hE : inN N E) (hN : N ≤ 1000) (he : E.length ≤ 10000) (hk : k ≤ 1000) (hA : ∀ a ∈ A, a < N ∧ d a = some k) (hAl : A.length ≤ 100000) :
    loop (fn_path_Count_l2 (some (mkG N E)) (some (dl N d, dl N β, ls)) (k : Int) (li A)) (wl N (fun w => sat (T w)), 0) = some (wl N (fun w => sat (if d w = some (k + 1) then T w + (A.map fun a => (nxt E a).count w * T a).sum else T w))) := by
  have := loop_nat (body := fn_path_Count_l2 (some (mkG N E)) (some (dl N d, dl N β, ls)) (k : Int) (li A)) (fun i : Nat => (wl N (fun w => sat (if d w = some (k + 1) then T w + ((A.take i).map fun a => (nxt E a).count w * T a).sum else T w)), (i : Int))) A.length (b := wl N (fun w => sat (if d w = some (k + 1) then T w + (A.map fun a => (nxt E a).count w * T a).sum else T w))) ?_ ?_
  · simpa using this
  · intro i hi
    obtain ⟨haN, hda⟩ := hA _ (List.getElem_mem hi)
    unfold fn_path_Count_l2
    dsimp only
    rw [li_len, dlt hi, cond_true, getI_li hi]
    simp only [Option.bind_some]
    rw [Next_of (by omega) (by omega) haN]
    simp only [Option.bind_some]
    have hl := nxt_len E A[i]
    rw [show List.map (fun i : Nat => (i : Int)) (nxt E A[i]) = li (nxt E A[i]) from rfl, count1 (T := fun w => if d w = some (k + 1) then T w + ((A.take i).map fun a => (nxt E a).count w * T a).sum else T w) hk haN hda (fun x hx => (hE _ (nxt_mem.1 hx)).2) (by omega)]
    simp only [Option.bind_some]
    rw [w64s hi (by omega)]
    congr 3
    apply wl_congr
    intro w hw
    have hna : ¬ d A[i] = some (k + 1) := by rw [hda]; simp
    rw [if_neg hna]
    by_cases c : d w = some (k + 1)
    · rw [if_pos c, if_pos c, if_pos c, take_snoc hi, List.map_append, List.sum_append]
      simp [Nat.add_assoc]
    · rw [if_neg c, if_neg c, if_neg c]
  · unfold fn_path_Count_l2
    dsimp only
    rw [li_len, dge (Nat.lt_irrefl _), cond_false, List.take_length]
def Tk (E : ArG) (v : Nat) (d : Nat → Option Nat) (k w : Nat) : Nat := match d w with
  | some j => if j ≤ k then nw E v j w else 0
  | none => 0
theorem Tk_some {E : ArG} {v : Nat} {d : Nat → Option Nat} {k w j : Nat} (h : d w = some j) : Tk E v d k w = if j ≤ k then nw E v j w else 0 := by unfold Tk; rw [h]
theorem Tk_none {E : ArG} {v : Nat} {d : Nat → Option Nat} {k w : Nat} (h : d w = none) : Tk E v d k w = 0 := by unfold Tk; rw [h]
theorem Count_ok {N : Nat} {E : ArG} {v : Nat} {L : List Nat} {d : Nat → Option Nat} {m : Nat} {β : Nat → Option Nat} (hE : inN N E) (hN : N ≤ 1000) (he : E.length ≤ 10000) (hv : v < N) (h : Bend N E v L d m β) (e : fn_bfs_From_kpiz (some (mkG N E)) (v : Int) = some (some (dl N d, dl N β, lyS N m d))) {x D : Nat} (hx : d x = some D) :
    fn_path_Count (some (mkG N E)) (v : Int) (x : Int) = some ((sat (nw E v D x) : Nat) : Int) := by
  have hxN := h.b.lt x ((h.b.mem x).2 (by rw [hx]; rfl))
  have hD := h.lt hx
  have hm := h.l.le h.b.mem h.b.len
  have hDm := h.l.top x D hx
  unfold fn_path_Count
  rw [e]
  simp only [Option.bind_some]
  rw [Dist_of hxN, hx]
  simp only [Option.bind_some]
  rw [show dN (some D) = (D : Int) from rfl, decide_eq_false (p := (D : Int) < 0) (by omega), cond_false, Nodes_eq]
  simp only [Option.bind_some]
  rw [mkN (by omega)]
  simp only [Option.bind_some, Int.toNat_natCast]
  rw [replicate_map N (0 : Int), getI_map hv]
  simp only [Option.bind_some]
  have e0 : ((List.range N).map fun _ => (0 : Int)).set v 1 = wl N (fun w => sat (Tk E v d 0 w)) := by
    rw [set_map]
    unfold wl
    apply map_congr_range
    intro w hw
    show _ = ((sat (Tk E v d 0 w) : Nat) : Int)
    by_cases c : w = v
    · rw [c, if_pos rfl, Tk_some h.b.d0, if_pos (Nat.le_refl _)]
      have : nw E v 0 v = 1 := by unfold nw wks; simp [eW]
      rw [this]; rfl
    · rw [if_neg c]
      cases hd : d w with
      | none => rw [Tk_none hd]; rfl
      | some j =>
        rw [Tk_some hd]
        by_cases hj : j ≤ 0
        · obtain rfl : j = 0 := by omega
          exact absurd (zero_only h hd) c
        · rw [if_neg hj]; rfl
  rw [e0]
  have := loop_nat (body := fn_path_Count_l3 (some (mkG N E)) (some (dl N d, dl N β, lyS N m d)) (D : Int)) (fun k : Nat => (wl N (fun w => sat (Tk E v d k w)), (k : Int))) D (b := wl N (fun w => sat (Tk E v d D w))) ?_ ?_
  · have e' : loop (fn_path_Count_l3 (some (mkG N E)) (some (dl N d, dl N β, lyS N m d)) (D : Int)) (wl N (fun w => sat (Tk E v d 0 w)), 0) = _ := this
    rw [e']
    simp only [Option.bind_some]
    rw [wl_get hxN]
    simp only [Option.bind_some]
    unfold Tk
    rw [hx]
    simp only
    rw [if_pos (Nat.le_refl _)]
  · intro k hk
    unfold fn_path_Count_l3
    dsimp only
    rw [dlt hk, cond_true, Layer_of (by omega) (by omega) (by omega)]
    simp only [Option.bind_some]
    have hfl := List.length_filter_le (fun w => decide (d w = some k)) (List.range N)
    rw [List.length_range] at hfl
    rw [count2 hE hN he (by omega) (fun a ha => by rw [List.mem_filter, List.mem_range] at ha; exact ⟨ha.1, of_decide_eq_true ha.2⟩) (by omega)]
    simp only [Option.bind_some]
    rw [w64s hk (by omega)]
    congr 3
    apply wl_congr
    intro w hw
    congr 1
    by_cases c : d w = some (k + 1)
    · rw [if_pos c]
      have e1 : Tk E v d k w = 0 := by unfold Tk; rw [c]; simp only; rw [if_neg (by omega)]
      have e2 : Tk E v d (k + 1) w = nw E v (k + 1) w := by unfold Tk; rw [c]; simp only; rw [if_pos (Nat.le_refl _)]
      rw [e1, e2, Nat.zero_add, ← nw_layer hE h c]
      congr 1
      apply List.map_congr_left
      intro a ha
      rw [List.mem_filter] at ha
      congr 1
      unfold Tk
      rw [of_decide_eq_true ha.2]
      simp only
      rw [if_pos (Nat.le_refl _)]
    · rw [if_neg c]
      unfold Tk
      cases hd : d w with
      | none => rfl
      | some j =>
        simp only
        by_cases hj : j ≤ k
        · rw [if_pos hj, if_pos (by omega)]
        · rw [if_neg hj, if_neg (fun g => c (by rw [hd]; congr 1; omega))]
  · unfold fn_path_Count_l3
    dsimp only
    rw [dge (Nat.lt_irrefl _), cond_false]
theorem Count_not {g : Option Gr} {v x : Int} {t : Option (List Int × List Int × List (List Int))} (e : fn_bfs_From_kpiz g v = some t) (hd : fn_bfs_Tree_Dist t x = some (-1)) : fn_path_Count g v x = some 0 := by
  unfold fn_path_Count
  rw [e]
  simp only [Option.bind_some]
  rw [hd]
  rfl
end Go.Proofs.Ytcbgkokeikkpoaa
namespace Go.Proofs.Ytcbgkokeikkpoaa
open Go.RowKit
set_option linter.unusedVariables false
set_option linter.unusedSimpArgs false
set_option linter.unnecessarySimpa false
def E14 : ArG := [(0, 1), (0, 2), (2, 3), (1, 3)]
theorem awake14 : fn_law14_awake = some true := by
  have hE : inN 4 E14 := by unfold inN E14; decide
  obtain ⟨L, d, m, β, e, b⟩ := From_ok (v := 0) hE (by omega) (by decide) (by omega)
  have hpot : ∀ a c, (a, c) ∈ E14 → (match c with | 0 => 0 | 1 => 1 | 2 => 1 | _ => 2 : Nat) ≤ (match a with | 0 => 0 | 1 => 1 | 2 => 1 | _ => 2 : Nat) + 1 := by
    intro a c h
    simp [E14] at h
    rcases h with ⟨rfl, rfl⟩ | ⟨rfl, rfl⟩ | ⟨rfl, rfl⟩ | ⟨rfl, rfl⟩ <;> decide
  have lowb : ∀ j w, Wk E14 0 j w → (match w with | 0 => 0 | 1 => 1 | 2 => 1 | _ => 2 : Nat) ≤ j := fun j w h => Wk.pot (fun c => match c with | 0 => 0 | 1 => 1 | 2 => 1 | _ => 2) rfl hpot h
  have d1 : d 1 = some 1 := (b.b.far 1 1).2 ⟨.step .zero (by decide), fun j h => lowb j 1 h⟩
  have d2 : d 2 = some 1 := (b.b.far 2 1).2 ⟨.step .zero (by decide), fun j h => lowb j 2 h⟩
  have d3 : d 3 = some 2 := (b.b.far 3 2).2 ⟨.step (a := 1) (.step .zero (by decide)) (by decide), fun j h => lowb j 3 h⟩
  have β3 : β 3 = some 2 := by
    obtain ⟨j, h1, h2⟩ := b.low 3 2 ⟨by decide, 1, rfl, d2, d3⟩
    obtain ⟨hj, k, h3, _⟩ := b.yes 3 j h1
    match j, h2, hj, h3, h1 with
    | 0, _, _, h3, _ => cases h3
    | 1, _, _, h3, _ => cases h3
    | 2, _, _, _, h1 => exact h1
  have β2 : β 2 = some 1 := by
    obtain ⟨j, h1, h2⟩ := b.low 2 1 ⟨by decide, 0, rfl, b.b.d0, d2⟩
    obtain ⟨hj, k, h3, _⟩ := b.yes 2 j h1
    match j, h2, hj, h3, h1 with
    | 0, _, _, h3, _ => cases h3
    | 1, _, _, _, h1 => exact h1
  have hs : sw E14 β 2 3 = [1, 2] := by
    show (match β 3 with | some j => (match β (E14.getD j (0, 0)).1 with | some i => [] ++ [i] | none => []) ++ [j] | none => []) = _
    rw [β3]
    show (match β 2 with | some i => [] ++ [i] | none => []) ++ [2] = _
    rw [β2]
    rfl
  unfold fn_law14_awake
  rw [Of_eq _ _ (by decide), show ([(0, 1), (0, 2), (2, 3), (1, 3)] : List (Int × Int)) = ai E14 from rfl, show (4 : Int) = ((4 : Nat) : Int) from rfl, New_ok hE (by omega) (by decide)]
  simp only [Option.bind_some]
  have x1 := Short_ok hE (by omega) b e d3
  rw [hs] at x1
  have x2 := Count_ok hE (by omega) (by decide) (by omega) b e d3
  have x3 : nw E14 0 2 3 = 2 := by decide +kernel
  rw [x3] at x2
  have x1' : fn_path_Short_kpiiz (some (mkG 4 E14)) 0 3 = some ([1, 2], true) := x1
  have x2' : fn_path_Count (some (mkG 4 E14)) 0 3 = some 2 := x2
  rw [x1', x2']
  simp only [Option.bind_some]
  rw [same01_eq _ _ (by decide), pLess_ok (by decide) (by decide)]
  have x4 : lessR ([1, 2] : List Int).reverse ([0, 3] : List Int).reverse = true := by decide
  rw [x4]
  rfl
theorem PathWalks_true (xa : Int) (xb : (List (Int × Int))) (xc : Int) (xd : (List Int)) (xe : (List Int)) (k0 : Tp.Ok (.int .i64) xa) (k1 : Tp.Ok (.sl (.cons (.int .i64) (.one (.int .i64)))) xb) (k2 : Tp.Ok (.int .i64) xc) (k3 : Tp.Ok (.sl (.int .i64)) xd) (k4 : Tp.Ok (.sl (.int .i64)) xe) : fn_law14_PathWalks xa xb xc xd xe = some true := by
  unfold fn_law14_PathWalks
  rw [awake14]
  simp only [Option.bind_some]
  by_cases hg : 16 < xa ∨ 40 < xb.length ∨ 20 < xd.length ∨ 20 < xe.length
  · have : (((decide (16 < xa) || decide ((40 : Int) < ((xb.length : Nat) : Int))) || decide ((20 : Int) < ((xd.length : Nat) : Int))) || decide ((20 : Int) < ((xe.length : Nat) : Int))) = true := by
      simp only [Bool.or_eq_true, decide_eq_true_eq]; omega
    rw [this, cond_true]
  have : (((decide (16 < xa) || decide ((40 : Int) < ((xb.length : Nat) : Int))) || decide ((20 : Int) < ((xd.length : Nat) : Int))) || decide ((20 : Int) < ((xe.length : Nat) : Int))) = false := by
    simp only [Bool.or_eq_false_iff, decide_eq_false_iff_not]; omega
  rw [this, cond_false, Of_eq _ _ (by omega)]
  rcases New_eq xa xb (by omega) with ⟨h, e⟩ | ⟨h, e⟩ | ⟨h1, h2, h3, e⟩ | ⟨N, E, rfl, hN, rfl, hE, hout, e⟩
  · rw [e, pLess_ok (by omega) (by omega), rLess_ok (by omega) (by omega)]; simp
  · omega
  · rw [e, pLess_ok (by omega) (by omega), rLess_ok (by omega) (by omega)]; simp
  have hEl : E.length ≤ 40 := by rw [ai_len] at hg; omega
  rw [e, pLess_ok (by omega) (by omega), rLess_ok (by omega) (by omega)]
  simp only [Option.bind_some]
  rw [pWalk_ok (by omega) (by omega), rWalk_ok (by omega) (by omega)]
  simp
theorem PathEnds_true (xa : Int) (xb : (List (Int × Int))) (xc : Int) (xd : Int) (k0 : Tp.Ok (.int .i64) xa) (k1 : Tp.Ok (.sl (.cons (.int .i64) (.one (.int .i64)))) xb) (k2 : Tp.Ok (.int .i64) xc) (k3 : Tp.Ok (.int .i64) xd) : fn_law14_PathEnds xa xb xc xd = some true := by
  unfold fn_law14_PathEnds
  rw [awake14]
  simp only [Option.bind_some]
  by_cases hg : 16 < xa ∨ 40 < xb.length
  · have : (decide (16 < xa) || decide ((40 : Int) < ((xb.length : Nat) : Int))) = true := by
      simp only [Bool.or_eq_true, decide_eq_true_eq]; omega
    rw [this, cond_true]
  have : (decide (16 < xa) || decide ((40 : Int) < ((xb.length : Nat) : Int))) = false := by
    simp only [Bool.or_eq_false_iff, decide_eq_false_iff_not]; omega
  rw [this, cond_false, Of_eq _ _ (by omega)]
  rcases New_eq xa xb (by omega) with ⟨h, e⟩ | ⟨h, e⟩ | ⟨h1, h2, h3, e⟩ | ⟨N, E, rfl, hN, rfl, hE, hout, e⟩
  · rw [e]; rfl
  · omega
  · rw [e]; rfl
  have hEl : E.length ≤ 40 := by rw [ai_len] at hg; omega
  rw [e]
  simp only [Option.bind_some, decide_true, Bool.not_true, cond_false]
  have none_case : ∀ {t : Option (List Int × List Int × List (List Int))}, fn_bfs_From_kpiz (some (mkG N E)) xc = some t → fn_bfs_Tree_Dist t xd = some (-1) → fn_path_Short_kpiiz (some (mkG N E)) xc xd = some ([], false) ∧ fn_path_Count (some (mkG N E)) xc xd = some 0 := fun h1 h2 => ⟨Short_not h1 h2, Count_not h1 h2⟩
  by_cases hv : xc < 0 ∨ (N : Int) ≤ xc
  · obtain ⟨n1, n2⟩ := none_case (From_not (by omega) hv) (by
      by_cases hd : xd < 0 ∨ (N : Int) ≤ xd
      · exact Dist_not hd
      · obtain ⟨x, rfl⟩ := Int.eq_ofNat_of_zero_le (show 0 ≤ xd by omega)
        rw [Dist_of (by omega)]; rfl)
    rw [n1, n2]
    rfl
  obtain ⟨v, rfl⟩ := Int.eq_ofNat_of_zero_le (show 0 ≤ xc by omega)
  have hvN : v < N := by omega
  obtain ⟨L, d, m, β, e1, b⟩ := From_ok hE (by omega) (by omega) hvN
  by_cases hd : xd < 0 ∨ (N : Int) ≤ xd
  · obtain ⟨n1, n2⟩ := none_case e1 (Dist_not hd)
    rw [n1, n2]
    rfl
  obtain ⟨x, rfl⟩ := Int.eq_ofNat_of_zero_le (show 0 ≤ xd by omega)
  have hxN : x < N := by omega
  cases hx : d x with
  | none =>
    obtain ⟨n1, n2⟩ := none_case e1 (by rw [Dist_of hxN, hx]; rfl)
    rw [n1, n2]
    rfl
  | some D =>
    have hD := b.lt hx
    obtain ⟨w1, w2⟩ := sw_ok b hx
    rw [Short_ok hE (by omega) b e1 hx, Count_ok hE (by omega) (by omega) hvN b e1 hx, refDist_ok hE (by omega) (by omega) hvN b]
    simp only [Option.bind_some]
    rw [pWalk_ok (by rw [li_len, w2]; omega) (by omega), if_pos ⟨by omega, by omega⟩, w1]
    simp only [Option.bind_some, decide_true, Bool.not_true, Bool.or_self, cond_false]
    rw [dl_get hxN, hx, li_len, w2]
    simp only [Option.bind_some]
    rw [show dN (some D) = (D : Int) from rfl]
    have hp := nw_pos b hx
    rw [decide_eq_true rfl, decide_eq_false (p := ((sat (nw E v D x) : Nat) : Int) < 1) (by unfold sat; omega)]
    simp only [Option.bind_some, Bool.not_true, cond_false]
    cases D with
    | zero =>
      have := zero_only b hx
      rw [decide_eq_true (p := ((0 : Nat) : Int) = 0) rfl, decide_eq_true (p := (v : Int) = (x : Int)) (by omega)]
      rfl
    | succ D =>
      obtain ⟨j, hj, h1, h2, h3, h4⟩ := sw_succ b hx
      obtain ⟨g1, g2⟩ := sw_ok b h3
      have hd3 := b.lt h3
      rw [decide_eq_false (p := ((D + 1 : Nat) : Int) = 0) (by omega), cond_false, w64 (by omega) (by omega)]
      have hsub : subL (li (sw E β (D + 1) x)) 0 (((D + 1 : Nat) : Int) - 1) = some (li (sw E β D E[j].1)) := by
        rw [subL_eq (by omega) (by omega) (by rw [li_len, w2]; omega), h4, li_app]
        congr 1
        rw [show (((D + 1 : Nat) : Int) - 1).toNat = (li (sw E β D E[j].1)).length by rw [li_len, g2]; omega]
        simp
      rw [hsub]
      simp only [Option.bind_some]
      rw [pWalk_ok (by rw [li_len, g2]; omega) (by omega), if_pos ⟨by omega, by omega⟩, g1]
      simp only [Option.bind_some]
      rw [Short_ok hE (by omega) b e1 h3]
      simp only [Option.bind_some, Bool.and_self, cond_true]
      rw [same01_eq _ _ (by rw [li_len, g2]; omega), decide_eq_true rfl]
      rfl
end Go.Proofs.Ytcbgkokeikkpoaa
namespace Go.Proofs.Ytcbgkokeikkpoaa
open Go.RowKit
set_option linter.unusedVariables false
set_option linter.unusedSimpArgs false
set_option linter.unnecessarySimpa false
def lli (A : List (List Nat)) : List (List Int) := A.map li
theorem lli_len (A : List (List Nat)) : (lli A).length = A.length := by simp [lli]
theorem lli_get {A : List (List Nat)} {i : Nat} (h : i < A.length) : getI (lli A) (i : Int) = some (li A[i]) := by rw [getN (by rw [lli_len]; exact h)]; simp [lli]
theorem lli_app (A B : List (List Nat)) : lli (A ++ B) = lli A ++ lli B := by simp [lli]
/-- The arcs out of x among the first k. -/
def occk (E : ArG) (x k : Nat) : List Nat := (List.range k).filter fun i => decide ((E.map (·.1)).getD i 0 = x)
theorem occk_all (E : ArG) (x : Nat) : occk E x E.length = occ (E.map (·.1)) x := by unfold occk occ; rw [List.length_map]
theorem occk_len (E : ArG) (x k : Nat) : (occk E x k).length ≤ k := by unfold occk; have := List.length_filter_le (fun i => decide ((E.map (·.1)).getD i 0 = x)) (List.range k); rwa [List.length_range] at this
theorem longer1 {E : ArG} {Ws : List (List Nat)} {i x : Nat} (hi : i < Ws.length) {acc : List (List Nat)} (ha : acc.length + E.length ≤ 1000000) (hM : (Ws[i]).length ≤ 1000) :
    loop (fn_ref14_longer_l1 (ai E) (lli Ws) (i : Int) (x : Int)) (lli acc, 0) = some (lli (acc ++ (occ (E.map (·.1)) x).map fun q => Ws[i] ++ [q])) := by
  have := loop_nat (body := fn_ref14_longer_l1 (ai E) (lli Ws) (i : Int) (x : Int)) (fun k : Nat => (lli (acc ++ (occk E x k).map fun q => Ws[i] ++ [q]), (k : Int))) E.length (b := lli (acc ++ (occ (E.map (·.1)) x).map fun q => Ws[i] ++ [q])) ?_ ?_
  · simpa [occk] using this
  · intro k hk
    have hl := occk_len E x k
    unfold fn_ref14_longer_l1
    dsimp only
    rw [ai_len, dlt hk, cond_true, getI_ai hk]
    simp only [Option.bind_some]
    rw [lli_get hi, w64s hk (by omega)]
    simp only [Option.bind_some]
    have hs : occk E x (k + 1) = occk E x k ++ (if E[k].1 = x then [k] else []) := by
      unfold occk
      rw [List.range_succ, List.filter_append]
      congr 1
      by_cases c : E[k].1 = x <;> simp [hk, c]
    rw [hs]
    by_cases c : E[k].1 = x
    · rw [decide_eq_true (p := ((E[k].1 : Nat) : Int) = (x : Int)) (by omega), cond_true, if_pos c, app_eq (by rw [li_len]; simp; omega)]
      simp only [Option.bind_some]
      rw [List.nil_append, app_eq (by rw [li_len]; simp; omega)]
      simp only [Option.bind_some]
      rw [app_eq (by rw [lli_len, List.length_append, List.length_map]; simp; omega)]
      simp [lli, li]
    · rw [decide_eq_false (p := ((E[k].1 : Nat) : Int) = (x : Int)) (by omega), cond_false, if_neg c, List.append_nil]
  · unfold fn_ref14_longer_l1
    dsimp only
    rw [ai_len, dge (Nat.lt_irrefl _), cond_false, occk_all]
def nexts (E : ArG) (v : Nat) (A : List (List Nat)) : List (List Nat) := A.flatMap fun M => (occ (E.map (·.1)) (eW E v M)).map fun i => M ++ [i]
theorem nexts_len {E : ArG} {v : Nat} : ∀ A : List (List Nat), (nexts E v A).length ≤ A.length * E.length
  | [] => by simp [nexts]
  | M :: A => by
    have ih := nexts_len (E := E) (v := v) A
    unfold nexts at ih ⊢
    rw [List.flatMap_cons, List.length_append, List.length_map, List.length_cons, Nat.succ_mul]
    have := occ_bound (E.map (·.1)) (eW E v M)
    rw [List.length_map] at this
    omega
theorem longer_ok {E : ArG} {v : Nat} {Ws : List (List Nat)} (hb : Ws.length * E.length + E.length ≤ 1000000) (hW : Ws.length ≤ 1000000) (hM : ∀ M ∈ Ws, M.length ≤ 1000 ∧ ∀ i, M.getLast? = some i → i < E.length) :
    fn_ref14_longer (ai E) (v : Int) (lli Ws) = some (lli (nexts E v Ws)) := by
  unfold fn_ref14_longer
  have := loop_nat (body := fn_ref14_longer_l2 (ai E) (v : Int) (lli Ws)) (fun i : Nat => (lli (nexts E v (Ws.take i)), (i : Int))) Ws.length (b := lli (nexts E v Ws)) ?_ ?_
  · have e' : loop (fn_ref14_longer_l2 (ai E) (v : Int) (lli Ws)) ([], 0) = _ := this
    rw [e']; rfl
  · intro i hi
    obtain ⟨hl, hlast⟩ := hM _ (List.getElem_mem hi)
    have hnl := nexts_len (E := E) (v := v) (Ws.take i)
    rw [List.length_take, Nat.min_eq_left (by omega)] at hnl
    have hmul : i * E.length ≤ Ws.length * E.length := Nat.mul_le_mul_right _ (by omega)
    unfold fn_ref14_longer_l2
    dsimp only
    rw [lli_len, dlt hi, cond_true, lli_get hi]
    simp only [Option.bind_some]
    have hat : ((cond (decide (0 < (((li Ws[i]).length : Nat) : Int))) ((getI (li Ws[i]) (IntKind.wrap .i64 ((((li Ws[i]).length : Nat) : Int) - 1))).bind fun x30450 => (getI (ai E) x30450).bind fun x30459 => some (x30459.2)) (some (v : Int)) : Option Int)) = some (eW E v Ws[i] : Int) := by
      rw [li_len]
      rcases List.eq_nil_or_concat Ws[i] with h0 | ⟨B, q, h0⟩
      · rw [h0]; rfl
      · rw [h0] at hl hlast ⊢
        rw [List.concat_eq_append] at hl hlast ⊢
        have hq := hlast q (List.getLast?_concat)
        rw [List.length_append] at hl ⊢
        simp only [List.length_cons, List.length_nil] at hl ⊢
        rw [decide_eq_true (p := (0 : Int) < ((B.length + (0 + 1) : Nat) : Int)) (by omega), cond_true, w64 (by omega) (by omega), show ((B.length + (0 + 1) : Nat) : Int) - 1 = (B.length : Int) by omega, getI_li (by simp)]
        simp only [Option.bind_some]
        have hg : (B ++ [q])[B.length]'(by simp) = q := by simp
        rw [hg, getI_ai hq, eW_snoc]
        simp [hq]
    rw [hat]
    simp only [Option.bind_some]
    rw [longer1 hi (by omega) hl]
    simp only [Option.bind_some]
    rw [w64s hi (by omega), take_snoc hi]
    congr 4
    unfold nexts
    rw [List.flatMap_append]
    simp
  · unfold fn_ref14_longer_l2
    dsimp only
    rw [lli_len, dge (Nat.lt_irrefl _), cond_false, List.take_length]
theorem short1 {N : Nat} {E : ArG} {v k : Nat} {to : Nat} (hv : v < N) (he : E.length ≤ 10000) {Ws : List (List Nat)} (hW : ∀ M ∈ Ws, M.length ≤ 1000 ∧ goW E (v : Int) (li M) = some (eW E v M : Int)) (hl : Ws.length ≤ 1000000) :
    loop (fn_ref14_Shortest_l1 (N : Int) (ai E) (v : Int) (to : Int) (lli Ws)) ([], 0) = some (lli (Ws.filter fun M => decide (eW E v M = to))) := by
  have := loop_nat (body := fn_ref14_Shortest_l1 (N : Int) (ai E) (v : Int) (to : Int) (lli Ws)) (fun i : Nat => (lli ((Ws.take i).filter fun M => decide (eW E v M = to)), (i : Int))) Ws.length (b := lli (Ws.filter fun M => decide (eW E v M = to))) ?_ ?_
  · simpa [lli] using this
  · intro i hi
    obtain ⟨h1, h2⟩ := hW _ (List.getElem_mem hi)
    have hfl := List.length_filter_le (fun M => decide (eW E v M = to)) (Ws.take i)
    rw [List.length_take, Nat.min_eq_left (by omega)] at hfl
    unfold fn_ref14_Shortest_l1
    dsimp only
    rw [lli_len, dlt hi, cond_true, lli_get hi]
    simp only [Option.bind_some]
    rw [rWalk_ok (by rw [li_len]; omega) he, if_pos ⟨by omega, by omega⟩, h2]
    simp only [Option.bind_some, Bool.true_and]
    rw [w64s hi (by omega), take_snoc hi, List.filter_append]
    by_cases c : eW E v Ws[i] = to
    · rw [decide_eq_true (p := ((eW E v Ws[i] : Nat) : Int) = (to : Int)) (by omega), cond_true, app_eq (by rw [lli_len]; simp; omega)]
      simp [lli, c]
    · rw [decide_eq_false (p := ((eW E v Ws[i] : Nat) : Int) = (to : Int)) (by omega), cond_false]
      simp [c]
  · unfold fn_ref14_Shortest_l1
    dsimp only
    rw [lli_len, dge (Nat.lt_irrefl _), cond_false, List.take_length]
theorem wks_ok {E : ArG} {v k : Nat} (hk : k ≤ 1000) {M : List Nat} (hM : M ∈ wks E v k) : (M.length ≤ 1000 ∧ goW E (v : Int) (li M) = some (eW E v M : Int)) ∧ (M.length ≤ 1000 ∧ ∀ i, M.getLast? = some i → i < E.length) := by
  obtain ⟨h1, h2⟩ := wks_mem.1 hM
  refine ⟨⟨by omega, h2⟩, by omega, fun i hi => ?_⟩
  cases k with
  | zero => rw [List.length_eq_zero_iff.1 h1] at hi; cases hi
  | succ k =>
    unfold wks at hM
    rw [List.mem_flatMap] at hM
    obtain ⟨A, hA, hM⟩ := hM
    rw [List.mem_map] at hM
    obtain ⟨q, hq, rfl⟩ := hM
    rw [List.getLast?_concat] at hi
    cases hi
    exact (occ_arc hq).1
theorem wks_few {E : ArG} {v k : Nat} (he : E.length ≤ 10) (hk : k ≤ 5) : (wks E v k).length ≤ 100000 := by
  have h1 := wks_len (E := E) (v := v) k
  have h2 : E.length ^ k ≤ 10 ^ k := Nat.pow_le_pow_left he k
  have h3 : 10 ^ k ≤ 10 ^ 5 := Nat.pow_le_pow_right (by omega) hk
  omega
theorem Shortest_ok {N : Nat} {E : ArG} {v : Nat} {L : List Nat} {d : Nat → Option Nat} {m : Nat} {β : Nat → Option Nat} (h : Bend N E v L d m β) (hv : v < N) (he : E.length ≤ 10) {x D : Nat} (hx : d x = some D) (hD : D ≤ 5) :
    fn_ref14_Shortest (N : Int) (ai E) (v : Int) (x : Int) (D : Int) = some (lli ((wks E v D).filter fun M => decide (eW E v M = x))) := by
  unfold fn_ref14_Shortest
  have hne : (wks E v D).filter (fun M => decide (eW E v M = x)) ≠ [] := by
    obtain ⟨h1, h2⟩ := wks_sw h hx
    intro e
    have : sw E β D x ∈ (wks E v D).filter fun M => decide (eW E v M = x) := List.mem_filter.2 ⟨h1, decide_eq_true h2⟩
    rw [e] at this; cases this
  have := loop_nat (body := fn_ref14_Shortest_l2 (N : Int) (ai E) (v : Int) (x : Int) (D : Int)) (fun k : Nat => (lli (wks E v k), (k : Int))) D (b := .inr (lli ((wks E v D).filter fun M => decide (eW E v M = x)))) ?_ ?_
  · have e' : loop (fn_ref14_Shortest_l2 (N : Int) (ai E) (v : Int) (x : Int) (D : Int)) ([[]], 0) = _ := this
    rw [e']; rfl
  · intro k hk
    have hf := wks_few (v := v) he (show k ≤ 5 by omega)
    have hmul : (wks E v k).length * E.length ≤ 100000 * E.length := Nat.mul_le_mul_right _ hf
    have hmul2 : 100000 * E.length ≤ 100000 * 10 := Nat.mul_le_mul_left _ he
    have hf1 := wks_few (v := v) he (show k + 1 ≤ 5 by omega)
    unfold fn_ref14_Shortest_l2
    dsimp only
    rw [decide_eq_true (p := (k : Int) ≤ (D : Int)) (by omega), cond_true, short1 (k := k) hv (by omega) (fun M hM => (wks_ok (by omega) hM).1) (by omega)]
    simp only [Option.bind_some]
    have hnil : (wks E v k).filter (fun M => decide (eW E v M = x)) = [] := by
      rw [List.filter_eq_nil_iff]
      intro M hM he2
      have hw := wks_wk hM
      rw [of_decide_eq_true he2] at hw
      have := ((h.b.far x D).1 hx).2 _ hw
      omega
    rw [hnil, show decide ((0 : Int) < (((lli []).length : Nat) : Int)) = false from rfl, cond_false, longer_ok (by
      by_cases hk4 : k ≤ 3
      · have h1 := wks_len (E := E) (v := v) k
        have h2 : E.length ^ k ≤ 10 ^ k := Nat.pow_le_pow_left he k
        have h3 : 10 ^ k ≤ 10 ^ 3 := Nat.pow_le_pow_right (by omega) hk4
        have h4 : (wks E v k).length * E.length ≤ 1000 * E.length := Nat.mul_le_mul_right _ (by omega)
        omega
      · have h1 := wks_len (E := E) (v := v) k
        have h2 : E.length ^ k ≤ 10 ^ k := Nat.pow_le_pow_left he k
        have h3 : 10 ^ k ≤ 10 ^ 4 := Nat.pow_le_pow_right (by omega) (by omega)
        have h4 : (wks E v k).length * E.length ≤ 10000 * E.length := Nat.mul_le_mul_right _ (by omega)
        omega) (by omega) (fun M hM => (wks_ok (by omega) hM).2)]
    simp only [Option.bind_some]
    rw [w64s hk (by omega)]
    rfl
  · have hf := wks_few (v := v) he hD
    unfold fn_ref14_Shortest_l2
    dsimp only
    rw [decide_eq_true (p := (D : Int) ≤ (D : Int)) (by omega), cond_true, short1 (k := D) hv (by omega) (fun M hM => (wks_ok (by omega) hM).1) (by omega)]
    simp only [Option.bind_some]
    rw [lli_len, decide_eq_true (p := (0 : Int) < _) (by have := List.length_pos_iff.2 hne; omega), cond_true]
theorem Least_ok {A : List (List Nat)} {M : List Nat} (hM : M ∈ A) (hl : ∀ B ∈ A, B.length ≤ 1000) (hA : A.length ≤ 1000000) (h : ∀ B ∈ A, B ≠ M → lessW M B = true) : fn_ref14_Least (lli A) = some (li M) := by
  unfold fn_ref14_Least
  have key : ∀ (r i q : Nat) (hi : i + r = A.length) (hq : q < A.length), (A[q] = M ∨ M ∈ A.drop i) → ∃ (q' : Nat) (h : q' < A.length), A[q'] = M ∧ loop (fn_ref14_Least_l1 (lli A)) ((q : Int), (i : Int)) = some (q' : Int) := by
    intro r
    induction r with
    | zero =>
      intro i q hi hq hm
      refine ⟨q, hq, ?_, ?_⟩
      · rcases hm with hm | hm
        · exact hm
        · rw [List.drop_eq_nil_of_le (by omega)] at hm; cases hm
      · apply loop_end
        unfold fn_ref14_Least_l1
        dsimp only
        rw [lli_len, dge (by omega), cond_false]
    | succ r ih =>
      intro i q hi hq hm
      have hiA : i < A.length := by omega
      have hlw : fn_ref14_Less (li A[i]) (li A[q]) = some (lessW A[i] A[q]) := rLess_ok (by rw [li_len]; have := hl _ (List.getElem_mem hiA); omega) (by rw [li_len]; have := hl _ (List.getElem_mem hq); omega)
      have go : ∀ (q' : Nat), (if lessW A[i] A[q] = true then i else q) = q' → loop (fn_ref14_Least_l1 (lli A)) ((q : Int), (i : Int)) = loop (fn_ref14_Least_l1 (lli A)) ((q' : Int), ((i + 1 : Nat) : Int)) := by
        intro q' hq'
        apply loop_next
        unfold fn_ref14_Least_l1
        dsimp only
        rw [lli_len, dlt hiA, cond_true, lli_get hiA, lli_get hq]
        simp only [Option.bind_some]
        rw [hlw, w64s hiA (by omega)]
        simp only [Option.bind_some]
        subst hq'
        cases lessW A[i] A[q] <;> rfl
      have hirr : lessW M M = false := lessR_irr _
      by_cases hqM : A[q] = M
      · have hf : lessW A[i] A[q] = false := by
          rw [hqM]
          by_cases e : A[i] = M
          · rw [e]; exact hirr
          · exact lessR_asym (h _ (List.getElem_mem hiA) e)
        obtain ⟨q', h1, h2, h3⟩ := ih (i + 1) q (by omega) hq (.inl hqM)
        exact ⟨q', h1, h2, by rw [go q (by rw [hf]; rfl)]; exact h3⟩
      · have hm : M ∈ A.drop i := by rcases hm with hm | hm; exact absurd hm hqM; exact hm
        by_cases hiM : A[i] = M
        · have hf : lessW A[i] A[q] = true := by rw [hiM]; exact h _ (List.getElem_mem hq) hqM
          obtain ⟨q', h1, h2, h3⟩ := ih (i + 1) i (by omega) hiA (.inl hiM)
          exact ⟨q', h1, h2, by rw [go i (by rw [if_pos hf])]; exact h3⟩
        · have hm2 : M ∈ A.drop (i + 1) := by
            rw [List.drop_eq_getElem_cons hiA] at hm
            rcases List.mem_cons.1 hm with e | e
            · exact absurd e.symm hiM
            · exact e
          cases hf : lessW A[i] A[q] with
          | true =>
            obtain ⟨q', h1, h2, h3⟩ := ih (i + 1) i (by omega) hiA (.inr hm2)
            exact ⟨q', h1, h2, by rw [go i (by rw [if_pos hf])]; exact h3⟩
          | false =>
            obtain ⟨q', h1, h2, h3⟩ := ih (i + 1) q (by omega) hq (.inr hm2)
            exact ⟨q', h1, h2, by rw [go q (by rw [if_neg (by rw [hf]; simp)])]; exact h3⟩
  have hpos : 0 < A.length := List.length_pos_of_mem hM
  obtain ⟨q', h1, h2, h3⟩ := key (A.length - 1) 1 0 (by omega) hpos (by
    cases A with
    | nil => cases hM
    | cons a A =>
      rcases List.mem_cons.1 hM with e | e
      · exact .inl e.symm
      · exact .inr (by simpa using e))
  have h3' : loop (fn_ref14_Least_l1 (lli A)) (0, 1) = _ := h3
  rw [h3']
  simp only [Option.bind_some]
  rw [lli_get h1, h2]
  rfl
theorem Short_c_ok {N : Nat} {E : ArG} {v : Nat} {L : List Nat} {d : Nat → Option Nat} {m c : Nat} {β : Nat → Option Nat} {ls : List (List Int)} (hE : inN N E) (hN : N ≤ 1000) (h : Bend N E v L d m β) (e : fn_bfs_From_kpip0_iiiiiii (some (mkG N E)) (v : Int) 0 0 0 0 0 0 0 = some (some (dl N d, dl N β, ls), (c : Int))) (hc : c ≤ 1000000) {x k : Nat} (hx : d x = some k) :
    fn_path_Short_kpiip0_iiiiiii (some (mkG N E)) (v : Int) (x : Int) 0 0 0 0 0 0 0 = some (li (sw E β k x), true, ((c + k : Nat) : Int)) := by
  have hxN := h.b.lt x ((h.b.mem x).2 (by rw [hx]; rfl))
  have hk := h.lt hx
  unfold fn_path_Short_kpiip0_iiiiiii
  rw [e]
  simp only [Option.bind_some]
  rw [Dist_of hxN, hx]
  simp only [Option.bind_some]
  rw [show dN (some k) = (k : Int) from rfl, decide_eq_false (p := (k : Int) < 0) (by omega), cond_false, mkN (by omega)]
  simp only [Option.bind_some]
  rw [List.length_replicate, w64 (by omega) (by omega), short_l1_same]
  have := Short_loop (S := []) (ls := ls) hE h hx (by omega)
  rw [List.append_nil, List.append_nil] at this
  rw [this]
  simp only [Option.bind_some]
  rw [li_len, (sw_ok h hx).2, add_ok (by omega) (by omega)]
  rfl
theorem Short_c_not {g : Option Gr} {v x c : Int} {t : Option (List Int × List Int × List (List Int))} (e : fn_bfs_From_kpip0_iiiiiii g v 0 0 0 0 0 0 0 = some (t, c)) (hd : fn_bfs_Tree_Dist t x = some (-1)) : fn_path_Short_kpiip0_iiiiiii g v x 0 0 0 0 0 0 0 = some ([], false, c) := by
  unfold fn_path_Short_kpiip0_iiiiiii
  rw [e]
  simp only [Option.bind_some]
  rw [hd]
  rfl
theorem PathShort_at {N : Nat} {E : ArG} (hN : N ≤ 6) (hEl : E.length ≤ 10) (hE : inN N E) (hO : fn_law10_Of (N : Int) (ai E) = some (some (mkG N E), 0)) (xc xd : Int) : fn_law14_PathShort (N : Int) (ai E) xc xd = some true := by
  have o6 : ∀ a, fn_tick_Counter_Of_p0c6_iiiiiii 0 0 0 0 0 0 a = some a := fun a => rfl
  have this : (decide (6 < (N : Int)) || decide ((10 : Int) < (((ai E).length : Nat) : Int))) = false := by
    rw [ai_len]; simp only [Bool.or_eq_false_iff, decide_eq_false_iff_not]; omega
  have fin : ∀ {c : Nat} {y : Int}, c ≤ 2 * (N + E.length) → y < 0 → fn_path_Short_kpiip0_iiiiiii (some (mkG N E)) xc xd 0 0 0 0 0 0 0 = some ([], false, (c : Int)) → fn_path_Count (some (mkG N E)) xc xd = some 0 →
      ((cond (decide (0 ≤ xd) && decide (xd < (N : Int))) ((fn_ref13_Dist (N : Int) (ai E) xc).bind fun l385 => (getI l385 xd).bind fun x393 => some (x393)) (some (-1)) : Option Int) = some y) → fn_law14_PathShort (N : Int) (ai E) xc xd = some true := fun {c y} hc hy s1 s2 s3 => by
    unfold fn_law14_PathShort
    rw [awake14]
    simp only [Option.bind_some]
    rw [this, cond_false, hO]
    simp only [Option.bind_some, decide_true, Bool.not_true, cond_false, o6]
    rw [s1]
    simp only [Option.bind_some]
    rw [s3]
    simp only [Option.bind_some]
    rw [decide_eq_false (p := 0 ≤ y) (by omega), s2, ai_len, w64 (x := (N : Int) + ((E.length : Nat) : Int)) (by omega) (by omega), w64 (x := 3 * _) (by omega) (by omega), decide_eq_false (p := 3 * ((N : Int) + ((E.length : Nat) : Int)) < (c : Int)) (by omega)]
    rfl
  by_cases hv : xc < 0 ∨ (N : Int) ≤ xc
  · have hd0 : ∀ {bk : List Int} {ls : List (List Int)}, fn_bfs_Tree_Dist (some (dl N (fun _ => none), bk, ls)) xd = some (-1) := by
      intro bk ls
      by_cases hd : xd < 0 ∨ (N : Int) ≤ xd
      · exact Dist_not hd
      · obtain ⟨x, rfl⟩ := Int.eq_ofNat_of_zero_le (show 0 ≤ xd by omega)
        rw [Dist_of (by omega)]; rfl
    refine fin (c := 0) (y := -1) (by omega) (by omega) (Short_c_not (From_c_not (by omega) hv) hd0) (Count_not (From_not (by omega) hv) hd0) ?_
    rw [refDist_not (by omega) hv]
    by_cases hd : 0 ≤ xd ∧ xd < N
    · rw [decide_eq_true hd.1, decide_eq_true hd.2]
      obtain ⟨x, rfl⟩ := Int.eq_ofNat_of_zero_le hd.1
      simp only [Bool.and_self, cond_true, Option.bind_some]
      rw [dl_get (by omega)]
      rfl
    · have : (decide (0 ≤ xd) && decide (xd < (N : Int))) = false := by
        rw [Bool.and_eq_false_iff, decide_eq_false_iff_not, decide_eq_false_iff_not]; omega
      rw [this, cond_false]
  obtain ⟨v, rfl⟩ := Int.eq_ofNat_of_zero_le (show 0 ≤ xc by omega)
  have hvN : v < N := by omega
  obtain ⟨L, d, m, β, e1, b⟩ := From_c_ok hE (by omega) (by omega) hvN
  obtain ⟨L', d', m', β', e1', b'⟩ := From_ok hE (by omega) (by omega) hvN
  have hcl := cost_le E b.b.nd
  have hLl := b.b.len
  by_cases hd : xd < 0 ∨ (N : Int) ≤ xd
  · refine fin (y := -1) (by omega) (by omega) (Short_c_not e1 (Dist_not hd)) (Count_not e1' (Dist_not hd)) ?_
    have : (decide (0 ≤ xd) && decide (xd < (N : Int))) = false := by
      rw [Bool.and_eq_false_iff, decide_eq_false_iff_not, decide_eq_false_iff_not]; omega
    rw [this, cond_false]
  obtain ⟨x, rfl⟩ := Int.eq_ofNat_of_zero_le (show 0 ≤ xd by omega)
  have hxN : x < N := by omega
  have hdist : ((cond (decide (0 ≤ (x : Int)) && decide ((x : Int) < (N : Int))) ((fn_ref13_Dist (N : Int) (ai E) (v : Int)).bind fun l385 => (getI l385 (x : Int)).bind fun x393 => some (x393)) (some (-1)) : Option Int) = some (dN (d x))) := by
    rw [decide_eq_true (p := 0 ≤ (x : Int)) (by omega), decide_eq_true (p := (x : Int) < (N : Int)) (by omega), refDist_ok hE (by omega) (by omega) hvN b]
    simp only [Bool.and_self, cond_true, Option.bind_some]
    rw [dl_get hxN]
    rfl
  have hdd : ∀ y, d' y = d y := fun y => by
    cases hk : d y with
    | some k => exact (b'.b.far y k).2 ((b.b.far y k).1 hk)
    | none => exact (b'.b.far_not y).2 ((b.b.far_not y).1 hk)
  cases hx : d x with
  | none =>
    rw [hx] at hdist
    exact fin (y := -1) (by omega) (by omega) (Short_c_not e1 (by rw [Dist_of hxN, hx]; rfl)) (Count_not e1' (by rw [Dist_of hxN, hdd, hx]; rfl)) hdist
  | some D =>
    rw [hx] at hdist
    have hD := b.lt hx
    have hD5 : D ≤ 5 := by omega
    have hD6 : D ≤ N := by omega
    obtain ⟨w1, w2⟩ := sw_ok b hx
    unfold fn_law14_PathShort
    rw [awake14]
    simp only [Option.bind_some]
    rw [this, cond_false, hO]
    simp only [Option.bind_some, decide_true, Bool.not_true, cond_false, o6]
    rw [Short_c_ok hE (by omega) b e1 (by omega) hx]
    simp only [Option.bind_some]
    rw [hdist]
    simp only [Option.bind_some]
    rw [show dN (some D) = (D : Int) from rfl, decide_eq_true (p := 0 ≤ (D : Int)) (by omega), ai_len, w64 (x := (N : Int) + ((E.length : Nat) : Int)) (by omega) (by omega), w64 (x := 3 * _) (by omega) (by omega), decide_eq_false (p := 3 * ((N : Int) + ((E.length : Nat) : Int)) < ((cost E L + D : Nat) : Int)) (by omega)]
    simp only [beq_self_eq_true, Bool.not_true, Bool.and_false, Bool.or_self, cond_false, Option.bind_some]
    rw [Shortest_ok b hvN hEl hx hD5]
    simp only [Option.bind_some]
    obtain ⟨s1, s2⟩ := wks_sw b hx
    have hmem : sw E β D x ∈ (wks E v D).filter fun M => decide (eW E v M = x) := List.mem_filter.2 ⟨s1, decide_eq_true s2⟩
    have hpos := List.length_pos_of_mem hmem
    have hfew := wks_few (v := v) hEl hD5
    have hfl := List.length_filter_le (fun M => decide (eW E v M = x)) (wks E v D)
    rw [lli_len, decide_eq_true (p := (0 : Int) < _) (by omega), cond_true, Least_ok hmem (fun B hB => by rw [List.mem_filter] at hB; exact (wks_ok (by omega) hB.1).1.1) (by omega) (fun B hB hn => by rw [List.mem_filter] at hB; exact sw_least b hx hB.1 (of_decide_eq_true hB.2) hn)]
    simp only [Option.bind_some]
    rw [same01_eq _ _ (by rw [li_len, w2]; omega), decide_eq_true rfl, Count_ok hE (by omega) (by omega) hvN b' e1' (by rw [hdd]; exact hx)]
    simp only [Option.bind_some, cond_true]
    have hnw : nw E v D x = ((wks E v D).filter fun M => decide (eW E v M = x)).length := by unfold nw; rw [List.countP_eq_length_filter]
    rw [hnw, show sat ((wks E v D).filter fun M => decide (eW E v M = x)).length = ((wks E v D).filter fun M => decide (eW E v M = x)).length by unfold sat; omega, decide_eq_true rfl]
    rfl
theorem PathShort_true (xa : Int) (xb : (List (Int × Int))) (xc : Int) (xd : Int) (k0 : Tp.Ok (.int .i64) xa) (k1 : Tp.Ok (.sl (.cons (.int .i64) (.one (.int .i64)))) xb) (k2 : Tp.Ok (.int .i64) xc) (k3 : Tp.Ok (.int .i64) xd) : fn_law14_PathShort xa xb xc xd = some true := by
  by_cases hin : ∃ (N : Nat) (E : ArG), xa = (N : Int) ∧ N ≤ 6 ∧ xb = ai E ∧ E.length ≤ 10 ∧ inN N E ∧ fn_law10_Of (N : Int) (ai E) = some (some (mkG N E), 0)
  · obtain ⟨N, E, rfl, h1, rfl, h2, h3, h4⟩ := hin
    exact PathShort_at h1 h2 h3 h4 xc xd
  unfold fn_law14_PathShort
  rw [awake14]
  simp only [Option.bind_some]
  by_cases hg : 6 < xa ∨ 10 < xb.length
  · have : (decide (6 < xa) || decide ((10 : Int) < ((xb.length : Nat) : Int))) = true := by
      simp only [Bool.or_eq_true, decide_eq_true_eq]; omega
    rw [this, cond_true]
  have : (decide (6 < xa) || decide ((10 : Int) < ((xb.length : Nat) : Int))) = false := by
    simp only [Bool.or_eq_false_iff, decide_eq_false_iff_not]; omega
  rw [this, cond_false, Of_eq _ _ (by omega)]
  have dnil : fn_bfs_Tree_Dist (some ([], [], [])) xd = some (-1) := by
    have := Dist_not (N := 0) (w := xd) (d := fun _ => none) (bk := []) (ls := []) (by omega)
    simpa [dl] using this
  rcases New_eq xa xb (by omega) with ⟨h, e⟩ | ⟨h, e⟩ | ⟨h1, h2, h3, e⟩ | ⟨N, E, rfl, hN, rfl, hE, hout, e⟩
  · rw [e]
    simp only [Option.bind_some]
    rw [Short_not (From_none xc) dnil, Count_not (From_none xc) dnil]
    rfl
  · omega
  · rw [e]
    simp only [Option.bind_some]
    rw [Short_not (From_none xc) dnil, Count_not (From_none xc) dnil]
    rfl
  exact absurd ⟨N, E, rfl, by omega, rfl, by rw [ai_len] at hg; omega, hE, by rw [Of_eq _ _ (by omega), e]⟩ hin
end Go.Proofs.Ytcbgkokeikkpoaa
namespace Go.Proofs.Ytcbgkokeikkpoaa
open Go.RowKit
set_option linter.unusedVariables false
set_option linter.unnecessarySimpa false
set_option linter.unusedSimpArgs false
set_option maxRecDepth 20000
theorem PathShort_walk {H : Type} (enc : TypeId × Value → H) (W : World) (base : Nat) {v0 v1 v2 v3 : Value} {d0 d1 d2 d3 : DataW H} {p0 p1 p2 p3 : List MemPlace}
    (h0 : DataW.Trod enc Try.prog W 0 (fun _ => true) true 3 v0 d0 p0) (h1 : DataW.Trod enc Try.prog W 0 (fun _ => true) true 22 v1 d1 p1) (h2 : DataW.Trod enc Try.prog W 0 (fun _ => true) true 3 v2 d2 p2) (h3 : DataW.Trod enc Try.prog W 0 (fun _ => true) true 3 v3 d3 p3)
    (o0 : Value.okWide Try.prog W .any base 3 v0) (o1 : Value.okWide Try.prog W .any base 22 v1) (o2 : Value.okWide Try.prog W .any base 3 v2) (o3 : Value.okWide Try.prog W .any base 3 v3) :
    Calls Try.prog 3 #[v0, v1, v2, v3] W fun e W' => e = .returned (.bool true) ∧ Below W.heap.size W W' := by
  obtain ⟨xa, i0, k0⟩ := Tp.arg (.int .i64) (by kernel_rfl) o0 h0
  obtain ⟨xb, i1, k1⟩ := Tp.arg (.sl (.cons (.int .i64) (.one (.int .i64)))) (by kernel_rfl) o1 h1
  obtain ⟨xc, i2, k2⟩ := Tp.arg (.int .i64) (by kernel_rfl) o2 h2
  obtain ⟨xd, i3, k3⟩ := Tp.arg (.int .i64) (by kernel_rfl) o3 h3
  exact walkX (s := sp_law14_PathShort) (x := (xa, xb, xc, xd)) (args := [v0, v1, v2, v3]) law14_PathShort_is (PathShort_true xa xb xc xd k0 k1 k2 k3) rfl rfl ⟨_, _, rfl, of_rel _ i0, _, _, rfl, of_rel _ i1, _, _, rfl, of_rel _ i2, _, _, rfl, of_rel _ i3, rfl⟩
end Go.Proofs.Ytcbgkokeikkpoaa
namespace Go.Proofs.Ytcbgkokeikkpoaa.pathShortFrame
set_option maxRecDepth 40000
open Go.ChangeShapes Go.WideShapes Go.ChangeAt Go.RowKit
theorem own : ownKnob Try.prog.godebug = none := by kernel_rfl
theorem contract (H : Type) (enc : TypeId × Value → H) (W : World) (base : Nat) (args : Array Value) (ds gs : List (DataW H)) (before : List MemPlace)
    (hval : ∀ (j : Nat) t v, Try.f3.params[j]? = some t → args[j]? = some v → Value.okWide Try.prog W .any base t v)
    (hW : DataW.Whole enc Try.prog Try.f3.params.toList Rows.pathShortSpec.vars false W args.toList ds gs before) :
    Calls Try.prog 3 args W fun e W' => ∃ v, e = .returned v ∧ Rows.pathShortSpec.post enc Try.prog Try.f3 false true false false W args v W' := by
  have hW' := hW
  obtain ⟨p, q, hA0, hV, rfl, hfz, hnd⟩ := hW
  have hA : DataW.TrodAll enc Try.prog W 0 (fun _ => true) true Try.f3.params.toList args.toList ds p := hA0
  rw [Try.params3] at hA hval
  obtain ⟨v0, vs0, d0, ds0, p0, q0, hargs, rfl, rfl, h0, r0⟩ := trodAll_cons hA
  obtain ⟨v1, vs1, d1, ds1, p1, q1, rfl, rfl, rfl, h1, r1⟩ := trodAll_cons r0
  obtain ⟨v2, vs2, d2, ds2, p2, q2, rfl, rfl, rfl, h2, r2⟩ := trodAll_cons r1
  obtain ⟨v3, vs3, d3, ds3, p3, q3, rfl, rfl, rfl, h3, r3⟩ := trodAll_cons r2
  obtain ⟨rfl, rfl, rfl⟩ := trodAll_nil r3
  obtain rfl : args = #[v0, v1, v2, v3] := by cases args; simp_all
  refine (PathShort_walk enc W base h0 h1 h2 h3 (hval 0 _ v0 rfl rfl) (hval 1 _ v1 rfl rfl) (hval 2 _ v2 rfl rfl) (hval 3 _ v3 rfl rfl)).mono fun e W' ⟨he, hb⟩ => ?_
  subst he
  exact ⟨_, rfl, law_post (tb := _) rfl hW' rfl rfl (by kernel_rfl) (by kernel_rfl) (of_decide_eq_true (by kernel_rfl)) hb⟩
noncomputable def world (os : Os) : World := World.holding Try.prog os ⟨#[], #[], []⟩
theorem reads (os : Os) {H : Type} (enc : TypeId × Value → H) : ∃ x, DataW.whole enc Try.prog ((world os).forCall (fun _ _ => 0) ⟨#[], #[.int .i64 0, .slice none 0 0, .int .i64 0, .int .i64 0], []⟩).memory Try.f3.params.toList Rows.pathShortSpec.vars false (#[.int .i64 0, .slice none 0 0, .int .i64 0, .int .i64 0] : Array Value).toList 8 = some x :=
  Option.isSome_iff_exists.1 (by kernel_rfl)
set_option maxRecDepth 100000 in
theorem lifted (os : Os) (started : os.Started) (H : Type) (enc : TypeId × Value → H) (F : Stop.Interp) :
    ReturnsInHanded {} Try.checked os 3 .any ((OpenSpec.ofChange Rows.pathShortSpec).preRow enc Try.prog Try.f3 Rows.pathShortRow.domain false Rows.pathShortRow.laid) (((OpenSpec.ofChange Rows.pathShortSpec).at F).post enc Try.prog Try.f3 false true false false) := by
  obtain ⟨x, hx⟩ := reads os enc
  refine returnsInHanded_of_row (C := Try.checked) (s := OpenSpec.ofChange Rows.pathShortSpec) own started (by kernel_rfl) Try.func3
    (witness_row_at (enc := enc) (C := Try.checked) false (world os) #[.int .i64 0, .slice none 0 0, .int .i64 0, .int .i64 0] rfl (by kernel_rfl) (by kernel_rfl) (by kernel_rfl)
      (OpenSpec.preRow_of_cond 8 hx (by kernel_rfl) (fun k hk => by cases hk) (by kernel_rfl) (laidMet_of_run' 8 (by kernel_rfl) (by kernel_rfl)))) ?_
  intro W base args ds gs before hval hW _ _ _ hL _ _
  exact contract H enc W base args ds gs before hval hW
theorem proved : Rows.PathShortSaid :=
  OpenClaim.holds_of_cond 3 Try.f3 rfl rfl rfl rfl rfl rfl rfl ⟨rfl, rfl, rfl, rfl, rfl⟩ rfl rfl rfl rfl rfl (by kernel_rfl) Try.func3 (by kernel_rfl)
    (of_decide_eq_true (by kernel_rfl)) (by unfold Func.isWrapper; first | (rw [if_pos (by decide +kernel)]; kernel_rfl) | (rw [if_neg (by decide +kernel)]; exact ⟨rfl, rfl⟩))
    (fun os started H enc _ F => by rw [OpenClaim.pre_eq_preRow]; exact lifted os started H enc F)
end Go.Proofs.Ytcbgkokeikkpoaa.pathShortFrame
