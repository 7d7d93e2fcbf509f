/- What layer 27's functions compute (constraints), in plain words. -/
import Derived.Test.YtelekeapfgfknaaQ22
import Derived.Test.YtelekeapfgfknaaQ26
namespace Go.Proofs.Ytelekeapfgfknaa
open Go.RowKit Nu
set_option linter.unusedVariables false
set_option linter.unnecessarySimpa false
set_option linter.unusedSimpArgs false
abbrev Eg := Int × Int × Pv
instance dPv4 : DecidableEq (Int × Bool) := instDecidableEqProd
instance dPv3 : DecidableEq (Int × Int × Bool) := instDecidableEqProd
instance dPv2 : DecidableEq (Int × Int × Int × Bool) := instDecidableEqProd
instance dPv : DecidableEq Pv := (instDecidableEqProd : DecidableEq (Int × Int × Int × Int × Bool))
instance dEg1 : DecidableEq (Int × Pv) := instDecidableEqProd
instance dEg : DecidableEq Eg := (instDecidableEqProd : DecidableEq (Int × Int × Pv))
theorem or0_zero {a b : Flt} (h : (or0 a b).1 = 0) : a.1 = 0 ∧ b.1 = 0 := by
  unfold or0 at h; split at h
  · rename_i q; exact ⟨q, h⟩
  · rename_i q; exact absurd h q
/-- What a body that is well-formed has. -/
theorem vck_zero {b : Bo} (h : (vck b).1 = 0) : 1 ≤ b.1 ∧ b.1 ≤ b.2.1 ∧ b.2.1 ≤ 65536 ∧ (∀ t ∈ b.2.2.2.1, rin b.2.1 t = false) ∧ rin b.1 b.2.2.2.2.1 = false := by
  unfold vck at h
  obtain ⟨h1, h⟩ := or0_zero h
  obtain ⟨h2, h⟩ := or0_zero h
  obtain ⟨h3, h⟩ := or0_zero h
  obtain ⟨h4, h⟩ := or0_zero h
  have a1 : ¬ (b.1 < 1 ∨ b.2.1 < b.1) := fun q => by unfold vHead at h1; rw [if_pos q] at h1; simp at h1
  have a2 : ¬ 65536 < b.2.1 := fun q => by unfold vHead at h1; rw [if_neg a1, if_pos q] at h1; simp at h1
  have a3 : ∀ t ∈ b.2.2.2.1, rck b.2.1 t = 0 := by
    unfold vLoc at h3
    split at h3
    · simp at h3
    · cases hq : b.2.2.2.1.findIdx? (fun t => !decide (rck b.2.1 t = 0)) with
      | none =>
        intro t ht
        have := List.findIdx?_eq_none_iff.1 hq t ht
        simpa using this
      | some k =>
        rw [hq] at h3
        obtain ⟨hk, hc, _⟩ := List.findIdx?_eq_some_iff_getElem.1 hq
        have e : b.2.2.2.1.getD k [] = b.2.2.2.1[k] := by simp [List.getD, hk]
        simp only [e] at h3
        simp [h3] at hc
  have a4 : rck b.1 b.2.2.2.2.1 = 0 := by
    unfold vRet at h4
    by_cases q : rck b.1 b.2.2.2.2.1 = 0
    · exact q
    · rw [if_neg q] at h4; exact absurd h4 q
  exact ⟨by omega, by omega, by omega, fun t ht => (rck_zero (a3 t ht)).2, (rck_zero a4).2⟩
theorem rin_le {m n : Int} {t : List St} (h : rin m t = false) (hl : m ≤ n) : rin n t = false := rin_of fun x hx => by have := rin_mem h hx; omega
/-- What the statement, or the terminator, at a place of a block needs. -/
noncomputable def nds (b : Bo) (x : Blk) (k : Nat) : List Nd :=
  if h : k < x.1.length then ((fn_ref18_Needs x.1[k] b.2.2.2.1 b.2.1).getD ([], 0)).1 else ((fn_ref19_Needs x.2 (arOf b)).getD ([], 0)).1
theorem nds_stmt {b : Bo} (h : Sm b) {x : Blk} {k : Nat} (hk : k < x.1.length) : ∃ e, fn_stmt_Needs x.1[k] b.2.2.2.1 b.2.1 = some (nds b x k, e) ∧ fn_ref18_Needs x.1[k] b.2.2.2.1 b.2.1 = some (nds b x k, e) ∧ (nds b x k).length ≤ 1000 ∧ ((∀ t ∈ b.2.2.2.1, rin b.2.1 t = false) → ∀ n ∈ nds b x k, Gd b.2.1 n) := by
  obtain ⟨l, e, h1, h2, h3, h4⟩ := stmtNeeds_eq x.1[k] b.2.2.2.1 b.2.1 h.loc
  have : nds b x k = l := by unfold nds; rw [dif_pos hk, h2]; rfl
  rw [this]; exact ⟨e, h1, h2, h3, h4⟩
theorem nds_term {b : Bo} (h : Sm b) {x : Blk} (hx : x ∈ b.2.2.2.2.2.2) {k : Nat} (hk : ¬ k < x.1.length) : ∃ e, fn_term_Needs x.2 (arOf b) = some (nds b x k, e) ∧ fn_ref19_Needs x.2 (arOf b) = some (nds b x k, e) ∧ (nds b x k).length ≤ 1000000 ∧ ((0 < b.2.1 ∧ (∀ t ∈ b.2.2.2.1, rin b.2.1 t = false) ∧ rin b.2.1 b.2.2.2.2.1 = false) → ∀ n ∈ nds b x k, Gd b.2.1 n) := by
  obtain ⟨a1, a2, a3⟩ := h.term x hx
  obtain ⟨l, e, h1, h2, h3, h4⟩ := needs19 x.2 (arOf b) a1 a2 a3 h.ret h.loc h.sig
  have : nds b x k = l := by unfold nds; rw [dif_neg hk, h2]; rfl
  rw [this]; exact ⟨e, h1, h2, h3, h4⟩
def edge1 (j k : Int) (n : Nd) : Eg := (n.1, n.2.1, (j, k, n.2.2.1, n.2.2.2.1, n.2.2.2.2))
noncomputable def egs (b : Bo) (x : Blk) (j k : Nat) : List Eg := (nds b x k).map (edge1 j k)
theorem xs_mem {b : Bo} {j : Nat} (hj : j < (xs b).length) : (vck b).1 = 0 ∧ ∃ hj' : j < b.2.2.2.2.2.2.length, (xs b)[j] = b.2.2.2.2.2.2[j] := by
  have h : (vck b).1 = 0 := by
    by_cases q : (vck b).1 = 0
    · exact q
    · have : xs b = [] := by unfold xs; rw [if_neg q]
      rw [this] at hj; simp at hj
  have e : xs b = b.2.2.2.2.2.2 := by unfold xs; rw [if_pos h]
  exact ⟨h, by rw [← e]; exact hj, by simp only [e]⟩
theorem egs_len {b : Bo} (h : Sm b) {j k : Nat} (hj : j < (xs b).length) : (egs b (xs b)[j] j k).length ≤ 1000000 ∧ (∀ e ∈ egs b (xs b)[j] j k, 0 ≤ e.1 ∧ e.1 < b.2.1 ∧ 0 ≤ e.2.1 ∧ e.2.1 < b.2.1 ∧ e.2.2.1 = (j : Int) ∧ e.2.2.2.1 = (k : Int) ∧ 1 ≤ e.2.2.2.2.1 ∧ e.2.2.2.2.1 ≤ 7 ∧ 0 ≤ e.2.2.2.2.2.1 ∧ e.2.2.2.2.2.1 ≤ 1000000) := by
  obtain ⟨hv, hj', he⟩ := xs_mem hj
  obtain ⟨v1, v2, v3, v4, v5⟩ := vck_zero hv
  rw [he]
  have hm := List.getElem_mem hj'
  generalize b.2.2.2.2.2.2[j] = x at hm ⊢
  have key : (nds b x k).length ≤ 1000000 ∧ ∀ n ∈ nds b x k, Gd b.2.1 n := by
    by_cases hk : k < x.1.length
    · obtain ⟨e, _, _, h3, h4⟩ := nds_stmt h hk
      exact ⟨by omega, h4 v4⟩
    · obtain ⟨e, _, _, h3, h4⟩ := nds_term h hm hk
      exact ⟨h3, h4 ⟨by omega, v4, rin_le v5 v2⟩⟩
  refine ⟨by unfold egs; simpa using key.1, fun e he => ?_⟩
  obtain ⟨n, hn, rfl⟩ := List.mem_map.1 he
  obtain ⟨g1, g2, g3, g4⟩ := key.2 n hn
  exact ⟨g1.1, g1.2, g2.1, g2.2, rfl, rfl, g3.1, g3.2, g4.1, g4.2⟩
/-- All constraints, up to a point. -/
noncomputable def egN (b : Bo) (n : Nat) : List Eg := match (alls (xs b))[n]? with | some p => egs b ((xs b).getD p.1.toNat ([], 0, 0, 0, [], [], [])) p.1.toNat p.2.1.toNat | none => []
noncomputable def egF (b : Bo) : Nat → List Eg
  | 0 => []
  | n + 1 => egF b n ++ egN b n
theorem egN_at {b : Bo} {j k : Nat} (hj : j < (xs b).length) (hk : k ≤ (xs b)[j].1.length) : egN b (bg (xs b) j + k) = egs b (xs b)[j] j k := by
  unfold egN
  rw [alls_get (xs b) hj hk]
  simp only [Int.toNat_natCast]
  rw [getD_eq hj]
theorem egN_good {b : Bo} (h : Sm b) (n : Nat) : (egN b n).length ≤ 1000000 ∧ ∀ e ∈ egN b n, 0 ≤ e.1 ∧ e.1 < b.2.1 ∧ 0 ≤ e.2.1 ∧ e.2.1 < b.2.1 ∧ 0 ≤ e.2.2.1 ∧ e.2.2.1 ≤ 1000000 ∧ 0 ≤ e.2.2.2.1 ∧ e.2.2.2.1 ≤ 1000000 ∧ 1 ≤ e.2.2.2.2.1 ∧ e.2.2.2.2.1 ≤ 7 ∧ 0 ≤ e.2.2.2.2.2.1 ∧ e.2.2.2.2.2.1 ≤ 1000000 ∧ b.2.1 ≤ 65536 := by
  by_cases hn : n < bg (xs b) (xs b).length
  · obtain ⟨j, k, hj, hk, rfl, _⟩ := locate (xs b) (xs b).length (Nat.le_refl _) n hn
    rw [egN_at hj hk]
    have h1 := egs_len h (k := k) hj
    obtain ⟨b1, b2⟩ := xs_bound h (Nat.le_refl _)
    have b3 := bg_mono (xs b) (i := j + 1) (j := (xs b).length) hj (Nat.le_refl _)
    rw [bg_succ hj] at b3
    refine ⟨h1.1, fun e he => ?_⟩
    obtain ⟨c1, c2, c3, c4, c5, c6, c7, c8, c9, c10⟩ := h1.2 e he
    obtain ⟨_, _, v3, _⟩ := vck_zero (xs_mem hj).1
    exact ⟨c1, c2, c3, c4, by omega, by omega, by omega, by omega, c7, c8, c9, c10, v3⟩
  · have : (alls (xs b))[n]? = none := List.getElem?_eq_none (by rw [alls_len]; omega)
    have e : egN b n = [] := by unfold egN; rw [this]
    rw [e]; simp
theorem egF_good {b : Bo} (h : Sm b) : ∀ n, (egF b n).length ≤ n * 1000000 ∧ ∀ e ∈ egF b n, 0 ≤ e.1 ∧ e.1 < b.2.1 ∧ 0 ≤ e.2.1 ∧ e.2.1 < b.2.1 ∧ 0 ≤ e.2.2.1 ∧ e.2.2.1 ≤ 1000000 ∧ 0 ≤ e.2.2.2.1 ∧ e.2.2.2.1 ≤ 1000000 ∧ 1 ≤ e.2.2.2.2.1 ∧ e.2.2.2.2.1 ≤ 7 ∧ 0 ≤ e.2.2.2.2.2.1 ∧ e.2.2.2.2.2.1 ≤ 1000000 ∧ b.2.1 ≤ 65536
  | 0 => by simp [egF]
  | n + 1 => by
    obtain ⟨a1, a2⟩ := egF_good h n
    obtain ⟨b1, b2⟩ := egN_good h n
    refine ⟨by simp only [egF, List.length_append]; omega, fun e he => ?_⟩
    rcases List.mem_append.1 he with he | he
    · exact a2 e he
    · exact b2 e he
noncomputable def egA (b : Bo) : List Eg := egF b (bg (xs b) (xs b).length)
theorem egA_len {b : Bo} (h : Sm b) : (egA b).length ≤ 32000000 := by
  have := (egF_good h (bg (xs b) (xs b).length)).1
  have := (xs_bound h (Nat.le_refl _)).1
  unfold egA; omega
theorem egA_ok {b : Bo} (h : Sm b) : ∀ e ∈ egA b, EOk e := fun e he => by
  obtain ⟨c1, c2, c3, c4, c5, c6, c7, c8, c9, c10, c11, c12, c13⟩ := (egF_good h _).2 e he
  exact ⟨by omega, by omega, ⟨by omega, by omega, by omega⟩⟩
theorem makerNeeds_eq {b : Bo} (h : Sm b) (P : Option (List Int × Int)) {j k : Nat} (hj : j < (xs b).length) (hk : k ≤ (xs b)[j].1.length) : fn_cons_maker_needs (b, P) (j : Int) (k : Int) = some (nds b (xs b)[j] k) := by
  obtain ⟨hv, hj', he⟩ := xs_mem hj
  rw [he] at hk ⊢
  have hm := List.getElem_mem hj'
  unfold fn_cons_maker_needs
  simp only [getN hj', Option.bind_some]
  generalize b.2.2.2.2.2.2[j] = x at hk hm ⊢
  by_cases q : k < x.1.length
  · obtain ⟨e, h1, _⟩ := nds_stmt h q
    simp only [dlt q, cond_true, getN q, Option.bind_some, show fn_stmt_Needs (x.1[k].1, x.1[k].2.1, x.1[k].2.2.1, x.1[k].2.2.2.1, x.1[k].2.2.2.2) b.2.2.2.1 b.2.1 = _ from h1]
  · obtain ⟨e, h1, _⟩ := nds_term h hm q
    simp only [dge q, cond_false, show fn_term_Needs (x.2.1, x.2.2.1, x.2.2.2.1, x.2.2.2.2.1, x.2.2.2.2.2.1, x.2.2.2.2.2.2) (((b.2.2.2.2.2.2.length : Nat) : Int), b.2.1, b.2.2.2.1, b.2.2.2.2.1, b.2.2.2.2.2.1) = _ from h1, Option.bind_some]
theorem makerAt_loop (j k : Nat) (l : List Nd) (hl : l.length ≤ 1000000) : loop (fn_cons_maker_at_l1 (j : Int) (k : Int) l) ([], 0) = some (l.map (edge1 j k)) := by
  have := loop_map l (edge1 j k) [] (by simp; omega) (body := fn_cons_maker_at_l1 (j : Int) (k : Int) l) (fun c i => rfl)
  simpa using this
theorem makerAt_eq {b : Bo} (h : Sm b) (n : Nat) : fn_cons_maker_at (b, some (bgs (xs b), ((bg (xs b) (xs b).length : Nat) : Int))) (n : Int) = some (egN b n) := by
  obtain ⟨b1, b2⟩ := xs_bound h (Nat.le_refl _)
  unfold fn_cons_maker_at
  by_cases hn : n < bg (xs b) (xs b).length
  · obtain ⟨j, k, hj, hk, rfl, _⟩ := locate (xs b) (xs b).length (Nat.le_refl _) n hn
    have hl := (egs_len h (k := k) hj).1
    unfold egs at hl
    rw [List.length_map] at hl
    rw [egN_at hj hk]
    simp only [at_eq (by omega) (by omega) hj hk, Option.bind_some, Bool.not_true, cond_false, show ∀ P, fn_cons_maker_needs ((b.1, b.2.1, b.2.2.1, b.2.2.2.1, b.2.2.2.2.1, b.2.2.2.2.2.1, b.2.2.2.2.2.2), P) (j : Int) (k : Int) = _ from fun P => makerNeeds_eq h P hj hk, makerAt_loop j k _ hl]
    rfl
  · have e : egN b n = [] := by
      have : (alls (xs b))[n]? = none := List.getElem?_eq_none (by rw [alls_len]; omega)
      unfold egN; rw [this]
    rw [e]
    simp only [at_none (X := xs b) (n := (n : Int)) (.inr (by omega)), Option.bind_some, Bool.not_false, cond_true]
theorem consLoop {b : Bo} (h : Sm b) {body : (List Eg × Int) → Option ((List Eg × Int) ⊕ List Eg)} (hb : ∀ l i, body (l, i) = cond (decide (i < ((bg (xs b) (xs b).length : Nat) : Int))) ((fn_cons_maker_at (b, some (bgs (xs b), ((bg (xs b) (xs b).length : Nat) : Int))) i).bind fun x => (app l x).bind fun z => some (.inl (z, IntKind.wrap .i64 (i + 1)))) (some (.inr l))) : loop body ([], 0) = some (egA b) := by
  obtain ⟨b1, b2⟩ := xs_bound h (Nat.le_refl _)
  refine loop_nat (body := body) (fun k : Nat => (egF b k, (k : Int))) (bg (xs b) (xs b).length) ?_ ?_
  · intro k hk
    have l1 := (egF_good h k).1
    have l2 := (egN_good h k).1
    rw [hb, dlt hk, cond_true, makerAt_eq h, Option.bind_some, app_eq (by omega), Option.bind_some, w64s hk (by omega)]
    rfl
  · rw [hb, dge (by omega), cond_false]; rfl
theorem consOf_eq {b : Bo} (h : Sm b) : fn_cons_Of_az b = some (egA b) := by
  unfold fn_cons_Of_az
  rw [show fn_point_New (b.1, b.2.1, b.2.2.1, b.2.2.2.1, b.2.2.2.2.1, b.2.2.2.2.2.1, b.2.2.2.2.2.2) = _ from pointNew_eq h]
  have e1 : fn_point_Points_Len (some (bgs (xs b), ((bg (xs b) (xs b).length : Nat) : Int))) = some ((bg (xs b) (xs b).length : Nat) : Int) := rfl
  simp only [Option.bind_some, e1]
  rw [consLoop h (body := fn_cons_Of_az_l1 b (some (bgs (xs b), ((bg (xs b) (xs b).length : Nat) : Int))) ((bg (xs b) (xs b).length : Nat) : Int)) (fun l i => rfl)]
  rfl
theorem consLines_eq (l : List Eg) (hl : l.length ≤ 1000000000) (h : ∀ e ∈ l, EOk e) : fn_cons_Lines l = some (l.map pedge) := by
  unfold fn_cons_Lines
  have key := loop_nat (body := fn_cons_Lines_l1 l) (fun k : Nat => ((l.take k).map pedge, (k : Int))) l.length (b := l.map pedge) ?_ ?_
  · have key' : loop (fn_cons_Lines_l1 l) ([], 0) = some (l.map pedge) := key
    rw [key']; rfl
  · intro k hk
    unfold fn_cons_Lines_l1
    have he := provEdge_eq l[k] (h _ (List.getElem_mem hk))
    simp only [dlt hk, cond_true, getN hk, Option.bind_some, show fn_prov_Edge (l[k].1, l[k].2.1, (l[k].2.2.1, l[k].2.2.2.1, l[k].2.2.2.2.1, l[k].2.2.2.2.2.1, l[k].2.2.2.2.2.2)) = _ from he]
    rw [app_eq (by simp; omega), Option.bind_some, w64s hk (by omega), take_snoc hk, List.map_append]; rfl
  · unfold fn_cons_Lines_l1
    simp only [dge (show ¬ l.length < l.length by omega), cond_false, List.take_length]
end Go.Proofs.Ytelekeapfgfknaa
