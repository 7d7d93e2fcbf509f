/- Graphs (layer 10): their indexes, what is told of them, what is reached; in plain words. -/
import Derived.Test.YtbennpandomacaaGreatF7
import Derived.Test.YtbennpandomacaaGreatPv
import Derived.Test.YtbennpandomacaaGreatOz
import Derived.Test.YtbennpandomacaaGreatSrt
import Derived.Test.YtbennpandomacaaGreatUq
namespace Go.Proofs.YtbennpandomacaaGreat
open Go.RowKit
set_option linter.unusedVariables false
/-! ### Lists over a range. -/
theorem getI_map {α : Type} {m j : Nat} {f : Nat → α} (h : j < m) : getI ((List.range m).map f) (j : Int) = some (f j) := by
  rw [getN (by simpa using h)]; simp
theorem set_map {α : Type} {m j : Nat} {f : Nat → α} {y : α} : ((List.range m).map f).set j y = (List.range m).map (fun v => if v = j then y else f v) := by
  apply List.ext_getElem
  · simp
  · intro i h1 h2
    simp only [List.getElem_set, List.getElem_map, List.getElem_range]
    by_cases h : j = i
    · subst h; simp
    · simp [h, Ne.symm h]
theorem map_congr_range {α : Type} {m : Nat} {f g : Nat → α} (h : ∀ v, v < m → f v = g v) : (List.range m).map f = (List.range m).map g := List.map_congr_left fun v hv => h v (List.mem_range.1 hv)
theorem replicate_map {α : Type} (m : Nat) (z : α) : List.replicate m z = (List.range m).map (fun _ => z) := by
  apply List.ext_getElem <;> simp
/-! ### Numbers sorted by counting. -/
def cnt (ks : List Nat) (v : Nat) : Nat := ks.countP (fun x => decide (x = v))
def ltc (ks : List Nat) (v : Nat) : Nat := ks.countP (fun x => decide (x < v))
theorem ltc_zero (ks : List Nat) : ltc ks 0 = 0 := by simp [ltc]
theorem ltc_succ (ks : List Nat) (v : Nat) : ltc ks (v + 1) = ltc ks v + cnt ks v := by
  unfold ltc cnt
  induction ks with
  | nil => rfl
  | cons x ks ih =>
    rw [List.countP_cons, List.countP_cons, List.countP_cons, ih]
    by_cases h : x < v
    · simp [h, show x < v + 1 by omega, show ¬ x = v by omega]; omega
    · by_cases h2 : x = v
      · simp [h2]; omega
      · simp [h, h2, show ¬ x < v + 1 by omega]
theorem ltc_mono (ks : List Nat) {v w : Nat} (h : v ≤ w) : ltc ks v ≤ ltc ks w := by
  unfold ltc; apply List.countP_mono_left; intro x _; simp; omega
theorem ltc_le (ks : List Nat) (v : Nat) : ltc ks v ≤ ks.length := List.countP_le_length
theorem cnt_le (ks : List Nat) (v : Nat) : cnt ks v ≤ ks.length := List.countP_le_length
theorem cnt_take {ks : List Nat} {k : Nat} (h : k < ks.length) (v : Nat) : cnt (ks.take (k + 1)) v = cnt (ks.take k) v + (if ks[k] = v then 1 else 0) := by
  unfold cnt; rw [take_snoc h, List.countP_append]; simp [List.countP_cons]
theorem cnt_take_le (ks : List Nat) (k v : Nat) : cnt (ks.take k) v ≤ cnt ks v := by
  unfold cnt
  conv => rhs; rw [← List.take_append_drop k ks, List.countP_append]
  omega
theorem cnt_take_lt {ks : List Nat} {k : Nat} (h : k < ks.length) : cnt (ks.take k) ks[k] < cnt ks ks[k] := by
  have := cnt_take_le ks (k + 1) ks[k]
  rw [cnt_take h] at this
  simp at this; omega
def pos (ks : List Nat) (i : Nat) : Nat := ltc ks (ks.getD i 0) + cnt (ks.take i) (ks.getD i 0)
theorem pos_lt {ks : List Nat} {i : Nat} (h : i < ks.length) : pos ks i < ltc ks (ks[i] + 1) := by
  have := cnt_take_lt h
  unfold pos; rw [ltc_succ]
  simp [h]; omega
theorem pos_ge {ks : List Nat} {i : Nat} (h : i < ks.length) : ltc ks ks[i] ≤ pos ks i := by unfold pos; simp [h]
theorem pos_lt_len {ks : List Nat} {i : Nat} (h : i < ks.length) : pos ks i < ks.length := Nat.lt_of_lt_of_le (pos_lt h) (ltc_le _ _)
theorem pos_inj {ks : List Nat} {i j : Nat} (hi : i < j) (hj : j < ks.length) : pos ks i ≠ pos ks j := by
  have hi' : i < ks.length := by omega
  rcases Nat.lt_trichotomy ks[i] ks[j] with h | h | h
  · have := pos_lt hi'; have := pos_ge hj; have := ltc_mono ks (v := ks[i] + 1) (w := ks[j]) (by omega); omega
  · have h1 := cnt_take hi' ks[j]
    have h2 : cnt (ks.take (i + 1)) ks[j] ≤ cnt (ks.take j) ks[j] := by
      have := cnt_take_le (ks.take j) (i + 1) ks[j]
      rw [List.take_take, Nat.min_eq_left (by omega)] at this; exact this
    unfold pos; simp [hi', hj, h] at h1 ⊢; omega
  · have := pos_lt hj; have := pos_ge hi'; have := ltc_mono ks (v := ks[j] + 1) (w := ks[i]) (by omega); omega
/-- Where a number stands. -/
def occ (ks : List Nat) (v : Nat) : List Nat := (List.range ks.length).filter (fun i => decide (ks.getD i 0 = v))
theorem occ_upto (ks : List Nat) (v : Nat) : ∀ k, k ≤ ks.length → ((List.range k).filter (fun i => decide (ks.getD i 0 = v))).length = cnt (ks.take k) v ∧ ∀ (r i : Nat), ((List.range k).filter (fun i => decide (ks.getD i 0 = v)))[r]? = some i → ∃ hi : i < ks.length, ks[i] = v ∧ cnt (ks.take i) v = r
  | 0, _ => by simp [cnt]
  | k + 1, hk => by
    obtain ⟨h1, h2⟩ := occ_upto ks v k (by omega)
    have hkl : k < ks.length := by omega
    have e : (List.range (k + 1)).filter (fun i => decide (ks.getD i 0 = v)) = (List.range k).filter (fun i => decide (ks.getD i 0 = v)) ++ (if ks[k] = v then [k] else []) := by
      rw [List.range_succ, List.filter_append]
      by_cases h : ks[k] = v <;> simp [hkl, h]
    rw [e, cnt_take hkl]
    generalize hF : (List.range k).filter (fun i => decide (ks.getD i 0 = v)) = F at h1 h2
    by_cases h : ks[k] = v
    · simp only [h, if_true]
      refine ⟨by simp [h1], fun r i hr => ?_⟩
      by_cases hr2 : r < F.length
      · rw [List.getElem?_append_left hr2] at hr; exact h2 r i hr
      · rw [List.getElem?_append_right (by omega)] at hr
        have hr3 : r - F.length = 0 := by
          have := (List.getElem?_eq_some_iff.1 hr).1
          simp at this; omega
        rw [hr3] at hr
        simp at hr
        subst hr
        exact ⟨hkl, h, by omega⟩
    · simp only [h, if_false, List.append_nil, Nat.add_zero]
      exact ⟨h1, h2⟩
theorem occ_len (ks : List Nat) (v : Nat) : (occ ks v).length = cnt ks v := by have := (occ_upto ks v ks.length (Nat.le_refl _)).1; rw [List.take_length] at this; exact this
theorem occ_get (ks : List Nat) (v r : Nat) (h : r < (occ ks v).length) : ∃ (hi : (occ ks v)[r] < ks.length), ks[(occ ks v)[r]] = v ∧ cnt (ks.take (occ ks v)[r]) v = r := (occ_upto ks v ks.length (Nat.le_refl _)).2 r _ (List.getElem?_eq_getElem h)
theorem occ_mem {ks : List Nat} {v i : Nat} : i ∈ occ ks v ↔ ∃ h : i < ks.length, ks[i] = v := by
  unfold occ
  simp only [List.mem_filter, List.mem_range, decide_eq_true_eq]
  constructor
  · rintro ⟨h1, h2⟩; exact ⟨h1, by simpa [h1] using h2⟩
  · rintro ⟨h1, h2⟩; exact ⟨h1, by simpa [h1] using h2⟩
/-- The numbers' places, in the order of the numbers. -/
def av (ks : List Nat) (k p : Nat) : Nat := ((List.range k).find? (fun i => decide (pos ks i = p))).getD 0
theorem av_pos {ks : List Nat} {k i : Nat} (hk : k ≤ ks.length) (hi : i < k) : av ks k (pos ks i) = i := by
  unfold av
  cases h : (List.range k).find? (fun j => decide (pos ks j = pos ks i)) with
  | none =>
    rw [List.find?_eq_none] at h
    exact absurd (by simp) (h i (List.mem_range.2 hi))
  | some j =>
    have h1 := List.find?_some h
    have h2 := List.mem_range.1 (List.mem_of_find?_eq_some h)
    simp at h1
    rcases Nat.lt_trichotomy i j with q | q | q
    · exact absurd h1.symm (pos_inj q (by omega))
    · exact q.symm
    · exact absurd h1 (pos_inj q (by omega))
theorem av_succ {ks : List Nat} {k : Nat} (hk : k < ks.length) (p : Nat) : av ks (k + 1) p = if p = pos ks k then k else av ks k p := by
  by_cases h : p = pos ks k
  · rw [if_pos h, h, av_pos (by omega) (by omega)]
  · rw [if_neg h]
    unfold av
    rw [List.range_succ, List.find?_append]
    simp [Ne.symm h]
theorem av_sub (ks : List Nat) (v : Nat) : ((((List.range ks.length).map (fun p => (av ks ks.length p : Int))).take (ltc ks (v + 1))).drop (ltc ks v)) = (occ ks v).map (fun i : Nat => (i : Int)) := by
  apply List.ext_getElem
  · have h1 := ltc_succ ks v
    have h2 := ltc_le ks (v + 1)
    rw [List.length_drop, List.length_take, List.length_map, List.length_map, occ_len, List.length_range]; omega
  · intro r h1 h2
    have hr : r < (occ ks v).length := by simpa using h2
    obtain ⟨hi, h3, h4⟩ := occ_get ks v r hr
    simp only [List.getElem_drop, List.getElem_take, List.getElem_map, List.getElem_range]
    have : pos ks (occ ks v)[r] = ltc ks v + r := by
      have e : ks.getD (occ ks v)[r] 0 = v := by simp [hi, h3]
      unfold pos; rw [e, h4]
    rw [← this, av_pos (Nat.le_refl _) hi]
section
variable {α : Type} (key : α → Int) (n : Int) (xb : List α)
def ix1 : (Int × (List Int)) → Option ((Int × (List Int)) ⊕ (List Int)) := fun ((i, l) : (Int × (List Int))) => cond (decide (i < (((xb.length : Nat) : Int)))) ((getI xb i).bind fun x => (getI l (IntKind.wrap .i64 (key x + 1))).bind fun a => (getI l (IntKind.wrap .i64 (key x + 1))).bind fun b => (some (l.set (IntKind.wrap .i64 (key x + 1)).toNat (IntKind.wrap .i64 (a + 1)))).bind fun z => some (.inl ((IntKind.wrap .i64 (i + 1), z)))) (some (.inr (l)))
def ix2 : (Int × (List Int)) → Option ((Int × (List Int)) ⊕ (List Int)) := fun ((i, l) : (Int × (List Int))) => cond (decide (i < n)) ((getI l (IntKind.wrap .i64 (i + 1))).bind fun a => (getI l i).bind fun b => (getI l (IntKind.wrap .i64 (i + 1))).bind fun c => (some (l.set (IntKind.wrap .i64 (i + 1)).toNat (IntKind.wrap .i64 (a + b)))).bind fun z => some (.inl ((IntKind.wrap .i64 (i + 1), z)))) (some (.inr (l)))
def ix3 : ((List Int) × Int × (List Int)) → Option (((List Int) × Int × (List Int)) ⊕ (List Int)) := fun ((l, i, m) : ((List Int) × Int × (List Int))) => cond (decide (i < (((xb.length : Nat) : Int)))) ((getI xb i).bind fun x => (getI l (key x)).bind fun a => (getI m a).bind fun b => (some (m.set a.toNat i)).bind fun z => (getI l (key x)).bind fun c => (getI l (key x)).bind fun d => (some (l.set (key x).toNat (IntKind.wrap .i64 (c + 1)))).bind fun y => some (.inl ((y, IntKind.wrap .i64 (i + 1), z)))) (some (.inr (m)))
variable {key n xb} {ks : List Nat}
theorem key_at (hk : xb.map key = ks.map (fun k : Nat => (k : Int))) {i : Nat} (h : i < xb.length) : ∃ h2 : i < ks.length, key xb[i] = (ks[i] : Int) := by
  have hl : xb.length = ks.length := by simpa using congrArg List.length hk
  refine ⟨by omega, ?_⟩
  have h1 : (xb.map key)[i]'(by simpa using h) = (ks.map (fun k : Nat => (k : Int)))[i]'(by simp; omega) := by simp only [hk]
  simpa using h1
theorem ix1_eq {N : Nat} (hk : xb.map key = ks.map (fun k : Nat => (k : Int))) (hN : ∀ x ∈ ks, x < N) (hb : ks.length ≤ 1073741824) (hNb : N ≤ 1073741824) : loop (ix1 key xb) (0, List.replicate (N + 1) 0) = some ((List.range (N + 1)).map (fun v => ((if v = 0 then 0 else cnt ks (v - 1) : Nat) : Int))) := by
  have hl : xb.length = ks.length := by simpa using congrArg List.length hk
  have h := loop_nat (body := ix1 key xb) (fun k : Nat => ((k : Int), (List.range (N + 1)).map (fun v => ((if v = 0 then 0 else cnt (ks.take k) (v - 1) : Nat) : Int)))) xb.length (b := (List.range (N + 1)).map (fun v => ((if v = 0 then 0 else cnt ks (v - 1) : Nat) : Int))) ?_ ?_
  · rw [replicate_map]; simpa [cnt] using h
  · intro k hk2
    obtain ⟨hk3, hk4⟩ := key_at hk hk2
    have hlt := hN _ (List.getElem_mem hk3)
    have hw : IntKind.wrap .i64 (key xb[k] + 1) = ((ks[k] + 1 : Nat) : Int) := by rw [hk4, w64 (by omega) (by omega)]; omega
    have hc := cnt_le (ks.take k) ks[k]
    simp only [List.length_take] at hc
    unfold ix1
    simp only [dlt hk2, cond_true, getN hk2, Option.bind_some, hw, getI_map (show ks[k] + 1 < N + 1 by omega), Int.toNat_natCast, set_map, w64s hk2 (by omega : xb.length ≤ 9223372036854775807)]
    congr 3
    refine map_congr_range (fun v hv => ?_)
    rw [cnt_take hk3]
    simp only [Nat.add_one_ne_zero, if_false, Nat.add_sub_cancel]
    by_cases h1 : v = ks[k] + 1
    · subst h1; simp only [if_true, Nat.add_one_ne_zero, if_false, Nat.add_sub_cancel]; rw [w64 (by omega) (by omega)]; omega
    · rw [if_neg h1]
      by_cases h2 : v = 0
      · simp [h2]
      · simp [h2, show ¬ ks[k] = v - 1 by omega]
  · unfold ix1
    simp only [hl, Int.lt_irrefl, decide_false, cond_false, List.take_length]
theorem ix2_eq {N : Nat} (hb : ks.length ≤ 1073741824) (hNb : N ≤ 1073741824) : loop (ix2 (N : Int)) (0, (List.range (N + 1)).map (fun v => ((if v = 0 then 0 else cnt ks (v - 1) : Nat) : Int))) = some ((List.range (N + 1)).map (fun v => (ltc ks v : Int))) := by
  have h := loop_nat (body := ix2 (N : Int)) (fun j : Nat => ((j : Int), (List.range (N + 1)).map (fun v => ((if v ≤ j then ltc ks v else cnt ks (v - 1) : Nat) : Int)))) N (b := (List.range (N + 1)).map (fun v => (ltc ks v : Int))) ?_ ?_
  · have e : (List.range (N + 1)).map (fun v => ((if v ≤ 0 then ltc ks v else cnt ks (v - 1) : Nat) : Int)) = (List.range (N + 1)).map (fun v => ((if v = 0 then 0 else cnt ks (v - 1) : Nat) : Int)) := by
      refine map_congr_range (fun v hv => ?_)
      by_cases h1 : v = 0
      · simp [h1, ltc_zero]
      · simp [h1]
    simp only [e] at h
    exact h
  · intro j hj
    have hs := ltc_succ ks j
    have hle := ltc_le ks (j + 1)
    unfold ix2
    simp only [dlt hj, cond_true, w64s hj (by omega : N ≤ 9223372036854775807), getI_map (show j + 1 < N + 1 by omega), getI_map (show j < N + 1 by omega), Option.bind_some, Int.toNat_natCast, set_map]
    congr 3
    refine map_congr_range (fun v hv => ?_)
    simp only [show ¬ (j + 1 ≤ j) by omega, if_false, Nat.le_refl, if_true, Nat.add_sub_cancel]
    by_cases h1 : v = j + 1
    · subst h1; simp only [if_true, Nat.le_refl]; rw [w64 (by omega) (by omega)]; omega
    · rw [if_neg h1]
      by_cases h2 : v ≤ j
      · simp [h2, show v ≤ j + 1 by omega]
      · simp [h2, show ¬ v ≤ j + 1 by omega]
  · unfold ix2
    simp only [Int.lt_irrefl, decide_false, cond_false]
    congr 2
    refine map_congr_range (fun v hv => ?_)
    simp [show v ≤ N by omega]
theorem ix3_eq {N : Nat} (hk : xb.map key = ks.map (fun k : Nat => (k : Int))) (hN : ∀ x ∈ ks, x < N) (hb : ks.length ≤ 1073741824) (hNb : N ≤ 1073741824) : loop (ix3 key xb) ((List.range (N + 1)).map (fun v => (ltc ks v : Int)), 0, List.replicate xb.length 0) = some ((List.range ks.length).map (fun p => (av ks ks.length p : Int))) := by
  have hl : xb.length = ks.length := by simpa using congrArg List.length hk
  have h := loop_nat (body := ix3 key xb) (fun k : Nat => ((List.range (N + 1)).map (fun v => ((ltc ks v + cnt (ks.take k) v : Nat) : Int)), (k : Int), (List.range ks.length).map (fun p => (av ks k p : Int)))) xb.length (b := (List.range ks.length).map (fun p => (av ks ks.length p : Int))) ?_ ?_
  · rw [hl, replicate_map]; simpa [cnt, av] using h
  · intro k hk2
    obtain ⟨hk3, hk4⟩ := key_at hk hk2
    have hlt := hN _ (List.getElem_mem hk3)
    have hp : ltc ks ks[k] + cnt (ks.take k) ks[k] = pos ks k := by unfold pos; simp [hk3]
    have hpl := pos_lt_len hk3
    unfold ix3
    simp only [dlt hk2, cond_true, getN hk2, Option.bind_some, hk4, getI_map (show ks[k] < N + 1 by omega), hp, getI_map hpl, Int.toNat_natCast, set_map, w64s hk2 (by omega : xb.length ≤ 9223372036854775807)]
    congr 3
    · refine map_congr_range (fun v hv => ?_)
      rw [cnt_take hk3]
      by_cases h1 : v = ks[k]
      · subst h1; simp only [if_true]; rw [w64 (by omega) (by omega)]; omega
      · rw [if_neg h1, if_neg (Ne.symm h1)]; simp
    · congr 1
      refine map_congr_range (fun p hp2 => ?_)
      rw [av_succ hk3]
      split <;> rfl
  · unfold ix3
    simp only [hl, Int.lt_irrefl, decide_false, cond_false]
end
/-! ### Graphs. -/
abbrev Gr := Int × (List (Int × Int)) × ((List Int) × (List Int)) × ((List Int) × (List Int))
abbrev ArG := List (Nat × Nat)
def ai (E : ArG) : List (Int × Int) := E.map (fun e => ((e.1 : Int), (e.2 : Int)))
def ixs (N : Nat) (ks : List Nat) : List Int × List Int := ((List.range (N + 1)).map (fun v => (ltc ks v : Int)), (List.range ks.length).map (fun p => (av ks ks.length p : Int)))
def mkG (N : Nat) (E : ArG) : Gr := ((N : Int), ai E, ixs N (E.map (·.1)), ixs N (E.map (·.2)))
def inN (N : Nat) (E : ArG) : Prop := ∀ e ∈ E, e.1 < N ∧ e.2 < N
theorem ai_len (E : ArG) : (ai E).length = E.length := by simp [ai]
theorem clone_eq {α : Type} (xa : List α) (hn : xa.length ≤ 1073741824) : nilb xa (some ([] : List α)) ((app ([] : List α) xa).bind fun z => some z) = some xa := by
  rw [nilb_eq]
  · rw [app_eq (by simpa using hn)]; simp
  · rintro rfl; rw [app_eq (by simp)]; rfl
theorem indexed1_eq {N : Nat} {E : ArG} (h : inN N E) (hn : N ≤ 1048576) (he : E.length ≤ 67108864) : fn_graph_indexed_ik_graph_New_1 (N : Int) (ai E) = some (ixs N (E.map (·.1))) := by
  have hk : (ai E).map (fun x : Int × Int => x.1) = (E.map (·.1)).map (fun k : Nat => (k : Int)) := by simp [ai]
  have hN : ∀ x ∈ E.map (·.1), x < N := by intro x hx; obtain ⟨e, he, rfl⟩ := List.mem_map.1 hx; exact (h e he).1
  have hw : IntKind.wrap .i64 ((N : Int) + 1) = ((N + 1 : Nat) : Int) := by rw [w64 (by omega) (by omega)]; omega
  have h1 := ix1_eq (key := fun x : Int × Int => x.1) (N := N) hk hN (by simp; omega) (by omega)
  have h2 := ix2_eq (ks := E.map (·.1)) (N := N) (by simp; omega) (by omega)
  have h3 := ix3_eq (key := fun x : Int × Int => x.1) (N := N) hk hN (by simp; omega) (by omega)
  have hl : (ai E).length ≤ 1073741824 := by rw [ai_len]; omega
  unfold fn_graph_indexed_ik_graph_New_1
  rw [hw, mkN (by omega), Option.bind_some, mkN hl, Option.bind_some, Option.bind_some]
  show (loop (ix1 (fun x : Int × Int => x.1) (ai E)) (0, _)).bind _ = _
  rw [h1, Option.bind_some]
  show (loop (ix2 (N : Int)) (0, _)).bind _ = _
  rw [h2, Option.bind_some]
  have hc : ∀ l : List Int, l.length ≤ 1073741824 → fn_slices_Clone_int_int l = some l := fun l hl => clone_eq l hl
  rw [hc _ (by simp; omega), Option.bind_some]
  show (loop (ix3 (fun x : Int × Int => x.1) (ai E)) (_, 0, _)).bind _ = _
  rw [h3]; rfl
theorem indexed2_eq {N : Nat} {E : ArG} (h : inN N E) (hn : N ≤ 1048576) (he : E.length ≤ 67108864) : fn_graph_indexed_ik_graph_New_2 (N : Int) (ai E) = some (ixs N (E.map (·.2))) := by
  have hk : (ai E).map (fun x : Int × Int => x.2) = (E.map (·.2)).map (fun k : Nat => (k : Int)) := by simp [ai]
  have hN : ∀ x ∈ E.map (·.2), x < N := by intro x hx; obtain ⟨e, he, rfl⟩ := List.mem_map.1 hx; exact (h e he).2
  have hw : IntKind.wrap .i64 ((N : Int) + 1) = ((N + 1 : Nat) : Int) := by rw [w64 (by omega) (by omega)]; omega
  have h1 := ix1_eq (key := fun x : Int × Int => x.2) (N := N) hk hN (by simp; omega) (by omega)
  have h2 := ix2_eq (ks := E.map (·.2)) (N := N) (by simp; omega) (by omega)
  have h3 := ix3_eq (key := fun x : Int × Int => x.2) (N := N) hk hN (by simp; omega) (by omega)
  have hl : (ai E).length ≤ 1073741824 := by rw [ai_len]; omega
  unfold fn_graph_indexed_ik_graph_New_2
  rw [hw, mkN (by omega), Option.bind_some, mkN hl, Option.bind_some, Option.bind_some]
  show (loop (ix1 (fun x : Int × Int => x.2) (ai E)) (0, _)).bind _ = _
  rw [h1, Option.bind_some]
  show (loop (ix2 (N : Int)) (0, _)).bind _ = _
  rw [h2, Option.bind_some]
  have hc : ∀ l : List Int, l.length ≤ 1073741824 → fn_slices_Clone_int_int l = some l := fun l hl => clone_eq l hl
  rw [hc _ (by simp; omega), Option.bind_some]
  show (loop (ix3 (fun x : Int × Int => x.2) (ai E)) (_, 0, _)).bind _ = _
  rw [h3]; rfl
/-- An arc that is out of the nodes. -/
def outA (n : Int) (a : Int × Int) : Bool := (((decide (a.1 < 0)) || (decide (n ≤ a.1))) || (decide (a.2 < 0))) || (decide (n ≤ a.2))
theorem newLoop (n : Int) (xb : List (Int × Int)) (hb : xb.length ≤ 1073741824) : loop (fn_graph_New_l1 n xb) 0 = some (if xb.any (outA n) then .inr (none, 7) else .inl ()) := by
  refine loop_some xb (outA n) _ _ (fun k h => ?_) ?_
  · unfold fn_graph_New_l1
    simp only [dlt h, cond_true, getN h, Option.bind_some, w64s h (by omega : xb.length ≤ 9223372036854775807)]
    show cond (outA n xb[k]) _ _ = _
    cases outA n xb[k] <;> rfl
  · simp [fn_graph_New_l1]
theorem New_ok {N : Nat} {E : ArG} (h : inN N E) (hn : N ≤ 1048576) (he : E.length ≤ 67108864) : fn_graph_New (N : Int) (ai E) = some (some (mkG N E), 0) := by
  unfold fn_graph_New
  have h1 : decide ((N : Int) < 0) = false := decide_eq_false (by omega)
  have h2 : (decide ((1048576 : Int) < (N : Int)) || decide ((67108864 : Int) < (((ai E).length : Nat) : Int))) = false := by rw [ai_len]; simp; omega
  have h3 : (ai E).any (outA (N : Int)) = false := by
    rw [List.any_eq_false]
    intro a ha
    obtain ⟨e, he, rfl⟩ := List.mem_map.1 ha
    have := h e he
    simp [outA]; omega
  rw [h1, cond_false, h2, cond_false, newLoop _ _ (by rw [ai_len]; omega), h3]
  simp only [Bool.false_eq_true, if_false, Option.bind_some]
  have hc : fn_slices_Clone_graph_Arc_graph_Arc (ai E) = some (ai E) := clone_eq _ (by rw [ai_len]; omega)
  rw [hc, Option.bind_some, indexed1_eq h hn he, Option.bind_some, indexed2_eq h hn he]
  rfl
theorem occ_bound (ks : List Nat) (v : Nat) : (occ ks v).length ≤ ks.length := by rw [occ_len]; exact cnt_le ks v
theorem index_of_eq {N : Nat} {ks : List Nat} (hn : N ≤ 1048576) (he : ks.length ≤ 67108864) {v : Nat} (hv : v < N) : fn_graph_index_of (ixs N ks) (v : Int) = some ((occ ks v).map (fun i : Nat => (i : Int))) := by
  unfold fn_graph_index_of ixs
  have h1 := ltc_le ks (v + 1)
  have h2 := ltc_mono ks (v := v) (w := v + 1) (by omega)
  simp only [getI_map (show v < N + 1 by omega), Option.bind_some, w64s hv (by omega : N ≤ 9223372036854775807), getI_map (show v + 1 < N + 1 by omega)]
  rw [subL_eq (by omega) (by omega) (by simp; omega)]
  simp only [Int.toNat_natCast, Option.bind_some, av_sub]
theorem Nodes_eq (N : Nat) (E : ArG) : fn_graph_Graph_Nodes (some (mkG N E)) = some (N : Int) := rfl
theorem isNode_eq (N : Nat) (E : ArG) (v : Int) : fn_graph_Graph_isNode (some (mkG N E)) v = some (decide (0 ≤ v) && decide (v < (N : Int))) := by
  unfold fn_graph_Graph_isNode
  rw [Nodes_eq]
  cases decide (0 ≤ v) <;> simp
theorem isNode_of {N : Nat} {E : ArG} {v : Nat} (h : v < N) : fn_graph_Graph_isNode (some (mkG N E)) (v : Int) = some true := by
  rw [isNode_eq]; simp [h]
theorem Out_of {N : Nat} {E : ArG} (hn : N ≤ 1048576) (he : E.length ≤ 67108864) {v : Nat} (h : v < N) : fn_graph_Graph_Out (some (mkG N E)) (v : Int) = some ((occ (E.map (·.1)) v).map (fun i : Nat => (i : Int))) := by
  unfold fn_graph_Graph_Out
  rw [isNode_of h]
  have := index_of_eq (ks := E.map (·.1)) hn (by simp; omega) h
  have hb := occ_bound (E.map (·.1)) v
  simp only [Bool.not_true, cond_false, Option.bind_some, mkG]
  rw [this, Option.bind_some]
  have hc : ∀ l : List Int, l.length ≤ 1073741824 → fn_slices_Clone_int_int l = some l := fun l hl => clone_eq l hl
  rw [hc _ (by simp at hb ⊢; omega)]; rfl
/-- Where the arcs from a node lead, in order. -/
def nxt (E : ArG) (v : Nat) : List Nat := (occ (E.map (·.1)) v).map (fun i => (E.getD i (0, 0)).2)
theorem occ_arc {E : ArG} {v i : Nat} (h : i ∈ occ (E.map (·.1)) v) : ∃ h : i < E.length, E[i].1 = v := by
  obtain ⟨h1, h2⟩ := occ_mem.1 h
  exact ⟨by simpa using h1, by simpa using h2⟩
theorem nxt_mem {E : ArG} {v u : Nat} : u ∈ nxt E v ↔ (v, u) ∈ E := by
  unfold nxt
  constructor
  · intro h
    obtain ⟨i, hi, rfl⟩ := List.mem_map.1 h
    obtain ⟨h1, h2⟩ := occ_arc hi
    have : E.getD i (0, 0) = E[i] := by simp [h1]
    rw [this]
    have e : (v, E[i].2) = E[i] := by rw [← h2]
    rw [e]; exact List.getElem_mem h1
  · intro h
    obtain ⟨i, hi, he⟩ := List.getElem_of_mem h
    refine List.mem_map.2 ⟨i, occ_mem.2 ⟨by simpa using hi, by simp [he]⟩, by simp [hi, he]⟩
theorem Next_of {N : Nat} {E : ArG} (hn : N ≤ 1048576) (he : E.length ≤ 67108864) {v : Nat} (h : v < N) : fn_graph_Graph_Next (some (mkG N E)) (v : Int) = some ((nxt E v).map (fun i : Nat => (i : Int))) := by
  unfold fn_graph_Graph_Next
  rw [Out_of hn he h, Option.bind_some]
  have hb := occ_bound (E.map (·.1)) v
  simp at hb
  generalize hO : occ (E.map (·.1)) v = O at hb ⊢
  have hO2 : ∀ i ∈ O, i < E.length := fun i hi => by rw [← hO] at hi; exact (occ_arc hi).1
  have hx : nxt E v = O.map (fun i => (E.getD i (0, 0)).2) := by unfold nxt; rw [hO]
  rw [hx]
  have hl := loop_nat (body := fn_graph_Graph_Next_l1 (some (mkG N E)) (O.map (fun i : Nat => (i : Int)))) (fun k : Nat => ((O.take k).map (fun i => (((E.getD i (0, 0)).2 : Nat) : Int)) ++ (O.drop k).map (fun i : Nat => (i : Int)), (k : Int))) O.length (b := (O.map (fun i => (((E.getD i (0, 0)).2 : Nat) : Int)))) ?_ ?_
  · simp only [List.take_zero, List.map_nil, List.nil_append, List.drop_zero] at hl
    rw [show ((0 : Int)) = ((0 : Nat) : Int) from rfl, hl, List.map_map]; rfl
  · intro k hk
    have hk' : k < (O.map (fun i : Nat => (i : Int))).length := by simpa using hk
    have hi := hO2 _ (List.getElem_mem hk)
    have hlen : ((O.take k).map (fun i => (((E.getD i (0, 0)).2 : Nat) : Int))).length = k := by simp; omega
    have g1 : getI ((O.take k).map (fun i => (((E.getD i (0, 0)).2 : Nat) : Int)) ++ (O.drop k).map (fun i : Nat => (i : Int))) (k : Int) = some ((O[k] : Nat) : Int) := by
      rw [getN (by simp; omega), List.getElem_append_right (by omega)]
      simp only [List.getElem_map, List.getElem_drop, hlen, Nat.sub_self, Nat.add_zero]
    have g2 : getI (ai E) ((O[k] : Nat) : Int) = some (((E[O[k]].1 : Nat) : Int), ((E[O[k]].2 : Nat) : Int)) := by
      rw [getN (by rw [ai_len]; exact hi)]; simp [ai]
    unfold fn_graph_Graph_Next_l1
    simp only [dlt hk', cond_true, g1, Option.bind_some, mkG, g2, Int.toNat_natCast, w64s hk' (by simp; omega)]
    congr 3
    rw [take_snoc hk, List.map_append, List.drop_eq_getElem_cons hk, List.map_cons, List.set_append_right _ _ (by omega), hlen, Nat.sub_self, List.set_cons_zero, List.append_assoc]
    simp [hi]
  · simp [fn_graph_Graph_Next_l1]
/-! ### What is reached. -/
inductive Rch (E : ArG) : Nat → Nat → Prop
  | refl (v : Nat) : Rch E v v
  | step {v w u : Nat} (h : Rch E v w) (e : (w, u) ∈ E) : Rch E v u
theorem Rch.trans {E : ArG} {a b c : Nat} (h : Rch E a b) (k : Rch E b c) : Rch E a c := by
  induction k with
  | refl => exact h
  | step _ e ih => exact ih.step e
theorem Rch.head {E : ArG} {a b c : Nat} (e : (a, b) ∈ E) (k : Rch E b c) : Rch E a c := Rch.trans ((Rch.refl a).step e) k
theorem Rch.mono {E F : ArG} (hf : ∀ e ∈ E, e ∈ F) {a b : Nat} (h : Rch E a b) : Rch F a b := by
  induction h with
  | refl => exact .refl _
  | step _ e ih => exact ih.step (hf _ e)
theorem Rch.lt {N : Nat} {E : ArG} (hE : inN N E) {a b : Nat} (h : Rch E a b) (ha : a < N) : b < N := by
  cases h with
  | refl => exact ha
  | step _ e => exact (hE _ e).2
theorem nodup_le {A : List Nat} : ∀ {L : List Nat}, L.Nodup → (∀ x ∈ L, x ∈ A) → L.length ≤ A.length := by
  intro L
  induction L generalizing A with
  | nil => intro _ _; simp
  | cons x L ih =>
    intro hd hs
    have hx := hs x (by simp)
    rw [List.nodup_cons] at hd
    have := ih (A := A.erase x) hd.2 (fun y hy => by
      have hne : y ≠ x := fun e => hd.1 (e ▸ hy)
      exact (List.mem_erase_of_ne hne).2 (hs y (by simp [hy])))
    rw [List.length_erase_of_mem hx] at this
    have : 0 < A.length := List.length_pos_of_mem hx
    simp; omega
theorem nodup_lt {L : List Nat} {N : Nat} (hd : L.Nodup) (h : ∀ x ∈ L, x < N) : L.length ≤ N := by
  have := nodup_le (A := List.range N) hd (fun x hx => List.mem_range.2 (h x hx))
  simpa using this
def metL (N : Nat) (L : List Nat) : List Bool := (List.range N).map (fun w => decide (w ∈ L))
def li (L : List Nat) : List Int := L.map (fun i : Nat => (i : Int))
theorem li_len (L : List Nat) : (li L).length = L.length := by simp [li]
theorem getI_li {L : List Nat} {k : Nat} (h : k < L.length) : getI (li L) (k : Int) = some ((L[k] : Nat) : Int) := by rw [getN (by rw [li_len]; exact h)]; simp [li]
theorem range_strict (N : Nat) (p : Nat → Bool) : (li ((List.range N).filter p)).Pairwise (· < ·) := by
  unfold li
  rw [List.pairwise_map]
  refine List.Pairwise.imp (R := fun a b : Nat => a < b) (fun h => by omega) ?_
  exact List.pairwise_lt_range.filter p
end Go.Proofs.YtbennpandomacaaGreat
