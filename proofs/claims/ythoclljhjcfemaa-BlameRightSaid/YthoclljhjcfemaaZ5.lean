/- 'easement/easementlaw33.BlameRight' returns true for every input, and each argument reads afterwards as it read before: the row's frame round the walk. -/
import Derived.Test.YthoclljhjcfemaaZ4
import Derived.Lib.SplitLaws
import Derived.Lib.IndexMore
import Derived.Lib.Join
namespace Go.Proofs.Ythoclljhjcfemaa
open Go.RowKit
set_option linter.unusedVariables false
/-! ### Lists over a range. -/
theorem getI_map {α : Type} {m j : Nat} {f : Nat → α} (h : j < m) : getI ((List.range m).map f) (j : Int) = some (f j) := by
  rw [getN (by simpa using h)]; simp
theorem set_map {α : Type} {m j : Nat} {f : Nat → α} {y : α} : ((List.range m).map f).set j y = (List.range m).map (fun v => if v = j then y else f v) := by
  apply List.ext_getElem
  · simp
  · intro i h1 h2
    simp only [List.getElem_set, List.getElem_map, List.getElem_range]
    by_cases h : j = i
    · subst h; simp
    · simp [h, Ne.symm h]
theorem map_congr_range {α : Type} {m : Nat} {f g : Nat → α} (h : ∀ v, v < m → f v = g v) : (List.range m).map f = (List.range m).map g := List.map_congr_left fun v hv => h v (List.mem_range.1 hv)
theorem replicate_map {α : Type} (m : Nat) (z : α) : List.replicate m z = (List.range m).map (fun _ => z) := by
  apply List.ext_getElem <;> simp
/-! ### Numbers sorted by counting. -/
def cnt (ks : List Nat) (v : Nat) : Nat := ks.countP (fun x => decide (x = v))
def ltc (ks : List Nat) (v : Nat) : Nat := ks.countP (fun x => decide (x < v))
theorem ltc_zero (ks : List Nat) : ltc ks 0 = 0 := by simp [ltc]
theorem ltc_succ (ks : List Nat) (v : Nat) : ltc ks (v + 1) = ltc ks v + cnt ks v := by
  unfold ltc cnt
  induction ks with
  | nil => rfl
  | cons x ks ih =>
    rw [List.countP_cons, List.countP_cons, List.countP_cons, ih]
    by_cases h : x < v
    · simp [h, show x < v + 1 by omega, show ¬ x = v by omega]; omega
    · by_cases h2 : x = v
      · simp [h2]; omega
      · simp [h, h2, show ¬ x < v + 1 by omega]
theorem ltc_mono (ks : List Nat) {v w : Nat} (h : v ≤ w) : ltc ks v ≤ ltc ks w := by
  unfold ltc; apply List.countP_mono_left; intro x _; simp; omega
theorem ltc_le (ks : List Nat) (v : Nat) : ltc ks v ≤ ks.length := List.countP_le_length
theorem cnt_le (ks : List Nat) (v : Nat) : cnt ks v ≤ ks.length := List.countP_le_length
theorem cnt_take {ks : List Nat} {k : Nat} (h : k < ks.length) (v : Nat) : cnt (ks.take (k + 1)) v = cnt (ks.take k) v + (if ks[k] = v then 1 else 0) := by
  unfold cnt; rw [take_snoc h, List.countP_append]; simp [List.countP_cons]
theorem cnt_take_le (ks : List Nat) (k v : Nat) : cnt (ks.take k) v ≤ cnt ks v := by
  unfold cnt
  conv => rhs; rw [← List.take_append_drop k ks, List.countP_append]
  omega
theorem cnt_take_lt {ks : List Nat} {k : Nat} (h : k < ks.length) : cnt (ks.take k) ks[k] < cnt ks ks[k] := by
  have := cnt_take_le ks (k + 1) ks[k]
  rw [cnt_take h] at this
  simp at this; omega
def pos (ks : List Nat) (i : Nat) : Nat := ltc ks (ks.getD i 0) + cnt (ks.take i) (ks.getD i 0)
theorem pos_lt {ks : List Nat} {i : Nat} (h : i < ks.length) : pos ks i < ltc ks (ks[i] + 1) := by
  have := cnt_take_lt h
  unfold pos; rw [ltc_succ]
  simp [h]; omega
theorem pos_ge {ks : List Nat} {i : Nat} (h : i < ks.length) : ltc ks ks[i] ≤ pos ks i := by unfold pos; simp [h]
theorem pos_lt_len {ks : List Nat} {i : Nat} (h : i < ks.length) : pos ks i < ks.length := Nat.lt_of_lt_of_le (pos_lt h) (ltc_le _ _)
theorem pos_inj {ks : List Nat} {i j : Nat} (hi : i < j) (hj : j < ks.length) : pos ks i ≠ pos ks j := by
  have hi' : i < ks.length := by omega
  rcases Nat.lt_trichotomy ks[i] ks[j] with h | h | h
  · have := pos_lt hi'; have := pos_ge hj; have := ltc_mono ks (v := ks[i] + 1) (w := ks[j]) (by omega); omega
  · have h1 := cnt_take hi' ks[j]
    have h2 : cnt (ks.take (i + 1)) ks[j] ≤ cnt (ks.take j) ks[j] := by
      have := cnt_take_le (ks.take j) (i + 1) ks[j]
      rw [List.take_take, Nat.min_eq_left (by omega)] at this; exact this
    unfold pos; simp [hi', hj, h] at h1 ⊢; omega
  · have := pos_lt hj; have := pos_ge hi'; have := ltc_mono ks (v := ks[j] + 1) (w := ks[i]) (by omega); omega
/-- Where a number stands. -/
def occ (ks : List Nat) (v : Nat) : List Nat := (List.range ks.length).filter (fun i => decide (ks.getD i 0 = v))
theorem occ_upto (ks : List Nat) (v : Nat) : ∀ k, k ≤ ks.length → ((List.range k).filter (fun i => decide (ks.getD i 0 = v))).length = cnt (ks.take k) v ∧ ∀ (r i : Nat), ((List.range k).filter (fun i => decide (ks.getD i 0 = v)))[r]? = some i → ∃ hi : i < ks.length, ks[i] = v ∧ cnt (ks.take i) v = r
  | 0, _ => by simp [cnt]
  | k + 1, hk => by
    obtain ⟨h1, h2⟩ := occ_upto ks v k (by omega)
    have hkl : k < ks.length := by omega
    have e : (List.range (k + 1)).filter (fun i => decide (ks.getD i 0 = v)) = (List.range k).filter (fun i => decide (ks.getD i 0 = v)) ++ (if ks[k] = v then [k] else []) := by
      rw [List.range_succ, List.filter_append]
      by_cases h : ks[k] = v <;> simp [hkl, h]
    rw [e, cnt_take hkl]
    generalize hF : (List.range k).filter (fun i => decide (ks.getD i 0 = v)) = F at h1 h2
    by_cases h : ks[k] = v
    · simp only [h, if_true]
      refine ⟨by simp [h1], fun r i hr => ?_⟩
      by_cases hr2 : r < F.length
      · rw [List.getElem?_append_left hr2] at hr; exact h2 r i hr
      · rw [List.getElem?_append_right (by omega)] at hr
        have hr3 : r - F.length = 0 := by
          have := (List.getElem?_eq_some_iff.1 hr).1
          simp at this; omega
        rw [hr3] at hr
        simp at hr
        subst hr
        exact ⟨hkl, h, by omega⟩
    · simp only [h, if_false, List.append_nil, Nat.add_zero]
      exact ⟨h1, h2⟩
theorem occ_len (ks : List Nat) (v : Nat) : (occ ks v).length = cnt ks v := by have := (occ_upto ks v ks.length (Nat.le_refl _)).1; rw [List.take_length] at this; exact this
theorem occ_get (ks : List Nat) (v r : Nat) (h : r < (occ ks v).length) : ∃ (hi : (occ ks v)[r] < ks.length), ks[(occ ks v)[r]] = v ∧ cnt (ks.take (occ ks v)[r]) v = r := (occ_upto ks v ks.length (Nat.le_refl _)).2 r _ (List.getElem?_eq_getElem h)
theorem occ_mem {ks : List Nat} {v i : Nat} : i ∈ occ ks v ↔ ∃ h : i < ks.length, ks[i] = v := by
  unfold occ
  simp only [List.mem_filter, List.mem_range, decide_eq_true_eq]
  constructor
  · rintro ⟨h1, h2⟩; exact ⟨h1, by simpa [h1] using h2⟩
  · rintro ⟨h1, h2⟩; exact ⟨h1, by simpa [h1] using h2⟩
/-- The numbers' places, in the order of the numbers. -/
def av (ks : List Nat) (k p : Nat) : Nat := ((List.range k).find? (fun i => decide (pos ks i = p))).getD 0
theorem av_pos {ks : List Nat} {k i : Nat} (hk : k ≤ ks.length) (hi : i < k) : av ks k (pos ks i) = i := by
  unfold av
  cases h : (List.range k).find? (fun j => decide (pos ks j = pos ks i)) with
  | none =>
    rw [List.find?_eq_none] at h
    exact absurd (by simp) (h i (List.mem_range.2 hi))
  | some j =>
    have h1 := List.find?_some h
    have h2 := List.mem_range.1 (List.mem_of_find?_eq_some h)
    simp at h1
    rcases Nat.lt_trichotomy i j with q | q | q
    · exact absurd h1.symm (pos_inj q (by omega))
    · exact q.symm
    · exact absurd h1 (pos_inj q (by omega))
theorem av_succ {ks : List Nat} {k : Nat} (hk : k < ks.length) (p : Nat) : av ks (k + 1) p = if p = pos ks k then k else av ks k p := by
  by_cases h : p = pos ks k
  · rw [if_pos h, h, av_pos (by omega) (by omega)]
  · rw [if_neg h]
    unfold av
    rw [List.range_succ, List.find?_append]
    simp [Ne.symm h]
theorem av_sub (ks : List Nat) (v : Nat) : ((((List.range ks.length).map (fun p => (av ks ks.length p : Int))).take (ltc ks (v + 1))).drop (ltc ks v)) = (occ ks v).map (fun i : Nat => (i : Int)) := by
  apply List.ext_getElem
  · have h1 := ltc_succ ks v
    have h2 := ltc_le ks (v + 1)
    rw [List.length_drop, List.length_take, List.length_map, List.length_map, occ_len, List.length_range]; omega
  · intro r h1 h2
    have hr : r < (occ ks v).length := by simpa using h2
    obtain ⟨hi, h3, h4⟩ := occ_get ks v r hr
    simp only [List.getElem_drop, List.getElem_take, List.getElem_map, List.getElem_range]
    have : pos ks (occ ks v)[r] = ltc ks v + r := by
      have e : ks.getD (occ ks v)[r] 0 = v := by simp [hi, h3]
      unfold pos; rw [e, h4]
    rw [← this, av_pos (Nat.le_refl _) hi]
section
variable {α : Type} (key : α → Int) (n : Int) (xb : List α)
def ix1 : (Int × (List Int)) → Option ((Int × (List Int)) ⊕ (List Int)) := fun ((i, l) : (Int × (List Int))) => cond (decide (i < (((xb.length : Nat) : Int)))) ((getI xb i).bind fun x => (getI l (IntKind.wrap .i64 (key x + 1))).bind fun a => (getI l (IntKind.wrap .i64 (key x + 1))).bind fun b => (some (l.set (IntKind.wrap .i64 (key x + 1)).toNat (IntKind.wrap .i64 (a + 1)))).bind fun z => some (.inl ((IntKind.wrap .i64 (i + 1), z)))) (some (.inr (l)))
def ix2 : (Int × (List Int)) → Option ((Int × (List Int)) ⊕ (List Int)) := fun ((i, l) : (Int × (List Int))) => cond (decide (i < n)) ((getI l (IntKind.wrap .i64 (i + 1))).bind fun a => (getI l i).bind fun b => (getI l (IntKind.wrap .i64 (i + 1))).bind fun c => (some (l.set (IntKind.wrap .i64 (i + 1)).toNat (IntKind.wrap .i64 (a + b)))).bind fun z => some (.inl ((IntKind.wrap .i64 (i + 1), z)))) (some (.inr (l)))
def ix3 : ((List Int) × Int × (List Int)) → Option (((List Int) × Int × (List Int)) ⊕ (List Int)) := fun ((l, i, m) : ((List Int) × Int × (List Int))) => cond (decide (i < (((xb.length : Nat) : Int)))) ((getI xb i).bind fun x => (getI l (key x)).bind fun a => (getI m a).bind fun b => (some (m.set a.toNat i)).bind fun z => (getI l (key x)).bind fun c => (getI l (key x)).bind fun d => (some (l.set (key x).toNat (IntKind.wrap .i64 (c + 1)))).bind fun y => some (.inl ((y, IntKind.wrap .i64 (i + 1), z)))) (some (.inr (m)))
variable {key n xb} {ks : List Nat}
theorem key_at (hk : xb.map key = ks.map (fun k : Nat => (k : Int))) {i : Nat} (h : i < xb.length) : ∃ h2 : i < ks.length, key xb[i] = (ks[i] : Int) := by
  have hl : xb.length = ks.length := by simpa using congrArg List.length hk
  refine ⟨by omega, ?_⟩
  have h1 : (xb.map key)[i]'(by simpa using h) = (ks.map (fun k : Nat => (k : Int)))[i]'(by simp; omega) := by simp only [hk]
  simpa using h1
theorem ix1_eq {N : Nat} (hk : xb.map key = ks.map (fun k : Nat => (k : Int))) (hN : ∀ x ∈ ks, x < N) (hb : ks.length ≤ 1073741824) (hNb : N ≤ 1073741824) : loop (ix1 key xb) (0, List.replicate (N + 1) 0) = some ((List.range (N + 1)).map (fun v => ((if v = 0 then 0 else cnt ks (v - 1) : Nat) : Int))) := by
  have hl : xb.length = ks.length := by simpa using congrArg List.length hk
  have h := loop_nat (body := ix1 key xb) (fun k : Nat => ((k : Int), (List.range (N + 1)).map (fun v => ((if v = 0 then 0 else cnt (ks.take k) (v - 1) : Nat) : Int)))) xb.length (b := (List.range (N + 1)).map (fun v => ((if v = 0 then 0 else cnt ks (v - 1) : Nat) : Int))) ?_ ?_
  · rw [replicate_map]; simpa [cnt] using h
  · intro k hk2
    obtain ⟨hk3, hk4⟩ := key_at hk hk2
    have hlt := hN _ (List.getElem_mem hk3)
    have hw : IntKind.wrap .i64 (key xb[k] + 1) = ((ks[k] + 1 : Nat) : Int) := by rw [hk4, w64 (by omega) (by omega)]; omega
    have hc := cnt_le (ks.take k) ks[k]
    simp only [List.length_take] at hc
    unfold ix1
    simp only [dlt hk2, cond_true, getN hk2, Option.bind_some, hw, getI_map (show ks[k] + 1 < N + 1 by omega), Int.toNat_natCast, set_map, w64s hk2 (by omega : xb.length ≤ 9223372036854775807)]
    congr 3
    refine map_congr_range (fun v hv => ?_)
    rw [cnt_take hk3]
    simp only [Nat.add_one_ne_zero, if_false, Nat.add_sub_cancel]
    by_cases h1 : v = ks[k] + 1
    · subst h1; simp only [if_true, Nat.add_one_ne_zero, if_false, Nat.add_sub_cancel]; rw [w64 (by omega) (by omega)]; omega
    · rw [if_neg h1]
      by_cases h2 : v = 0
      · simp [h2]
      · simp [h2, show ¬ ks[k] = v - 1 by omega]
  · unfold ix1
    simp only [hl, Int.lt_irrefl, decide_false, cond_false, List.take_length]
theorem ix2_eq {N : Nat} (hb : ks.length ≤ 1073741824) (hNb : N ≤ 1073741824) : loop (ix2 (N : Int)) (0, (List.range (N + 1)).map (fun v => ((if v = 0 then 0 else cnt ks (v - 1) : Nat) : Int))) = some ((List.range (N + 1)).map (fun v => (ltc ks v : Int))) := by
  have h := loop_nat (body := ix2 (N : Int)) (fun j : Nat => ((j : Int), (List.range (N + 1)).map (fun v => ((if v ≤ j then ltc ks v else cnt ks (v - 1) : Nat) : Int)))) N (b := (List.range (N + 1)).map (fun v => (ltc ks v : Int))) ?_ ?_
  · have e : (List.range (N + 1)).map (fun v => ((if v ≤ 0 then ltc ks v else cnt ks (v - 1) : Nat) : Int)) = (List.range (N + 1)).map (fun v => ((if v = 0 then 0 else cnt ks (v - 1) : Nat) : Int)) := by
      refine map_congr_range (fun v hv => ?_)
      by_cases h1 : v = 0
      · simp [h1, ltc_zero]
      · simp [h1]
    simp only [e] at h
    exact h
  · intro j hj
    have hs := ltc_succ ks j
    have hle := ltc_le ks (j + 1)
    unfold ix2
    simp only [dlt hj, cond_true, w64s hj (by omega : N ≤ 9223372036854775807), getI_map (show j + 1 < N + 1 by omega), getI_map (show j < N + 1 by omega), Option.bind_some, Int.toNat_natCast, set_map]
    congr 3
    refine map_congr_range (fun v hv => ?_)
    simp only [show ¬ (j + 1 ≤ j) by omega, if_false, Nat.le_refl, if_true, Nat.add_sub_cancel]
    by_cases h1 : v = j + 1
    · subst h1; simp only [if_true, Nat.le_refl]; rw [w64 (by omega) (by omega)]; omega
    · rw [if_neg h1]
      by_cases h2 : v ≤ j
      · simp [h2, show v ≤ j + 1 by omega]
      · simp [h2, show ¬ v ≤ j + 1 by omega]
  · unfold ix2
    simp only [Int.lt_irrefl, decide_false, cond_false]
    congr 2
    refine map_congr_range (fun v hv => ?_)
    simp [show v ≤ N by omega]
theorem ix3_eq {N : Nat} (hk : xb.map key = ks.map (fun k : Nat => (k : Int))) (hN : ∀ x ∈ ks, x < N) (hb : ks.length ≤ 1073741824) (hNb : N ≤ 1073741824) : loop (ix3 key xb) ((List.range (N + 1)).map (fun v => (ltc ks v : Int)), 0, List.replicate xb.length 0) = some ((List.range ks.length).map (fun p => (av ks ks.length p : Int))) := by
  have hl : xb.length = ks.length := by simpa using congrArg List.length hk
  have h := loop_nat (body := ix3 key xb) (fun k : Nat => ((List.range (N + 1)).map (fun v => ((ltc ks v + cnt (ks.take k) v : Nat) : Int)), (k : Int), (List.range ks.length).map (fun p => (av ks k p : Int)))) xb.length (b := (List.range ks.length).map (fun p => (av ks ks.length p : Int))) ?_ ?_
  · rw [hl, replicate_map]; simpa [cnt, av] using h
  · intro k hk2
    obtain ⟨hk3, hk4⟩ := key_at hk hk2
    have hlt := hN _ (List.getElem_mem hk3)
    have hp : ltc ks ks[k] + cnt (ks.take k) ks[k] = pos ks k := by unfold pos; simp [hk3]
    have hpl := pos_lt_len hk3
    unfold ix3
    simp only [dlt hk2, cond_true, getN hk2, Option.bind_some, hk4, getI_map (show ks[k] < N + 1 by omega), hp, getI_map hpl, Int.toNat_natCast, set_map, w64s hk2 (by omega : xb.length ≤ 9223372036854775807)]
    congr 3
    · refine map_congr_range (fun v hv => ?_)
      rw [cnt_take hk3]
      by_cases h1 : v = ks[k]
      · subst h1; simp only [if_true]; rw [w64 (by omega) (by omega)]; omega
      · rw [if_neg h1, if_neg (Ne.symm h1)]; simp
    · congr 1
      refine map_congr_range (fun p hp2 => ?_)
      rw [av_succ hk3]
      split <;> rfl
  · unfold ix3
    simp only [hl, Int.lt_irrefl, decide_false, cond_false]
end
/-! ### Graphs. -/
abbrev Gr := Int × (List (Int × Int)) × ((List Int) × (List Int)) × ((List Int) × (List Int))
abbrev ArG := List (Nat × Nat)
def ai (E : ArG) : List (Int × Int) := E.map (fun e => ((e.1 : Int), (e.2 : Int)))
def ixs (N : Nat) (ks : List Nat) : List Int × List Int := ((List.range (N + 1)).map (fun v => (ltc ks v : Int)), (List.range ks.length).map (fun p => (av ks ks.length p : Int)))
def mkG (N : Nat) (E : ArG) : Gr := ((N : Int), ai E, ixs N (E.map (·.1)), ixs N (E.map (·.2)))
def inN (N : Nat) (E : ArG) : Prop := ∀ e ∈ E, e.1 < N ∧ e.2 < N
theorem ai_len (E : ArG) : (ai E).length = E.length := by simp [ai]
theorem clone_eq {α : Type} (xa : List α) (hn : xa.length ≤ 1073741824) : nilb xa (some ([] : List α)) ((app ([] : List α) xa).bind fun z => some z) = some xa := by
  rw [nilb_eq]
  · rw [app_eq (by simpa using hn)]; simp
  · rintro rfl; rw [app_eq (by simp)]; rfl
theorem indexed1_eq {N : Nat} {E : ArG} (h : inN N E) (hn : N ≤ 1048576) (he : E.length ≤ 67108864) : fn_graph_indexed_ik_graph_New_1 (N : Int) (ai E) = some (ixs N (E.map (·.1))) := by
  have hk : (ai E).map (fun x : Int × Int => x.1) = (E.map (·.1)).map (fun k : Nat => (k : Int)) := by simp [ai]
  have hN : ∀ x ∈ E.map (·.1), x < N := by intro x hx; obtain ⟨e, he, rfl⟩ := List.mem_map.1 hx; exact (h e he).1
  have hw : IntKind.wrap .i64 ((N : Int) + 1) = ((N + 1 : Nat) : Int) := by rw [w64 (by omega) (by omega)]; omega
  have h1 := ix1_eq (key := fun x : Int × Int => x.1) (N := N) hk hN (by simp; omega) (by omega)
  have h2 := ix2_eq (ks := E.map (·.1)) (N := N) (by simp; omega) (by omega)
  have h3 := ix3_eq (key := fun x : Int × Int => x.1) (N := N) hk hN (by simp; omega) (by omega)
  have hl : (ai E).length ≤ 1073741824 := by rw [ai_len]; omega
  unfold fn_graph_indexed_ik_graph_New_1
  have hm1 : (mk ((N + 1 : Nat) : Int) ((N + 1 : Nat) : Int) (0 : Int) : Option (List Int)) = some (List.replicate (N + 1) 0) := mkN (by omega)
  have hm2 : (mk (((ai E).length : Nat) : Int) (((ai E).length : Nat) : Int) (0 : Int) : Option (List Int)) = some (List.replicate (ai E).length 0) := mkN hl
  rw [hw]
  simp only [hm1, hm2, Option.bind_some, agr_self]
  show (loop (ix1 (fun x : Int × Int => x.1) (ai E)) (0, _)).bind _ = _
  rw [h1, Option.bind_some]
  show (loop (ix2 (N : Int)) (0, _)).bind _ = _
  rw [h2, Option.bind_some]
  have hc : ∀ l : List Int, l.length ≤ 1073741824 → fn_slices_Clone_int_int l = some l := fun l hl => clone_eq l hl
  rw [hc _ (by simp; omega), Option.bind_some]
  show (loop (ix3 (fun x : Int × Int => x.1) (ai E)) (_, 0, _)).bind _ = _
  rw [h3]; rfl
theorem indexed2_eq {N : Nat} {E : ArG} (h : inN N E) (hn : N ≤ 1048576) (he : E.length ≤ 67108864) : fn_graph_indexed_ik_graph_New_2 (N : Int) (ai E) = some (ixs N (E.map (·.2))) := by
  have hk : (ai E).map (fun x : Int × Int => x.2) = (E.map (·.2)).map (fun k : Nat => (k : Int)) := by simp [ai]
  have hN : ∀ x ∈ E.map (·.2), x < N := by intro x hx; obtain ⟨e, he, rfl⟩ := List.mem_map.1 hx; exact (h e he).2
  have hw : IntKind.wrap .i64 ((N : Int) + 1) = ((N + 1 : Nat) : Int) := by rw [w64 (by omega) (by omega)]; omega
  have h1 := ix1_eq (key := fun x : Int × Int => x.2) (N := N) hk hN (by simp; omega) (by omega)
  have h2 := ix2_eq (ks := E.map (·.2)) (N := N) (by simp; omega) (by omega)
  have h3 := ix3_eq (key := fun x : Int × Int => x.2) (N := N) hk hN (by simp; omega) (by omega)
  have hl : (ai E).length ≤ 1073741824 := by rw [ai_len]; omega
  unfold fn_graph_indexed_ik_graph_New_2
  have hm1 : (mk ((N + 1 : Nat) : Int) ((N + 1 : Nat) : Int) (0 : Int) : Option (List Int)) = some (List.replicate (N + 1) 0) := mkN (by omega)
  have hm2 : (mk (((ai E).length : Nat) : Int) (((ai E).length : Nat) : Int) (0 : Int) : Option (List Int)) = some (List.replicate (ai E).length 0) := mkN hl
  rw [hw]
  simp only [hm1, hm2, Option.bind_some, agr_self]
  show (loop (ix1 (fun x : Int × Int => x.2) (ai E)) (0, _)).bind _ = _
  rw [h1, Option.bind_some]
  show (loop (ix2 (N : Int)) (0, _)).bind _ = _
  rw [h2, Option.bind_some]
  have hc : ∀ l : List Int, l.length ≤ 1073741824 → fn_slices_Clone_int_int l = some l := fun l hl => clone_eq l hl
  rw [hc _ (by simp; omega), Option.bind_some]
  show (loop (ix3 (fun x : Int × Int => x.2) (ai E)) (_, 0, _)).bind _ = _
  rw [h3]; rfl
/-- An arc that is out of the nodes. -/
def outA (n : Int) (a : Int × Int) : Bool := (((decide (a.1 < 0)) || (decide (n ≤ a.1))) || (decide (a.2 < 0))) || (decide (n ≤ a.2))
theorem newLoop (n : Int) (xb : List (Int × Int)) (hb : xb.length ≤ 1073741824) : loop (fn_graph_New_l1 n xb) 0 = some (if xb.any (outA n) then .inr (none, 7) else .inl ()) := by
  refine loop_some xb (outA n) _ _ (fun k h => ?_) ?_
  · unfold fn_graph_New_l1
    simp only [dlt h, cond_true, getN h, Option.bind_some, w64s h (by omega : xb.length ≤ 9223372036854775807)]
    show cond (outA n xb[k]) _ _ = _
    cases outA n xb[k] <;> rfl
  · simp [fn_graph_New_l1]
theorem arcs_nat {n : Int} {xb : List (Int × Int)} (h0 : 0 ≤ n) (h : xb.any (outA n) = false) : ∃ E : ArG, xb = ai E ∧ inN n.toNat E := by
  refine ⟨xb.map (fun a => (a.1.toNat, a.2.toNat)), ?_, ?_⟩
  · unfold ai
    rw [List.map_map]
    conv => lhs; rw [← List.map_id xb]
    refine List.map_congr_left (fun a ha => ?_)
    have := List.any_eq_false.1 h a ha
    simp [outA] at this
    refine Prod.ext ?_ ?_ <;> simp <;> omega
  · intro e he
    obtain ⟨a, ha, rfl⟩ := List.mem_map.1 he
    have := List.any_eq_false.1 h a ha
    simp [outA] at this
    dsimp only
    omega
theorem New_ok {N : Nat} {E : ArG} (h : inN N E) (hn : N ≤ 1048576) (he : E.length ≤ 67108864) : fn_graph_New (N : Int) (ai E) = some (some (mkG N E), 0) := by
  unfold fn_graph_New
  have h1 : decide ((N : Int) < 0) = false := decide_eq_false (by omega)
  have h2 : (decide ((1048576 : Int) < (N : Int)) || decide ((67108864 : Int) < (((ai E).length : Nat) : Int))) = false := by rw [ai_len]; simp; omega
  have h3 : (ai E).any (outA (N : Int)) = false := by
    rw [List.any_eq_false]
    intro a ha
    obtain ⟨e, he, rfl⟩ := List.mem_map.1 ha
    have := h e he
    simp [outA]; omega
  rw [h1, cond_false, h2, cond_false, newLoop _ _ (by rw [ai_len]; omega), h3]
  simp only [Bool.false_eq_true, if_false, Option.bind_some]
  have hc : fn_slices_Clone_graph_Arc_graph_Arc (ai E) = some (ai E) := clone_eq _ (by rw [ai_len]; omega)
  rw [hc, Option.bind_some, indexed1_eq h hn he, Option.bind_some, indexed2_eq h hn he]
  rfl
theorem New_eq (n : Int) (xb : List (Int × Int)) (he : xb.length ≤ 67108864) : (n < 0 ∧ fn_graph_New n xb = some (none, 2)) ∨ (1048576 < n ∧ fn_graph_New n xb = some (none, 5)) ∨ (0 ≤ n ∧ n ≤ 1048576 ∧ xb.any (outA n) = true ∧ fn_graph_New n xb = some (none, 7)) ∨
    ∃ (N : Nat) (E : ArG), n = (N : Int) ∧ N ≤ 1048576 ∧ xb = ai E ∧ inN N E ∧ xb.any (outA n) = false ∧ fn_graph_New n xb = some (some (mkG N E), 0) := by
  by_cases h0 : n < 0
  · refine .inl ⟨h0, ?_⟩
    unfold fn_graph_New
    rw [show decide (n < 0) = true by simpa using h0]; rfl
  · have h1 : decide (n < 0) = false := by simp; omega
    by_cases h2 : 1048576 < n
    · refine .inr (.inl ⟨h2, ?_⟩)
      unfold fn_graph_New
      rw [h1, show decide ((1048576 : Int) < n) = true by simpa using h2]; rfl
    · cases h3 : xb.any (outA n) with
      | true =>
        refine .inr (.inr (.inl ⟨by omega, by omega, rfl, ?_⟩))
        unfold fn_graph_New
        have h4 : (decide ((1048576 : Int) < n) || decide ((67108864 : Int) < ((xb.length : Nat) : Int))) = false := by simp; omega
        rw [h1, cond_false, h4, cond_false, newLoop _ _ (by omega), h3]; rfl
      | false =>
        obtain ⟨E, rfl, hE⟩ := arcs_nat (by omega) h3
        refine .inr (.inr (.inr ⟨n.toNat, E, by omega, by omega, rfl, hE, rfl, ?_⟩))
        have := New_ok hE (by omega) (by rw [ai_len] at he; omega)
        rw [show ((n.toNat : Nat) : Int) = n by omega] at this
        exact this
theorem occ_bound (ks : List Nat) (v : Nat) : (occ ks v).length ≤ ks.length := by rw [occ_len]; exact cnt_le ks v
theorem index_of_eq {N : Nat} {ks : List Nat} (hn : N ≤ 1048576) (he : ks.length ≤ 67108864) {v : Nat} (hv : v < N) : fn_graph_index_of (ixs N ks) (v : Int) = some ((occ ks v).map (fun i : Nat => (i : Int))) := by
  unfold fn_graph_index_of ixs
  have h1 := ltc_le ks (v + 1)
  have h2 := ltc_mono ks (v := v) (w := v + 1) (by omega)
  simp only [getI_map (show v < N + 1 by omega), Option.bind_some, w64s hv (by omega : N ≤ 9223372036854775807), getI_map (show v + 1 < N + 1 by omega)]
  rw [subL_eq (by omega) (by omega) (by simp; omega)]
  simp only [Int.toNat_natCast, Option.bind_some, av_sub]
theorem Nodes_eq (N : Nat) (E : ArG) : fn_graph_Graph_Nodes (some (mkG N E)) = some (N : Int) := rfl
theorem Nodes_none : fn_graph_Graph_Nodes none = some 0 := rfl
theorem Arcs_eq (N : Nat) (E : ArG) : fn_graph_Graph_Arcs (some (mkG N E)) = some (E.length : Int) := by
  show some ((((ai E).length : Nat) : Int)) = _
  rw [ai_len]
theorem Arcs_none : fn_graph_Graph_Arcs none = some 0 := rfl
theorem isNode_eq (N : Nat) (E : ArG) (v : Int) : fn_graph_Graph_isNode (some (mkG N E)) v = some (decide (0 ≤ v) && decide (v < (N : Int))) := by
  unfold fn_graph_Graph_isNode
  rw [Nodes_eq]
  cases decide (0 ≤ v) <;> simp
theorem isNode_none (v : Int) : fn_graph_Graph_isNode none v = some false := by
  unfold fn_graph_Graph_isNode
  rw [Nodes_none]
  by_cases h : 0 ≤ v
  · have : decide (v < 0) = false := decide_eq_false (by omega)
    simp [h]
  · simp [h]
theorem isNode_of {N : Nat} {E : ArG} {v : Nat} (h : v < N) : fn_graph_Graph_isNode (some (mkG N E)) (v : Int) = some true := by
  rw [isNode_eq]; simp [h]
theorem isNode_not {N : Nat} {E : ArG} {v : Int} (h : v < 0 ∨ (N : Int) ≤ v) : fn_graph_Graph_isNode (some (mkG N E)) v = some false := by
  rw [isNode_eq]; simp; omega
theorem Out_of {N : Nat} {E : ArG} (hn : N ≤ 1048576) (he : E.length ≤ 67108864) {v : Nat} (h : v < N) : fn_graph_Graph_Out (some (mkG N E)) (v : Int) = some ((occ (E.map (·.1)) v).map (fun i : Nat => (i : Int))) := by
  unfold fn_graph_Graph_Out
  rw [isNode_of h]
  have := index_of_eq (ks := E.map (·.1)) hn (by simp; omega) h
  have hb := occ_bound (E.map (·.1)) v
  simp only [Bool.not_true, cond_false, Option.bind_some, mkG]
  rw [this, Option.bind_some]
  have hc : ∀ l : List Int, l.length ≤ 1073741824 → fn_slices_Clone_int_int l = some l := fun l hl => clone_eq l hl
  rw [hc _ (by simp at hb ⊢; omega)]; rfl
theorem Out_not {N : Nat} {E : ArG} {v : Int} (h : v < 0 ∨ (N : Int) ≤ v) : fn_graph_Graph_Out (some (mkG N E)) v = some [] := by
  unfold fn_graph_Graph_Out; rw [isNode_not h]; rfl
theorem Out_none (v : Int) : fn_graph_Graph_Out none v = some [] := by
  unfold fn_graph_Graph_Out; rw [isNode_none]; rfl
/-- Where the arcs from a node lead, in order. -/
def nxt (E : ArG) (v : Nat) : List Nat := (occ (E.map (·.1)) v).map (fun i => (E.getD i (0, 0)).2)
theorem occ_arc {E : ArG} {v i : Nat} (h : i ∈ occ (E.map (·.1)) v) : ∃ h : i < E.length, E[i].1 = v := by
  obtain ⟨h1, h2⟩ := occ_mem.1 h
  exact ⟨by simpa using h1, by simpa using h2⟩
theorem nxt_mem {E : ArG} {v u : Nat} : u ∈ nxt E v ↔ (v, u) ∈ E := by
  unfold nxt
  constructor
  · intro h
    obtain ⟨i, hi, rfl⟩ := List.mem_map.1 h
    obtain ⟨h1, h2⟩ := occ_arc hi
    have : E.getD i (0, 0) = E[i] := by simp [h1]
    rw [this]
    have e : (v, E[i].2) = E[i] := by rw [← h2]
    rw [e]; exact List.getElem_mem h1
  · intro h
    obtain ⟨i, hi, he⟩ := List.getElem_of_mem h
    refine List.mem_map.2 ⟨i, occ_mem.2 ⟨by simpa using hi, by simp [he]⟩, by simp [hi, he]⟩
def tn (E : ArG) : ArG := E.map (fun e => (e.2, e.1))
theorem tn_in {N : Nat} {E : ArG} (h : inN N E) : inN N (tn E) := by
  intro e he
  obtain ⟨a, ha, rfl⟩ := List.mem_map.1 he
  exact ⟨(h a ha).2, (h a ha).1⟩
theorem tn_tn (E : ArG) : tn (tn E) = E := by
  unfold tn; rw [List.map_map]
  exact (List.map_congr_left (fun e _ => rfl)).trans (List.map_id E)
theorem tn_len (E : ArG) : (tn E).length = E.length := by simp [tn]
theorem tn_mem {E : ArG} {a b : Nat} : (a, b) ∈ tn E ↔ (b, a) ∈ E := by
  unfold tn
  constructor
  · intro h; obtain ⟨e, he, h2⟩ := List.mem_map.1 h; cases h2; exact he
  · intro h; exact List.mem_map.2 ⟨_, h, rfl⟩
/-! ### What is reached. -/
inductive Rch (E : ArG) : Nat → Nat → Prop
  | refl (v : Nat) : Rch E v v
  | step {v w u : Nat} (h : Rch E v w) (e : (w, u) ∈ E) : Rch E v u
theorem Rch.trans {E : ArG} {a b c : Nat} (h : Rch E a b) (k : Rch E b c) : Rch E a c := by
  induction k with
  | refl => exact h
  | step _ e ih => exact ih.step e
theorem Rch.head {E : ArG} {a b c : Nat} (e : (a, b) ∈ E) (k : Rch E b c) : Rch E a c := Rch.trans ((Rch.refl a).step e) k
theorem Rch.mono {E F : ArG} (hf : ∀ e ∈ E, e ∈ F) {a b : Nat} (h : Rch E a b) : Rch F a b := by
  induction h with
  | refl => exact .refl _
  | step _ e ih => exact ih.step (hf _ e)
theorem Rch.lt {N : Nat} {E : ArG} (hE : inN N E) {a b : Nat} (h : Rch E a b) (ha : a < N) : b < N := by
  cases h with
  | refl => exact ha
  | step _ e => exact (hE _ e).2
/-- What is closed under the arcs has what is reached. -/
theorem Rch.closed {E : ArG} {p : Nat → Prop} {a : Nat} (ha : p a) (hc : ∀ w u, (w, u) ∈ E → p w → p u) {b : Nat} (h : Rch E a b) : p b := by
  induction h with
  | refl => exact ha
  | step _ e ih => exact hc _ _ e ih
theorem nodup_le {A : List Nat} : ∀ {L : List Nat}, L.Nodup → (∀ x ∈ L, x ∈ A) → L.length ≤ A.length := by
  intro L
  induction L generalizing A with
  | nil => intro _ _; simp
  | cons x L ih =>
    intro hd hs
    have hx := hs x (by simp)
    rw [List.nodup_cons] at hd
    have := ih (A := A.erase x) hd.2 (fun y hy => by
      have hne : y ≠ x := fun e => hd.1 (e ▸ hy)
      exact (List.mem_erase_of_ne hne).2 (hs y (by simp [hy])))
    rw [List.length_erase_of_mem hx] at this
    have : 0 < A.length := List.length_pos_of_mem hx
    simp; omega
theorem nodup_lt {L : List Nat} {N : Nat} (hd : L.Nodup) (h : ∀ x ∈ L, x < N) : L.length ≤ N := by
  have := nodup_le (A := List.range N) hd (fun x hx => List.mem_range.2 (h x hx))
  simpa using this
def addN (L : List Nat) (u : Nat) : List Nat := if u ∈ L then L else L ++ [u]
theorem addN_mem {L : List Nat} {u x : Nat} : x ∈ addN L u ↔ x ∈ L ∨ x = u := by
  unfold addN; split
  · rename_i h; constructor
    · exact .inl
    · rintro (q | rfl) <;> assumption
  · simp
theorem addN_nodup {L : List Nat} {u : Nat} (h : L.Nodup) : (addN L u).Nodup := by
  unfold addN; split
  · exact h
  · rename_i hu; rw [List.nodup_append]; refine ⟨h, by simp, ?_⟩
    intro a ha b hb; simp at hb; subst hb; intro e; subst e; exact hu ha
def addAll (L us : List Nat) : List Nat := us.foldl addN L
theorem addAll_snoc (L us : List Nat) (u : Nat) : addAll L (us ++ [u]) = addN (addAll L us) u := by simp [addAll, List.foldl_append]
theorem addAll_mem {us : List Nat} : ∀ {L : List Nat} {x : Nat}, x ∈ addAll L us ↔ x ∈ L ∨ x ∈ us := by
  induction us with
  | nil => intro L x; simp [addAll]
  | cons u us ih => intro L x; unfold addAll at ih ⊢; rw [List.foldl_cons, ih, addN_mem, List.mem_cons, or_assoc]
theorem addAll_nodup {us : List Nat} : ∀ {L : List Nat}, L.Nodup → (addAll L us).Nodup := by
  induction us with
  | nil => intro L h; exact h
  | cons u us ih => intro L h; unfold addAll at ih ⊢; rw [List.foldl_cons]; exact ih (addN_nodup h)
theorem addN_get {L : List Nat} {u j : Nat} (h : j < L.length) : (addN L u)[j]? = L[j]? := by
  unfold addN; split
  · rfl
  · rw [List.getElem?_append_left h]
theorem addN_len (L : List Nat) (u : Nat) : L.length ≤ (addN L u).length := by unfold addN; split <;> simp
theorem addAll_get {us : List Nat} : ∀ {L : List Nat} {j : Nat}, j < L.length → (addAll L us)[j]? = L[j]? ∧ L.length ≤ (addAll L us).length := by
  induction us with
  | nil => intro L j h; exact ⟨rfl, Nat.le_refl _⟩
  | cons u us ih =>
    intro L j h
    unfold addAll at ih ⊢
    rw [List.foldl_cons]
    have h1 := addN_len L u
    obtain ⟨a, b⟩ := ih (L := addN L u) (j := j) (by omega)
    exact ⟨a.trans (addN_get h), by omega⟩
def metL (N : Nat) (L : List Nat) : List Bool := (List.range N).map (fun w => decide (w ∈ L))
def li (L : List Nat) : List Int := L.map (fun i : Nat => (i : Int))
theorem li_len (L : List Nat) : (li L).length = L.length := by simp [li]
theorem getI_li {L : List Nat} {k : Nat} (h : k < L.length) : getI (li L) (k : Int) = some ((L[k] : Nat) : Int) := by rw [getN (by rw [li_len]; exact h)]; simp [li]
theorem getI_ai {E : ArG} {k : Nat} (h : k < E.length) : getI (ai E) (k : Int) = some (((E[k].1 : Nat) : Int), ((E[k].2 : Nat) : Int)) := by rw [getN (by rw [ai_len]; exact h)]; simp [ai]
theorem range_strict (N : Nat) (p : Nat → Bool) : (li ((List.range N).filter p)).Pairwise (· < ·) := by
  unfold li
  rw [List.pairwise_map]
  refine List.Pairwise.imp (R := fun a b : Nat => a < b) (fun h => by omega) ?_
  exact List.pairwise_lt_range.filter p
theorem srt_set {L : List Nat} (hd : L.Nodup) {M : List Nat} (hM : (li M).Pairwise (· < ·)) (h : ∀ w, w ∈ L ↔ w ∈ M) (hl : L.length ≤ 1073741824) : srt (li L) = some (li M) := by
  unfold srt
  rw [if_pos (by rw [li_len]; exact hl)]
  congr 1
  refine strict_eq ?_ hM (fun a => ?_)
  · have hs := List.pairwise_mergeSort (le := fun x y : Int => decide (x ≤ y)) (fun a b c h1 h2 => by simp at *; omega) (fun a b => by simp; omega) (li L)
    have hnd : ((li L).mergeSort fun x y => decide (x ≤ y)).Nodup := by
      refine (List.mergeSort_perm _ _).nodup_iff.2 ?_
      unfold li
      exact List.Pairwise.map _ (fun a b h1 h2 => h1 (by omega)) hd
    exact (List.Pairwise.and hs hnd).imp (fun ⟨h1, h2⟩ => by simp at h1; omega)
  · rw [List.mem_mergeSort]
    unfold li
    simp only [List.mem_map]
    exact ⟨fun ⟨x, hx, e⟩ => ⟨x, (h x).1 hx, e⟩, fun ⟨x, hx, e⟩ => ⟨x, (h x).2 hx, e⟩⟩
end Go.Proofs.Ythoclljhjcfemaa
namespace Go.Proofs.Ythoclljhjcfemaa
open Go.RowKit
set_option linter.unusedVariables false
set_option linter.unusedSimpArgs false
set_option linter.unnecessarySimpa false
/-- A walk of k arcs from v to w. -/
inductive Wk (E : ArG) (v : Nat) : Nat → Nat → Prop
  | zero : Wk E v 0 v
  | step {k a b : Nat} (h : Wk E v k a) (e : (a, b) ∈ E) : Wk E v (k + 1) b
/-- How far w is from v. -/
def Far (E : ArG) (v w k : Nat) : Prop := Wk E v k w ∧ ∀ j, Wk E v j w → k ≤ j
theorem Far.uniq {E : ArG} {v w k j : Nat} (h : Far E v w k) (g : Far E v w j) : k = j := Nat.le_antisymm (h.2 _ g.1) (g.2 _ h.1)
theorem Wk.trans {E : ArG} {a b c k j : Nat} (h : Wk E a k b) (g : Wk E b j c) : Wk E a (k + j) c := by
  induction g with
  | zero => exact h
  | step _ e ih => exact ih.step e
theorem Wk.rch {E : ArG} {v w k : Nat} (h : Wk E v k w) : Rch E v w := by
  induction h with
  | zero => exact .refl _
  | step _ e ih => exact ih.step e
theorem Rch.wk {E : ArG} {v w : Nat} (h : Rch E v w) : ∃ k, Wk E v k w := by
  induction h with
  | refl => exact ⟨0, .zero⟩
  | step _ e ih => obtain ⟨k, h⟩ := ih; exact ⟨k + 1, h.step e⟩
theorem Wk.head {E : ArG} {a b c k : Nat} (e : (a, b) ∈ E) (h : Wk E b k c) : Wk E a (k + 1) c := by
  have := Wk.trans (Wk.step Wk.zero e) h
  rwa [Nat.add_comm] at this
theorem Wk.turn {E : ArG} {v w k : Nat} (h : Wk E v k w) : Wk (tn E) w k v := by
  induction h with
  | zero => exact .zero
  | step _ e ih => exact Wk.head (tn_mem.2 e) ih
theorem Wk.turn_iff {E : ArG} {v w k : Nat} : Wk (tn E) w k v ↔ Wk E v k w := ⟨fun h => by have := h.turn; rwa [tn_tn] at this, Wk.turn⟩
theorem Far.turn {E : ArG} {v w k : Nat} : Far (tn E) w v k ↔ Far E v w k := by
  unfold Far
  rw [Wk.turn_iff]
  exact and_congr_right fun _ => ⟨fun h j g => h j (Wk.turn_iff.2 g), fun h j g => h j (Wk.turn_iff.1 g)⟩
theorem Far.middle {E : ArG} {a b c k j i : Nat} (h : Far E a b k) (g : Far E b c j) (f : Far E a c i) : i ≤ k + j := f.2 _ (h.1.trans g.1)
/-- What is told of distances is true as soon as it is walked, and closed under arcs. -/
theorem far_of_closed {E : ArG} {v : Nat} {d : Nat → Option Nat} (h0 : d v = some 0) (hw : ∀ w k, d w = some k → Wk E v k w) (hc : ∀ a b k, (a, b) ∈ E → d a = some k → ∃ j, d b = some j ∧ j ≤ k + 1) (w k : Nat) : d w = some k ↔ Far E v w k := by
  have low : ∀ j w, Wk E v j w → ∃ k, d w = some k ∧ k ≤ j := by
    intro j w h
    induction h with
    | zero => exact ⟨0, h0, Nat.le_refl _⟩
    | step _ e ih =>
      obtain ⟨k, h1, h2⟩ := ih
      obtain ⟨j, h3, h4⟩ := hc _ _ _ e h1
      exact ⟨j, h3, by omega⟩
  constructor
  · intro h
    refine ⟨hw _ _ h, fun j g => ?_⟩
    obtain ⟨k', h1, h2⟩ := low _ _ g
    rw [h] at h1
    cases h1; exact h2
  · intro h
    obtain ⟨k', h1, h2⟩ := low _ _ h.1
    rw [h1]
    have := h.2 _ (hw _ _ h1)
    congr 1; omega
theorem far_none {E : ArG} {v : Nat} {d : Nat → Option Nat} (h0 : d v = some 0) (hw : ∀ w k, d w = some k → Wk E v k w) (hc : ∀ a b k, (a, b) ∈ E → d a = some k → ∃ j, d b = some j ∧ j ≤ k + 1) (w : Nat) : d w = none ↔ ¬ Rch E v w := by
  constructor
  · intro h hr
    obtain ⟨k, hk⟩ := hr.wk
    induction hk with
    | zero => rw [h0] at h; cases h
    | step g e ih =>
      rename_i k a b
      cases ha : d a with
      | none => exact ih ha g.rch
      | some j => obtain ⟨i, h1, _⟩ := hc _ _ _ e ha; rw [h] at h1; cases h1
  · intro h
    cases hd : d w with
    | none => rfl
    | some k => exact absurd (hw _ _ hd).rch h
/-- A search under way: L: what is found, in the order of finding; the first p of it are done. -/
structure Bfs (N : Nat) (E : ArG) (v : Nat) (L : List Nat) (p : Nat) (d : Nat → Option Nat) : Prop where
  nd : L.Nodup
  lt : ∀ x ∈ L, x < N
  vL : v ∈ L
  pl : p ≤ L.length
  mem : ∀ w, w ∈ L ↔ (d w).isSome
  d0 : d v = some 0
  wk : ∀ w k, d w = some k → Wk E v k w
  up : ∀ i j a b k l : Nat, i ≤ j → L[i]? = some a → L[j]? = some b → d a = some k → d b = some l → k ≤ l
  near : ∀ a b k l : Nat, L[p]? = some a → b ∈ L → d a = some k → d b = some l → l ≤ k + 1
  done : ∀ i a b k : Nat, i < p → L[i]? = some a → (a, b) ∈ E → d a = some k → ∃ j, d b = some j ∧ j ≤ k + 1
theorem Bfs.start {N : Nat} {E : ArG} {v : Nat} (hv : v < N) : Bfs N E v [v] 0 (fun w => if w = v then some 0 else none) where
  nd := by simp
  lt := by simpa using hv
  vL := by simp
  pl := by simp
  mem := fun w => by by_cases h : w = v <;> simp [h]
  d0 := by simp
  wk := fun w k h => by
    split at h
    · cases h; rename_i e; subst e; exact .zero
    · cases h
  up := fun i j a b k l _ _ _ h1 h2 => by
    split at h1 <;> cases h1
    split at h2 <;> cases h2
    exact Nat.le_refl _
  near := fun a b k l _ _ h1 h2 => by
    split at h1 <;> cases h1
    split at h2 <;> cases h2
    omega
  done := fun i a b k h => by omega
theorem Bfs.far {N : Nat} {E : ArG} {v : Nat} {L : List Nat} {d : Nat → Option Nat} (h : Bfs N E v L L.length d) (w k : Nat) : d w = some k ↔ Far E v w k :=
  far_of_closed h.d0 h.wk (fun a b k e ha => by
    have : a ∈ L := (h.mem a).2 (by rw [ha]; rfl)
    obtain ⟨i, hi, e2⟩ := List.mem_iff_getElem.1 this
    exact h.done i a b k hi (by rw [List.getElem?_eq_getElem hi, e2]) e ha) w k
theorem Bfs.far_not {N : Nat} {E : ArG} {v : Nat} {L : List Nat} {d : Nat → Option Nat} (h : Bfs N E v L L.length d) (w : Nat) : d w = none ↔ ¬ Rch E v w :=
  far_none h.d0 h.wk (fun a b k e ha => by
    have : a ∈ L := (h.mem a).2 (by rw [ha]; rfl)
    obtain ⟨i, hi, e2⟩ := List.mem_iff_getElem.1 this
    exact h.done i a b k hi (by rw [List.getElem?_eq_getElem hi, e2]) e ha) w
/-- A node that was not found yet, over an arc out of the one at hand. -/
theorem Bfs.find {N : Nat} {E : ArG} {v : Nat} {L : List Nat} {p : Nat} {d : Nat → Option Nat} (h : Bfs N E v L p d) (hE : inN N E) {a b k : Nat} (ha : L[p]? = some a) (e : (a, b) ∈ E) (hk : d a = some k) (hb : d b = none) :
    Bfs N E v (L ++ [b]) p (fun w => if w = b then some (k + 1) else d w) := by
  have hbL : b ∉ L := fun hm => by have := (h.mem b).1 hm; rw [hb] at this; cases this
  have hpl : p < L.length := (List.getElem?_eq_some_iff.1 ha).1
  have haL : a ∈ L := List.mem_of_getElem? ha
  have hne : ∀ x ∈ L, x ≠ b := fun x hx e => hbL (e ▸ hx)
  have hd : ∀ w l, (if w = b then some (k + 1) else d w) = some l → (w = b ∧ l = k + 1) ∨ (w ≠ b ∧ d w = some l) := by
    intro w l hw
    split at hw
    · cases hw; exact .inl ⟨by assumption, rfl⟩
    · exact .inr ⟨by assumption, hw⟩
  have hL : ∀ {x l : Nat}, d x = some l → x ∈ L := fun {x l} hx => (h.mem x).2 (by rw [hx]; rfl)
  refine ⟨?_, ?_, ?_, ?_, ?_, ?_, ?_, ?_, ?_, ?_⟩
  · rw [List.nodup_append]
    exact ⟨h.nd, by simp, fun x hx y hy => by simp at hy; subst hy; exact hne x hx⟩
  · intro x hx
    rcases List.mem_append.1 hx with hx | hx
    · exact h.lt x hx
    · simp at hx; subst hx; exact (hE _ e).2
  · exact List.mem_append_left _ h.vL
  · rw [List.length_append]; have := h.pl; omega
  · intro w
    by_cases c : w = b
    · simp [c]
    · simp [c, h.mem w]
  · rw [if_neg (hne v h.vL), h.d0]
  · intro w l hw
    rcases hd w l hw with ⟨rfl, rfl⟩ | ⟨_, hw⟩
    · exact (h.wk a k hk).step e
    · exact h.wk w l hw
  · intro i j x y l m hij hx hy hl hm
    rcases hd y m hm with ⟨rfl, rfl⟩ | ⟨hyb, hm⟩
    · rcases hd x l hl with ⟨rfl, rfl⟩ | ⟨hxb, hl⟩
      · exact Nat.le_refl _
      · exact h.near a x k l ha (hL hl) hk hl
    · have hjL : j < L.length := by
        refine Nat.lt_of_not_le fun hge => hyb ?_
        rw [List.getElem?_append_right hge] at hy
        have := List.mem_of_getElem? hy
        simpa using this
      rw [List.getElem?_append_left hjL] at hy
      rw [List.getElem?_append_left (by omega)] at hx
      rcases hd x l hl with ⟨rfl, rfl⟩ | ⟨hxb, hl⟩
      · exact absurd rfl (hne x (List.mem_of_getElem? hx))
      · exact h.up i j x y l m hij hx hy hl hm
  · intro x y l m hx hy hl hm
    rw [List.getElem?_append_left hpl, ha] at hx
    cases hx
    rcases hd a l hl with ⟨rfl, _⟩ | ⟨_, hl⟩
    · exact absurd rfl (hne a haL)
    rw [hk] at hl
    cases hl
    rcases hd y m hm with ⟨rfl, rfl⟩ | ⟨_, hm⟩
    · exact Nat.le_refl _
    · exact h.near a y k m ha (hL hm) hk hm
  · intro i x y l hi hx hxy hl
    rw [List.getElem?_append_left (by omega)] at hx
    rcases hd x l hl with ⟨rfl, _⟩ | ⟨_, hl⟩
    · exact absurd rfl (hne x (List.mem_of_getElem? hx))
    obtain ⟨j, h1, h2⟩ := h.done i x y l hi hx hxy hl
    refine ⟨j, ?_, h2⟩
    rw [if_neg (hne y (hL h1)), h1]
/-- All arcs out of the one at hand are told. -/
theorem Bfs.next {N : Nat} {E : ArG} {v : Nat} {L : List Nat} {p : Nat} {d : Nat → Option Nat} (h : Bfs N E v L p d) {a k : Nat} (ha : L[p]? = some a) (hk : d a = some k) (ho : ∀ b, (a, b) ∈ E → (d b).isSome) : Bfs N E v L (p + 1) d := by
  have hpl : p < L.length := (List.getElem?_eq_some_iff.1 ha).1
  refine ⟨h.nd, h.lt, h.vL, by omega, h.mem, h.d0, h.wk, h.up, ?_, ?_⟩
  · intro x y l m hx hy hl hm
    have h1 := h.up p (p + 1) a x k l (by omega) ha hx hk hl
    have h2 := h.near a y k m ha hy hk hm
    omega
  · intro i x y l hi hx hxy hl
    by_cases c : i = p
    · subst c
      rw [ha] at hx; cases hx
      obtain ⟨j, hj⟩ := Option.isSome_iff_exists.1 (ho y hxy)
      exact ⟨j, hj, h.near a y l j ha ((h.mem y).2 (by rw [hj]; rfl)) hl hj⟩
    · exact h.done i x y l (by omega) hx hxy hl
end Go.Proofs.Ythoclljhjcfemaa
namespace Go.Proofs.Ythoclljhjcfemaa
open Go.RowKit
set_option linter.unusedVariables false
set_option linter.unusedSimpArgs false
set_option linter.unnecessarySimpa false
/-- A ring holds the list Q. -/
structure RQ (q : List Int) (f m : Int) (Q : List Int) : Prop where
  hm : m = (Q.length : Nat)
  hl : Q.length ≤ q.length
  h0 : 0 ≤ f
  h1 : f = 0 ∨ f < (q.length : Nat)
  hq : ∀ i, i < Q.length → q[(f.toNat + i) % q.length]? = Q[i]?
theorem RQ.nil : RQ [] 0 0 [] := ⟨rfl, Nat.le_refl _, by omega, .inl rfl, fun i h => by cases h⟩
def grown (q : List Int) (f : Nat) : List Int := q.drop f ++ (q.take f ++ List.replicate (q.length + 1) 0)
theorem grown_len {q : List Int} {f : Nat} (h : f ≤ q.length) : (grown q f).length = 2 * q.length + 1 := by
  unfold grown; rw [List.length_append, List.length_append, List.length_drop, List.length_take, List.length_replicate]; omega
theorem RQ.grown {q : List Int} {f m : Int} {Q : List Int} (h : RQ q f m Q) (hf : Q.length = q.length) : RQ (grown q f.toNat) 0 m Q := by
  have hfl : f.toNat ≤ q.length := by rcases h.h1 with e | e <;> omega
  refine ⟨h.hm, by rw [grown_len hfl]; omega, by omega, .inl rfl, fun i hi => ?_⟩
  rw [grown_len hfl, ← h.hq i hi, show (0 : Int).toNat + i = i by simp, Nat.mod_eq_of_lt (by omega)]
  have h1 := h.h1
  unfold Proofs.Ythoclljhjcfemaa.grown
  by_cases c : i < q.length - f.toNat
  · rw [List.getElem?_append_left (by rw [List.length_drop]; exact c), List.getElem?_drop, Nat.mod_eq_of_lt (by omega)]
  · rw [List.getElem?_append_right (by rw [List.length_drop]; omega), List.length_drop, List.getElem?_append_left (by rw [List.length_take]; omega), List.getElem?_take, if_pos (by omega)]
    congr 1
    rw [Nat.mod_eq_sub_mod (by omega), Nat.mod_eq_of_lt (by omega)]
    omega
theorem RQ.snoc {q : List Int} {f m : Int} {Q : List Int} (h : RQ q f m Q) (hf : Q.length < q.length) (v : Int) : RQ (q.set ((f.toNat + Q.length) % q.length) v) f (m + 1) (Q ++ [v]) := by
  have h1 := h.h1
  have h0 := h.h0
  refine ⟨by rw [h.hm, List.length_append]; simp, by rw [List.length_set, List.length_append]; simp; omega, h.h0, by rw [List.length_set]; exact h.h1, fun i hi => ?_⟩
  rw [List.length_append, List.length_singleton] at hi
  rw [List.length_set]
  by_cases c : i = Q.length
  · subst c
    rw [List.getElem?_set_self (Nat.mod_lt _ (by omega)), List.getElem?_append_right (Nat.le_refl _), Nat.sub_self]; rfl
  · have hi : i < Q.length := by omega
    rw [List.getElem?_append_left hi, ← h.hq i hi, List.getElem?_set_ne]
    intro e
    have a1 : f.toNat ≤ q.length := by rcases h1 with e | e <;> omega
    by_cases c1 : f.toNat + Q.length < q.length
    · rw [Nat.mod_eq_of_lt c1, Nat.mod_eq_of_lt (by omega)] at e; omega
    · rw [Nat.mod_eq_sub_mod (a := f.toNat + Q.length) (by omega), Nat.mod_eq_of_lt (a := f.toNat + Q.length - q.length) (by omega)] at e
      by_cases c2 : f.toNat + i < q.length
      · rw [Nat.mod_eq_of_lt c2] at e; omega
      · rw [Nat.mod_eq_sub_mod (a := f.toNat + i) (by omega), Nat.mod_eq_of_lt (a := f.toNat + i - q.length) (by omega)] at e; omega
theorem RQ.tail {q : List Int} {f m : Int} {x : Int} {Q : List Int} (h : RQ q f m (x :: Q)) : RQ (q.set f.toNat 0) (((f.toNat + 1) % q.length : Nat) : Int) (m - 1) Q := by
  have hl := h.hl
  have h1 := h.h1
  have h0 := h.h0
  rw [List.length_cons] at hl
  refine ⟨by rw [h.hm, List.length_cons]; omega, by rw [List.length_set]; omega, by omega, .inr (by rw [List.length_set]; exact Int.ofNat_lt.2 (Nat.mod_lt _ (by omega))), fun i hi => ?_⟩
  rw [List.length_set]
  have := h.hq (i + 1) (by rw [List.length_cons]; omega)
  rw [List.getElem?_cons_succ] at this
  rw [← this, Int.toNat_natCast, Nat.mod_add_mod, show f.toNat + 1 + i = f.toNat + (i + 1) by omega, List.getElem?_set_ne]
  intro e
  by_cases c2 : f.toNat + (i + 1) < q.length
  · rw [Nat.mod_eq_of_lt c2] at e; omega
  · rw [Nat.mod_eq_sub_mod (by omega), Nat.mod_eq_of_lt (by omega)] at e; omega
theorem RQ.head {q : List Int} {f m : Int} {x : Int} {Q : List Int} (h : RQ q f m (x :: Q)) : getI q f = some x := by
  have hl := h.hl
  have h1 := h.h1
  have h0 := h.h0
  rw [List.length_cons] at hl
  have := h.hq 0 (by simp)
  rw [Nat.add_zero, Nat.mod_eq_of_lt (by omega)] at this
  unfold getI
  rw [if_pos h0, this]; rfl
theorem grow_eq {q : List Int} {f m : Int} (h0 : 0 ≤ f) (h1 : f ≤ (q.length : Nat)) (hl : q.length ≤ 1048576) : fn_stack_Queue_int_grow_p0_rii q f m = some (grown q f.toNat) := by
  unfold fn_stack_Queue_int_grow_p0_rii
  obtain ⟨k, rfl⟩ := Int.eq_ofNat_of_zero_le h0
  have hk : k ≤ q.length := by omega
  rw [w64 (x := 2 * _) (by omega) (by omega), w64 (by omega) (by omega)]
  have e1 : mk (2 * ((q.length : Nat) : Int) + 1) (2 * ((q.length : Nat) : Int) + 1) (0 : Int) = some (List.replicate (2 * q.length + 1) 0) := by
    unfold mk
    rw [if_pos (by omega), show (2 * ((q.length : Nat) : Int) + 1).toNat = 2 * q.length + 1 by omega]
  rw [e1, Option.bind_some, subL_eq h0 h1 (Int.le_refl _), Option.bind_some, Option.bind_some]
  have e2 : List.drop (k : Int).toNat (List.take ((q.length : Nat) : Int).toNat q) = q.drop k := by simp
  have e3 : List.drop (0 : Int).toNat (List.take (k : Int).toNat q) = q.take k := by simp
  rw [e2, e3, List.length_replicate, List.length_drop]
  have e4 : (min (q.length - k) (2 * q.length + 1 - (0 : Int).toNat) : Nat) = q.length - k := by simp; omega
  rw [e4]
  have e5 : cpy (List.replicate (2 * q.length + 1) (0 : Int)) (0 : Int).toNat ((q.drop k).take (2 * q.length + 1 - (0 : Int).toNat)) = q.drop k ++ List.replicate (q.length + k + 1) 0 := by
    unfold cpy
    rw [List.take_of_length_le (l := q.drop k) (by rw [List.length_drop]; simp; omega), List.length_drop, List.drop_replicate]
    simp
    omega
  rw [e5]
  have e6 : (q.drop k ++ List.replicate (q.length + k + 1) (0 : Int)).length = 2 * q.length + 1 := by rw [List.length_append, List.length_drop, List.length_replicate]; omega
  rw [subL_eq (by omega) (by omega) (by rw [e6]; omega), Option.bind_some, subL_eq (by omega) h0 h1, Option.bind_some, Option.bind_some]
  have e7 : (q.take k).take (((2 * q.length + 1 : Nat) : Int).toNat - ((q.length - k : Nat) : Int).toNat) = q.take k := List.take_of_length_le (by rw [List.length_take]; omega)
  rw [e7, Int.toNat_natCast, Int.toNat_natCast]
  unfold cpy grown
  have d1 : (q.drop k).length = q.length - k := List.length_drop
  rw [List.take_append_of_le_length (by omega), List.take_of_length_le (l := q.drop k) (by omega), List.length_take, Nat.min_eq_left hk, List.drop_append, d1, List.drop_of_length_le (l := q.drop k) (by omega), List.nil_append, List.drop_replicate]
  congr 4
  omega
theorem Push_eq {q : List Int} {f m : Int} {Q : List Int} {v : Int} {B : Nat} (h : RQ q f m Q) (hB : Q.length ≤ B) (hq : q.length ≤ 2 * B + 1) (hb : B ≤ 262144) :
    ∃ q' f', fn_stack_Queue_int_Push_p0k_rii [v] q f m = some (q', f', m + 1) ∧ RQ q' f' (m + 1) (Q ++ [v]) ∧ q'.length ≤ 2 * B + 1 := by
  have hl := h.hl
  have hm := h.hm
  have go : ∀ (q : List Int) (f : Int), RQ q f m Q → Q.length < q.length → q.length ≤ 2 * B + 1 →
      (nz ((q.length : Nat) : Int)).bind (fun _ => (getI q (Int.tmod (IntKind.wrap .i64 (f + m)) ((q.length : Nat) : Int))).bind fun _ => (some (q.set (Int.tmod (IntKind.wrap .i64 (f + m)) ((q.length : Nat) : Int)).toNat v)).bind fun z => (some (Sum.inl (IntKind.wrap .i64 ((0 : Int) + 1), z, f, IntKind.wrap .i64 (m + 1))) : Option ((Int × List Int × Int × Int) ⊕ (List Int × Int × Int)))) = some (.inl (1, q.set ((f.toNat + Q.length) % q.length) v, f, m + 1)) := by
    intro q f h hlt hq
    have h0 := h.h0
    have h1 := h.h1
    have e1 : IntKind.wrap .i64 (f + m) = ((f.toNat + Q.length : Nat) : Int) := by rw [w64 (by omega) (by omega)]; omega
    have e2 : Int.tmod ((f.toNat + Q.length : Nat) : Int) ((q.length : Nat) : Int) = (((f.toNat + Q.length) % q.length : Nat) : Int) := (Int.ofNat_tmod _ _).symm
    rw [e1, e2, nz_eq (by omega), Option.bind_some, getN (Nat.mod_lt _ (by omega)), Option.bind_some, Option.bind_some, Int.toNat_natCast, w64 (x := m + 1) (by omega) (by omega)]
    rfl
  unfold fn_stack_Queue_int_Push_p0k_rii
  by_cases c : Q.length = q.length
  · have hg := h.grown c
    have hfl : f.toNat ≤ q.length := by have := h.h1; have := h.h0; rcases h.h1 with e | e <;> omega
    have hgl := grown_len (q := q) hfl
    have hs := hg.snoc (by rw [hgl]; omega) v
    refine ⟨_, _, ?_, hs, by rw [List.length_set, hgl]; omega⟩
    rw [loop_next (s' := (1, _, 0, m + 1)), loop_end (b := (_, 0, m + 1))]
    · rfl
    · unfold fn_stack_Queue_int_Push_p0k_rii_l1; rfl
    · have := go _ _ hg (by rw [hgl]; omega) (by rw [hgl]; omega)
      unfold fn_stack_Queue_int_Push_p0k_rii_l1
      simp only [show decide ((0 : Int) < (([v] : List Int).length : Nat)) = true from rfl, cond_true, show getI [v] 0 = some v from rfl, Option.bind_some]
      rw [show decide (m = ((q.length : Nat) : Int)) = true by simp; omega, cond_true, grow_eq h.h0 (by have := h.h0; omega) (by omega)]
      simp only [Option.bind_some]
      exact this
  · have hs := h.snoc (by omega) v
    refine ⟨_, _, ?_, hs, by rw [List.length_set]; omega⟩
    rw [loop_next (s' := (1, _, f, m + 1)), loop_end (b := (_, f, m + 1))]
    · rfl
    · unfold fn_stack_Queue_int_Push_p0k_rii_l1; rfl
    · have := go _ _ h (by omega) hq
      unfold fn_stack_Queue_int_Push_p0k_rii_l1
      simp only [show decide ((0 : Int) < (([v] : List Int).length : Nat)) = true from rfl, cond_true, show getI [v] 0 = some v from rfl, Option.bind_some]
      rw [show decide (m = ((q.length : Nat) : Int)) = false by simp; omega, cond_false]
      simp only [Option.bind_some]
      exact this
theorem Pop_eq {q : List Int} {f m : Int} {x : Int} {Q : List Int} (h : RQ q f m (x :: Q)) (hq : q.length ≤ 1048576) :
    ∃ q' f', fn_stack_Queue_int_Pop_p0_rii q f m = some (x, true, q', f', m - 1) ∧ RQ q' f' (m - 1) Q ∧ q'.length = q.length := by
  have hl := h.hl
  have hm := h.hm
  have h0 := h.h0
  have h1 := h.h1
  rw [List.length_cons] at hl hm
  refine ⟨_, _, ?_, h.tail, List.length_set⟩
  unfold fn_stack_Queue_int_Pop_p0_rii fn_stack_Queue_int_Len_p0_rii
  have e1 : IntKind.wrap .i64 (f + 1) = ((f.toNat + 1 : Nat) : Int) := by rw [w64 (by omega) (by omega)]; omega
  have e2 : Int.tmod ((f.toNat + 1 : Nat) : Int) ((q.length : Nat) : Int) = (((f.toNat + 1) % q.length : Nat) : Int) := (Int.ofNat_tmod _ _).symm
  simp only [Option.bind_some]
  rw [show decide (m = 0) = false by simp; omega, cond_false, h.head]
  simp only [Option.bind_some]
  rw [nz_eq (by omega), Option.bind_some, e1, e2, w64 (x := m - 1) (by omega) (by omega)]
/-- The first push, onto a queue without a ring. -/
theorem Push_first (v : Int) : fn_stack_Queue_int_Push_p0k_nii [v] 0 0 = some ([v], 0, 1) := by
  have h : RQ [] 0 0 [] := .nil
  unfold fn_stack_Queue_int_Push_p0k_nii
  have hg : fn_stack_Queue_int_grow_p0_rii [] 0 0 = some [0] := by rw [grow_eq (by omega) (by simp) (by simp)]; rfl
  rw [loop_next (s' := (1, [v], 0, 1)), loop_end (b := ([v], 0, 1))]
  · rfl
  · unfold fn_stack_Queue_int_Push_p0k_nii_l1; rfl
  · unfold fn_stack_Queue_int_Push_p0k_nii_l1
    simp only [show decide ((0 : Int) < (([v] : List Int).length : Nat)) = true from rfl, cond_true, show getI [v] 0 = some v from rfl, Option.bind_some, show decide ((0 : Int) = ((([] : List Int).length : Nat) : Int)) = true from rfl, hg]
    rfl
theorem RQ.one (v : Int) : RQ [v] 0 1 [v] := ⟨rfl, Nat.le_refl _, by omega, .inl rfl, fun i h => by
  obtain rfl : i = 0 := by simpa using h
  rfl⟩
end Go.Proofs.Ythoclljhjcfemaa
namespace Go.Proofs.Ythoclljhjcfemaa
open Go.RowKit
set_option linter.unusedVariables false
set_option linter.unusedSimpArgs false
set_option linter.unnecessarySimpa false
def dN : Option Nat → Int
  | some k => (k : Int)
  | none => -1
/-- Distances, as they are kept. -/
def dl (N : Nat) (d : Nat → Option Nat) : List Int := (List.range N).map fun w => dN (d w)
/-- Layers, as they are kept: in the order of finding. -/
def ly (m : Nat) (L : List Nat) (d : Nat → Option Nat) : List (List Int) := (List.range m).map fun k => li (L.filter fun w => decide (d w = some k))
/-- There are m layers, and none is empty. -/
structure Lm (d : Nat → Option Nat) (m : Nat) : Prop where
  top : ∀ w k : Nat, d w = some k → k < m
  full : ∀ k : Nat, k < m → ∃ w : Nat, d w = some k
theorem dl_len (N : Nat) (d : Nat → Option Nat) : (dl N d).length = N := by simp [dl]
theorem ly_len (m : Nat) (L : List Nat) (d : Nat → Option Nat) : (ly m L d).length = m := by simp [ly]
theorem dl_get {N w : Nat} {d : Nat → Option Nat} (h : w < N) : getI (dl N d) (w : Int) = some (dN (d w)) := getI_map h
theorem dl_set {N w k : Nat} {d : Nat → Option Nat} (h : w < N) : (dl N d).set w ((k : Nat) : Int) = dl N (fun x => if x = w then some k else d x) := by
  unfold dl
  rw [set_map]
  apply map_congr_range
  intro v hv
  by_cases c : v = w <;> simp [c, dN]
theorem ly_more {m : Nat} {L : List Nat} {d : Nat → Option Nat} (h : ∀ w k : Nat, d w = some k → k < m) : ly m L d ++ [[]] = ly (m + 1) L d := by
  unfold ly
  rw [List.range_succ, List.map_append]
  congr 1
  simp only [List.map_cons, List.map_nil]
  rw [List.filter_eq_nil_iff.2 (fun w _ => by
    intro hw
    have := h w m (of_decide_eq_true hw)
    omega)]
  rfl
theorem ly_set {m k b : Nat} {L : List Nat} {d : Nat → Option Nat} (hb : b ∉ L) (hk : k < m) : (ly m L d).set k (li (L.filter fun w => decide (d w = some k)) ++ [(b : Int)]) = ly m (L ++ [b]) (fun x => if x = b then some k else d x) := by
  unfold ly
  rw [set_map]
  apply map_congr_range
  intro j hj
  have hL : ∀ j, L.filter (fun w => decide ((if w = b then some k else d w) = some j)) = L.filter fun w => decide (d w = some j) := fun j => by
    apply List.filter_congr
    intro w hw
    have hne : w ≠ b := fun e => hb (e ▸ hw)
    rw [if_neg hne]
  rw [List.filter_append, hL]
  by_cases c : j = k
  · subst c
    rw [if_pos rfl]
    simp [li]
  · rw [if_neg c]
    simp [li]
    omega
/-- A node is reached. -/
theorem reach_ok {N m k b : Nat} {L : List Nat} {d : Nat → Option Nat} (hm : Lm d m) (hb : b < N) (hbL : b ∉ L) (hk : k ≤ m) (hLl : L.length ≤ 1000000) (hml : m ≤ 1000000) (bk : List Int) :
    fn_bfs_Tree_reach_p0ii_rrod (b : Int) (k : Int) (dl N d) bk (ly m L d) = some (dl N (fun x => if x = b then some k else d x), bk, ly (if k = m then m + 1 else m) (L ++ [b]) (fun x => if x = b then some k else d x)) := by
  unfold fn_bfs_Tree_reach_p0ii_rrod
  rw [dl_get hb]
  simp only [Option.bind_some, Int.toNat_natCast]
  rw [dl_set hb]
  have e1 : (cond (decide ((k : Int) = (((ly m L d).length : Nat) : Int))) ((app (ly m L d : List (List Int)) ([[]] : List (List Int))).bind fun z => some z) (some (ly m L d)) : Option (List (List Int))) = some (ly (if k = m then m + 1 else m) L d) := by
    rw [ly_len]
    by_cases c : k = m
    · rw [show decide ((k : Int) = (m : Int)) = true by simp [c], cond_true, if_pos c, app_eq (by rw [ly_len]; simp; omega), Option.bind_some, ly_more hm.top]
    · rw [show decide ((k : Int) = (m : Int)) = false by simp; omega, cond_false, if_neg c]
  rw [e1]
  have hk2 : k < (if k = m then m + 1 else m) := by split <;> omega
  have e2 : getI (ly (if k = m then m + 1 else m) L d) (k : Int) = some (li (L.filter fun w => decide (d w = some k))) := getI_map hk2
  have hfl : (L.filter fun w => decide (d w = some k)).length ≤ L.length := List.length_filter_le _ _
  simp only [Option.bind_some, e2]
  have e3 : chkI (k : Int) (k : Int) = some () := by simp [chkI]
  rw [e3]
  simp only [Option.bind_some]
  rw [app_eq (by rw [li_len]; simp; omega)]
  simp only [Option.bind_some]
  rw [ly_set hbL hk2]
theorem Lm.reach {d : Nat → Option Nat} {m k b : Nat} (h : Lm d m) (hb : d b = none) (hk : k ≤ m) : Lm (fun x => if x = b then some k else d x) (if k = m then m + 1 else m) where
  top := fun w l hw => by
    split at hw
    · cases hw; split <;> omega
    · have := h.top w l hw; split <;> omega
  full := fun l hl => by
    by_cases c : l = k
    · exact ⟨b, by simp [c]⟩
    · obtain ⟨w, hw⟩ := h.full l (by split at hl <;> omega)
      refine ⟨w, ?_⟩
      rw [if_neg (fun e => by rw [e, hb] at hw; cases hw), hw]
/-- The arcs that lead, as they are kept: least of those told. -/
def less (i : Nat) : Option Nat → Nat
  | none => i
  | some j => if i < j then i else j
theorem lead_ok {N b i : Nat} {β : Nat → Option Nat} (hb : b < N) (ds : List Int) (ls : List (List Int)) :
    fn_bfs_Tree_lead_p0ii_rrod (b : Int) (i : Int) ds (dl N β) ls = some (ds, dl N (fun x => if x = b then some (less i (β b)) else β x), ls) := by
  unfold fn_bfs_Tree_lead_p0ii_rrod
  rw [dl_get hb]
  simp only [Option.bind_some, Int.toNat_natCast]
  cases hβ : β b with
  | none =>
    rw [show decide (dN none < 0) = true from rfl, cond_true, Option.bind_some, cond_true, dl_set hb]
    rfl
  | some j =>
    rw [show decide (dN (some j) < 0) = false from decide_eq_false (by show ¬ ((j : Int) < 0); omega), cond_false, Option.bind_some]
    by_cases c : i < j
    · rw [show decide ((i : Int) < dN (some j)) = true by simp [dN]; omega, cond_true, dl_set hb]
      simp [less, c]
    · rw [show decide ((i : Int) < dN (some j)) = false by simp [dN]; omega, cond_false]
      congr 3
      unfold dl
      apply map_congr_range
      intro w hw
      by_cases e : w = b
      · subst e; simp [less, c, hβ]
      · simp [e]
/-- Arc i leads to w, one step farther. -/
def Lead (E : ArG) (d : Nat → Option Nat) (i w : Nat) : Prop := ∃ (h : i < E.length) (k : Nat), E[i].2 = w ∧ d E[i].1 = some k ∧ d w = some (k + 1)
/-- The least of the arcs told that lead. -/
structure Bck (E : ArG) (T : List Nat) (d : Nat → Option Nat) (β : Nat → Option Nat) : Prop where
  yes : ∀ w i : Nat, β w = some i → i ∈ T ∧ Lead E d i w
  low : ∀ w i : Nat, i ∈ T → Lead E d i w → ∃ j, β w = some j ∧ j ≤ i
  tf : ∀ i : Nat, i ∈ T → ∃ h : i < E.length, (d E[i].1).isSome ∧ (d E[i].2).isSome
theorem Bck.start (E : ArG) (d : Nat → Option Nat) : Bck E [] d (fun _ => none) := ⟨fun _ _ h => (by cases h), fun _ _ h => (by cases h), fun _ h => (by cases h)⟩
/-- A node is found: nothing changes for what is told. -/
theorem Bck.find {E : ArG} {T : List Nat} {d β : Nat → Option Nat} {b k : Nat} (h : Bck E T d β) (hb : d b = none) : Bck E T (fun x => if x = b then some k else d x) β := by
  have key : ∀ w i : Nat, i ∈ T → (Lead E (fun x => if x = b then some k else d x) i w ↔ Lead E d i w) := by
    intro w i hi
    obtain ⟨hlt, h1, h2⟩ := h.tf i hi
    have n1 : E[i].1 ≠ b := fun e => by rw [e, hb] at h1; cases h1
    have n2 : E[i].2 ≠ b := fun e => by rw [e, hb] at h2; cases h2
    constructor
    · rintro ⟨q, l, e1, e2, e3⟩
      dsimp only at e2 e3
      rw [if_neg n1] at e2
      rw [if_neg (fun e => n2 (e1.trans e))] at e3
      exact ⟨q, l, e1, e2, e3⟩
    · rintro ⟨q, l, e1, e2, e3⟩
      exact ⟨q, l, e1, by dsimp only; rw [if_neg n1, e2], by dsimp only; rw [if_neg (fun e => n2 (e1.trans e)), e3]⟩
  refine ⟨fun w i hw => ?_, fun w i hi hl => h.low w i hi ((key w i hi).1 hl), fun i hi => ?_⟩
  · obtain ⟨h1, h2⟩ := h.yes w i hw
    exact ⟨h1, (key w i h1).2 h2⟩
  · obtain ⟨hlt, h1, h2⟩ := h.tf i hi
    refine ⟨hlt, ?_, ?_⟩
    · split
      · rfl
      · exact h1
    · split
      · rfl
      · exact h2
/-- An arc is told that leads. -/
theorem Bck.tell {E : ArG} {T : List Nat} {d β : Nat → Option Nat} {i : Nat} (h : Bck E T d β) (hi : i < E.length) (hl : Lead E d i E[i].2) : Bck E (T ++ [i]) d (fun x => if x = E[i].2 then some (less i (β E[i].2)) else β x) := by
  refine ⟨fun w j hw => ?_, fun w j hj hjl => ?_, fun j hj => ?_⟩
  · split at hw
    · rename_i e
      subst e
      cases hw
      cases hβ : β E[i].2 with
      | none => exact ⟨by simp [less], hl⟩
      | some q =>
        obtain ⟨h1, h2⟩ := h.yes _ _ hβ
        unfold less
        dsimp only
        split
        · exact ⟨by simp, hl⟩
        · exact ⟨List.mem_append_left _ h1, h2⟩
    · obtain ⟨h1, h2⟩ := h.yes w j hw
      exact ⟨List.mem_append_left _ h1, h2⟩
  · by_cases e : w = E[i].2
    · subst e
      rw [if_pos rfl]
      refine ⟨_, rfl, ?_⟩
      rcases List.mem_append.1 hj with hj | hj
      · obtain ⟨q, h1, h2⟩ := h.low _ j hj hjl
        rw [h1]; unfold less; dsimp only; split <;> omega
      · simp at hj; subst hj
        cases β E[j].2 with
        | none => exact Nat.le_refl _
        | some q => unfold less; dsimp only; split <;> omega
    · rw [if_neg e]
      rcases List.mem_append.1 hj with hj | hj
      · exact h.low w j hj hjl
      · simp at hj; subst hj
        obtain ⟨_, _, e1, _⟩ := hjl
        exact absurd e1.symm e
  · rcases List.mem_append.1 hj with hj | hj
    · exact h.tf j hj
    · simp at hj; subst hj
      obtain ⟨q, k, _, e2, e3⟩ := hl
      exact ⟨hi, by rw [e2]; rfl, by rw [e3]; rfl⟩
/-- An arc is told that leads nowhere. -/
theorem Bck.pass {E : ArG} {T : List Nat} {d β : Nat → Option Nat} {i : Nat} (h : Bck E T d β) (hi : i < E.length) (hl : ¬ Lead E d i E[i].2) (h1 : (d E[i].1).isSome) (h2 : (d E[i].2).isSome) : Bck E (T ++ [i]) d β := by
  refine ⟨fun w j hw => ?_, fun w j hj hjl => ?_, fun j hj => ?_⟩
  · obtain ⟨g1, g2⟩ := h.yes w j hw
    exact ⟨List.mem_append_left _ g1, g2⟩
  · rcases List.mem_append.1 hj with hj | hj
    · exact h.low w j hj hjl
    · simp at hj; subst hj
      obtain ⟨_, _, e1, _⟩ := id hjl
      subst e1
      exact absurd hjl hl
  · rcases List.mem_append.1 hj with hj | hj
    · exact h.tf j hj
    · simp at hj; subst hj
      exact ⟨hi, h1, h2⟩
end Go.Proofs.Ythoclljhjcfemaa
namespace Go.Proofs.Ythoclljhjcfemaa
open Go.RowKit
set_option linter.unusedVariables false
theorem same01_eq (xa xb : List Int) (hn : xa.length ≤ 1073741824) : fn_ref01_Same xa xb = some (decide (xa = xb)) := by
  unfold fn_ref01_Same
  by_cases hl : xa.length = xb.length
  · rw [dlen hl, cond_false, loop_alike (body := fn_ref01_Same_l1 xa xb) xa xb (.inr false) (.inl ()) hl ?_ ?_]
    · by_cases h : xa = xb <;> simp [h]
    · intro k h; unfold fn_ref01_Same_l1
      have h2 : k < xb.length := by omega
      by_cases q : xa[k] = xb[k] <;> simp [getN h, getN h2, h, q, w64s h (by omega)]
    · simp [fn_ref01_Same_l1]
  · rw [dlen' hl, cond_true]
    have : ¬ xa = xb := fun h => hl (by rw [h])
    simp [this]
end Go.Proofs.Ythoclljhjcfemaa
namespace Go.Proofs.Ythoclljhjcfemaa
open Go.RowKit
set_option linter.unusedVariables false
theorem Check_eq (n : Int) (xb : List (Int × Int)) (he : xb.length ≤ 1000000) : fn_ref10_Check n xb = some (if n < 0 then 2 else if 1048576 < n then 5 else if xb.any (outA n) then 7 else 0) := by
  unfold fn_ref10_Check
  by_cases h0 : n < 0
  · simp [h0]
  · by_cases h1 : 1048576 < n
    · simp [h0, h1]
    · have h2 : (decide ((1048576 : Int) < n) || decide ((67108864 : Int) < ((xb.length : Nat) : Int))) = false := by simp; omega
      rw [show decide (n < 0) = false from decide_eq_false h0, cond_false, h2, cond_false, loop_some xb (outA n) (.inr 7) (.inl ()) ?_ ?_]
      · simp only [h0, h1, if_false]
        cases xb.any (outA n) <;> rfl
      · intro k h
        unfold fn_ref10_Check_l1
        rw [dlt h, cond_true, getN h, w64s h (by omega : xb.length ≤ 9223372036854775807)]
        simp only [Option.bind_some]
        unfold outA
        by_cases a1 : xb[k].1 < 0 <;> by_cases a2 : n ≤ xb[k].1 <;> by_cases a3 : xb[k].2 < 0 <;> by_cases a4 : n ≤ xb[k].2 <;> simp [a1, a2, a3, a4]
      · simp [fn_ref10_Check_l1]
def refOut (xb : List (Int × Int)) (v : Int) : List Nat := (List.range xb.length).filter (fun i => decide ((xb.getD i (0, 0)).1 = v))
theorem refOut_occ (E : ArG) (v : Nat) : refOut (ai E) (v : Int) = occ (E.map (·.1)) v := by
  unfold refOut occ
  rw [ai_len, List.length_map]
  refine List.filter_congr (fun i hi => ?_)
  have hi' := List.mem_range.1 hi
  simp [ai, hi', Int.ofNat_inj]
theorem refOut_not {N : Nat} {E : ArG} (hE : inN N E) {v : Int} (h : v < 0 ∨ (N : Int) ≤ v) : refOut (ai E) v = [] := by
  unfold refOut
  rw [List.filter_eq_nil_iff]
  intro i hi
  rw [List.mem_range, ai_len] at hi
  have := (hE _ (List.getElem_mem hi)).1
  simp [ai, hi]; omega
theorem nxt_eq (E : ArG) (v : Nat) : nxt E v = (E.filter (fun e => decide (e.1 = v))).map (·.2) := by
  have hE : E = (List.range E.length).map (fun i => E.getD i (0, 0)) := by
    apply List.ext_getElem
    · simp
    · intro i h1 h2; simp [h1]
  unfold nxt occ
  rw [List.length_map]
  conv => rhs; rw [hE]
  rw [List.filter_map, List.map_map]
  congr 1
  refine List.filter_congr (fun i hi => ?_)
  have hi' := List.mem_range.1 hi
  simp [hi']
theorem refNext_nat (E : ArG) (v : Nat) : ((ai E).filter (fun a => decide (a.1 = (v : Int)))).map (·.2) = li (nxt E v) := by
  rw [nxt_eq]
  unfold ai li
  rw [List.filter_map, List.map_map, List.map_map]
  congr 1
  refine List.filter_congr (fun e _ => ?_)
  simp [Int.ofNat_inj]
theorem refNext_not {N : Nat} {E : ArG} (hE : inN N E) {v : Int} (h : v < 0 ∨ (N : Int) ≤ v) : ((ai E).filter (fun a => decide (a.1 = v))).map (·.2) = [] := by
  have : (ai E).filter (fun a => decide (a.1 = v)) = [] := by
    rw [List.filter_eq_nil_iff]
    intro a ha
    obtain ⟨e, he, rfl⟩ := List.mem_map.1 ha
    have := (hE e he).1
    simp; omega
  rw [this]; rfl
theorem ai_tn (E : ArG) : (ai E).map (fun a => (a.2, a.1)) = ai (tn E) := by simp [ai, tn]
theorem Arc_of {N : Nat} {E : ArG} {i : Int} : fn_graph_Graph_Arc (some (mkG N E)) i = some (if h : 0 ≤ i ∧ i < (E.length : Int) then (((E[i.toNat]'(by omega)).1 : Int), ((E[i.toNat]'(by omega)).2 : Int), true) else (0, 0, false)) := by
  unfold fn_graph_Graph_Arc
  rw [Arcs_eq]
  by_cases h0 : i < 0
  · simp [h0, show ¬ (0 ≤ i ∧ i < (E.length : Int)) by omega]
  · by_cases h1 : (E.length : Int) ≤ i
    · simp [h0, h1, show ¬ (0 ≤ i ∧ i < (E.length : Int)) by omega]
    · have h2 : 0 ≤ i ∧ i < (E.length : Int) := by omega
      obtain ⟨k, rfl⟩ := Int.eq_ofNat_of_zero_le h2.1
      have hk : k < E.length := by omega
      simp only [h0, h1, decide_false, cond_false, Option.bind_some, mkG, getI_ai hk]
      simp [hk]
def inL (N : Nat) (M : List Nat) : List Int := (List.range N).map (fun w => if w ∈ M then (1 : Int) else 0)
end Go.Proofs.Ythoclljhjcfemaa
namespace Go.Proofs.Ythoclljhjcfemaa
open Go.RowKit
set_option linter.unusedVariables false
set_option linter.unusedSimpArgs false
set_option linter.unnecessarySimpa false
/-- The search under way: L in the order of finding, p at hand, T told. -/
structure Sr (N : Nat) (E : ArG) (v : Nat) (L : List Nat) (p : Nat) (d : Nat → Option Nat) (m : Nat) (β : Nat → Option Nat) (T : List Nat) (q : List Int) (f : Int) (c : Nat) : Prop where
  b : Bfs N E v L p d
  l : Lm d m
  k : Bck E T d β
  r : RQ q f ((L.length - c : Nat) : Int) (li (L.drop c))
  ql : q.length ≤ 2 * N + 1
theorem Bfs.len {N : Nat} {E : ArG} {v : Nat} {L : List Nat} {p : Nat} {d : Nat → Option Nat} (h : Bfs N E v L p d) : L.length ≤ N := nodup_lt h.nd h.lt
theorem Lm.le {d : Nat → Option Nat} {m N : Nat} {L : List Nat} (h : Lm d m) (hL : ∀ w, w ∈ L ↔ (d w).isSome) (hN : L.length ≤ N) : m ≤ N := by
  have : ∀ j, j ≤ m → ∃ M : List Nat, M.length = j ∧ M.Nodup ∧ (∀ x ∈ M, x ∈ L ∧ ∃ k, k < j ∧ d x = some k) := by
    intro j
    induction j with
    | zero => intro _; exact ⟨[], rfl, List.nodup_nil, fun x hx => by cases hx⟩
    | succ j ih =>
      intro hj
      obtain ⟨M, h1, h2, h3⟩ := ih (by omega)
      obtain ⟨w, hw⟩ := h.full j (by omega)
      refine ⟨w :: M, by simp [h1], List.nodup_cons.2 ⟨fun hm => ?_, h2⟩, fun x hx => ?_⟩
      · obtain ⟨_, k, hk, e⟩ := h3 w hm
        rw [hw] at e; cases e; omega
      · rcases List.mem_cons.1 hx with rfl | hx
        · exact ⟨(hL x).2 (by rw [hw]; rfl), j, by omega, hw⟩
        · obtain ⟨a1, k, a2, a3⟩ := h3 x hx
          exact ⟨a1, k, by omega, a3⟩
  obtain ⟨M, h1, h2, h3⟩ := this m (Nat.le_refl _)
  have := nodup_le h2 (fun x hx => (h3 x hx).1)
  omega
theorem inner_step {N : Nat} {E : ArG} {v : Nat} {L : List Nat} {p : Nat} {d : Nat → Option Nat} {m : Nat} {β : Nat → Option Nat} {T : List Nat} {q : List Int} {f : Int} (hE : inN N E) (hn : N ≤ 1000) (he : E.length ≤ 10000) (s : Sr N E v L p d m β T q f (p + 1)) {a k : Nat} (ha : L[p]? = some a) (hk : d a = some k) {O : List Nat} (hO : ∀ i ∈ O, ∃ h : i < E.length, E[i].1 = a) (hOl : O.length ≤ 10000) {j : Nat} (hj : j < O.length) :
    ∃ L' d' m' β' q' f', fn_bfs_From_kpiz_l1 (some (mkG N E)) (a : Int) (li O) ((j : Int), dl N d, dl N β, ly m L d, q, f, ((L.length - (p + 1) : Nat) : Int)) = some (.inl (((j + 1 : Nat) : Int), dl N d', dl N β', ly m' L' d', q', f', ((L'.length - (p + 1) : Nat) : Int)))
      ∧ Sr N E v L' p d' m' β' (T ++ [O[j]]) q' f' (p + 1) ∧ L'[p]? = some a ∧ d' a = some k ∧ (∀ h : O[j] < E.length, (d' E[O[j]].2).isSome) ∧ (∀ x, (d x).isSome → (d' x).isSome) ∧ L <+: L' := by
  obtain ⟨hi, hia⟩ := hO O[j] (List.getElem_mem hj)
  have hpl : p < L.length := (List.getElem?_eq_some_iff.1 ha).1
  have hLN := s.b.len
  have haN : a < N := s.b.lt a (List.mem_of_getElem? ha)
  have hbN : E[O[j]].2 < N := (hE _ (List.getElem_mem hi)).2
  have hmN := s.l.le s.b.mem hLN
  have hkm := s.l.top a k hk
  have hmem : (a, E[O[j]].2) ∈ E := by rw [← hia]; exact List.getElem_mem hi
  unfold fn_bfs_From_kpiz_l1
  dsimp only
  rw [li_len, dlt hj, cond_true, getI_li hj, Option.bind_some, Arc_of, dif_pos ⟨by omega, by omega⟩]
  simp only [Int.toNat_natCast, Option.bind_some]
  rw [dl_get hbN]
  simp only [Option.bind_some]
  rw [dl_get haN, hk, w64s hj (by omega)]
  simp only [Option.bind_some]
  have hw : IntKind.wrap .i64 (dN (some k) + 1) = ((k + 1 : Nat) : Int) := by rw [show dN (some k) = (k : Int) from rfl, w64 (by omega) (by omega)]; rfl
  rw [hw]
  cases hb : d E[O[j]].2 with
  | none =>
    have hbL : E[O[j]].2 ∉ L := fun hm => by have := (s.b.mem _).1 hm; rw [hb] at this; cases this
    have hB := s.b.find hE ha hmem hk hb
    have hLN2 := hB.len
    rw [List.length_append, List.length_singleton] at hLN2
    rw [show decide (dN none < 0) = true from rfl, cond_true, reach_ok s.l hbN hbL (by omega) (by omega) (by omega)]
    simp only [Option.bind_some]
    have hd1 : (li (L.drop (p + 1))).length = L.length - (p + 1) := by rw [li_len, List.length_drop]
    obtain ⟨q', f', e1, e2, e3⟩ := Push_eq (v := ((E[O[j]].2 : Nat) : Int)) (B := N) s.r (by rw [hd1]; omega) s.ql (by omega)
    rw [e1]
    simp only [Option.bind_some]
    rw [dl_get hbN, dl_get haN]
    simp only [Option.bind_some]
    have hne : a ≠ E[O[j]].2 := fun e => by rw [← e, hk] at hb; cases hb
    rw [if_pos trivial, if_neg hne, hk, hw, show decide (dN (some (k + 1)) = ((k + 1 : Nat) : Int)) = true from decide_eq_true rfl, cond_true, lead_ok hbN]
    simp only [Option.bind_some]
    have hlen : ((L ++ [E[O[j]].2]).length - (p + 1) : Nat) = L.length - (p + 1) + 1 := by rw [List.length_append, List.length_singleton]; omega
    refine ⟨L ++ [E[O[j]].2], fun x => if x = E[O[j]].2 then some (k + 1) else d x, if k + 1 = m then m + 1 else m, fun x => if x = E[O[j]].2 then some (less O[j] (β E[O[j]].2)) else β x, q', f', ?_, ⟨hB, s.l.reach hb (by omega), (s.k.find hb).tell hi ⟨hi, k, rfl, ?_, ?_⟩, ?_, e3⟩, ?_, ?_, ?_, ?_, ⟨_, rfl⟩⟩
    · rw [hlen]; rfl
    · dsimp only; rw [hia, if_neg hne, hk]
    · dsimp only; rw [if_pos rfl]
    · rw [hlen, List.drop_append_of_le_length (by omega)]
      simpa [li] using e2
    · rw [List.getElem?_append_left hpl, ha]
    · dsimp only; rw [if_neg hne, hk]
    · intro _; simp
    · intro x hx; dsimp only; split
      · rfl
      · exact hx
  | some l =>
    rw [show decide (dN (some l) < 0) = false from decide_eq_false (by show ¬ ((l : Int) < 0); omega), cond_false, Option.bind_some]
    simp only []
    rw [dl_get hbN, dl_get haN]
    simp only [Option.bind_some]
    rw [hk, hb, hw]
    by_cases c : l = k + 1
    · subst c
      rw [show decide (dN (some (k + 1)) = ((k + 1 : Nat) : Int)) = true from decide_eq_true rfl, cond_true, lead_ok hbN]
      simp only [Option.bind_some]
      exact ⟨_, _, _, _, _, _, rfl, ⟨s.b, s.l, s.k.tell hi ⟨hi, k, rfl, by rw [hia, hk], hb⟩, s.r, s.ql⟩, ha, hk, fun _ => by rw [hb]; rfl, fun _ h => h, List.prefix_refl _⟩
    · rw [show decide (dN (some l) = ((k + 1 : Nat) : Int)) = false from decide_eq_false (by show ¬ ((l : Int) = ((k + 1 : Nat) : Int)); omega), cond_false]
      refine ⟨_, _, _, _, _, _, rfl, ⟨s.b, s.l, s.k.pass hi ?_ (by rw [hia, hk]; rfl) (by rw [hb]; rfl), s.r, s.ql⟩, ha, hk, fun _ => by rw [hb]; rfl, fun _ h => h, List.prefix_refl _⟩
      rintro ⟨_, k2, _, e2, e3⟩
      rw [hia, hk] at e2
      rw [hb] at e3
      cases e2; cases e3
      exact c rfl
theorem inner_from {N : Nat} {E : ArG} {v p a k : Nat} (hE : inN N E) (hn : N ≤ 1000) (he : E.length ≤ 10000) {O : List Nat} (hO : ∀ i ∈ O, ∃ h : i < E.length, E[i].1 = a) (hOl : O.length ≤ 10000) :
    ∀ (r j : Nat) (L : List Nat) (d : Nat → Option Nat) (m : Nat) (β : Nat → Option Nat) (T : List Nat) (q : List Int) (f : Int), j + r = O.length → Sr N E v L p d m β T q f (p + 1) → L[p]? = some a → d a = some k → (∀ i ∈ O.take j, ∀ h : i < E.length, (d E[i].2).isSome) →
    ∃ L' d' m' β' q' f', loop (fn_bfs_From_kpiz_l1 (some (mkG N E)) (a : Int) (li O)) ((j : Int), dl N d, dl N β, ly m L d, q, f, ((L.length - (p + 1) : Nat) : Int)) = some (dl N d', dl N β', ly m' L' d', q', f', ((L'.length - (p + 1) : Nat) : Int))
      ∧ Sr N E v L' p d' m' β' (T ++ O.drop j) q' f' (p + 1) ∧ L'[p]? = some a ∧ d' a = some k ∧ (∀ i ∈ O, ∀ h : i < E.length, (d' E[i].2).isSome) ∧ L <+: L' := by
  intro r
  induction r with
  | zero =>
    intro j L d m β T q f hj s ha hk ht
    refine ⟨L, d, m, β, q, f, ?_, ?_, ha, hk, ?_, List.prefix_refl _⟩
    · apply loop_end
      unfold fn_bfs_From_kpiz_l1
      dsimp only
      rw [li_len, dge (by omega), cond_false]
    · rw [List.drop_of_length_le (by omega), List.append_nil]; exact s
    · rw [List.take_of_length_le (by omega)] at ht; exact ht
  | succ r ih =>
    intro j L d m β T q f hj s ha hk ht
    have hjl : j < O.length := by omega
    obtain ⟨L1, d1, m1, β1, q1, f1, e1, s1, a1, k1, t1, mo, pf⟩ := inner_step hE hn he s ha hk hO hOl hjl
    obtain ⟨L2, d2, m2, β2, q2, f2, e2, s2, a2, k2, t2, pf2⟩ := ih (j + 1) L1 d1 m1 β1 (T ++ [O[j]]) q1 f1 (by omega) s1 a1 k1 (fun i hi h => by
      rw [take_snoc hjl] at hi
      rcases List.mem_append.1 hi with hi | hi
      · exact mo _ (ht i hi h)
      · simp only [List.mem_singleton] at hi; subst hi; exact t1 h)
    refine ⟨L2, d2, m2, β2, q2, f2, by rw [loop_next e1]; exact e2, ?_, a2, k2, t2, pf.trans pf2⟩
    rw [List.append_assoc, List.singleton_append, ← List.drop_eq_getElem_cons hjl] at s2
    exact s2
/-- What has been told when the first p are done. -/
def told (E : ArG) (L : List Nat) (p : Nat) (T : List Nat) : Prop := ∀ i : Nat, i ∈ T ↔ ∃ h : i < E.length, E[i].1 ∈ L.take p
theorem outer_step {N : Nat} {E : ArG} {v : Nat} {L : List Nat} {p : Nat} {d : Nat → Option Nat} {m : Nat} {β : Nat → Option Nat} {T : List Nat} {q : List Int} {f : Int} (hE : inN N E) (hn : N ≤ 1000) (he : E.length ≤ 10000) (s : Sr N E v L p d m β T q f p) (ht : told E L p T) (hp : p < L.length) :
    ∃ L' d' m' β' T' q' f', fn_bfs_From_kpiz_l2 (some (mkG N E)) (dl N d, dl N β, ly m L d, q, f, ((L.length - p : Nat) : Int)) = some (.inl (dl N d', dl N β', ly m' L' d', q', f', ((L'.length - (p + 1) : Nat) : Int)))
      ∧ Sr N E v L' (p + 1) d' m' β' T' q' f' (p + 1) ∧ told E L' (p + 1) T' := by
  have hLN := s.b.len
  have ha : L[p]? = some L[p] := List.getElem?_eq_getElem hp
  have haL : L[p] ∈ L := List.getElem_mem hp
  have haN := s.b.lt _ haL
  obtain ⟨k, hk⟩ := Option.isSome_iff_exists.1 ((s.b.mem _).1 haL)
  have hr := s.r
  have hdrop : li (L.drop p) = ((L[p] : Nat) : Int) :: li (L.drop (p + 1)) := by rw [List.drop_eq_getElem_cons hp]; rfl
  rw [hdrop] at hr
  obtain ⟨q1, f1, e1, r1, l1⟩ := Pop_eq hr (by have := s.ql; omega)
  have hm1 : ((L.length - p : Nat) : Int) - 1 = ((L.length - (p + 1) : Nat) : Int) := by omega
  rw [hm1] at e1 r1
  have hOl : (occ (E.map (·.1)) L[p]).length ≤ 10000 := by have := occ_bound (E.map (·.1)) L[p]; rw [List.length_map] at this; omega
  obtain ⟨L2, d2, m2, β2, q2, f2, e2, s2, a2, k2, t2, pf⟩ := inner_from (v := v) (p := p) (k := k) hE hn he (O := occ (E.map (·.1)) L[p]) (fun i hi => occ_arc hi) hOl _ 0 L d m β T q1 f1 (Nat.zero_add _) ⟨s.b, s.l, s.k, r1, by rw [l1]; exact s.ql⟩ ha hk (fun i hi => by simp at hi)
  have hnext := s2.b.next a2 k2 (fun b hb => by
    obtain ⟨i, hi, e⟩ := List.mem_iff_getElem.1 hb
    have := t2 i (occ_mem.2 ⟨by rw [List.length_map]; exact hi, by simp [e]⟩) hi
    rw [e] at this; exact this)
  refine ⟨L2, d2, m2, β2, _, q2, f2, ?_, ⟨hnext, s2.l, s2.k, s2.r, s2.ql⟩, ?_⟩
  · unfold fn_bfs_From_kpiz_l2 fn_stack_Queue_int_Len_p0_rii
    simp only [Option.bind_some]
    rw [show decide ((0 : Int) < ((L.length - p : Nat) : Int)) = true by simp; omega, cond_true, e1]
    simp only [Option.bind_some]
    rw [Out_of (by omega) (by omega) haN]
    simp only [Option.bind_some]
    rw [show fn_tick_Counter_Add_zii 6 _ = some () from rfl, Option.bind_some]
    have e2' : loop (fn_bfs_From_kpiz_l1 (some (mkG N E)) ((L[p] : Nat) : Int) ((occ (E.map (·.1)) L[p]).map (fun i : Nat => (i : Int)))) (0, dl N d, dl N β, ly m L d, q1, f1, ((L.length - (p + 1) : Nat) : Int)) = _ := e2
    rw [e2']
    rfl
  · intro i
    have hp2 : p < L2.length := (List.getElem?_eq_some_iff.1 a2).1
    have hLp : L2[p] = L[p] := by rw [List.getElem?_eq_getElem hp2] at a2; exact Option.some.inj a2
    have hpre : L2.take p = L.take p := by
      obtain ⟨M, rfl⟩ := pf
      rw [List.take_append_of_le_length (by omega)]
    rw [take_snoc hp2, hpre, hLp, List.drop_zero, List.mem_append, ht i, occ_mem]
    constructor
    · rintro (⟨h, h1⟩ | ⟨h, h1⟩)
      · exact ⟨h, List.mem_append_left _ h1⟩
      · rw [List.length_map] at h
        exact ⟨h, List.mem_append_right _ (by simp at h1; simp [h1])⟩
    · rintro ⟨h, h1⟩
      rcases List.mem_append.1 h1 with h1 | h1
      · exact .inl ⟨h, h1⟩
      · simp at h1
        exact .inr ⟨by rw [List.length_map]; exact h, by simp [h1]⟩
/-- What a search that has ended knows. -/
structure Bend (N : Nat) (E : ArG) (v : Nat) (L : List Nat) (d : Nat → Option Nat) (m : Nat) (β : Nat → Option Nat) : Prop where
  b : Bfs N E v L L.length d
  l : Lm d m
  yes : ∀ w i : Nat, β w = some i → Lead E d i w
  low : ∀ w i : Nat, Lead E d i w → ∃ j, β w = some j ∧ j ≤ i
theorem outer_loop {N : Nat} {E : ArG} {v : Nat} (hE : inN N E) (hn : N ≤ 1000) (he : E.length ≤ 10000) : ∀ (r p : Nat) (L : List Nat) (d : Nat → Option Nat) (m : Nat) (β : Nat → Option Nat) (T : List Nat) (q : List Int) (f : Int), N ≤ p + r → Sr N E v L p d m β T q f p → told E L p T →
    ∃ L' d' m' β', loop (fn_bfs_From_kpiz_l2 (some (mkG N E))) (dl N d, dl N β, ly m L d, q, f, ((L.length - p : Nat) : Int)) = some (dl N d', dl N β', ly m' L' d') ∧ Bend N E v L' d' m' β' := by
  have fin : ∀ (p : Nat) (L : List Nat) (d : Nat → Option Nat) (m : Nat) (β : Nat → Option Nat) (T : List Nat) (q : List Int) (f : Int), Sr N E v L p d m β T q f p → told E L p T → ¬ p < L.length →
      ∃ L' d' m' β', loop (fn_bfs_From_kpiz_l2 (some (mkG N E))) (dl N d, dl N β, ly m L d, q, f, ((L.length - p : Nat) : Int)) = some (dl N d', dl N β', ly m' L' d') ∧ Bend N E v L' d' m' β' := by
    intro p L d m β T q f s ht hp
    obtain rfl : p = L.length := by have := s.b.pl; omega
    refine ⟨L, d, m, β, ?_, s.b, s.l, fun w i h => (s.k.yes w i h).2, fun w i h => s.k.low w i ?_ h⟩
    · apply loop_end
      unfold fn_bfs_From_kpiz_l2 fn_stack_Queue_int_Len_p0_rii
      simp only [Option.bind_some]
      rw [Nat.sub_self]
      rfl
    · obtain ⟨hi, k, _, e2, _⟩ := h
      refine (ht i).2 ⟨hi, ?_⟩
      rw [List.take_length]
      exact (s.b.mem _).2 (by rw [e2]; rfl)
  intro r
  induction r with
  | zero =>
    intro p L d m β T q f hr s ht
    exact fin p L d m β T q f s ht (by have := s.b.len; omega)
  | succ r ih =>
    intro p L d m β T q f hr s ht
    by_cases hp : p < L.length
    · obtain ⟨L1, d1, m1, β1, T1, q1, f1, e1, s1, t1⟩ := outer_step hE hn he s ht hp
      obtain ⟨L2, d2, m2, β2, e2, b2⟩ := ih (p + 1) L1 d1 m1 β1 T1 q1 f1 (by omega) s1 t1
      exact ⟨L2, d2, m2, β2, by rw [loop_next e1]; exact e2, b2⟩
    · exact fin p L d m β T q f s ht hp
/-- Layers, each rising. -/
def lyS (N m : Nat) (d : Nat → Option Nat) : List (List Int) := (List.range m).map fun k => li ((List.range N).filter fun w => decide (d w = some k))
theorem sort_loop {N : Nat} {E : ArG} {v : Nat} {L : List Nat} {d : Nat → Option Nat} {m : Nat} {β : Nat → Option Nat} (h : Bend N E v L d m β) (hn : N ≤ 1000) : loop (fn_bfs_From_kpiz_l3 (ly m L d)) (0, ly m L d) = some (lyS N m d) := by
  have hLN := h.b.len
  have hm := h.l.le h.b.mem hLN
  have hsrt : ∀ k, srt (li (L.filter fun w => decide (d w = some k))) = some (li ((List.range N).filter fun w => decide (d w = some k))) := fun k =>
    srt_set (h.b.nd.filter _) (range_strict N _) (fun w => by
      rw [List.mem_filter, List.mem_filter, List.mem_range]
      constructor
      · rintro ⟨a, b⟩; exact ⟨h.b.lt w a, b⟩
      · rintro ⟨a, b⟩
        refine ⟨(h.b.mem w).2 ?_, b⟩
        rw [of_decide_eq_true b]; rfl) (by have := List.length_filter_le (fun w => decide (d w = some k)) L; omega)
  have := loop_nat (body := fn_bfs_From_kpiz_l3 (ly m L d)) (fun k => ((k : Int), (List.range m).map fun j => if j < k then li ((List.range N).filter fun w => decide (d w = some j)) else li (L.filter fun w => decide (d w = some j)))) m (b := lyS N m d) ?_ ?_
  · simpa [ly] using this
  · intro k hk
    unfold fn_bfs_From_kpiz_l3
    dsimp only
    rw [ly_len, dlt hk, cond_true, getI_map hk, if_neg (Nat.lt_irrefl k)]
    simp only [Option.bind_some]
    rw [show chkI (k : Int) (k : Int) = some () by simp [chkI], Option.bind_some, hsrt, Option.bind_some, Int.toNat_natCast, set_map, w64s hk (by omega)]
    congr 3
    apply map_congr_range
    intro j hj
    by_cases c : j = k
    · subst c; simp
    · by_cases c2 : j < k
      · simp [c, c2, show j < k + 1 by omega]
      · simp [c, c2, show ¬ j < k + 1 by omega]
  · unfold fn_bfs_From_kpiz_l3
    dsimp only
    rw [ly_len, dge (Nat.lt_irrefl m), cond_false]
    congr 2
    unfold lyS
    apply map_congr_range
    intro j hj
    simp [hj]
end Go.Proofs.Ythoclljhjcfemaa
namespace Go.Proofs.Ythoclljhjcfemaa
open Go.RowKit
set_option linter.unusedVariables false
set_option linter.unusedSimpArgs false
set_option linter.unnecessarySimpa false
theorem Mul_small : ∀ n : Fin 17, fn_math_bits_Mul 1 (n.val : Int) = some (0, (n.val : Int)) := by decide +kernel
theorem Rep_small : ∀ n : Fin 17, iter fn_slices_Repeat_int_int_l1 7 (cpy (List.replicate n.val (0 : Int)) ((0 : Int).toNat) (([-1] : List Int).take (n.val - (0 : Int).toNat)), ((min ([-1] : List Int).length (n.val - (0 : Int).toNat) : Nat) : Int)) = some (List.replicate n.val (-1)) := by decide +kernel
theorem Repeat_eq {n : Nat} (hn : n ≤ 16) : fn_slices_Repeat_int_int [-1] (n : Int) = some (List.replicate n (-1)) := by
  unfold fn_slices_Repeat_int_int
  rw [show decide ((n : Int) < 0) = false from decide_eq_false (by omega), cond_false]
  have hw : ∀ x : Int, 0 ≤ x → x < 1000 → IntKind.wrap .u64 x = x := fun x h0 h1 => by unfold IntKind.wrap; simp [IntKind.bits, IntKind.signed] <;> omega
  simp only [Option.bind_some]
  rw [show IntKind.wrap .u64 ((([-1] : List Int).length : Nat) : Int) = 1 from rfl, hw _ (by omega) (by omega), Mul_small ⟨n, by omega⟩]
  simp only [Option.bind_some]
  rw [show (decide ((0 : Int) < 0) || decide ((9223372036854775807 : Int) < (n : Int))) = false by simp; omega, cond_false]
  simp only [Option.bind_some]
  rw [w64 (x := (n : Int)) (by omega) (by omega)]
  have e1 : mk (n : Int) (n : Int) (0 : Int) = some (List.replicate n 0) := by unfold mk; rw [if_pos (by omega), Int.toNat_natCast]
  rw [e1]
  simp only [Option.bind_some]
  rw [List.length_replicate, loop_of (Rep_small ⟨n, by omega⟩)]
  rfl
theorem rep_dl (N : Nat) : List.replicate N (-1 : Int) = dl N fun _ => none := replicate_map N _
theorem Lm.start (v : Nat) : Lm (fun w => if w = v then some 0 else none) 1 where
  top := fun w k h => by
    split at h
    · cases h; omega
    · cases h
  full := fun k hk => ⟨v, by simp; omega⟩
theorem start_ok {N v : Nat} (hv : v < N) (bk : List Int) : fn_bfs_Tree_reach_p0ii_rrn (v : Int) 0 (dl N fun _ => none) bk = some (dl N (fun w => if w = v then some 0 else none), bk, ly 1 [v] (fun w => if w = v then some 0 else none)) := by
  unfold fn_bfs_Tree_reach_p0ii_rrn
  rw [dl_get hv]
  simp only [Option.bind_some, Int.toNat_natCast]
  have e := dl_set (k := 0) (d := fun _ => none) hv
  rw [show ((0 : Nat) : Int) = 0 from rfl] at e
  rw [e]
  rw [show (bif decide True then (app ([] : List (List Int)) [[]]).bind fun z => some z else some []) = some [[]] by simp [app]]
  have e1 : ly 1 [v] (fun w => if w = v then some 0 else none) = [[(v : Int)]] := by simp [ly, li]
  rw [e1]
  rfl
theorem From_ok {N : Nat} {E : ArG} {v : Nat} (hE : inN N E) (hn : N ≤ 16) (he : E.length ≤ 10000) (hv : v < N) : ∃ L d m β, fn_bfs_From_kpiz (some (mkG N E)) (v : Int) = some (some (dl N d, dl N β, lyS N m d)) ∧ Bend N E v L d m β := by
  obtain ⟨L, d, m, β, e, b⟩ := outer_loop (v := v) hE (by omega) he N 0 [v] (fun w => if w = v then some 0 else none) 1 (fun _ => none) [] [(v : Int)] 0 (by omega) ⟨Bfs.start hv, Lm.start v, Bck.start E _, RQ.one _, by simp⟩ (fun i => by simp)
  refine ⟨L, d, m, β, ?_, b⟩
  unfold fn_bfs_From_kpiz
  rw [Nodes_eq]
  simp only [Option.bind_some]
  rw [Repeat_eq hn, rep_dl]
  simp only [Option.bind_some]
  rw [show decide (0 ≤ (v : Int)) = true by simp, cond_true, Option.bind_some, show decide ((v : Int) < (N : Int)) = true by simp; omega, cond_true, start_ok hv]
  simp only [Option.bind_some]
  rw [Push_first]
  simp only [Option.bind_some]
  have e' : loop (fn_bfs_From_kpiz_l2 (some (mkG N E))) (dl N (fun w => if w = v then some 0 else none), dl N (fun _ => none), ly 1 [v] (fun w => if w = v then some 0 else none), [(v : Int)], 0, 1) = _ := e
  rw [e']
  simp only [Option.bind_some]
  rw [sort_loop b (by omega)]
  rfl
theorem From_not {N : Nat} {E : ArG} {v : Int} (hn : N ≤ 16) (hv : v < 0 ∨ (N : Int) ≤ v) : fn_bfs_From_kpiz (some (mkG N E)) v = some (some (dl N (fun _ => none), dl N (fun _ => none), [])) := by
  unfold fn_bfs_From_kpiz
  rw [Nodes_eq]
  simp only [Option.bind_some]
  rw [Repeat_eq hn, rep_dl]
  simp only [Option.bind_some]
  have hc : (cond (decide (0 ≤ v)) (some (decide (v < (N : Int)))) (some false) : Option Bool) = some false := by
    rcases hv with h | h
    · rw [show decide (0 ≤ v) = false by simp; omega]; rfl
    · rw [show decide (v < (N : Int)) = false by simp; omega]; cases decide (0 ≤ v) <;> rfl
  rw [hc]
  simp only [Option.bind_some, cond_false]
  rw [loop_end (b := (dl N (fun _ => none), dl N (fun _ => none), [])) rfl]
  simp only [Option.bind_some]
  rw [loop_end (b := []) rfl]
  rfl
theorem From_none (v : Int) : fn_bfs_From_kpiz none v = some (some ([], [], [])) := by
  unfold fn_bfs_From_kpiz
  rw [Nodes_none]
  simp only [Option.bind_some]
  rw [show fn_slices_Repeat_int_int [-1] 0 = some [] from Repeat_eq (n := 0) (by omega)]
  simp only [Option.bind_some]
  have hc : (cond (decide (0 ≤ v)) (some (decide (v < 0))) (some false) : Option Bool) = some false := by
    by_cases h : 0 ≤ v
    · rw [show decide (v < 0) = false by simp; omega]; cases decide (0 ≤ v) <;> rfl
    · rw [show decide (0 ≤ v) = false by simp; omega]; rfl
  rw [hc]
  simp only [Option.bind_some, cond_false]
  rw [loop_end (b := ([], [], [])) rfl]
  simp only [Option.bind_some]
  rw [loop_end (b := []) rfl]
  rfl
end Go.Proofs.Ythoclljhjcfemaa
namespace Go.Proofs.Ythoclljhjcfemaa
open Go.RowKit
set_option linter.unusedVariables false
set_option linter.unusedSimpArgs false
set_option linter.unnecessarySimpa false
theorem Dist_of {N w : Nat} {d : Nat → Option Nat} {bk : List Int} {ls : List (List Int)} (h : w < N) : fn_bfs_Tree_Dist (some (dl N d, bk, ls)) (w : Int) = some (dN (d w)) := by
  unfold fn_bfs_Tree_Dist fn_bfs_Tree_isNode
  rw [show ((!(some (dl N d, bk, ls)).isNone) && decide (0 ≤ (w : Int))) = true by simp, cond_true, Option.bind_some, dl_len, show decide ((w : Int) < (N : Int)) = true from decide_eq_true (by omega)]
  simp only [Option.bind_some, Bool.not_true, cond_false]
  rw [dl_get h]
  rfl
theorem Dist_not {N : Nat} {w : Int} {d : Nat → Option Nat} {bk : List Int} {ls : List (List Int)} (h : w < 0 ∨ (N : Int) ≤ w) : fn_bfs_Tree_Dist (some (dl N d, bk, ls)) w = some (-1) := by
  unfold fn_bfs_Tree_Dist fn_bfs_Tree_isNode
  rcases h with h | h
  · rw [show decide (0 ≤ w) = false from decide_eq_false (by omega), Bool.and_false]; rfl
  · rw [show decide (0 ≤ w) = true from decide_eq_true (by omega), Bool.and_true]
    simp only [Option.isNone_some, Bool.not_false, cond_true, Option.bind_some]
    rw [dl_len, show decide (w < (N : Int)) = false from decide_eq_false (by omega)]
    rfl
theorem Back_of {N w : Nat} {d β : Nat → Option Nat} {ls : List (List Int)} (h : w < N) : fn_bfs_Tree_Back (some (dl N d, dl N β, ls)) (w : Int) = some (dN (β w)) := by
  unfold fn_bfs_Tree_Back fn_bfs_Tree_isNode
  rw [show ((!(some (dl N d, dl N β, ls)).isNone) && decide (0 ≤ (w : Int))) = true by simp, cond_true, Option.bind_some, dl_len, show decide ((w : Int) < (N : Int)) = true from decide_eq_true (by omega)]
  simp only [Option.bind_some, Bool.not_true, cond_false]
  rw [dl_get h]
  rfl
/-- What rises by at most one over an arc is a bound from below. -/
theorem Wk.pot {E : ArG} {v k w : Nat} (h : Nat → Nat) (h0 : h v = 0) (hE : ∀ a b, (a, b) ∈ E → h b ≤ h a + 1) (hw : Wk E v k w) : h w ≤ k := by
  induction hw with
  | zero => omega
  | step _ e ih => have := hE _ _ e; omega
theorem Bend.lt {N : Nat} {E : ArG} {v : Nat} {L : List Nat} {d : Nat → Option Nat} {m : Nat} {β : Nat → Option Nat} (h : Bend N E v L d m β) {w k : Nat} (hw : d w = some k) : k < N := by
  have h1 := h.l.top w k hw
  have h2 := h.l.le h.b.mem h.b.len
  omega
end Go.Proofs.Ythoclljhjcfemaa
namespace Go.Proofs.Ythoclljhjcfemaa
open Go.RowKit
set_option linter.unusedVariables false
set_option linter.unusedSimpArgs false
set_option linter.unnecessarySimpa false
theorem Bend.closed {N : Nat} {E : ArG} {v : Nat} {L : List Nat} {d : Nat → Option Nat} {m : Nat} {β : Nat → Option Nat} (h : Bend N E v L d m β) {a b k : Nat} (e : (a, b) ∈ E) (ha : d a = some k) : ∃ j, d b = some j ∧ j ≤ k + 1 := by
  obtain ⟨i, hi, e2⟩ := List.mem_iff_getElem.1 ((h.b.mem a).2 (by rw [ha]; rfl))
  exact h.b.done i a b k hi (by rw [List.getElem?_eq_getElem hi, e2]) e ha
theorem Bend.zero {N : Nat} {E : ArG} {v : Nat} {L : List Nat} {d : Nat → Option Nat} {m : Nat} {β : Nat → Option Nat} (h : Bend N E v L d m β) {x : Nat} (hx : d x = some 0) : β x = none := by
  cases hβ : β x with
  | none => rfl
  | some j =>
    obtain ⟨_, k, _, _, e⟩ := h.yes x j hβ
    rw [hx] at e; cases e
theorem Bend.back {N : Nat} {E : ArG} {v : Nat} {L : List Nat} {d : Nat → Option Nat} {m : Nat} {β : Nat → Option Nat} (h : Bend N E v L d m β) {x k : Nat} (hx : d x = some (k + 1)) : ∃ (j : Nat) (hj : j < E.length), β x = some j ∧ E[j].2 = x ∧ d E[j].1 = some k := by
  have hf := (h.b.far x (k + 1)).1 hx
  have : ∃ a, Wk E v k a ∧ (a, x) ∈ E := by
    cases hf.1 with
    | step g e => exact ⟨_, g, e⟩
  obtain ⟨a, g, e⟩ := this
  have hda : d a = some k := by
    cases ha : d a with
    | none => exact absurd g.rch ((h.b.far_not a).1 ha)
    | some j =>
      obtain ⟨i, h1, h2⟩ := h.closed e ha
      rw [hx] at h1; cases h1
      have := ((h.b.far a j).1 ha).2 _ g
      congr 1; omega
  obtain ⟨i, hi, ei⟩ := List.mem_iff_getElem.1 e
  obtain ⟨j, h1, _⟩ := h.low x i ⟨hi, k, by rw [ei], by rw [ei]; exact hda, hx⟩
  obtain ⟨hj, l, h2, h3, h4⟩ := h.yes x j h1
  rw [hx] at h4; cases h4
  exact ⟨j, hj, h1, h2, h3⟩
/-- How many are nearer than k. -/
def ncnt (N : Nat) (d : Nat → Option Nat) (k : Nat) : Nat := (List.range N).countP fun w => match d w with | some j => decide (j < k) | none => false
theorem ncnt_succ (N : Nat) (d : Nat → Option Nat) (k : Nat) : ncnt N d (k + 1) = ncnt N d k + ((List.range N).filter fun w => decide (d w = some k)).length := by
  unfold ncnt
  rw [← List.countP_eq_length_filter]
  induction List.range N with
  | nil => rfl
  | cons x xs ih =>
    rw [List.countP_cons, List.countP_cons, List.countP_cons, ih]
    cases hd : d x with
    | none => simp
    | some j =>
      by_cases c : j = k
      · subst c; simp; omega
      · by_cases c2 : j < k
        · simp [c, c2, show j < k + 1 by omega]; omega
        · simp [c, c2, show ¬ j < k + 1 by omega]
theorem ncnt_zero (N : Nat) (d : Nat → Option Nat) : ncnt N d 0 = 0 := by
  unfold ncnt
  rw [List.countP_eq_zero]
  intro w _
  cases d w <;> simp
theorem ncnt_le (N : Nat) (d : Nat → Option Nat) (k : Nat) : ncnt N d k ≤ N := by
  have := List.countP_le_length (p := fun w => match d w with | some j => decide (j < k) | none => false) (l := List.range N)
  rw [List.length_range] at this; exact this
end Go.Proofs.Ythoclljhjcfemaa
namespace Go.Proofs.Ythoclljhjcfemaa
open Go.RowKit
set_option linter.unusedVariables false
set_option linter.unusedSimpArgs false
set_option linter.unnecessarySimpa false
open Classical in
/-- Distances up to k, and those one more that the first i arcs tell. -/
noncomputable def stp (E : ArG) (d : Nat → Option Nat) (k i w : Nat) : Option Nat := match d w with
  | some j => if j ≤ k ∨ (j = k + 1 ∧ ∃ (q : Nat) (h : q < E.length), q < i ∧ E[q].2 = w ∧ d E[q].1 = some k) then some j else none
  | none => none
theorem stp_some {E : ArG} {d : Nat → Option Nat} {k i w j : Nat} (h : stp E d k i w = some j) : d w = some j := by
  unfold stp at h
  split at h
  · rename_i j' e
    split at h
    · cases h; exact e
    · cases h
  · cases h
theorem stp_low {E : ArG} {d : Nat → Option Nat} {k i w j : Nat} (h : d w = some j) (hj : j ≤ k) : stp E d k i w = some j := by
  unfold stp
  rw [h]
  simp [hj]
open Classical in
theorem stp_succ {E : ArG} {d : Nat → Option Nat} {k i : Nat} (hi : i < E.length) (x : Nat) : stp E d k (i + 1) x = if d E[i].1 = some k ∧ x = E[i].2 ∧ d x = some (k + 1) then some (k + 1) else stp E d k i x := by
  by_cases c : d E[i].1 = some k ∧ x = E[i].2 ∧ d x = some (k + 1)
  · rw [if_pos c]
    unfold stp
    rw [c.2.2]
    dsimp only
    rw [if_pos (.inr ⟨rfl, i, hi, by omega, c.2.1.symm, c.1⟩)]
  · rw [if_neg c]
    unfold stp
    cases hd : d x with
    | none => rfl
    | some j =>
      simp only
      have : (j ≤ k ∨ (j = k + 1 ∧ ∃ (q : Nat) (h : q < E.length), q < i + 1 ∧ E[q].2 = x ∧ d E[q].1 = some k)) ↔ (j ≤ k ∨ (j = k + 1 ∧ ∃ (q : Nat) (h : q < E.length), q < i ∧ E[q].2 = x ∧ d E[q].1 = some k)) := by
        refine or_congr_right (and_congr_right fun hj => ⟨?_, ?_⟩)
        · rintro ⟨q, h, h1, h2, h3⟩
          by_cases e : q = i
          · subst e; subst hj; exact absurd ⟨h3, h2.symm, hd⟩ c
          · exact ⟨q, h, by omega, h2, h3⟩
        · rintro ⟨q, h, h1, h2, h3⟩; exact ⟨q, h, by omega, h2, h3⟩
      by_cases g : (j ≤ k ∨ (j = k + 1 ∧ ∃ (q : Nat) (h : q < E.length), q < i ∧ E[q].2 = x ∧ d E[q].1 = some k))
      · rw [if_pos g, if_pos (this.2 g)]
      · rw [if_neg g, if_neg (fun h => g (this.1 h))]
theorem dN_eq {o : Option Nat} {k : Nat} : dN o = (k : Int) ↔ o = some k := by
  cases o with
  | none => simp [dN] <;> omega
  | some j => simp [dN] <;> omega
theorem dN_neg {o : Option Nat} : dN o < 0 ↔ o = none := by
  cases o with
  | none => simp [dN]
  | some j => simp [dN]
theorem inner13 {N : Nat} {E : ArG} {v : Nat} {L : List Nat} {d : Nat → Option Nat} {m : Nat} {β : Nat → Option Nat} (hE : inN N E) (he : E.length ≤ 10000) (h : Bend N E v L d m β) {k : Nat} (hk : k ≤ 1000) :
    loop (fn_ref13_Dist_l2 (ai E) (k : Int)) (dl N (stp E d k 0), 0) = some (dl N (stp E d k E.length)) := by
  refine loop_nat (body := fn_ref13_Dist_l2 (ai E) (k : Int)) (fun i : Nat => (dl N (stp E d k i), (i : Int))) E.length ?_ ?_
  · intro i hi
    have ha := (hE _ (List.getElem_mem hi)).1
    have hb := (hE _ (List.getElem_mem hi)).2
    have same : ¬ (d E[i].1 = some k ∧ d E[i].2 = some (k + 1)) → dl N (stp E d k (i + 1)) = dl N (stp E d k i) := fun hn => by
      unfold dl
      apply map_congr_range
      intro x hx
      rw [stp_succ hi, if_neg (fun ⟨c1, c2, c3⟩ => hn ⟨c1, by rw [← c2]; exact c3⟩)]
    unfold fn_ref13_Dist_l2
    dsimp only
    rw [ai_len, dlt hi, cond_true, getI_ai hi]
    simp only [Option.bind_some]
    rw [dl_get ha, dl_get hb, w64s hi (by omega)]
    simp only [Option.bind_some]
    by_cases c : d E[i].1 = some k
    · obtain ⟨j, e1, e2⟩ := h.closed (a := E[i].1) (b := E[i].2) (List.getElem_mem hi) c
      rw [show decide (dN (stp E d k i E[i].1) = (k : Int)) = true from decide_eq_true (dN_eq.2 (stp_low c (Nat.le_refl _))), cond_true]
      simp only [Option.bind_some]
      cases hs : stp E d k i E[i].2 with
      | some j' =>
        rw [show decide (dN (some j') < 0) = false from decide_eq_false (fun hh => by have := dN_neg.1 hh; cases this), cond_false]
        have : dl N (stp E d k (i + 1)) = dl N (stp E d k i) := by
          unfold dl
          apply map_congr_range
          intro x hx
          rw [stp_succ hi]
          split
          · rename_i hc
            have e3 : d E[i].2 = some (k + 1) := by rw [← hc.2.1]; exact hc.2.2
            have e4 := stp_some hs
            rw [e3] at e4; cases e4
            rw [hc.2.1, hs]
          · rfl
        rw [this]
      | none =>
        have hj : j = k + 1 := by
          by_cases hj : j ≤ k
          · rw [stp_low e1 hj] at hs; cases hs
          · omega
        subst hj
        rw [show decide (dN none < 0) = true from rfl, cond_true]
        simp only [Option.bind_some, Int.toNat_natCast]
        rw [w64 (x := (k : Int) + 1) (by omega) (by omega), show (k : Int) + 1 = ((k + 1 : Nat) : Int) by omega, dl_set hb]
        congr 3
        unfold dl
        apply map_congr_range
        intro x hx
        rw [stp_succ hi]
        show dN (if x = E[i].2 then some (k + 1) else stp E d k i x) = _
        by_cases cx : x = E[i].2
        · rw [if_pos cx, if_pos ⟨c, cx, by rw [cx]; exact e1⟩]
        · rw [if_neg cx, if_neg (fun hc => cx hc.2.1)]
    · rw [show decide (dN (stp E d k i E[i].1) = (k : Int)) = false from decide_eq_false (fun hh => c (stp_some (dN_eq.1 hh))), cond_false]
      simp only [Option.bind_some, cond_false]
      rw [same (fun hh => c hh.1)]
  · unfold fn_ref13_Dist_l2
    dsimp only
    rw [ai_len, dge (Nat.lt_irrefl _), cond_false]
theorem round13 {N : Nat} {E : ArG} {v : Nat} {L : List Nat} {d : Nat → Option Nat} {m : Nat} {β : Nat → Option Nat} (h : Bend N E v L d m β) (k : Nat) : dl N (stp E d k E.length) = dl N (stp E d (k + 1) 0) := by
  unfold dl
  apply map_congr_range
  intro x hx
  unfold stp
  cases hd : d x with
  | none => rfl
  | some j =>
    simp only
    have : (j ≤ k ∨ (j = k + 1 ∧ ∃ (q : Nat) (h : q < E.length), q < E.length ∧ E[q].2 = x ∧ d E[q].1 = some k)) ↔ (j ≤ k + 1 ∨ (j = k + 1 + 1 ∧ ∃ (q : Nat) (h : q < E.length), q < 0 ∧ E[q].2 = x ∧ d E[q].1 = some (k + 1))) := by
      constructor
      · rintro (h1 | ⟨h1, _⟩)
        · exact .inl (by omega)
        · exact .inl (by omega)
      · rintro (h1 | ⟨_, q, _, h2, _⟩)
        · by_cases e : j ≤ k
          · exact .inl e
          · obtain rfl : j = k + 1 := by omega
            obtain ⟨q, hq, _, h3, h4⟩ := h.back hd
            exact .inr ⟨rfl, q, hq, hq, h3, h4⟩
        · omega
    by_cases g : (j ≤ k ∨ (j = k + 1 ∧ ∃ (q : Nat) (h : q < E.length), q < E.length ∧ E[q].2 = x ∧ d E[q].1 = some k))
    · rw [if_pos g, if_pos (this.1 g)]
    · rw [if_neg g, if_neg (fun hh => g (this.2 hh))]
theorem refDist0 {N : Nat} {v : Int} (hN : N ≤ 1000) : loop (fn_ref13_Dist_l1 (N : Int)) ([], 0) = some (dl N fun _ => none) := by
  rw [← rep_dl]
  refine loop_nat (body := fn_ref13_Dist_l1 (N : Int)) (fun i : Nat => (List.replicate i (-1 : Int), (i : Int))) N ?_ ?_
  · intro i hi
    unfold fn_ref13_Dist_l1
    dsimp only
    rw [dlt hi, cond_true, app_eq (by rw [List.length_replicate]; simp; omega), Option.bind_some, w64s hi (by omega), List.replicate_succ']
  · unfold fn_ref13_Dist_l1
    dsimp only
    rw [dge (Nat.lt_irrefl _), cond_false]
theorem refDist_ok {N : Nat} {E : ArG} {v : Nat} {L : List Nat} {d : Nat → Option Nat} {m : Nat} {β : Nat → Option Nat} (hE : inN N E) (hN : N ≤ 1000) (he : E.length ≤ 10000) (hv : v < N) (h : Bend N E v L d m β) :
    fn_ref13_Dist (N : Int) (ai E) (v : Int) = some (dl N d) := by
  unfold fn_ref13_Dist
  rw [refDist0 (v := (v : Int)) hN]
  simp only [Option.bind_some]
  rw [show decide ((v : Int) < 0) = false from decide_eq_false (by omega), show decide ((N : Int) ≤ (v : Int)) = false from decide_eq_false (by omega), Bool.or_self, cond_false, dl_get hv]
  simp only [Option.bind_some, Int.toNat_natCast]
  have e0 := dl_set (k := 0) (d := fun _ => none) hv
  rw [show ((0 : Nat) : Int) = 0 from rfl] at e0
  rw [e0]
  have e1 : dl N (fun x => if x = v then some 0 else none) = dl N (stp E d 0 0) := by
    unfold dl
    apply map_congr_range
    intro x hx
    show dN (if x = v then some 0 else none) = _
    by_cases c : x = v
    · rw [if_pos c, c, stp_low h.b.d0 (Nat.le_refl _)]
    · rw [if_neg c]
      unfold stp
      cases hd : d x with
      | none => rfl
      | some j =>
        simp only
        rw [if_neg]
        rintro (h1 | ⟨_, q, _, h2, _⟩)
        · obtain rfl : j = 0 := by omega
          have := ((h.b.far x 0).1 hd).1
          cases this
          exact c rfl
        · omega
  rw [e1]
  have := loop_nat (body := fn_ref13_Dist_l3 (N : Int) (ai E)) (fun k : Nat => (dl N (stp E d k 0), (k : Int))) N (b := dl N (stp E d N 0)) ?_ ?_
  · have e' : loop (fn_ref13_Dist_l3 (N : Int) (ai E)) (dl N (stp E d 0 0), 0) = _ := this
    rw [e']
    simp only [Option.bind_some]
    congr 1
    unfold dl
    apply map_congr_range
    intro x hx
    cases hd : d x with
    | none => unfold stp; rw [hd]
    | some j => rw [stp_low hd (by have := h.lt hd; omega)]
  · intro k hk
    unfold fn_ref13_Dist_l3
    dsimp only
    rw [dlt hk, cond_true, inner13 hE he h (by omega)]
    simp only [Option.bind_some]
    rw [round13 h, w64s hk (by omega)]
  · unfold fn_ref13_Dist_l3
    dsimp only
    rw [dge (Nat.lt_irrefl _), cond_false]
theorem refDist_not {N : Nat} {E : ArG} {v : Int} (hN : N ≤ 1000) (hv : v < 0 ∨ (N : Int) ≤ v) : fn_ref13_Dist (N : Int) (ai E) v = some (dl N fun _ => none) := by
  unfold fn_ref13_Dist
  rw [refDist0 (v := v) hN]
  simp only [Option.bind_some]
  have : (decide (v < 0) || decide ((N : Int) ≤ v)) = true := by simp; omega
  rw [this, cond_true]
theorem refBack_ok {N : Nat} {E : ArG} {d β : Nat → Option Nat} (hE : inN N E) (he : E.length ≤ 10000) (hd : ∀ w k, d w = some k → k ≤ 1000) (yes : ∀ w i : Nat, β w = some i → Lead E d i w) (low : ∀ w i : Nat, Lead E d i w → ∃ j, β w = some j ∧ j ≤ i) {w : Nat} (hw : w < N) :
    fn_ref13_Back (ai E) (dl N d) (w : Int) = some (dN (β w)) := by
  unfold fn_ref13_Back
  have hl := loop_find (body := fn_ref13_Back_l1 (ai E) (dl N d) (w : Int)) (fun i => Lead E d i w) (fun i : Nat => (i : Int)) E.length (fun i => (.inr (i : Int) : Unit ⊕ Int)) (.inl ()) ?_ ?_ ?_
  · rcases hl with ⟨k, h1, h2, h3, h4⟩ | ⟨h1, h2⟩
    · have h4' : loop (fn_ref13_Back_l1 (ai E) (dl N d) (w : Int)) 0 = _ := h4
      rw [h4']
      simp only [Option.bind_some]
      obtain ⟨j, e1, e2⟩ := low w k h2
      have : ¬ j < k := fun hlt => h3 j hlt (yes w j e1)
      obtain rfl : j = k := by omega
      rw [e1]; rfl
    · have h2' : loop (fn_ref13_Back_l1 (ai E) (dl N d) (w : Int)) 0 = _ := h2
      rw [h2']
      simp only [Option.bind_some]
      cases e : β w with
      | none => rfl
      | some j => exact absurd (yes w j e) (h1 j (yes w j e).1)
  · intro i hi hp
    have ha := (hE _ (List.getElem_mem hi)).1
    unfold fn_ref13_Back_l1
    rw [ai_len, dlt hi, cond_true, getI_ai hi]
    simp only [Option.bind_some]
    rw [w64s hi (by omega), dl_get hw, dl_get ha]
    simp only [Option.bind_some]
    by_cases c : E[i].2 = w
    · rw [show decide (((E[i].2 : Nat) : Int) = (w : Int)) = true from decide_eq_true (by rw [c]), cond_true]
      cases e : d w with
      | none => rfl
      | some k =>
        cases k with
        | zero => rfl
        | succ k =>
          rw [show decide ((0 : Int) < dN (some (k + 1))) = true from decide_eq_true (by show (0 : Int) < ((k + 1 : Nat) : Int); omega), cond_true, show dN (some (k + 1)) = ((k + 1 : Nat) : Int) from rfl, w64 (by have := hd _ _ e; omega) (by have := hd _ _ e; omega)]
          rw [show decide (dN (d E[i].1) = ((k + 1 : Nat) : Int) - 1) = false from decide_eq_false (fun hh => hp ⟨hi, k, c, dN_eq.1 (by rw [hh]; omega), e⟩), cond_false]
    · rw [show decide (((E[i].2 : Nat) : Int) = (w : Int)) = false from decide_eq_false (by omega), cond_false]
  · rintro i hi ⟨_, k, c, e1, e⟩
    have ha := (hE _ (List.getElem_mem hi)).1
    unfold fn_ref13_Back_l1
    rw [ai_len, dlt hi, cond_true, getI_ai hi]
    simp only [Option.bind_some]
    rw [dl_get hw, dl_get ha, show decide (((E[i].2 : Nat) : Int) = (w : Int)) = true from decide_eq_true (by rw [c]), cond_true]
    simp only [Option.bind_some]
    rw [e, e1, show decide ((0 : Int) < dN (some (k + 1))) = true from decide_eq_true (by show (0 : Int) < ((k + 1 : Nat) : Int); omega), cond_true, show dN (some (k + 1)) = ((k + 1 : Nat) : Int) from rfl, w64 (by have := hd _ _ e; omega) (by have := hd _ _ e; omega)]
    rw [show decide (dN (some k) = ((k + 1 : Nat) : Int) - 1) = true from decide_eq_true (by show (k : Int) = _; omega), cond_true]
  · unfold fn_ref13_Back_l1
    rw [ai_len, dge (Nat.lt_irrefl _), cond_false]
end Go.Proofs.Ythoclljhjcfemaa
namespace Go.Proofs.Ythoclljhjcfemaa
open Go.RowKit
set_option linter.unusedVariables false
set_option linter.unusedSimpArgs false
set_option linter.unnecessarySimpa false
/-- Where arcs lead, one behind the other. -/
def goW (E : ArG) : Int → List Int → Option Int
  | x, [] => some x
  | x, i :: l => if h : (0 ≤ i ∧ i < (E.length : Int)) ∧ ((E.getD i.toNat (0, 0)).1 : Int) = x then goW E ((E.getD i.toNat (0, 0)).2 : Int) l else none
theorem goW_cons {E : ArG} {x i : Int} {l : List Int} : goW E x (i :: l) = if h : (0 ≤ i ∧ i < (E.length : Int)) ∧ ((E.getD i.toNat (0, 0)).1 : Int) = x then goW E ((E.getD i.toNat (0, 0)).2 : Int) l else none := rfl
theorem goW_nil {E : ArG} {x : Int} : goW E x [] = some x := rfl
theorem goW_app {E : ArG} : ∀ {a b : List Int} {x : Int}, goW E x (a ++ b) = (goW E x a).bind fun y => goW E y b
  | [], b, x => rfl
  | i :: a, b, x => by
    show goW E x (i :: (a ++ b)) = _
    rw [goW_cons, goW_cons]
    split
    · exact goW_app
    · rfl
theorem goW_one {E : ArG} {j : Nat} (hj : j < E.length) {x : Nat} (hx : E[j].1 = x) : goW E (x : Int) [(j : Int)] = some (E[j].2 : Int) := by
  rw [goW_cons, dif_pos ⟨⟨by omega, by omega⟩, by simp [hj, hx]⟩, goW_nil]
  simp [hj]
/-- The walk that is told: by the arcs that lead. -/
def sw (E : ArG) (β : Nat → Option Nat) : Nat → Nat → List Nat
  | 0, _ => []
  | k + 1, w => match β w with
    | some j => sw E β k (E.getD j (0, 0)).1 ++ [j]
    | none => []
theorem sw_succ {N : Nat} {E : ArG} {v : Nat} {L : List Nat} {d : Nat → Option Nat} {m : Nat} {β : Nat → Option Nat} (h : Bend N E v L d m β) {x k : Nat} (hx : d x = some (k + 1)) :
    ∃ (j : Nat) (hj : j < E.length), β x = some j ∧ E[j].2 = x ∧ d E[j].1 = some k ∧ sw E β (k + 1) x = sw E β k E[j].1 ++ [j] := by
  obtain ⟨j, hj, h1, h2, h3⟩ := h.back hx
  refine ⟨j, hj, h1, h2, h3, ?_⟩
  rw [show sw E β (k + 1) x = match β x with | some j => sw E β k (E.getD j (0, 0)).1 ++ [j] | none => [] from rfl, h1]
  simp [hj]
theorem li_app (A B : List Nat) : li (A ++ B) = li A ++ li B := by simp [li]
theorem zero_only {N : Nat} {E : ArG} {v : Nat} {L : List Nat} {d : Nat → Option Nat} {m : Nat} {β : Nat → Option Nat} (h : Bend N E v L d m β) {x : Nat} (hx : d x = some 0) : x = v := by
  have := ((h.b.far x 0).1 hx).1
  cases this; rfl
theorem sw_ok {N : Nat} {E : ArG} {v : Nat} {L : List Nat} {d : Nat → Option Nat} {m : Nat} {β : Nat → Option Nat} (h : Bend N E v L d m β) : ∀ {k x : Nat}, d x = some k → goW E (v : Int) (li (sw E β k x)) = some (x : Int) ∧ (sw E β k x).length = k
  | 0, x, hx => by obtain rfl := zero_only h hx; exact ⟨rfl, rfl⟩
  | k + 1, x, hx => by
    obtain ⟨j, hj, h1, h2, h3, h4⟩ := sw_succ h hx
    obtain ⟨g1, g2⟩ := sw_ok h h3
    rw [h4]
    refine ⟨?_, by rw [List.length_append, g2]; rfl⟩
    rw [li_app, goW_app, g1]
    show goW E _ [(j : Int)] = _
    rw [goW_one hj rfl, h2]
/-- All walks of so many arcs. -/
def eW (E : ArG) (v : Nat) (M : List Nat) : Nat := match M.getLast? with | some i => (E.getD i (0, 0)).2 | none => v
def wks (E : ArG) (v : Nat) : Nat → List (List Nat)
  | 0 => [[]]
  | k + 1 => (wks E v k).flatMap fun M => (occ (E.map (·.1)) (eW E v M)).map fun i => M ++ [i]
theorem eW_snoc (E : ArG) (v : Nat) (M : List Nat) (i : Nat) : eW E v (M ++ [i]) = (E.getD i (0, 0)).2 := by unfold eW; rw [List.getLast?_concat]
theorem wks_mem {E : ArG} {v : Nat} : ∀ {k : Nat} {M : List Nat}, M ∈ wks E v k ↔ M.length = k ∧ goW E (v : Int) (li M) = some (eW E v M : Int)
  | 0, M => by
    unfold wks
    constructor
    · intro h; simp at h; subst h; exact ⟨rfl, rfl⟩
    · rintro ⟨h, _⟩; simp [List.length_eq_zero_iff.1 h]
  | k + 1, M => by
    unfold wks
    rw [List.mem_flatMap]
    constructor
    · rintro ⟨A, hA, hM⟩
      obtain ⟨h1, h2⟩ := wks_mem.1 hA
      rw [List.mem_map] at hM
      obtain ⟨i, hi, rfl⟩ := hM
      obtain ⟨hl, he⟩ := occ_arc hi
      refine ⟨by rw [List.length_append, h1]; rfl, ?_⟩
      rw [li_app, goW_app, h2]
      show goW E _ [(i : Int)] = _
      rw [goW_one hl he, eW_snoc]
      simp [hl]
    · rintro ⟨h1, h2⟩
      have hne : M ≠ [] := fun e => by subst e; cases h1
      have hM := List.dropLast_concat_getLast hne
      obtain ⟨A, i, rfl⟩ : ∃ A i, M = A ++ [i] := ⟨_, _, hM.symm⟩
      rw [li_app, goW_app] at h2
      cases hg : goW E (v : Int) (li A) with
      | none => rw [hg] at h2; cases h2
      | some y =>
        rw [hg] at h2
        have h3 : goW E y [(i : Int)] = some (eW E v (A ++ [i]) : Int) := h2
        rw [goW_cons] at h3
        split at h3
        · rename_i hc
          have hi : i < E.length := by omega
          have hy : y = ((E[i].1 : Nat) : Int) := by rw [← hc.2]; simp [hi]
          have hAk : A.length = k := by rw [List.length_append] at h1; simpa using h1
          have hyA : y = (eW E v A : Int) := by
            rcases List.eq_nil_or_concat A with rfl | ⟨B, q, rfl⟩
            · cases hg; rfl
            · rw [List.concat_eq_append, li_app, goW_app] at hg
              cases hq : goW E (v : Int) (li B) with
              | none => rw [hq] at hg; cases hg
              | some z =>
                rw [hq] at hg
                have hg2 : goW E z [(q : Int)] = some y := hg
                rw [goW_cons] at hg2
                split at hg2
                · rw [goW_nil] at hg2
                  cases hg2
                  rw [List.concat_eq_append, eW_snoc]
                  simp
                · cases hg2
          refine ⟨A, wks_mem.2 ⟨hAk, by rw [hg, hyA]⟩, ?_⟩
          rw [List.mem_map]
          refine ⟨i, ?_, rfl⟩
          rw [occ_mem]
          refine ⟨by rw [List.length_map]; exact hi, ?_⟩
          rw [List.getElem_map]
          omega
        · cases h3
theorem eW_of {E : ArG} {v x : Nat} {M : List Nat} (h : goW E (v : Int) (li M) = some (x : Int)) : eW E v M = x := by
  rcases List.eq_nil_or_concat M with rfl | ⟨B, q, rfl⟩
  · have h1 : (some (v : Int) : Option Int) = some (x : Int) := h
    have h2 := Option.some.inj h1
    show v = x
    omega
  · rw [List.concat_eq_append, li_app, goW_app] at h
    cases hq : goW E (v : Int) (li B) with
    | none => rw [hq] at h; cases h
    | some z =>
      rw [hq] at h
      have hg2 : goW E z [(q : Int)] = some (x : Int) := h
      rw [goW_cons] at hg2
      split at hg2
      · rw [goW_nil] at hg2
        have := Option.some.inj hg2
        rw [List.concat_eq_append, eW_snoc]
        simp at this ⊢
        omega
      · cases hg2
theorem wks_wk {E : ArG} {v : Nat} : ∀ {k : Nat} {M : List Nat}, M ∈ wks E v k → Wk E v k (eW E v M)
  | 0, M, h => by unfold wks at h; simp at h; subst h; exact .zero
  | k + 1, M, h => by
    unfold wks at h
    rw [List.mem_flatMap] at h
    obtain ⟨A, hA, hM⟩ := h
    rw [List.mem_map] at hM
    obtain ⟨i, hi, rfl⟩ := hM
    obtain ⟨hl, he⟩ := occ_arc hi
    rw [eW_snoc]
    refine (wks_wk hA).step ?_
    rw [← he]
    have : E.getD i (0, 0) = E[i] := by simp [hl]
    rw [this]
    exact List.getElem_mem hl
theorem wks_sw {N : Nat} {E : ArG} {v : Nat} {L : List Nat} {d : Nat → Option Nat} {m : Nat} {β : Nat → Option Nat} (h : Bend N E v L d m β) {k x : Nat} (hx : d x = some k) : sw E β k x ∈ wks E v k ∧ eW E v (sw E β k x) = x := by
  obtain ⟨h1, h2⟩ := sw_ok h hx
  have := eW_of h1
  exact ⟨wks_mem.2 ⟨h2, by rw [h1, this]⟩, this⟩
theorem wks_len {E : ArG} {v : Nat} : ∀ k, (wks E v k).length ≤ E.length ^ k
  | 0 => Nat.le_refl _
  | k + 1 => by
    unfold wks
    rw [List.length_flatMap]
    have h1 := wks_len (E := E) (v := v) k
    have : ∀ A : List (List Nat), ((A.map fun M => ((occ (E.map (·.1)) (eW E v M)).map fun i => M ++ [i]).length)).sum ≤ A.length * E.length := by
      intro A
      induction A with
      | nil => simp
      | cons a A ih =>
        rw [List.map_cons, List.sum_cons, List.length_cons, Nat.succ_mul, List.length_map]
        have := occ_bound (E.map (·.1)) (eW E v a)
        rw [List.length_map] at this
        omega
    have h2 := this (wks E v k)
    rw [Nat.pow_succ]
    exact Nat.le_trans h2 (Nat.mul_le_mul_right _ h1)
/-- How many walks of so many arcs end there. -/
def nw (E : ArG) (v k w : Nat) : Nat := (wks E v k).countP fun M => decide (eW E v M = w)
theorem filter_cnt {E : ArG} (x w : Nat) : (occ (E.map (·.1)) x).countP (fun i => decide ((E.getD i (0, 0)).2 = w)) = (nxt E x).count w := by
  unfold nxt
  rw [List.count_eq_countP, List.countP_map]
  congr 1
theorem nw_succ (E : ArG) (v k w : Nat) : nw E v (k + 1) w = ((wks E v k).map fun M => (nxt E (eW E v M)).count w).sum := by
  unfold nw
  rw [show wks E v (k + 1) = (wks E v k).flatMap fun M => (occ (E.map (·.1)) (eW E v M)).map fun i => M ++ [i] from rfl, List.countP_flatMap]
  congr 1
  apply List.map_congr_left
  intro M hM
  show List.countP _ (List.map _ _) = _
  rw [List.countP_map, ← filter_cnt]
  congr 1
  funext i
  show decide (eW E v (M ++ [i]) = w) = _
  rw [eW_snoc]
theorem sum_pick {A : List Nat} (hA : A.Nodup) (c : Nat → Nat) (x : Nat) : (A.map fun a => c a * if x = a then 1 else 0).sum = if x ∈ A then c x else 0 := by
  induction A with
  | nil => rfl
  | cons y A ih =>
    rw [List.nodup_cons] at hA
    rw [List.map_cons, List.sum_cons, ih hA.2]
    by_cases e : x = y
    · subst e; rw [if_pos rfl, if_neg hA.1, if_pos (by simp)]; omega
    · rw [if_neg e]
      by_cases g : x ∈ A
      · rw [if_pos g, if_pos (List.mem_cons_of_mem _ g)]; omega
      · rw [if_neg g, if_neg (by simp [e, g]), Nat.mul_zero]
theorem zeros : ∀ A : List Nat, (A.map fun _ => 0).sum = 0
  | [] => rfl
  | y :: A => by rw [List.map_cons, List.sum_cons, zeros A]
/-- Walks grouped by where they end. -/
theorem group_sum {A : List Nat} (hA : A.Nodup) (c : Nat → Nat) (f : List Nat → Nat) : ∀ {W : List (List Nat)}, (∀ M ∈ W, c (f M) ≠ 0 → f M ∈ A) → (A.map fun a => c a * W.countP fun M => decide (f M = a)).sum = (W.map fun M => c (f M)).sum
  | [], _ => by
    simp only [List.countP_nil, Nat.mul_zero, List.map_nil, List.sum_nil]
    exact zeros A

  | M :: W, h => by
    have ih := group_sum hA c f (W := W) (fun M hM => h M (List.mem_cons_of_mem _ hM))
    rw [List.map_cons, List.sum_cons, ← ih]
    have e1 : (A.map fun a => c a * (M :: W).countP fun M => decide (f M = a)) = A.map fun a => (c a * if f M = a then 1 else 0) + c a * W.countP fun M => decide (f M = a) := by
      apply List.map_congr_left
      intro a _
      rw [List.countP_cons]
      by_cases e : f M = a <;> simp [e, Nat.mul_add, Nat.add_comm]
    have e2 : ∀ (A : List Nat) (p q : Nat → Nat), (A.map fun a => p a + q a).sum = (A.map p).sum + (A.map q).sum := by
      intro A p q
      induction A with
      | nil => rfl
      | cons y A ih => simp only [List.map_cons, List.sum_cons, ih]; omega
    rw [e1, e2, sum_pick hA]
    by_cases g : f M ∈ A
    · rw [if_pos g]
    · rw [if_neg g]
      have : c (f M) = 0 := by
        by_cases z : c (f M) = 0
        · exact z
        · exact absurd (h M (by simp) z) g
      omega
theorem nw_layer {N : Nat} {E : ArG} {v : Nat} {L : List Nat} {d : Nat → Option Nat} {m : Nat} {β : Nat → Option Nat} (hE : inN N E) (h : Bend N E v L d m β) {k w : Nat} (hw : d w = some (k + 1)) :
    (((List.range N).filter fun a => decide (d a = some k)).map fun a => (nxt E a).count w * nw E v k a).sum = nw E v (k + 1) w := by
  rw [nw_succ]
  unfold nw
  refine group_sum (List.nodup_range.filter _) (fun a => (nxt E a).count w) (eW E v) (fun M hM hc => ?_)
  have h1 : w ∈ nxt E (eW E v M) := List.count_pos_iff.1 (Nat.pos_of_ne_zero hc)
  have he := nxt_mem.1 h1
  have hwk := wks_wk hM
  rw [List.mem_filter, List.mem_range]
  refine ⟨(hE _ he).1, decide_eq_true ?_⟩
  cases hd : d (eW E v M) with
  | none => exact absurd hwk.rch ((h.b.far_not _).1 hd)
  | some j =>
    have h2 := ((h.b.far _ _).1 hd).2 _ hwk
    obtain ⟨i, h3, h4⟩ := h.closed he hd
    rw [hw] at h3; cases h3
    congr 1; omega
theorem nw_pos {N : Nat} {E : ArG} {v : Nat} {L : List Nat} {d : Nat → Option Nat} {m : Nat} {β : Nat → Option Nat} (h : Bend N E v L d m β) {k x : Nat} (hx : d x = some k) : 0 < nw E v k x := by
  obtain ⟨h1, h2⟩ := wks_sw h hx
  unfold nw
  rw [List.countP_pos_iff]
  exact ⟨_, h1, decide_eq_true h2⟩
/-- Which of two lists is less. -/
def lessR : List Int → List Int → Bool
  | [], [] => false
  | [], _ :: _ => true
  | _ :: _, [] => false
  | x :: xs, y :: ys => if x = y then lessR xs ys else decide (x < y)
theorem lessR_cc {x y : Int} {xs ys : List Int} : lessR (x :: xs) (y :: ys) = if x = y then lessR xs ys else decide (x < y) := rfl
theorem lessR_found : ∀ {k : Nat} {xs ys : List Int} (h1 : k < xs.length) (h2 : k < ys.length), (∀ j (hj : j < k), xs[j]'(by omega) = ys[j]'(by omega)) → xs[k] ≠ ys[k] → lessR xs ys = decide (xs[k] < ys[k])
  | 0, x :: xs, y :: ys, h1, h2, _, hn => by
    rw [lessR_cc]
    exact if_neg hn
  | k + 1, x :: xs, y :: ys, h1, h2, he, hn => by
    have e0 : x = y := he 0 (by omega)
    rw [lessR_cc, if_pos e0, lessR_found (k := k) (by simpa using h1) (by simpa using h2) (fun j hj => by simpa using he (j + 1) (by omega)) (by simpa using hn)]
    rfl
theorem lessR_none : ∀ {xs ys : List Int}, (∀ j (h1 : j < xs.length) (h2 : j < ys.length), xs[j] = ys[j]) → lessR xs ys = decide (xs.length < ys.length)
  | [], [], _ => rfl
  | [], y :: ys, _ => by unfold lessR; simp
  | x :: xs, [], _ => by unfold lessR; simp
  | x :: xs, y :: ys, h => by
    have e0 : x = y := h 0 (by simp) (by simp)
    rw [lessR_cc, if_pos e0, lessR_none (fun j h1 h2 => h (j + 1) (by simpa using h1) (by simpa using h2))]
    simp
theorem lessR_irr : ∀ xs : List Int, lessR xs xs = false
  | [] => rfl
  | x :: xs => by rw [lessR_cc, if_pos rfl, lessR_irr xs]
theorem lessR_asym : ∀ {xs ys : List Int}, lessR xs ys = true → lessR ys xs = false
  | [], [], h => by cases h
  | [], y :: ys, _ => rfl
  | x :: xs, [], h => by cases h
  | x :: xs, y :: ys, h => by
    rw [lessR_cc] at h ⊢
    by_cases e : x = y
    · rw [if_pos e] at h; rw [if_pos e.symm]; exact lessR_asym h
    · rw [if_neg e] at h; rw [if_neg (fun g => e g.symm)]
      have := of_decide_eq_true h
      exact decide_eq_false (by omega)
def lessW (a b : List Nat) : Bool := lessR (li a).reverse (li b).reverse
theorem lessW_snoc (a b : List Nat) (i j : Nat) : lessW (a ++ [i]) (b ++ [j]) = if i = j then lessW a b else decide (i < j) := by
  unfold lessW
  rw [li_app, li_app, List.reverse_append, List.reverse_append]
  show lessR ((i : Int) :: (li a).reverse) ((j : Int) :: (li b).reverse) = _
  rw [lessR_cc]
  by_cases e : i = j
  · subst e; rw [if_pos rfl, if_pos rfl]
  · rw [if_neg e, if_neg (by omega)]
    exact decide_eq_decide.2 (by omega)
/-- Of all shortest walks the one that is told is less than each other one. -/
theorem sw_least {N : Nat} {E : ArG} {v : Nat} {L : List Nat} {d : Nat → Option Nat} {m : Nat} {β : Nat → Option Nat} (h : Bend N E v L d m β) : ∀ {k x : Nat} {M : List Nat}, d x = some k → M ∈ wks E v k → eW E v M = x → M ≠ sw E β k x → lessW (sw E β k x) M = true
  | 0, x, M, hx, hM, he, hn => by
    unfold wks at hM; simp at hM
    exact absurd (by rw [hM]; rfl) hn
  | k + 1, x, M, hx, hM, he, hn => by
    obtain ⟨j, hj, h1, h2, h3, h4⟩ := sw_succ h hx
    rw [h4] at hn ⊢
    unfold wks at hM
    rw [List.mem_flatMap] at hM
    obtain ⟨A, hA, hM⟩ := hM
    rw [List.mem_map] at hM
    obtain ⟨i, hi, rfl⟩ := hM
    obtain ⟨hl, hAi⟩ := occ_arc hi
    rw [eW_snoc] at he
    have hgd : E.getD i (0, 0) = E[i] := by simp [hl]
    rw [hgd] at he
    have hda : d E[i].1 = some k := by
      have hwk := wks_wk hA
      rw [← hAi] at hwk
      cases hd : d E[i].1 with
      | none => exact absurd hwk.rch ((h.b.far_not _).1 hd)
      | some q =>
        have g2 := ((h.b.far _ _).1 hd).2 _ hwk
        obtain ⟨p, g3, g4⟩ := h.closed (a := E[i].1) (b := E[i].2) (List.getElem_mem hl) hd
        rw [he, hx] at g3; cases g3
        congr 1; omega
    obtain ⟨q, g1, g2⟩ := h.low x i ⟨hl, k, he, hda, hx⟩
    rw [h1] at g1; cases g1
    rw [lessW_snoc]
    by_cases e : j = i
    · subst e
      rw [if_pos rfl]
      refine sw_least h h3 hA hAi.symm (fun e2 => hn (by rw [e2]))
    · rw [if_neg e]; exact decide_eq_true (by omega)
end Go.Proofs.Ythoclljhjcfemaa
namespace Go.Proofs.Ythoclljhjcfemaa
open Go.RowKit
set_option linter.unusedVariables false
set_option linter.unusedSimpArgs false
set_option linter.unnecessarySimpa false
theorem l1_same : fn_bfs_From_kpip0_iiiiiii_l1 = fn_bfs_From_kpiz_l1 := rfl
theorem l3_same : fn_bfs_From_kpip0_iiiiiii_l3 = fn_bfs_From_kpiz_l3 := rfl
/-- What the first p have cost. -/
def cost (E : ArG) (L : List Nat) : Nat := (L.map fun x => 1 + (occ (E.map (·.1)) x).length).sum
theorem add_ok {c n : Nat} {a0 a1 a2 a3 a4 a5 : Int} (hc : c ≤ 1000000000) (hn : n ≤ 1000000000) : fn_tick_Counter_Add_p0c6i_iiiiiii (n : Int) a0 a1 a2 a3 a4 a5 (c : Int) = some ((c + n : Nat) : Int) := by
  unfold fn_tick_Counter_Add_p0c6i_iiiiiii fn_tick_isPart fn_tick_sum
  simp only [Option.bind_some]
  rw [show ((decide ((0 : Int) ≤ 6) && decide ((6 : Int) < 7)) && decide (0 ≤ (n : Int))) = true by simp, cond_true, w64 (x := 9223372036854775807 - (n : Int)) (by omega) (by omega), show decide (9223372036854775807 - (n : Int) < (c : Int)) = false from decide_eq_false (by omega), cond_false, w64 (by omega) (by omega)]
  rfl
theorem outer_step_c {N : Nat} {E : ArG} {v : Nat} {L : List Nat} {p : Nat} {d : Nat → Option Nat} {m : Nat} {β : Nat → Option Nat} {T : List Nat} {q : List Int} {f : Int} (hE : inN N E) (hn : N ≤ 1000) (he : E.length ≤ 10000) (s : Sr N E v L p d m β T q f p) (ht : told E L p T) (hp : p < L.length) {c : Nat} (hc : c ≤ 100000000) :
    ∃ L' d' m' β' T' q' f', fn_bfs_From_kpip0_iiiiiii_l2 (some (mkG N E)) 0 0 0 0 0 0 ((c : Int), dl N d, dl N β, ly m L d, q, f, ((L.length - p : Nat) : Int)) = some (.inl (((c + (1 + (occ (E.map (·.1)) L[p]).length) : Nat) : Int), dl N d', dl N β', ly m' L' d', q', f', ((L'.length - (p + 1) : Nat) : Int)))
      ∧ Sr N E v L' (p + 1) d' m' β' T' q' f' (p + 1) ∧ told E L' (p + 1) T' ∧ L <+: L' := by
  have hLN := s.b.len
  have ha : L[p]? = some L[p] := List.getElem?_eq_getElem hp
  have haL : L[p] ∈ L := List.getElem_mem hp
  have haN := s.b.lt _ haL
  obtain ⟨k, hk⟩ := Option.isSome_iff_exists.1 ((s.b.mem _).1 haL)
  have hr := s.r
  have hdrop : li (L.drop p) = ((L[p] : Nat) : Int) :: li (L.drop (p + 1)) := by rw [List.drop_eq_getElem_cons hp]; rfl
  rw [hdrop] at hr
  obtain ⟨q1, f1, e1, r1, l1⟩ := Pop_eq hr (by have := s.ql; omega)
  have hm1 : ((L.length - p : Nat) : Int) - 1 = ((L.length - (p + 1) : Nat) : Int) := by omega
  rw [hm1] at e1 r1
  have hOl : (occ (E.map (·.1)) L[p]).length ≤ 10000 := by have := occ_bound (E.map (·.1)) L[p]; rw [List.length_map] at this; omega
  obtain ⟨L2, d2, m2, β2, q2, f2, e2, s2, a2, k2, t2, pf⟩ := inner_from (v := v) (p := p) (k := k) hE hn he (O := occ (E.map (·.1)) L[p]) (fun i hi => occ_arc hi) hOl _ 0 L d m β T q1 f1 (Nat.zero_add _) ⟨s.b, s.l, s.k, r1, by rw [l1]; exact s.ql⟩ ha hk (fun i hi => by simp at hi)
  have hnext := s2.b.next a2 k2 (fun b hb => by
    obtain ⟨i, hi, e⟩ := List.mem_iff_getElem.1 hb
    have := t2 i (occ_mem.2 ⟨by rw [List.length_map]; exact hi, by simp [e]⟩) hi
    rw [e] at this; exact this)
  refine ⟨L2, d2, m2, β2, _, q2, f2, ?_, ⟨hnext, s2.l, s2.k, s2.r, s2.ql⟩, ?_, pf⟩
  · unfold fn_bfs_From_kpip0_iiiiiii_l2 fn_stack_Queue_int_Len_p0_rii
    simp only [Option.bind_some]
    rw [show decide ((0 : Int) < ((L.length - p : Nat) : Int)) = true by simp; omega, cond_true, e1]
    simp only [Option.bind_some]
    rw [Out_of (by omega) (by omega) haN]
    simp only [Option.bind_some]
    rw [l1_same, List.length_map, w64 (x := 1 + (((occ (E.map (·.1)) L[p]).length : Nat) : Int)) (by omega) (by omega), show (1 : Int) + (((occ (E.map (·.1)) L[p]).length : Nat) : Int) = ((1 + (occ (E.map (·.1)) L[p]).length : Nat) : Int) by omega, add_ok (by omega) (by omega)]
    simp only [Option.bind_some]
    have e2' : loop (fn_bfs_From_kpiz_l1 (some (mkG N E)) ((L[p] : Nat) : Int) ((occ (E.map (·.1)) L[p]).map (fun i : Nat => (i : Int)))) (0, dl N d, dl N β, ly m L d, q1, f1, ((L.length - (p + 1) : Nat) : Int)) = _ := e2
    rw [e2']
    rfl
  · intro i
    have hp2 : p < L2.length := (List.getElem?_eq_some_iff.1 a2).1
    have hLp : L2[p] = L[p] := by rw [List.getElem?_eq_getElem hp2] at a2; exact Option.some.inj a2
    have hpre : L2.take p = L.take p := by
      obtain ⟨M, rfl⟩ := pf
      rw [List.take_append_of_le_length (by omega)]
    rw [take_snoc hp2, hpre, hLp, List.drop_zero, List.mem_append, ht i, occ_mem]
    constructor
    · rintro (⟨h, h1⟩ | ⟨h, h1⟩)
      · exact ⟨h, List.mem_append_left _ h1⟩
      · rw [List.length_map] at h
        exact ⟨h, List.mem_append_right _ (by simp at h1; simp [h1])⟩
    · rintro ⟨h, h1⟩
      rcases List.mem_append.1 h1 with h1 | h1
      · exact .inl ⟨h, h1⟩
      · simp at h1
        exact .inr ⟨by rw [List.length_map]; exact h, by simp [h1]⟩
theorem sum_const (L : List Nat) (k : Nat) : (L.map fun _ => k).sum = L.length * k := by
  induction L with
  | nil => simp
  | cons y L ih => rw [List.map_cons, List.sum_cons, ih, List.length_cons, Nat.succ_mul, Nat.add_comm]
theorem cnt_cons (k : Nat) (ks : List Nat) (x : Nat) : cnt (k :: ks) x = cnt ks x + (if k = x then 1 else 0) := by
  unfold cnt
  rw [List.countP_cons]
  by_cases h : k = x <;> simp [h]
theorem sum_hit {L : List Nat} (k : Nat) (h : L.Nodup) : (L.map fun x => if k = x then 1 else 0).sum ≤ 1 := by
  induction L with
  | nil => simp
  | cons y L ih =>
    rw [List.nodup_cons] at h
    rw [List.map_cons, List.sum_cons]
    by_cases c : k = y
    · subst c
      have : (L.map fun x => if k = x then 1 else 0).sum = 0 := by
        rw [List.map_congr_left (g := fun _ => 0) (fun x hx => if_neg (fun e => h.1 (by rw [e]; exact hx))), sum_const, Nat.mul_zero]
      rw [this, if_pos rfl]; omega
    · rw [if_neg c]; have := ih h.2; omega
theorem sum_add {L : List Nat} (f g : Nat → Nat) : (L.map fun x => f x + g x).sum = (L.map f).sum + (L.map g).sum := by
  induction L with
  | nil => rfl
  | cons y L ih => simp only [List.map_cons, List.sum_cons, ih]; omega
theorem sum_cnt {L : List Nat} (h : L.Nodup) : ∀ ks : List Nat, (L.map fun x => cnt ks x).sum ≤ ks.length
  | [] => by
    have : (L.map fun x => cnt [] x) = L.map fun _ => 0 := rfl
    rw [this, sum_const]; omega
  | k :: ks => by
    have h1 := sum_cnt h ks
    have h2 := sum_hit k h
    simp only [cnt_cons]
    rw [sum_add (fun x => cnt ks x) (fun x => if k = x then 1 else 0), List.length_cons]
    omega
theorem cost_le (E : ArG) {L : List Nat} (h : L.Nodup) : cost E L ≤ L.length + E.length := by
  have h1 := sum_cnt h (E.map (·.1))
  unfold cost
  rw [sum_add (fun _ => 1) (fun x => (occ (E.map (·.1)) x).length)]
  simp only [occ_len]
  rw [List.length_map] at h1
  have h2 : (L.map fun _ => 1).sum = L.length := by rw [sum_const, Nat.mul_one]
  omega
theorem outer_loop_c {N : Nat} {E : ArG} {v c0 : Nat} (hE : inN N E) (hn : N ≤ 1000) (he : E.length ≤ 10000) (hc0 : c0 ≤ 10000000) : ∀ (r p : Nat) (L : List Nat) (d : Nat → Option Nat) (m : Nat) (β : Nat → Option Nat) (T : List Nat) (q : List Int) (f : Int) (c : Nat), N ≤ p + r → Sr N E v L p d m β T q f p → told E L p T → c = c0 + cost E (L.take p) →
    ∃ L' d' m' β', loop (fn_bfs_From_kpip0_iiiiiii_l2 (some (mkG N E)) 0 0 0 0 0 0) ((c : Int), dl N d, dl N β, ly m L d, q, f, ((L.length - p : Nat) : Int)) = some (((c0 + cost E L' : Nat) : Int), dl N d', dl N β', ly m' L' d') ∧ Bend N E v L' d' m' β' := by
  have fin : ∀ (p : Nat) (L : List Nat) (d : Nat → Option Nat) (m : Nat) (β : Nat → Option Nat) (T : List Nat) (q : List Int) (f : Int) (c : Nat), Sr N E v L p d m β T q f p → told E L p T → c = c0 + cost E (L.take p) → ¬ p < L.length →
      ∃ L' d' m' β', loop (fn_bfs_From_kpip0_iiiiiii_l2 (some (mkG N E)) 0 0 0 0 0 0) ((c : Int), dl N d, dl N β, ly m L d, q, f, ((L.length - p : Nat) : Int)) = some (((c0 + cost E L' : Nat) : Int), dl N d', dl N β', ly m' L' d') ∧ Bend N E v L' d' m' β' := by
    intro p L d m β T q f c s ht hc hp
    obtain rfl : p = L.length := by have := s.b.pl; omega
    refine ⟨L, d, m, β, ?_, s.b, s.l, fun w i h => (s.k.yes w i h).2, fun w i h => s.k.low w i ?_ h⟩
    · apply loop_end
      unfold fn_bfs_From_kpip0_iiiiiii_l2 fn_stack_Queue_int_Len_p0_rii
      simp only [Option.bind_some]
      rw [Nat.sub_self, hc, List.take_length]
      rfl
    · obtain ⟨hi, k, _, e2, _⟩ := h
      refine (ht i).2 ⟨hi, ?_⟩
      rw [List.take_length]
      exact (s.b.mem _).2 (by rw [e2]; rfl)
  intro r
  induction r with
  | zero =>
    intro p L d m β T q f c hr s ht hc
    exact fin p L d m β T q f c s ht hc (by have := s.b.len; omega)
  | succ r ih =>
    intro p L d m β T q f c hr s ht hc
    by_cases hp : p < L.length
    · have hb : cost E (L.take p) ≤ 20000 := by
        have h1 := cost_le E (s.b.nd.sublist (List.take_sublist p L))
        have h2 := s.b.len
        rw [List.length_take] at h1
        omega
      obtain ⟨L1, d1, m1, β1, T1, q1, f1, e1, s1, t1, pf⟩ := outer_step_c hE hn he s ht hp (c := c) (by omega)
      have hc1 : c + (1 + (occ (E.map (·.1)) L[p]).length) = c0 + cost E (L1.take (p + 1)) := by
        obtain ⟨M, rfl⟩ := pf
        rw [List.take_append_of_le_length (by omega), take_snoc hp, hc]
        unfold cost
        rw [List.map_append, List.sum_append, List.map_cons, List.map_nil, List.sum_cons, List.sum_nil, Nat.add_zero, Nat.add_assoc]
      obtain ⟨L2, d2, m2, β2, e2, b2⟩ := ih (p + 1) L1 d1 m1 β1 T1 q1 f1 _ (by omega) s1 t1 hc1
      exact ⟨L2, d2, m2, β2, by rw [loop_next e1]; exact e2, b2⟩
    · exact fin p L d m β T q f c s ht hc hp
theorem From_c_any {N : Nat} {E : ArG} {v c0 : Nat} (hE : inN N E) (hn : N ≤ 16) (he : E.length ≤ 10000) (hv : v < N) (hc0 : c0 ≤ 10000000) : ∃ L d m β, fn_bfs_From_kpip0_iiiiiii (some (mkG N E)) (v : Int) 0 0 0 0 0 0 (c0 : Int) = some (some (dl N d, dl N β, lyS N m d), ((c0 + cost E L : Nat) : Int)) ∧ Bend N E v L d m β := by
  obtain ⟨L, d, m, β, e, b⟩ := outer_loop_c (v := v) (c0 := c0) hE (by omega) he hc0 N 0 [v] (fun w => if w = v then some 0 else none) 1 (fun _ => none) [] [(v : Int)] 0 c0 (by omega) ⟨Bfs.start hv, Lm.start v, Bck.start E _, RQ.one _, by simp⟩ (fun i => by simp) rfl
  refine ⟨L, d, m, β, ?_, b⟩
  unfold fn_bfs_From_kpip0_iiiiiii
  rw [Nodes_eq]
  simp only [Option.bind_some]
  rw [Repeat_eq hn, rep_dl]
  simp only [Option.bind_some]
  rw [show decide (0 ≤ (v : Int)) = true by simp, cond_true, Option.bind_some, show decide ((v : Int) < (N : Int)) = true by simp; omega, cond_true, start_ok hv]
  simp only [Option.bind_some]
  rw [Push_first]
  simp only [Option.bind_some]
  have e' : loop (fn_bfs_From_kpip0_iiiiiii_l2 (some (mkG N E)) 0 0 0 0 0 0) ((c0 : Int), dl N (fun w => if w = v then some 0 else none), dl N (fun _ => none), ly 1 [v] (fun w => if w = v then some 0 else none), [(v : Int)], 0, 1) = _ := e
  rw [e']
  simp only [Option.bind_some]
  rw [l3_same, sort_loop b (by omega)]
  rfl
theorem From_c_ok {N : Nat} {E : ArG} {v : Nat} (hE : inN N E) (hn : N ≤ 16) (he : E.length ≤ 10000) (hv : v < N) : ∃ L d m β, fn_bfs_From_kpip0_iiiiiii (some (mkG N E)) (v : Int) 0 0 0 0 0 0 0 = some (some (dl N d, dl N β, lyS N m d), ((cost E L : Nat) : Int)) ∧ Bend N E v L d m β := by
  obtain ⟨L, d, m, β, e, b⟩ := From_c_any (c0 := 0) hE hn he hv (by omega)
  rw [Nat.zero_add] at e
  exact ⟨L, d, m, β, e, b⟩
theorem From_c_not {N : Nat} {E : ArG} {v c : Int} (hn : N ≤ 16) (hv : v < 0 ∨ (N : Int) ≤ v) : fn_bfs_From_kpip0_iiiiiii (some (mkG N E)) v 0 0 0 0 0 0 c = some (some (dl N (fun _ => none), dl N (fun _ => none), []), c) := by
  unfold fn_bfs_From_kpip0_iiiiiii
  rw [Nodes_eq]
  simp only [Option.bind_some]
  rw [Repeat_eq hn, rep_dl]
  simp only [Option.bind_some]
  have hc : (cond (decide (0 ≤ v)) (some (decide (v < (N : Int)))) (some false) : Option Bool) = some false := by
    rcases hv with h | h
    · rw [show decide (0 ≤ v) = false by simp; omega]; rfl
    · rw [show decide (v < (N : Int)) = false by simp; omega]; cases decide (0 ≤ v) <;> rfl
  rw [hc]
  simp only [Option.bind_some, cond_false]
  rw [loop_end (b := (c, dl N (fun _ => none), dl N (fun _ => none), [])) rfl]
  simp only [Option.bind_some]
  rw [loop_end (b := []) rfl]
  rfl
theorem From_c_none (v c : Int) : fn_bfs_From_kpip0_iiiiiii none v 0 0 0 0 0 0 c = some (some ([], [], []), c) := by
  unfold fn_bfs_From_kpip0_iiiiiii
  rw [Nodes_none]
  simp only [Option.bind_some]
  rw [show fn_slices_Repeat_int_int [-1] 0 = some [] from Repeat_eq (n := 0) (by omega)]
  simp only [Option.bind_some]
  have hc : (cond (decide (0 ≤ v)) (some (decide (v < 0))) (some false) : Option Bool) = some false := by
    by_cases h : 0 ≤ v
    · rw [show decide (v < 0) = false by simp; omega]; cases decide (0 ≤ v) <;> rfl
    · rw [show decide (0 ≤ v) = false by simp; omega]; rfl
  rw [hc]
  simp only [Option.bind_some, cond_false]
  rw [loop_end (b := (c, [], [], [])) rfl]
  simp only [Option.bind_some]
  rw [loop_end (b := []) rfl]
  rfl
theorem total_ok {c : Nat} (hc : c ≤ 1000000000) : fn_tick_Counter_Total_p0_iiiiiii 0 0 0 0 0 0 (c : Int) = some (c : Int) := by
  have e1 : fn_tick_sum 0 0 = some 0 := rfl
  have e2 : fn_tick_sum 0 (c : Int) = some (c : Int) := by
    unfold fn_tick_sum
    rw [w64 (by omega) (by omega), decide_eq_false (by omega), cond_false, w64 (by omega) (by omega), Int.zero_add]
  have o0 : ∀ a, fn_tick_Counter_Of_p0c0_iiiiiii 0 0 0 0 0 0 a = some 0 := fun a => rfl
  have o1 : ∀ a, fn_tick_Counter_Of_p0c1_iiiiiii 0 0 0 0 0 0 a = some 0 := fun a => rfl
  have o2 : ∀ a, fn_tick_Counter_Of_p0c2_iiiiiii 0 0 0 0 0 0 a = some 0 := fun a => rfl
  have o3 : ∀ a, fn_tick_Counter_Of_p0c3_iiiiiii 0 0 0 0 0 0 a = some 0 := fun a => rfl
  have o4 : ∀ a, fn_tick_Counter_Of_p0c4_iiiiiii 0 0 0 0 0 0 a = some 0 := fun a => rfl
  have o5 : ∀ a, fn_tick_Counter_Of_p0c5_iiiiiii 0 0 0 0 0 0 a = some 0 := fun a => rfl
  have o6 : ∀ a, fn_tick_Counter_Of_p0c6_iiiiiii 0 0 0 0 0 0 a = some a := fun a => rfl
  unfold fn_tick_Counter_Total_p0_iiiiiii
  simp only [o0, o1, o2, o3, o4, o5, o6, Option.bind_some, e1, e2]
end Go.Proofs.Ythoclljhjcfemaa
namespace Go.Proofs.Ythoclljhjcfemaa
open Go.RowKit
set_option linter.unusedVariables false
set_option linter.unusedSimpArgs false
set_option linter.unnecessarySimpa false
theorem rep_set {k : Nat} {S : List Int} {x : Int} : (List.replicate (k + 1) (0 : Int) ++ S).set k x = List.replicate k 0 ++ x :: S := by
  rw [List.replicate_succ', List.append_assoc, List.set_append_right (h := by simp)]
  simp
theorem rep_get {k : Nat} {S : List Int} {x : Int} : getI (List.replicate k (0 : Int) ++ x :: S) (k : Int) = some x := by
  rw [getN (by simp)]
  simp
theorem rep_get0 {k : Nat} {S : List Int} : getI (List.replicate (k + 1) (0 : Int) ++ S) (k : Int) = some 0 := by
  rw [getN (by simp; omega)]
  rw [List.getElem_append_left (by simp)]
  simp
theorem Arc_at {N : Nat} {E : ArG} {j : Nat} (hj : j < E.length) : fn_graph_Graph_Arc (some (mkG N E)) (j : Int) = some ((E[j].1 : Int), (E[j].2 : Int), true) := by
  rw [Arc_of, dif_pos ⟨by omega, by omega⟩]
  simp
theorem Short_loop {N : Nat} {E : ArG} {v : Nat} {L : List Nat} {d : Nat → Option Nat} {m : Nat} {β : Nat → Option Nat} {ls : List (List Int)} (hE : inN N E) (h : Bend N E v L d m β) : ∀ {k x : Nat} {S : List Int}, d x = some k → k ≤ 1000 →
    loop (fn_path_Short_kpiiz_l1 (some (mkG N E)) (some (dl N d, dl N β, ls))) ((x : Int), List.replicate k 0 ++ S, (k : Int) - 1) = some (li (sw E β k x) ++ S)
  | 0, x, S, hx, _ => by
    apply loop_end
    unfold fn_path_Short_kpiiz_l1
    rfl
  | k + 1, x, S, hx, hk => by
    obtain ⟨j, hj, h1, h2, h3, h4⟩ := sw_succ h hx
    have hxN := h.b.lt x ((h.b.mem x).2 (by rw [hx]; rfl))
    have ih := Short_loop (S := (j : Int) :: S) (ls := ls) hE h h3 (by omega)
    have e : fn_path_Short_kpiiz_l1 (some (mkG N E)) (some (dl N d, dl N β, ls)) ((x : Int), List.replicate (k + 1) 0 ++ S, ((k + 1 : Nat) : Int) - 1) = some (.inl ((E[j].1 : Int), List.replicate k 0 ++ (j : Int) :: S, (k : Int) - 1)) := by
      rw [show ((k + 1 : Nat) : Int) - 1 = (k : Int) by omega]
      unfold fn_path_Short_kpiiz_l1
      dsimp only
      rw [decide_eq_true (p := (0 : Int) ≤ (k : Int)) (by omega), cond_true, Back_of hxN, h1]
      simp only [Option.bind_some]
      rw [rep_get0]
      simp only [Option.bind_some, Int.toNat_natCast]
      rw [show dN (some j) = (j : Int) from rfl, rep_set, rep_get]
      simp only [Option.bind_some]
      rw [Arc_at hj]
      simp only [Option.bind_some]
      rw [w64 (by omega) (by omega)]
    rw [loop_next e, ih, h4, li_app, List.append_assoc]
    rfl
theorem short_l1_same : fn_path_Short_kpiip0_iiiiiii_l1 = fn_path_Short_kpiiz_l1 := rfl
theorem Short_ok {N : Nat} {E : ArG} {v : Nat} {L : List Nat} {d : Nat → Option Nat} {m : Nat} {β : Nat → Option Nat} {ls : List (List Int)} (hE : inN N E) (hN : N ≤ 1000) (h : Bend N E v L d m β) (e : fn_bfs_From_kpiz (some (mkG N E)) (v : Int) = some (some (dl N d, dl N β, ls))) {x k : Nat} (hx : d x = some k) :
    fn_path_Short_kpiiz (some (mkG N E)) (v : Int) (x : Int) = some (li (sw E β k x), true) := by
  have hxN := h.b.lt x ((h.b.mem x).2 (by rw [hx]; rfl))
  have hk := h.lt hx
  unfold fn_path_Short_kpiiz
  rw [e]
  simp only [Option.bind_some]
  rw [Dist_of hxN, hx]
  simp only [Option.bind_some]
  rw [show dN (some k) = (k : Int) from rfl, decide_eq_false (p := (k : Int) < 0) (by omega), cond_false, mkN (by omega)]
  simp only [Option.bind_some]
  rw [List.length_replicate, w64 (by omega) (by omega)]
  have := Short_loop (S := []) (ls := ls) hE h hx (by omega)
  rw [List.append_nil, List.append_nil] at this
  rw [this]
  rfl
theorem Short_not {g : Option Gr} {v x : Int} {t : Option (List Int × List Int × List (List Int))} (e : fn_bfs_From_kpiz g v = some t) (hd : fn_bfs_Tree_Dist t x = some (-1)) : fn_path_Short_kpiiz g v x = some ([], false) := by
  unfold fn_path_Short_kpiiz
  rw [e]
  simp only [Option.bind_some]
  rw [hd]
  rfl
theorem pWalk_ok {N : Nat} {E : ArG} {x : Int} {l : List Int} (hl : l.length ≤ 1000) (he : E.length ≤ 10000) : fn_path_Walk (some (mkG N E)) x l = some (if 0 ≤ x ∧ x < (N : Int) then (match goW E x l with | some y => (y, true) | none => (0, false)) else (0, false)) := by
  unfold fn_path_Walk
  rw [Nodes_eq]
  simp only [Option.bind_some]
  by_cases h0 : x < 0
  · rw [decide_eq_true h0, if_neg (by omega)]; rfl
  rw [decide_eq_false h0]
  simp only [cond_false, Option.bind_some]
  by_cases h1 : (N : Int) ≤ x
  · rw [decide_eq_true h1, if_neg (by omega)]; rfl
  rw [decide_eq_false h1, if_pos (by omega), cond_false]
  have key : ∀ (r i : Nat) (x : Int), i + r = l.length → loop (fn_path_Walk_l1 (some (mkG N E)) l) (x, (i : Int)) = some (match goW E x (l.drop i) with | some y => .inl y | none => .inr (0, false)) := by
    intro r
    induction r with
    | zero =>
      intro i x hi
      have : l.drop i = [] := List.drop_eq_nil_of_le (by omega)
      rw [this, goW_nil]
      apply loop_end
      unfold fn_path_Walk_l1
      dsimp only
      rw [dge (by omega), cond_false]
    | succ r ih =>
      intro i x hi
      have hil : i < l.length := by omega
      rw [List.drop_eq_getElem_cons hil, goW_cons]
      by_cases hc : (0 ≤ l[i] ∧ l[i] < (E.length : Int)) ∧ ((E.getD (l[i]).toNat (0, 0)).1 : Int) = x
      · rw [dif_pos hc, ← ih (i + 1) _ (by omega)]
        apply loop_next
        unfold fn_path_Walk_l1
        dsimp only
        have hlt : (l[i]).toNat < E.length := by omega
        have hgd : E.getD (l[i]).toNat (0, 0) = E[(l[i]).toNat] := by simp [hlt]
        rw [dlt hil, cond_true, getN hil]
        simp only [Option.bind_some]
        rw [Arc_of, dif_pos hc.1]
        simp only [Option.bind_some]
        have hx : ((E[(l[i]).toNat].1 : Nat) : Int) = x := by rw [← hgd]; exact hc.2
        rw [w64s hil (by omega)]
        simp [hx, hlt]
      · rw [dif_neg hc]
        apply loop_end
        unfold fn_path_Walk_l1
        dsimp only
        rw [dlt hil, cond_true, getN hil]
        simp only [Option.bind_some]
        rw [Arc_of]
        by_cases hr : 0 ≤ l[i] ∧ l[i] < (E.length : Int)
        · rw [dif_pos hr]
          have hlt : (l[i]).toNat < E.length := by omega
          have hgd : E.getD (l[i]).toNat (0, 0) = E[(l[i]).toNat] := by simp [hlt]
          rw [hgd] at hc
          simp only [Option.bind_some]
          rw [decide_eq_false (fun g => hc ⟨hr, g⟩)]
          rfl
        · rw [dif_neg hr]; rfl
  have k0 := key l.length 0 x (Nat.zero_add _)
  rw [List.drop_zero] at k0
  have k1 : loop (fn_path_Walk_l1 (some (mkG N E)) l) (x, 0) = _ := k0
  rw [k1]
  cases goW E x l <;> rfl
theorem rWalk_ok {N : Nat} {E : ArG} {x : Int} {l : List Int} (hl : l.length ≤ 1000) (he : E.length ≤ 10000) : fn_ref14_Walk (N : Int) (ai E) x l = some (if 0 ≤ x ∧ x < (N : Int) then (match goW E x l with | some y => (y, true) | none => (0, false)) else (0, false)) := by
  unfold fn_ref14_Walk
  by_cases h0 : x < 0
  · rw [decide_eq_true h0, if_neg (by omega)]; rfl
  by_cases h1 : (N : Int) ≤ x
  · rw [decide_eq_true h1, Bool.or_true, if_neg (by omega)]; rfl
  rw [decide_eq_false h1, decide_eq_false h0, if_pos (by omega), Bool.or_self, cond_false]
  have key : ∀ (r i : Nat) (x : Int), i + r = l.length → loop (fn_ref14_Walk_l1 (ai E) l) (x, (i : Int)) = some (match goW E x (l.drop i) with | some y => .inl y | none => .inr (0, false)) := by
    intro r
    induction r with
    | zero =>
      intro i x hi
      have : l.drop i = [] := List.drop_eq_nil_of_le (by omega)
      rw [this, goW_nil]
      apply loop_end
      unfold fn_ref14_Walk_l1
      dsimp only
      rw [dge (by omega), cond_false]
    | succ r ih =>
      intro i x hi
      have hil : i < l.length := by omega
      rw [List.drop_eq_getElem_cons hil, goW_cons]
      have arc : ∀ (hr : 0 ≤ l[i] ∧ l[i] < (E.length : Int)), getI (ai E) l[i] = some (((E.getD (l[i]).toNat (0, 0)).1 : Int), ((E.getD (l[i]).toNat (0, 0)).2 : Int)) := fun hr => by
        obtain ⟨q, hq⟩ := Int.eq_ofNat_of_zero_le hr.1
        rw [hq] at hr ⊢
        have hlt : q < E.length := by omega
        rw [getI_ai hlt, Int.toNat_natCast]
        simp [hlt]
      by_cases hc : (0 ≤ l[i] ∧ l[i] < (E.length : Int)) ∧ ((E.getD (l[i]).toNat (0, 0)).1 : Int) = x
      · rw [dif_pos hc, ← ih (i + 1) _ (by omega)]
        apply loop_next
        unfold fn_ref14_Walk_l1
        dsimp only
        rw [dlt hil, cond_true, getN hil]
        simp only [Option.bind_some]
        rw [arc hc.1, decide_eq_false (p := l[i] < 0) (by omega), cond_false]
        simp only [Option.bind_some]
        rw [ai_len, decide_eq_false (p := ((E.length : Nat) : Int) ≤ l[i]) (by omega)]
        simp only [Option.bind_some, cond_false]
        rw [decide_eq_true hc.2, w64s hil (by omega)]
        rfl
      · rw [dif_neg hc]
        apply loop_end
        unfold fn_ref14_Walk_l1
        dsimp only
        rw [dlt hil, cond_true, getN hil]
        simp only [Option.bind_some]
        by_cases hr : 0 ≤ l[i] ∧ l[i] < (E.length : Int)
        · rw [arc hr, decide_eq_false (p := l[i] < 0) (by omega), cond_false]
          simp only [Option.bind_some]
          rw [ai_len, decide_eq_false (p := ((E.length : Nat) : Int) ≤ l[i]) (by omega)]
          simp only [Option.bind_some, cond_false]
          rw [decide_eq_false (fun g => hc ⟨hr, g⟩)]
          rfl
        · rw [ai_len]
          by_cases hneg : l[i] < 0
          · rw [decide_eq_true hneg]; rfl
          · rw [decide_eq_false hneg, decide_eq_true (p := ((E.length : Nat) : Int) ≤ l[i]) (by omega)]; rfl
  have k0 := key l.length 0 x (Nat.zero_add _)
  rw [List.drop_zero] at k0
  have k1 : loop (fn_ref14_Walk_l1 (ai E) l) (x, 0) = _ := k0
  rw [k1]
  cases goW E x l <;> rfl
end Go.Proofs.Ythoclljhjcfemaa
namespace Go.Proofs.Ythoclljhjcfemaa
namespace Nu
set_option linter.unusedVariables false
set_option linter.unnecessarySimpa false
set_option linter.unusedSimpArgs false
theorem head_app {α : Type} {l m : List α} (h : l ≠ []) : (l ++ m).head? = l.head? := by cases l with
  | nil => exact absurd rfl h
  | cons a l => rfl
def ch (d : Nat) : UInt8 := UInt8.ofNat (48 + d)
theorem ch_nat {d : Nat} (h : d < 10) : (ch d).toNat = 48 + d := by unfold ch; simp; omega
def dec (n : Nat) : List UInt8 := if h : n < 10 then [ch n] else dec (n / 10) ++ [ch (n % 10)]
termination_by n
theorem dec_lt {n : Nat} (h : n < 10) : dec n = [ch n] := by rw [dec, dif_pos h]
theorem dec_ge {n : Nat} (h : ¬ n < 10) : dec n = dec (n / 10) ++ [ch (n % 10)] := by rw [dec, dif_neg h]
def text (n : Int) : List UInt8 := if n < 0 then [] else dec n.toNat
def isDig (c : UInt8) : Bool := decide (48 ≤ c.toNat) && decide (c.toNat ≤ 57)
def dig (c : UInt8) : Nat := c.toNat - 48
def val (s : List UInt8) : Nat := s.foldl (fun a c => a * 10 + dig c) 0
theorem val_snoc (s : List UInt8) (c : UInt8) : val (s ++ [c]) = val s * 10 + dig c := by simp [val]
def isNum (s : List UInt8) : Bool := s.all isDig && (decide (s.length = 1) || (decide (1 < s.length) && !decide (s.head? = some 48)))
def parse (s : List UInt8) (most : Int) : Int × Int := if isNum s = true then (if most < (val s : Int) then (0, 5) else ((val s : Int), 0)) else (0, 3)
theorem isDig_ch {d : Nat} (h : d < 10) : isDig (ch d) = true := by unfold isDig; rw [ch_nat h]; simp; omega
theorem dig_ch {d : Nat} (h : d < 10) : dig (ch d) = d := by unfold dig; rw [ch_nat h]; omega
theorem ch_dig {c : UInt8} (h : isDig c = true) : ch (dig c) = c ∧ dig c < 10 := by
  unfold isDig at h; simp only [Bool.and_eq_true, decide_eq_true_eq] at h
  refine ⟨?_, by unfold dig; omega⟩
  unfold ch dig
  rw [show 48 + (c.toNat - 48) = c.toNat by omega]; simp
theorem dec_ne (n : Nat) : dec n ≠ [] := by
  by_cases h : n < 10
  · rw [dec_lt h]; simp
  · rw [dec_ge h]; simp
theorem dec_all (n : Nat) : (dec n).all isDig = true := by
  induction n using Nat.strongRecOn with
  | _ n ih =>
    by_cases h : n < 10
    · rw [dec_lt h]; simp [isDig_ch h]
    · rw [dec_ge h, List.all_append, ih (n / 10) (by omega)]; simp [isDig_ch (show n % 10 < 10 by omega)]
theorem val_dec (n : Nat) : val (dec n) = n := by
  induction n using Nat.strongRecOn with
  | _ n ih =>
    by_cases h : n < 10
    · rw [dec_lt h]; simp [val, dig_ch h]
    · rw [dec_ge h, val_snoc, ih (n / 10) (by omega), dig_ch (by omega)]; omega
theorem dec_head (n : Nat) (h0 : n ≠ 0) : (dec n).head? ≠ some 48 := by
  induction n using Nat.strongRecOn with
  | _ n ih =>
    by_cases h : n < 10
    · rw [dec_lt h]
      intro hc
      have h1 := ch_nat h
      simp only [List.head?_cons, Option.some.injEq] at hc
      rw [hc] at h1
      simp at h1; omega
    · rw [dec_ge h, head_app (dec_ne _)]
      exact ih (n / 10) (by omega) (by omega)
theorem isNum_dec (n : Nat) : isNum (dec n) = true := by
  unfold isNum
  rw [dec_all, Bool.true_and]
  by_cases h : n < 10
  · rw [dec_lt h]; simp
  · have h1 := dec_head n (by omega)
    have h2 : 1 < (dec n).length := by
      rw [dec_ge h, List.length_append]
      have := List.length_pos_iff.2 (dec_ne (n / 10))
      simp; omega
    simp [h1, h2]
theorem val_pos {s : List UInt8} (hs : s ≠ []) (ha : s.all isDig = true) (hh : s.head? ≠ some 48) : 0 < val s := by
  have key : ∀ (l : List UInt8) (a : Nat), 0 < a → 0 < l.foldl (fun a c => a * 10 + dig c) a := by
    intro l
    induction l with
    | nil => intro a h; exact h
    | cons c l ih => intro a h; rw [List.foldl_cons]; exact ih _ (by show 0 < a * 10 + dig c; omega)
  cases s with
  | nil => exact absurd rfl hs
  | cons c s =>
    unfold val
    rw [List.foldl_cons]
    refine key s _ ?_
    simp only [List.all_cons, Bool.and_eq_true] at ha
    have h1 : c ≠ 48 := fun e => hh (by rw [e]; rfl)
    have h2 := ha.1
    unfold isDig at h2; simp only [Bool.and_eq_true, decide_eq_true_eq] at h2
    have h3 : c.toNat ≠ 48 := fun e => h1 (by apply UInt8.toNat_inj.1; rw [e]; rfl)
    unfold dig; omega
theorem dec_val : ∀ (n : Nat) (s : List UInt8), s.length = n → isNum s = true → dec (val s) = s := by
  intro n
  induction n with
  | zero => intro s hl h; obtain rfl := List.length_eq_zero_iff.1 hl; simp [isNum] at h
  | succ n ih =>
    intro s hl h
    rcases List.eq_nil_or_concat s with rfl | ⟨t, c, rfl⟩
    · simp at hl
    rw [List.concat_eq_append] at *
    unfold isNum at h
    simp only [List.all_append, List.all_cons, List.all_nil, Bool.and_true, Bool.and_eq_true] at h
    obtain ⟨⟨h1, h2⟩, h3⟩ := h
    obtain ⟨h4, h5⟩ := ch_dig h2
    rw [val_snoc]
    by_cases ht : t = []
    · subst ht
      rw [show val [] = 0 from rfl, Nat.zero_mul, Nat.zero_add, dec_lt h5, h4]; rfl
    · have hh : t.head? ≠ some 48 := by
        have : 1 < (t ++ [c]).length := by have := List.length_pos_iff.2 ht; simp; omega
        have h6 : ¬ (t ++ [c]).length = 1 := by omega
        simp only [h6, this, decide_false, decide_true, Bool.false_or, Bool.true_and, Bool.not_eq_true', decide_eq_false_iff_not] at h3
        rwa [head_app ht] at h3
      have hv := val_pos ht h1 hh
      have hn : isNum t = true := by
        unfold isNum; rw [h1, Bool.true_and]
        have := List.length_pos_iff.2 ht
        by_cases h7 : t.length = 1
        · simp [h7]
        · have : 1 < t.length := by omega
          simp [this, hh]
      rw [dec_ge (by omega), show (val t * 10 + dig c) / 10 = val t by omega, show (val t * 10 + dig c) % 10 = dig c by omega, ih t (by simpa using hl) hn, h4]
theorem text_val {s : List UInt8} (h : isNum s = true) : text (val s : Int) = s := by
  unfold text; rw [if_neg (by omega)]; exact dec_val _ s rfl h
theorem parse_text {n : Int} (h : 0 ≤ n) (most : Int) : parse (text n) most = if most < n then (0, 5) else (n, 0) := by
  have e : text n = dec n.toNat := by unfold text; rw [if_neg (by omega)]
  rw [e]; unfold parse
  rw [if_pos (isNum_dec _), val_dec, Int.toNat_of_nonneg h]
theorem text_neg {n : Int} (h : n < 0) : text n = [] := by unfold text; rw [if_pos h]
theorem parse_nil (most : Int) : parse [] most = (0, 3) := rfl
theorem dec_len : ∀ (k n : Nat), n < 10 ^ (k + 1) → (dec n).length ≤ k + 1 := by
  intro k
  induction k with
  | zero => intro n h; rw [dec_lt (by simpa using h)]; simp
  | succ k ih =>
    intro n h
    by_cases hn : n < 10
    · rw [dec_lt hn]; simp
    · rw [dec_ge hn, List.length_append]
      have := ih (n / 10) (by rw [Nat.pow_succ] at h; omega)
      simp; omega
theorem text_len {n : Int} (h : n ≤ 9223372036854775807) : (text n).length ≤ 19 := by
  unfold text; split
  · simp
  · exact dec_len 18 _ (by omega)
theorem val_take_le (s : List UInt8) (k : Nat) : val (s.take k) ≤ val s := by
  have key : ∀ (l : List UInt8) (a : Nat), a ≤ l.foldl (fun a c => a * 10 + dig c) a := by
    intro l
    induction l with
    | nil => intro a; exact Nat.le_refl _
    | cons c l ih => intro a; rw [List.foldl_cons]; exact Nat.le_trans (by show a ≤ a * 10 + dig c; omega) (ih _)
  conv => rhs; rw [← List.take_append_drop k s]
  unfold val
  rw [List.foldl_append]
  exact key _ _
theorem text_no {n : Int} {c : UInt8} (hc : isDig c = false) : c ∉ text n := by
  unfold text; split
  · simp
  · intro h
    have := List.all_eq_true.1 (dec_all n.toNat) c h
    rw [hc] at this; cases this
theorem isNum_no {s : List UInt8} {c : UInt8} (hc : isDig c = false) (h : isNum s = true) : c ∉ s := by
  rw [← text_val h]; exact text_no hc
/-! ### Where a byte is met first. -/
theorem index_one (c : UInt8) : ∀ s : List UInt8, Lib.index s [c] = match s.findIdx? (fun x => decide (x = c)) with | some k => (k : Int) | none => -1
  | [] => by simp [Lib.index]
  | b :: l => by
    unfold Lib.index
    rw [index_one c l, List.findIdx?_cons]
    by_cases h : b = c
    · subst h; simp
    · have : ([c] : List UInt8).isPrefixOf (b :: l) = false := by simp [List.isPrefixOf]; exact fun e => h e.symm
      rw [this]
      simp only [Bool.false_eq_true, if_false, h, decide_false]
      cases hq : l.findIdx? (fun x => decide (x = c)) with
      | none => simp
      | some k =>
        have : ((k : Int) == -1) = false := by rw [beq_eq_false_iff_ne]; omega
        simp [this]
theorem cut_one (c : UInt8) (s : List UInt8) : Lib.cut s [c] = match s.findIdx? (fun x => decide (x = c)) with | some k => (s.take k, s.drop (k + 1), true) | none => (s, [], false) := by
  unfold Lib.cut
  rw [index_one]
  cases s.findIdx? (fun x => decide (x = c)) with
  | none => simp
  | some k => simp
/-! ### Texts in pieces. -/
def hd (b : UInt8) : List (List UInt8) → List (List UInt8)
  | p :: ps => (b :: p) :: ps
  | [] => [[b]]
def pieces (c : UInt8) : List UInt8 → List (List UInt8)
  | [] => [[]]
  | b :: l => if b = c then [] :: pieces c l else hd b (pieces c l)
theorem pieces_cons (c b : UInt8) (l : List UInt8) : pieces c (b :: l) = if b = c then [] :: pieces c l else hd b (pieces c l) := rfl
theorem pieces_ne (c : UInt8) : ∀ s, pieces c s ≠ []
  | [] => by simp [pieces]
  | b :: l => by
    rw [pieces_cons]; split
    · simp
    · cases pieces c l <;> simp [hd]
theorem pieces_hit (c : UInt8) : ∀ (s : List UInt8) (k : Nat), s.findIdx? (fun x => decide (x = c)) = some k → pieces c s = s.take k :: pieces c (s.drop (k + 1))
  | [], k, h => by simp at h
  | b :: l, k, h => by
    rw [List.findIdx?_cons] at h
    rw [pieces_cons]
    by_cases hb : b = c
    · subst hb; simp at h; subst h; simp
    · simp only [hb, decide_false, Bool.false_eq_true, if_false] at h ⊢
      cases hq : l.findIdx? (fun x => decide (x = c)) with
      | none => rw [hq] at h; simp at h
      | some j =>
        rw [hq] at h; simp at h; subst h
        rw [pieces_hit c l j hq]; simp [hd]
theorem pieces_miss (c : UInt8) : ∀ (s : List UInt8), s.findIdx? (fun x => decide (x = c)) = none → pieces c s = [s]
  | [], h => rfl
  | b :: l, h => by
    rw [List.findIdx?_cons] at h
    rw [pieces_cons]
    by_cases hb : b = c
    · subst hb; simp at h
    · simp only [hb, decide_false, Bool.false_eq_true, if_false] at h ⊢
      cases hq : l.findIdx? (fun x => decide (x = c)) with
      | none => rw [pieces_miss c l hq]; rfl
      | some j => rw [hq] at h; simp at h
theorem splitK_pieces (c : UInt8) : ∀ (k : Nat) (s : List UInt8), s.count c = k → Lib.splitK [c] 0 k s = pieces c s := by
  intro k
  induction k with
  | zero =>
    intro s h
    have : s.findIdx? (fun x => decide (x = c)) = none := by
      rw [List.findIdx?_eq_none_iff]
      intro x hx
      rw [List.count_eq_zero] at h
      simp only [decide_eq_false_iff_not]
      rintro rfl; exact h hx
    rw [pieces_miss c s this]; rfl
  | succ k ih =>
    intro s h
    unfold Lib.splitK
    rw [index_one]
    cases hq : s.findIdx? (fun x => decide (x = c)) with
    | none =>
      rw [List.findIdx?_eq_none_iff] at hq
      have : c ∈ s := by rw [← List.count_pos_iff]; omega
      have := hq c this
      simp at this
    | some j =>
      have : ((j : Int) == -1) = false := by rw [beq_eq_false_iff_ne]; omega
      simp only [this, Bool.false_eq_true, if_false, Int.toNat_natCast, Nat.add_zero, List.length_cons, List.length_nil, Nat.zero_add]
      rw [pieces_hit c s j hq]
      have e : (s.drop (j + 1)).count c = k := by
        obtain ⟨hj, h1, h2⟩ := List.findIdx?_eq_some_iff_getElem.1 hq
        have e1 : s = s.take j ++ s[j] :: s.drop (j + 1) := by rw [List.getElem_cons_drop, List.take_append_drop]
        have e2 : (s.take j).count c = 0 := by
          rw [List.count_eq_zero]
          intro hm
          obtain ⟨i, hi, e⟩ := List.getElem_of_mem hm
          have hij : i < j := by rw [List.length_take] at hi; omega
          have := h2 i hij
          rw [List.getElem_take] at e
          simp [e] at this
        have e3 : s[j] = c := by simpa using h1
        have e4 := congrArg (List.count c) e1
        rw [List.count_append, e2, e3, List.count_cons_self] at e4
        omega
      rw [ih _ e]
theorem pieces_app (c : UInt8) : ∀ (p s : List UInt8), c ∉ p → pieces c (p ++ c :: s) = p :: pieces c s
  | [], s, h => by simp [pieces]
  | b :: p, s, h => by
    have hb : b ≠ c := fun e => h (by simp [e])
    rw [List.cons_append, pieces_cons, if_neg hb, pieces_app c p s (fun e => h (by simp [e]))]; rfl
theorem pieces_all (c : UInt8) (p : List UInt8) (h : c ∉ p) : pieces c p = [p] := by
  refine pieces_miss c p ?_
  rw [List.findIdx?_eq_none_iff]
  intro x hx
  simp only [decide_eq_false_iff_not]
  rintro rfl; exact h hx
/-- Pieces, put together with the byte between. -/
def glue (c : UInt8) : List (List UInt8) → List UInt8
  | [] => []
  | p :: ps => p ++ ps.flatMap (c :: ·)
theorem glue_snoc (c : UInt8) (l : List (List UInt8)) (x : List UInt8) : glue c (l ++ [x]) = if l = [] then x else glue c l ++ c :: x := by
  cases l with
  | nil => simp [glue]
  | cons p ps => simp [glue]
theorem glue_cons2 (c : UInt8) (p q : List UInt8) (ps : List (List UInt8)) : glue c (p :: q :: ps) = p ++ c :: glue c (q :: ps) := by simp [glue]
theorem pieces_glue (c : UInt8) : ∀ (l : List (List UInt8)), l ≠ [] → (∀ p ∈ l, c ∉ p) → pieces c (glue c l) = l
  | [], h, _ => absurd rfl h
  | [p], _, h => by simp only [glue, List.flatMap_nil, List.append_nil]; exact pieces_all c p (h p (by simp))
  | p :: q :: ps, _, h => by
    rw [glue_cons2, pieces_app c p _ (h p (by simp)), pieces_glue c (q :: ps) (by simp) (fun x hx => h x (by simp at hx ⊢; exact .inr hx))]
theorem glue_pieces (c : UInt8) : ∀ (s : List UInt8), glue c (pieces c s) = s
  | [] => rfl
  | b :: l => by
    have ih := glue_pieces c l
    rw [pieces_cons]
    by_cases hb : b = c
    · subst hb
      rw [if_pos rfl]
      cases hq : pieces b l with
      | nil => exact absurd hq (pieces_ne b l)
      | cons p ps => rw [glue_cons2, ← hq, ih]; rfl
    · rw [if_neg hb]
      cases hq : pieces c l with
      | nil => exact absurd hq (pieces_ne c l)
      | cons p ps =>
        rw [hq] at ih
        simp only [glue, hd] at ih ⊢
        rw [List.cons_append, ih]
theorem join_glue (c : UInt8) : ∀ (l : List (List UInt8)), Lib.join l [c] = glue c l
  | [] => by simp [Lib.join, glue]
  | [p] => by simp [Lib.join, glue, List.intercalate]
  | p :: q :: ps => by
    have ih := join_glue c (q :: ps)
    rw [glue_cons2, ← ih]
    simp [Lib.join, List.intercalate]
def lst (l : List Int) : List UInt8 := glue 44 (l.map text)
end Nu
end Go.Proofs.Ythoclljhjcfemaa
namespace Go.Proofs.Ythoclljhjcfemaa
open Go.RowKit Nu
set_option linter.unusedVariables false
set_option linter.unnecessarySimpa false
set_option linter.unusedSimpArgs false
theorem byte48 (c : UInt8) (h : isDig c = true) : IntKind.wrap .i64 (IntKind.wrap .u8 (((c.toNat : Nat) : Int) - 48)) = (dig c : Int) ∧ dig c < 10 := by
  unfold isDig at h; simp only [Bool.and_eq_true, decide_eq_true_eq] at h
  have e : IntKind.wrap .u8 (((c.toNat : Nat) : Int) - 48) = (((c.toNat : Nat) : Int) - 48) % 256 := IntKind.wrap_u8' _
  have e2 : (((c.toNat : Nat) : Int) - 48) % 256 = ((c.toNat : Nat) : Int) - 48 := Int.emod_eq_of_lt (by omega) (by omega)
  rw [e, e2, w64 (by omega) (by omega)]
  unfold dig; omega
theorem all_of {s : List UInt8} (h : isNum s = true) : s.all isDig = true := by unfold isNum at h; rw [Bool.and_eq_true] at h; exact h.1
theorem ne_of {s : List UInt8} (h : isNum s = true) : s ≠ [] := by rintro rfl; simp [isNum] at h
theorem val_take {s : List UInt8} {k : Nat} (h : k < s.length) : val (s.take (k + 1)) = val (s.take k) * 10 + dig s[k] := by rw [take_snoc h, val_snoc]
theorem notDig (c : UInt8) : (decide ((((c.toNat : Nat) : Int)) < 48) || decide (57 < (((c.toNat : Nat) : Int)))) = !isDig c := by
  unfold isDig
  rw [Bool.eq_iff_iff]
  simp only [Bool.or_eq_true, decide_eq_true_eq, Bool.not_eq_true', Bool.and_eq_false_iff, decide_eq_false_iff_not]; omega
theorem digLoop {s : List UInt8} {β : Type} {body : Int → Option (Int ⊕ β)} (hit e : β) (hn : s.length ≤ 1000000)
    (hb : ∀ i : Int, body i = cond (decide (i < (((s.length : Nat) : Int)))) ((getI s i).bind fun x => (cond (decide ((((x.toNat : Nat) : Int)) < 48)) (some (true)) ((getI s i).bind fun x => some (decide (57 < (((x.toNat : Nat) : Int)))))).bind fun t => cond (t) (some (.inr hit)) (some (.inl (IntKind.wrap .i64 (i + 1))))) (some (.inr e))) :
    loop body 0 = some (if s.all isDig then e else hit) := by
  have h := loop_some (body := body) s (fun c => !isDig c) hit e (fun k hk => by
    rw [hb, dlt hk, cond_true, getN hk, Option.bind_some, w64s hk (by omega)]
    rw [← notDig]
    by_cases h1 : (((s[k].toNat : Nat) : Int)) < 48
    · simp only [h1, decide_true, cond_true, Option.bind_some, Bool.true_or, if_true]
    · simp only [h1, decide_false, cond_false, Option.bind_some, Bool.false_or]
      by_cases h2 : 57 < (((s[k].toNat : Nat) : Int)) <;> simp [h2]) (by rw [hb, dge (by omega), cond_false])
  rw [h]
  congr 1
  cases ha : s.all isDig with
  | true =>
    have : s.any (fun c => !isDig c) = false := by rw [List.any_eq_false]; intro x hx; simp [List.all_eq_true.1 ha x hx]
    rw [this]; rfl
  | false =>
    have : s.any (fun c => !isDig c) = true := by
      rw [List.all_eq_false] at ha
      obtain ⟨x, hx, h⟩ := ha
      exact List.any_eq_true.2 ⟨x, hx, by simpa using h⟩
    rw [this]; rfl
theorem get0 {s : List UInt8} (h : 0 < s.length) : getI s 0 = some (s[0]'h) := getN (k := 0) h
theorem head48 {s : List UInt8} (h : 0 < s.length) : decide ((((s[0]'h).toNat : Nat) : Int) = 48) = decide (s.head? = some 48) := by
  cases s with
  | nil => simp at h
  | cons b l =>
    simp only [List.getElem_cons_zero, List.head?_cons, Option.some.injEq]
    by_cases hb : b = 48
    · subst hb; rfl
    · have : ¬ ((b.toNat : Nat) : Int) = 48 := fun e => hb (by apply UInt8.toNat_inj.1; simpa using Int.ofNat.inj e)
      simp [hb, this]
theorem u8_48 {d : Nat} (h : d < 10) : IntKind.wrap .u8 (IntKind.wrap .i64 (48 + (d : Int))) = ((48 + d : Nat) : Int) := by
  rw [w64 (by omega) (by omega)]
  have e : IntKind.wrap .u8 (48 + (d : Int)) = (48 + (d : Int)) % 256 := IntKind.wrap_u8' _
  rw [e, Int.emod_eq_of_lt (by omega) (by omega)]; omega
theorem nText_key : ∀ (k n a : Nat) (l : List Int), n < 10 ^ (k + 1) → n ≤ 9223372036854775807 → k < a → a ≤ 20 → l.length = 20 → loop fn_numeral_Text_l1 ((n : Int), l, (a : Int)) = some (dec n ++ toU8 (l.drop a)) := by
  intro k
  induction k with
  | zero =>
    intro n a l hn hb ha ha2 hl
    have h10 : n < 10 := by simpa using hn
    have e0 : IntKind.wrap .i64 ((a : Int) - 1) = ((a - 1 : Nat) : Int) := by rw [w64 (by omega) (by omega)]; omega
    have e1 : Int.tmod (n : Int) 10 = (n : Int) := by rw [Int.tmod_eq_emod_of_nonneg (by omega)]; omega
    have e2 : Int.tdiv (n : Int) 10 = 0 := by rw [Int.tdiv_eq_ediv_of_nonneg (by omega)]; omega
    refine loop_end ?_
    unfold fn_numeral_Text_l1
    have hs : subL (l.set (a - 1) ((48 + n : Nat) : Int)) ((a - 1 : Nat) : Int) (((20 : Nat) : Int)) = some (((48 + n : Nat) : Int) :: l.drop a) := by
      rw [subL_eq (by omega) (by omega) (by rw [List.length_set, hl]; omega)]
      simp only [Int.toNat_natCast]
      rw [List.take_of_length_le (by rw [List.length_set, hl]; omega), List.drop_eq_getElem_cons (by rw [List.length_set]; omega), List.getElem_set_self, List.drop_set_of_lt (by omega), show a - 1 + 1 = a by omega]
    simp only [e0, getN (show a - 1 < l.length by omega), Option.bind_some, e1, u8_48 h10, e2, Int.toNat_natCast, show IntKind.wrap .i64 0 = 0 from rfl, decide_true, cond_true, hs]
    rw [dec_lt h10]
    simp only [toU8, List.map_cons, Int.toNat_natCast]; rfl
  | succ k ih =>
    intro n a l hn hb ha ha2 hl
    by_cases h10 : n < 10
    · have e0 : IntKind.wrap .i64 ((a : Int) - 1) = ((a - 1 : Nat) : Int) := by rw [w64 (by omega) (by omega)]; omega
      have e1 : Int.tmod (n : Int) 10 = (n : Int) := by rw [Int.tmod_eq_emod_of_nonneg (by omega)]; omega
      have e2 : Int.tdiv (n : Int) 10 = 0 := by rw [Int.tdiv_eq_ediv_of_nonneg (by omega)]; omega
      refine loop_end ?_
      unfold fn_numeral_Text_l1
      have hs : subL (l.set (a - 1) ((48 + n : Nat) : Int)) ((a - 1 : Nat) : Int) (((20 : Nat) : Int)) = some (((48 + n : Nat) : Int) :: l.drop a) := by
        rw [subL_eq (by omega) (by omega) (by rw [List.length_set, hl]; omega)]
        simp only [Int.toNat_natCast]
        rw [List.take_of_length_le (by rw [List.length_set, hl]; omega), List.drop_eq_getElem_cons (by rw [List.length_set]; omega), List.getElem_set_self, List.drop_set_of_lt (by omega), show a - 1 + 1 = a by omega]
      simp only [e0, getN (show a - 1 < l.length by omega), Option.bind_some, e1, u8_48 h10, e2, Int.toNat_natCast, show IntKind.wrap .i64 0 = 0 from rfl, decide_true, cond_true, hs]
      rw [dec_lt h10]
      simp only [toU8, List.map_cons, Int.toNat_natCast]; rfl
    · have e0 : IntKind.wrap .i64 ((a : Int) - 1) = ((a - 1 : Nat) : Int) := by rw [w64 (by omega) (by omega)]; omega
      have e1 : Int.tmod (n : Int) 10 = ((n % 10 : Nat) : Int) := by rw [Int.tmod_eq_emod_of_nonneg (by omega)]; omega
      have e2 : IntKind.wrap .i64 (Int.tdiv (n : Int) 10) = ((n / 10 : Nat) : Int) := by rw [Int.tdiv_eq_ediv_of_nonneg (by omega), w64 (by omega) (by omega)]; omega
      have e3 : decide (((n / 10 : Nat) : Int) = 0) = false := by simp; omega
      rw [loop_next (s' := (((n / 10 : Nat) : Int), l.set (a - 1) ((48 + n % 10 : Nat) : Int), ((a - 1 : Nat) : Int))), ih (n / 10) (a - 1) _ (by rw [Nat.pow_succ] at hn; omega) (by omega) (by omega) (by omega) (by rw [List.length_set, hl])]
      · rw [dec_ge h10, List.drop_eq_getElem_cons (by rw [List.length_set]; omega), List.getElem_set_self, List.drop_set_of_lt (by omega), show a - 1 + 1 = a by omega]
        simp only [toU8, List.map_cons, Int.toNat_natCast, List.append_assoc]; rfl
      · unfold fn_numeral_Text_l1
        simp only [e0, getN (show a - 1 < l.length by omega), Option.bind_some, e1, u8_48 (show n % 10 < 10 by omega), e2, e3, Int.toNat_natCast, cond_false]
theorem nText_eq (n : Int) (h : n ≤ 9223372036854775807) : fn_numeral_Text n = some (text n) := by
  unfold fn_numeral_Text text
  by_cases h0 : n < 0
  · simp [h0]
  · obtain ⟨m, rfl⟩ := Int.eq_ofNat_of_zero_le (show 0 ≤ n by omega)
    rw [if_neg h0, decide_eq_false h0, cond_false]
    have := nText_key 18 m 20 [0, 0, 0, 0, 0, 0, 0, 0, 0, 0, 0, 0, 0, 0, 0, 0, 0, 0, 0, 0] (by omega) (by omega) (by omega) (by omega) rfl
    rw [show ((20 : Nat) : Int) = 20 from rfl] at this
    rw [this]
    simp [toU8]
theorem sub1ch {d : Nat} (h : d < 10) : subL ([48, 49, 50, 51, 52, 53, 54, 55, 56, 57] : List UInt8) (d : Int) (IntKind.wrap .i64 ((d : Int) + 1)) = some [ch d] := by
  have : d = 0 ∨ d = 1 ∨ d = 2 ∨ d = 3 ∨ d = 4 ∨ d = 5 ∨ d = 6 ∨ d = 7 ∨ d = 8 ∨ d = 9 := by omega
  rcases this with h | h | h | h | h | h | h | h | h | h <;> subst h <;> decide
theorem rText_key : ∀ (k n fuel : Nat), n < 10 ^ (k + 1) → k < 19 → n ≤ 9223372036854775807 → k < fuel → fnr_ref01_Text fuel (n : Int) = some (dec n) := by
  intro k
  induction k with
  | zero =>
    intro n fuel hn hk hb hf
    have h10 : n < 10 := by simpa using hn
    cases fuel with
    | zero => omega
    | succ fuel =>
      unfold fnr_ref01_Text
      have e1 : decide ((n : Int) < 0) = false := decide_eq_false (by omega)
      have e2 : decide ((n : Int) < 10) = true := by simp; omega
      simp only [e1, e2, cond_true, cond_false, sub1ch h10, Option.bind_some]
      rw [dec_lt h10]
  | succ k ih =>
    intro n fuel hn hk hb hf
    cases fuel with
    | zero => omega
    | succ fuel =>
      unfold fnr_ref01_Text
      have e1 : decide ((n : Int) < 0) = false := decide_eq_false (by omega)
      by_cases h10 : n < 10
      · have e2 : decide ((n : Int) < 10) = true := by simp; omega
        simp only [e1, e2, cond_true, cond_false, sub1ch h10, Option.bind_some]
        rw [dec_lt h10]
      · have e2 : decide ((n : Int) < 10) = false := by simp; omega
        have e3 : Int.tmod (n : Int) 10 = ((n % 10 : Nat) : Int) := by rw [Int.tmod_eq_emod_of_nonneg (by omega)]; omega
        have e4 : IntKind.wrap .i64 (Int.tdiv (n : Int) 10) = ((n / 10 : Nat) : Int) := by rw [Int.tdiv_eq_ediv_of_nonneg (by omega), w64 (by omega) (by omega)]; omega
        have e5 := dec_len k (n / 10) (by rw [Nat.pow_succ] at hn; omega)
        simp only [e1, e2, e3, e4, cond_false, sub1ch (show n % 10 < 10 by omega), Option.bind_some, ih (n / 10) fuel (by rw [Nat.pow_succ] at hn; omega) (by omega) (by omega) (by omega)]
        rw [app_eq (by simp; omega)]
        simp only [Option.bind_some]
        rw [dec_ge h10]
theorem rText_eq (n : Int) (h : n ≤ 9223372036854775807) : fn_ref01_Text n = some (text n) := by
  unfold fn_ref01_Text text
  by_cases h0 : n < 0
  · refine lev_eq 1 (fun m hm => ?_)
    cases m with
    | zero => omega
    | succ m => unfold fnr_ref01_Text; simp [h0]
  · obtain ⟨m, rfl⟩ := Int.eq_ofNat_of_zero_le (show 0 ≤ n by omega)
    rw [if_neg h0]
    exact lev_eq 19 (fun f hf => rText_key 18 m f (by omega) (by omega) (by omega) (by omega))
def pair (b : Int × Int) : List UInt8 := if b.1 < 0 ∨ b.2 < 0 then [] else text b.1 ++ 58 :: text b.2
theorem nPair_eq (b : Int × Int) (h1 : b.1 ≤ 9223372036854775807) (h2 : b.2 ≤ 9223372036854775807) : fn_numeral_Pair b = some (pair b) := by
  unfold fn_numeral_Pair pair
  by_cases h : b.1 < 0 ∨ b.2 < 0
  · rw [if_pos h]
    have : (decide (b.1 < 0) || decide (b.2 < 0)) = true := by simpa using h
    rw [this]; rfl
  · rw [if_neg h]
    have : (decide (b.1 < 0) || decide (b.2 < 0)) = false := by simp; omega
    have l1 := text_len h1; have l2 := text_len h2
    rw [this, cond_false, nText_eq _ h1, nText_eq _ h2]
    simp only [Option.bind_some]
    rw [app_eq (by simp; omega)]
    simp only [Option.bind_some]
    rw [app_eq (by simp; omega)]
    simp
theorem rPair_eq (b : Int × Int) (h1 : b.1 ≤ 9223372036854775807) (h2 : b.2 ≤ 9223372036854775807) : fn_ref01_Pair b = some (pair b) := by
  unfold fn_ref01_Pair pair
  by_cases h : b.1 < 0 ∨ b.2 < 0
  · rw [if_pos h]
    have : (decide (b.1 < 0) || decide (b.2 < 0)) = true := by simpa using h
    rw [this]; rfl
  · rw [if_neg h]
    have : (decide (b.1 < 0) || decide (b.2 < 0)) = false := by simp; omega
    have l1 := text_len h1; have l2 := text_len h2
    rw [this, cond_false, rText_eq _ h1, rText_eq _ h2]
    simp only [Option.bind_some]
    rw [app_eq (by simp; omega)]
    simp only [Option.bind_some]
    rw [app_eq (by simp; omega)]
    simp
theorem glue_len {l : List Int} (h : ∀ x ∈ l, x ≤ 9223372036854775807) : (lst l).length ≤ l.length * 20 := by
  have key : ∀ l : List Int, (∀ x ∈ l, x ≤ 9223372036854775807) → (l.map text).flatMap (44 :: ·) = l.flatMap (fun x => 44 :: text x) ∧ (l.flatMap (fun x => 44 :: text x)).length ≤ l.length * 20 := by
    intro l
    induction l with
    | nil => intro _; simp
    | cons x l ih =>
      intro h
      obtain ⟨i1, i2⟩ := ih (fun y hy => h y (by simp [hy]))
      have := text_len (h x (by simp))
      refine ⟨by simp [List.flatMap_map], ?_⟩
      simp only [List.flatMap_cons, List.length_append, List.length_cons]; omega
  unfold lst
  cases l with
  | nil => simp [glue]
  | cons x l =>
    obtain ⟨i1, i2⟩ := key l (fun y hy => h y (by simp [hy]))
    have := text_len (h x (by simp))
    simp only [List.map_cons, glue, i1, List.length_append, List.length_cons]; omega
theorem lst_snoc (l : List Int) (x : Int) : lst (l ++ [x]) = if l = [] then text x else lst l ++ 44 :: text x := by
  unfold lst; rw [List.map_append, List.map_singleton, glue_snoc]; simp
end Go.Proofs.Ythoclljhjcfemaa
namespace Go.Proofs.Ythoclljhjcfemaa
open Go.RowKit Nu
set_option linter.unusedVariables false
set_option linter.unnecessarySimpa false
set_option linter.unusedSimpArgs false
/-- A bound out of two texts. -/
def two (a b : List UInt8) (most : Int) : Int × Int × Int :=
  if (parse a most).2 ≠ 0 then (0, 0, (parse a most).2) else if (parse b most).2 ≠ 0 then (0, 0, (parse b most).2) else ((parse a most).1, (parse b most).1, 0)
def readPair (s : List UInt8) (most : Int) : Int × Int × Int := match s.findIdx? (fun x => decide (x = 58)) with | some k => two (s.take k) (s.drop (k + 1)) most | none => (0, 0, 3)
theorem take_len {α : Type} {s : List α} {k n : Nat} (h : s.length ≤ n) : (s.take k).length ≤ n := by rw [List.length_take]; omega
theorem drop_len {α : Type} {s : List α} {k n : Nat} (h : s.length ≤ n) : (s.drop k).length ≤ n := by rw [List.length_drop]; omega
/-- Numbers out of pieces: up to the first that is none. -/
def plist (most : Int) : List (List UInt8) → List Int → List Int × Int
  | [], acc => (acc, 0)
  | p :: ps, acc => if (parse p most).2 ≠ 0 then ([], (parse p most).2) else plist most ps (acc ++ [(parse p most).1])
def readList (s : List UInt8) (most : Int) : List Int × Int := if s = [] then ([], 0) else plist most (pieces 44 s) []
theorem pieces_len (c : UInt8) : ∀ s, (pieces c s).length ≤ s.length + 1
  | [] => by simp [pieces]
  | b :: l => by
    have := pieces_len c l
    rw [pieces_cons]; split
    · simp; omega
    · cases hq : pieces c l with
      | nil => simp [hd]
      | cons p ps => rw [hq] at this; simp [hd] at this ⊢; omega
theorem pieces_each (c : UInt8) (n : Nat) : ∀ s, s.length ≤ n → ∀ p ∈ pieces c s, p.length ≤ n := by
  intro s hs p hp
  have key : ∀ s : List UInt8, ∀ p ∈ pieces c s, p.length ≤ s.length := by
    intro s
    induction s with
    | nil => intro p hp; simp [pieces] at hp; subst hp; simp
    | cons b l ih =>
      intro p hp
      rw [pieces_cons] at hp
      split at hp
      · rcases List.mem_cons.1 hp with rfl | hp
        · simp
        · have := ih p hp; simp; omega
      · cases hq : pieces c l with
        | nil => exact absurd hq (pieces_ne c l)
        | cons q qs =>
          rw [hq] at hp ih
          rcases List.mem_cons.1 hp with rfl | hp
          · have := ih q (by simp); simp; omega
          · have := ih p (by simp [hp]); simp; omega
  have := key s p hp
  omega
/-! ### There and back. -/
theorem parse_ok {s : List UInt8} {most : Int} (h : (parse s most).2 = 0) : isNum s = true ∧ text (parse s most).1 = s ∧ 0 ≤ (parse s most).1 ∧ (parse s most).1 ≤ most := by
  unfold parse at h ⊢
  cases hs : isNum s with
  | false => rw [hs] at h; simp at h
  | true =>
    rw [hs] at h
    simp only [if_true] at h ⊢
    split at h
    · simp at h
    · rename_i h1
      rw [if_neg h1]
      exact ⟨trivial, text_val hs, by show (0 : Int) ≤ ((val s : Nat) : Int); omega, by show ((val s : Nat) : Int) ≤ most; omega⟩
theorem d58 : isDig 58 = false := rfl
theorem d44 : isDig 44 = false := rfl
theorem idx_app {c : UInt8} {a b : List UInt8} (h : c ∉ a) : (a ++ c :: b).findIdx? (fun x => decide (x = c)) = some a.length := by
  rw [List.findIdx?_eq_some_iff_getElem]
  refine ⟨by simp, by simp, fun j hj => ?_⟩
  rw [List.getElem_append_left hj]
  simp only [Bool.not_eq_true, decide_eq_false_iff_not]
  intro e; exact h (e ▸ List.getElem_mem hj)
theorem readPair_pair {b : Int × Int} {most : Int} (h1 : 0 ≤ b.1) (h2 : 0 ≤ b.2) (m1 : b.1 ≤ most) (m2 : b.2 ≤ most) : readPair (pair b) most = (b.1, b.2, 0) := by
  unfold readPair pair
  rw [if_neg (by omega), idx_app (text_no d58)]
  simp only [List.take_left, List.drop_append, Nat.add_sub_cancel_left]
  have e : (text b.1).drop ((text b.1).length + 1) = [] := List.drop_eq_nil_of_le (by omega)
  rw [e]
  have p1 := parse_text h1 most; have p2 := parse_text h2 most
  rw [if_neg (by omega)] at p1 p2
  unfold two
  simp [p1, p2]
theorem readPair_ok {s : List UInt8} {most : Int} (h : (readPair s most).2.2 = 0) : pair ((readPair s most).1, (readPair s most).2.1) = s ∧ 0 ≤ (readPair s most).1 ∧ (readPair s most).1 ≤ most ∧ 0 ≤ (readPair s most).2.1 ∧ (readPair s most).2.1 ≤ most := by
  unfold readPair at h ⊢
  cases hq : s.findIdx? (fun x => decide (x = 58)) with
  | none => rw [hq] at h; simp at h
  | some k =>
    rw [hq] at h
    obtain ⟨hk, hc, _⟩ := List.findIdx?_eq_some_iff_getElem.1 hq
    have hc' : s[k] = 58 := by simpa using hc
    unfold two at h
    simp only at h ⊢
    by_cases h1 : (parse (s.take k) most).2 = 0
    · by_cases h2 : (parse (s.drop (k + 1)) most).2 = 0
      · obtain ⟨_, a1, a2, a3⟩ := parse_ok h1
        obtain ⟨_, b1, b2, b3⟩ := parse_ok h2
        have e : two (s.take k) (s.drop (k + 1)) most = ((parse (s.take k) most).1, (parse (s.drop (k + 1)) most).1, 0) := by unfold two; simp [h1, h2]
        rw [e]
        refine ⟨?_, a2, a3, b2, b3⟩
        unfold pair
        rw [if_neg (by simp only; omega)]
        simp only [a1, b1]
        rw [← hc', List.getElem_cons_drop, List.take_append_drop]
      · simp [h1, h2] at h
    · simp [h1] at h
theorem plist_app (most : Int) : ∀ (ps : List (List UInt8)) (acc : List Int), (plist most ps acc).2 = 0 → ∃ l, (plist most ps acc).1 = acc ++ l ∧ l.map text = ps ∧ (∀ x ∈ l, 0 ≤ x ∧ x ≤ most) ∧ l.length = ps.length
  | [], acc, h => ⟨[], by simp [plist], rfl, by simp, rfl⟩
  | p :: ps, acc, h => by
    unfold plist at h ⊢
    by_cases h1 : (parse p most).2 = 0
    · simp only [h1, ne_eq, not_true_eq_false, if_false] at h ⊢
      obtain ⟨l, e1, e2, e3, e4⟩ := plist_app most ps _ h
      obtain ⟨_, a1, a2, a3⟩ := parse_ok h1
      refine ⟨(parse p most).1 :: l, by rw [e1]; simp, by simp [a1, e2], fun x hx => ?_, by simp [e4]⟩
      rcases List.mem_cons.1 hx with rfl | hx
      · exact ⟨a2, a3⟩
      · exact e3 x hx
    · simp [h1] at h
theorem plist_text (most : Int) : ∀ (l acc : List Int), (∀ x ∈ l, 0 ≤ x ∧ x ≤ most) → plist most (l.map text) acc = (acc ++ l, 0)
  | [], acc, _ => by simp [plist]
  | x :: l, acc, h => by
    have hx := h x (by simp)
    have p1 := parse_text hx.1 most
    rw [if_neg (by omega)] at p1
    rw [List.map_cons]
    unfold plist
    rw [p1]
    simp only [ne_eq, not_true_eq_false, if_false]
    rw [plist_text most l _ (fun y hy => h y (by simp [hy]))]
    simp
theorem readList_lst {l : List Int} {most : Int} (h : ∀ x ∈ l, 0 ≤ x ∧ x ≤ most) : readList (lst l) most = (l, 0) := by
  unfold readList
  by_cases hl : l = []
  · subst hl; rfl
  · have hne : l.map text ≠ [] := by simpa using hl
    have hp : pieces 44 (lst l) = l.map text := pieces_glue 44 _ hne (fun p hp => by obtain ⟨x, _, rfl⟩ := List.mem_map.1 hp; exact text_no d44)
    have hnn : lst l ≠ [] := by
      intro e
      rw [e] at hp
      cases l with
      | nil => exact hl rfl
      | cons x l =>
        simp only [pieces, List.map_cons, List.cons.injEq] at hp
        have : text x = [] := hp.1.symm
        have h0 := (h x (by simp)).1
        unfold text at this
        rw [if_neg (by omega)] at this
        exact dec_ne _ this
    rw [if_neg hnn, hp, plist_text most l [] h]; simp
theorem readList_ok {s : List UInt8} {most : Int} (h : (readList s most).2 = 0) : lst (readList s most).1 = s ∧ (∀ x ∈ (readList s most).1, 0 ≤ x ∧ x ≤ most) ∧ (readList s most).1.length ≤ s.length + 1 := by
  unfold readList at h ⊢
  by_cases h0 : s = []
  · subst h0; simp [lst, glue]
  · rw [if_neg h0] at h ⊢
    obtain ⟨l, e1, e2, e3, e4⟩ := plist_app most _ [] h
    rw [e1, List.nil_append]
    refine ⟨?_, e3, by have := pieces_len 44 s; omega⟩
    unfold lst
    rw [e2, glue_pieces]
theorem readList_len {s : List UInt8} {most : Int} : (readList s most).1.length ≤ s.length + 1 := by
  by_cases h : (readList s most).2 = 0
  · exact (readList_ok h).2.2
  · have : (readList s most).1 = [] := by
      unfold readList at h ⊢
      split at h
      · simp at h
      · rename_i h0
        rw [if_neg h0]
        have key : ∀ (ps : List (List UInt8)) (acc : List Int), (plist most ps acc).2 ≠ 0 → (plist most ps acc).1 = [] := by
          intro ps
          induction ps with
          | nil => intro acc h; exact absurd rfl h
          | cons p ps ih =>
            intro acc h
            unfold plist at h ⊢
            by_cases h1 : (parse p most).2 = 0
            · simp only [h1, ne_eq, not_true_eq_false, if_false] at h ⊢; exact ih _ h
            · simp [h1]
        exact key _ _ h
    rw [this]; simp
end Go.Proofs.Ythoclljhjcfemaa
namespace Go.Proofs.Ythoclljhjcfemaa
open Go.RowKit Nu
set_option linter.unusedVariables false
set_option linter.unnecessarySimpa false
set_option linter.unusedSimpArgs false
abbrev Pv := Int × Int × Int × Int × Bool
def nm (k : Int) : List UInt8 := if k = 1 then [102, 108, 111, 119] else if k = 2 then [108, 111, 97, 110] else if k = 3 then [98, 97, 115, 101] else if k = 4 then [110, 101, 101, 100] else if k = 5 then [112, 97, 115, 115] else if k = 6 then [103, 105, 118, 101] else if k = 7 then [111, 117, 116] else [63]
theorem kcases {k : Int} (h1 : 1 ≤ k) (h7 : k ≤ 7) : k = 1 ∨ k = 2 ∨ k = 3 ∨ k = 4 ∨ k = 5 ∨ k = 6 ∨ k = 7 := by omega
theorem nm_other {k : Int} (h : ¬ (1 ≤ k ∧ k ≤ 7)) : nm k = [63] := by
  unfold nm
  rw [if_neg (by omega), if_neg (by omega), if_neg (by omega), if_neg (by omega), if_neg (by omega), if_neg (by omega), if_neg (by omega)]
theorem nm_ne {k : Int} (h : 1 ≤ k ∧ k ≤ 7) : nm k ≠ [63] := by
  rcases kcases h.1 h.2 with e | e | e | e | e | e | e <;> subst e <;> decide
theorem nm_len (k : Int) : (nm k).length ≤ 4 := by
  by_cases h : 1 ≤ k ∧ k ≤ 7
  · rcases kcases h.1 h.2 with e | e | e | e | e | e | e <;> subst e <;> decide
  · rw [nm_other h]; decide
theorem nm_no (k : Int) : (32 : UInt8) ∉ nm k := by
  by_cases h : 1 ≤ k ∧ k ≤ 7
  · rcases kcases h.1 h.2 with e | e | e | e | e | e | e <;> subst e <;> decide
  · rw [nm_other h]; decide
def kindO (s : List UInt8) : Option Int := (List.range 7).findSome? fun k : Nat => if nm ((k : Int) + 1) = s then some ((k : Int) + 1) else none
def kind (s : List UInt8) : Int := (kindO s).getD 0
theorem kindO_some {s : List UInt8} {k : Int} (h : kindO s = some k) : 1 ≤ k ∧ k ≤ 7 ∧ nm k = s := by
  unfold kindO at h
  obtain ⟨j, hj, h1⟩ := List.exists_of_findSome?_eq_some h
  rw [List.mem_range] at hj
  split at h1
  · rename_i h2
    cases h1
    exact ⟨by omega, by omega, h2⟩
  · cases h1
theorem kind_pos {s : List UInt8} (h : kind s ≠ 0) : 1 ≤ kind s ∧ kind s ≤ 7 ∧ nm (kind s) = s := by
  unfold kind at h ⊢
  cases hk : kindO s with
  | none => rw [hk] at h; exact absurd rfl h
  | some k => exact kindO_some hk
theorem kind_ge (s : List UInt8) : 0 ≤ kind s := by
  by_cases h : kind s = 0
  · omega
  · have := kind_pos h; omega
theorem kind_nm {k : Int} (h : 1 ≤ k ∧ k ≤ 7) : kind (nm k) = k := by
  rcases kcases h.1 h.2 with e | e | e | e | e | e | e <;> subst e <;> decide +kernel
theorem kind_q : kind [63] = 0 := by decide +kernel
theorem provName_eq (k : Int) : fn_prov_Name k = some (nm k) := by
  unfold fn_prov_Name nm
  by_cases h1 : k = 1; · simp [h1]
  by_cases h2 : k = 2; · simp [h2]
  by_cases h3 : k = 3; · simp [h3]
  by_cases h4 : k = 4; · simp [h4]
  by_cases h5 : k = 5; · simp [h5]
  by_cases h6 : k = 6; · simp [h6]
  by_cases h7 : k = 7; · simp [h7]
  simp [h1, h2, h3, h4, h5, h6, h7]
theorem refName_eq (k : Int) : fn_ref26_Name k = some (nm k) := by
  by_cases h : 1 ≤ k ∧ k ≤ 7
  · rcases kcases h.1 h.2 with e | e | e | e | e | e | e <;> subst e <;> rfl
  · rw [nm_other h]
    unfold fn_ref26_Name
    have : (decide (k < 1) || decide (7 < k)) = true := by simp only [Bool.or_eq_true, decide_eq_true_eq]; omega
    rw [this]; rfl
def right (f : Pv) : Bool := ((decide (0 ≤ f.1) && decide (0 ≤ f.2.1)) && decide (0 ≤ f.2.2.2.1)) && (decide (1 ≤ f.2.2.1) && decide (f.2.2.1 ≤ 7))
theorem provRight_eq (f : Pv) : fn_prov_Right f = some (right f) := by
  unfold fn_prov_Right fn_prov_isKind right
  cases (decide (0 ≤ f.1) && decide (0 ≤ f.2.1)) && decide (0 ≤ f.2.2.2.1) <;> simp
theorem refRight_eq (f : Pv) : fn_ref26_Right f = some (right f) := by
  unfold fn_ref26_Right right
  rw [refName_eq]
  have : (!decide (nm f.2.2.1 = [63])) = (decide (1 ≤ f.2.2.1) && decide (f.2.2.1 ≤ 7)) := by
    by_cases h : 1 ≤ f.2.2.1 ∧ f.2.2.1 ≤ 7
    · simp [nm_ne h, h.1, h.2]
    · rw [nm_other h]
      simp only [decide_true, Bool.not_true]
      symm; rw [Bool.eq_false_iff]; simp only [ne_eq, Bool.and_eq_true, decide_eq_true_eq]; exact h
  simp only [Option.bind_some, this]
  cases (decide (0 ≤ f.1) && decide (0 ≤ f.2.1)) && decide (0 ≤ f.2.2.2.1) <;> simp
def bk : List UInt8 := [98, 97, 99, 107]
def words (f : Pv) : List (List UInt8) := [text f.1 ++ 46 :: text f.2.1, nm f.2.2.1, text f.2.2.2.1] ++ (if f.2.2.2.2 = true then [bk] else [])
def ptext (f : Pv) : List UInt8 := if right f = true then glue 32 (words f) else [63]
structure POk (f : Pv) : Prop where
  a : f.1 ≤ 9223372036854775807
  b : f.2.1 ≤ 9223372036854775807
  c : f.2.2.2.1 ≤ 9223372036854775807
theorem words_len {f : Pv} (h : POk f) : (glue 32 (words f)).length ≤ 80 := by
  have a := text_len h.a; have b := text_len h.b; have c := text_len h.c; have d := nm_len f.2.2.1
  unfold words
  cases f.2.2.2.2 <;> simp [glue, bk] <;> omega
theorem ptext_len {f : Pv} (h : POk f) : (ptext f).length ≤ 80 := by
  unfold ptext; split
  · exact words_len h
  · simp
theorem provText_eq (f : Pv) (h : POk f) : fn_prov_Text f = some (ptext f) := by
  have a := text_len h.a; have b := text_len h.b; have c := text_len h.c; have d := nm_len f.2.2.1
  have wl := words_len h
  unfold fn_prov_Text
  rw [provRight_eq]
  unfold ptext
  cases hr : right f with
  | false =>
    rfl
  | true =>
    simp only [Option.bind_some, Bool.not_true, cond_false, if_true]
    rw [nText_eq _ h.a, nText_eq _ h.b, nText_eq _ h.c, provName_eq]
    simp only [Option.bind_some]
    rw [app_eq (by simp; omega)]
    simp only [Option.bind_some]
    rw [app_eq (by simp; omega)]
    simp only [Option.bind_some, List.append_assoc, List.singleton_append]
    cases hb : f.2.2.2.2 with
    | false =>
      have e : words f = [text f.1 ++ 46 :: text f.2.1, nm f.2.2.1, text f.2.2.2.1] := by unfold words; rw [hb]; rfl
      rw [e] at wl ⊢
      simp only [cond_false]
      unfold joinF
      rw [join_glue, if_pos ⟨by omega, by simp⟩]; rfl
    | true =>
      have e : words f = [text f.1 ++ 46 :: text f.2.1, nm f.2.2.1, text f.2.2.2.1, bk] := by unfold words; rw [hb]; rfl
      rw [e] at wl ⊢
      simp only [cond_true]
      rw [app_eq (by simp)]
      simp only [Option.bind_some, List.cons_append, List.nil_append]
      unfold joinF
      have e2 : ([98, 97, 99, 107] : List UInt8) = bk := rfl
      rw [e2, join_glue, if_pos ⟨by omega, by simp⟩]; rfl
theorem refText_eq (f : Pv) (h : POk f) : fn_ref26_Text f = some (ptext f) := by
  have a := text_len h.a; have b := text_len h.b; have c := text_len h.c; have d := nm_len f.2.2.1
  unfold fn_ref26_Text
  rw [refRight_eq]
  unfold ptext
  cases hr : right f with
  | false =>
    rfl
  | true =>
    simp only [Option.bind_some, Bool.not_true, cond_false, if_true]
    rw [rText_eq _ h.a, rText_eq _ h.b, rText_eq _ h.c, refName_eq]
    simp only [Option.bind_some]
    rw [app_eq (by simp; omega)]
    simp only [Option.bind_some]
    rw [app_eq (by simp; omega)]
    simp only [Option.bind_some]
    rw [app_eq (by simp; omega)]
    simp only [Option.bind_some]
    rw [app_eq (by simp; omega)]
    simp only [Option.bind_some]
    rw [app_eq (by simp; omega)]
    simp only [Option.bind_some]
    rw [app_eq (by simp; omega)]
    simp only [Option.bind_some]
    unfold words
    cases hb : f.2.2.2.2 with
    | false => simp [glue]
    | true =>
      simp only [cond_true]
      rw [app_eq (by simp; omega)]
      simp [glue, bk]
def pedge (e : Int × Int × Pv) : List UInt8 := pair (e.1, e.2.1) ++ [32, 97, 116, 32] ++ ptext e.2.2
theorem pair_len {b : Int × Int} (h1 : b.1 ≤ 9223372036854775807) (h2 : b.2 ≤ 9223372036854775807) : (pair b).length ≤ 40 := by
  unfold pair; split
  · simp
  · have a := text_len h1; have c := text_len h2; simp; omega
structure EOk (e : Int × Int × Pv) : Prop where
  a : e.1 ≤ 9223372036854775807
  b : e.2.1 ≤ 9223372036854775807
  p : POk e.2.2
theorem provEdge_eq (e : Int × Int × Pv) (h : EOk e) : fn_prov_Edge e = some (pedge e) := by
  have l1 := pair_len (b := (e.1, e.2.1)) h.a h.b
  have l2 := ptext_len h.p
  unfold fn_prov_Edge pedge
  rw [nPair_eq _ h.a h.b, provText_eq _ ⟨h.p.a, h.p.b, h.p.c⟩]
  simp only [Option.bind_some]
  rw [app_eq (by simp; omega)]
  simp only [Option.bind_some]
  rw [app_eq (by simp; omega)]
  rfl
theorem refEdge_eq (e : Int × Int × Pv) (h : EOk e) : fn_ref26_Edge e = some (pedge e) := by
  have l1 := pair_len (b := (e.1, e.2.1)) h.a h.b
  have l2 := ptext_len h.p
  unfold fn_ref26_Edge pedge
  rw [rPair_eq _ h.a h.b, refText_eq _ ⟨h.p.a, h.p.b, h.p.c⟩]
  simp only [Option.bind_some]
  rw [app_eq (by simp; omega)]
  simp only [Option.bind_some]
  rw [app_eq (by simp; omega)]
  rfl
end Go.Proofs.Ythoclljhjcfemaa
namespace Go.Proofs.Ythoclljhjcfemaa
open Go.RowKit Nu
set_option linter.unusedVariables false
set_option linter.unnecessarySimpa false
set_option linter.unusedSimpArgs false
abbrev Eg := Int × Int × (Int × Int × Int × Int × Bool)
abbrev Fd := Int × Int × List Int
def arcsOf (l : List Eg) : List (Int × Int) := l.map (fun e => (e.1, e.2.1))
theorem refArcs_eq (l : List Eg) (hl : l.length ≤ 1000000) : fn_ref27_Arcs l = some (arcsOf l) := by
  unfold fn_ref27_Arcs
  have := loop_map l (fun e : Eg => (e.1, e.2.1)) [] (by simp; omega) (body := fn_ref27_Arcs_l1 l) (fun c i => by
    unfold fn_ref27_Arcs_l1
    cases hg : getI l i with
    | none => simp [hg]
    | some x => simp [hg])
  rw [this]; simp [arcsOf]
theorem graphArcs_eq (l : List Eg) (hl : l.length ≤ 1000000) : (loop (fn_cons_Graph_l1 l) (List.replicate l.length (0, 0), 0) : Option (List (Int × Int))) = some (arcsOf l) := by
  have h := loop_nat (body := fn_cons_Graph_l1 l) (fun k : Nat => ((arcsOf l).take k ++ List.replicate (l.length - k) ((0 : Int), (0 : Int)), (k : Int))) l.length (b := arcsOf l) ?_ ?_
  · simpa using h
  · intro k hk
    have hA : k < (arcsOf l).length := by simpa [arcsOf] using hk
    have hp : ((arcsOf l).take k).length = k := by simp; omega
    have hr : List.replicate (l.length - k) ((0 : Int), (0 : Int)) = (0, 0) :: List.replicate (l.length - (k + 1)) (0, 0) := by
      rw [show l.length - k = (l.length - (k + 1)) + 1 by omega, List.replicate_succ]
    unfold fn_cons_Graph_l1
    have hq : k < ((arcsOf l).take k ++ List.replicate (l.length - k) ((0 : Int), (0 : Int))).length := by simp; omega
    simp only [dlt hk, cond_true, getN hk, getN hq, Option.bind_some, w64s hk (by omega : l.length ≤ 9223372036854775807)]
    have hs : ((arcsOf l).take k ++ List.replicate (l.length - k) ((0 : Int), (0 : Int))).set (k : Int).toNat (l[k].1, l[k].2.1) = (arcsOf l).take (k + 1) ++ List.replicate (l.length - (k + 1)) (0, 0) := by
      rw [show (k : Int).toNat = k from rfl, List.set_append_right _ _ (by omega), hp, Nat.sub_self, hr, List.set_cons_zero, take_snoc hA, List.append_assoc]
      simp [arcsOf]
    rw [hs]
  · unfold fn_cons_Graph_l1
    have hT : (arcsOf l).take l.length = arcsOf l := by rw [List.take_of_length_le]; simp [arcsOf]
    simp only [dge (show ¬ l.length < l.length by omega), cond_false, hT, Nat.sub_self, List.replicate_zero, List.append_nil]
theorem mkArcs {n : Nat} (h : n ≤ 1000000) : (mk ((n : Nat) : Int) ((n : Nat) : Int) ((0 : Int), (0 : Int)) : Option (List (Int × Int))) = some (List.replicate n (0, 0)) := by
  unfold mk
  simp; omega
theorem consGraph_eq (xa : Int) (l : List Eg) (hl : l.length ≤ 1000000) : fn_cons_Graph (0, xa, [], [], [], [], []) l = (fn_graph_New xa (arcsOf l)).bind fun r => some r.1 := by
  unfold fn_cons_Graph
  rw [mkArcs hl, Option.bind_some, graphArcs_eq l hl, Option.bind_some]

theorem arcsOf_len (l : List Eg) : (arcsOf l).length = l.length := by simp [arcsOf]
/-- What the search for a reason answers. -/
noncomputable def Rz (g : Option Gr) (x : Int × Int) : List Int × Bool := (fn_path_Short_kpiiz g x.1 x.2).getD ([], false)
theorem walk_loop {N : Nat} {E : ArG} {v : Nat} {L : List Nat} {d : Nat → Option Nat} {m : Nat} {β : Nat → Option Nat} (hE : inN N E) (hN : N ≤ 1000) (he : E.length ≤ 10000) (h : Bend N E v L d m β) : ∀ {k x : Nat} {S : List Int}, d x = some k → S.length + k ≤ 100000 →
    loop (fn_ref33_walk_l1 (ai E) (dl N d)) ((x : Int), S) = some (li (sw E β k x) ++ S)
  | 0, x, S, hx, _ => by
    have hxN := h.b.lt x ((h.b.mem x).2 (by rw [hx]; rfl))
    apply loop_end
    unfold fn_ref33_walk_l1
    dsimp only
    rw [dl_get hxN, hx]
    rfl
  | k + 1, x, S, hx, hl => by
    obtain ⟨j, hj, h1, h2, h3, h4⟩ := sw_succ h hx
    have hxN := h.b.lt x ((h.b.mem x).2 (by rw [hx]; rfl))
    have ih := walk_loop (S := (j : Int) :: S) hE hN he h h3 (by rw [List.length_cons]; omega)
    have e : fn_ref33_walk_l1 (ai E) (dl N d) ((x : Int), S) = some (.inl ((E[j].1 : Int), (j : Int) :: S)) := by
      unfold fn_ref33_walk_l1
      dsimp only
      rw [dl_get hxN, hx]
      simp only [Option.bind_some]
      rw [decide_eq_true (p := (0 : Int) < dN (some (k + 1))) (by show (0 : Int) < ((k + 1 : Nat) : Int); omega), cond_true, refBack_ok hE he (fun w k h' => by have := h.lt h'; omega) h.yes h.low hxN, h1]
      simp only [Option.bind_some]
      rw [show dN (some j) = (j : Int) from rfl, app_eq (by simp; omega)]
      simp only [Option.bind_some]
      rw [getI_ai hj]
      rfl
    rw [loop_next e, ih, h4, li_app, List.append_assoc]
    rfl
/-- The two searches, and the one that counts. -/
theorem reason_ok {N : Nat} {E : ArG} (hE : inN N E) (hN : N ≤ 16) (he : E.length ≤ 1000) (x : Int × Int) :
    fn_path_Short_kpiiz (some (mkG N E)) x.1 x.2 = some (Rz (some (mkG N E)) x) ∧ fn_ref33_walk (N : Int) (ai E) x.1 x.2 = some (Rz (some (mkG N E)) x) ∧ (Rz (some (mkG N E)) x).1.length ≤ 1000 ∧
    ∀ c : Nat, c ≤ 10000000 → ∃ c' : Nat, c' ≤ c + 3 * (N + E.length) ∧ fn_path_Short_kpiip0_iiiiiii (some (mkG N E)) x.1 x.2 0 0 0 0 0 0 (c : Int) = some ((Rz (some (mkG N E)) x).1, (Rz (some (mkG N E)) x).2, (c' : Int)) := by
  obtain ⟨s, t⟩ := x
  have fin : ∀ r, fn_path_Short_kpiiz (some (mkG N E)) s t = some r → Rz (some (mkG N E)) (s, t) = r := fun r hr => by unfold Rz; rw [hr]; rfl
  have none_case : ∀ {u : Option (List Int × List Int × List (List Int))}, fn_bfs_From_kpiz (some (mkG N E)) s = some u → fn_bfs_Tree_Dist u t = some (-1) → fn_ref33_walk (N : Int) (ai E) s t = some ([], false) →
      (∀ c : Nat, c ≤ 10000000 → ∃ (c' : Nat) (u' : Option (List Int × List Int × List (List Int))), c' ≤ c + 3 * (N + E.length) ∧ fn_bfs_From_kpip0_iiiiiii (some (mkG N E)) s 0 0 0 0 0 0 (c : Int) = some (u', (c' : Int)) ∧ fn_bfs_Tree_Dist u' t = some (-1)) →
      fn_path_Short_kpiiz (some (mkG N E)) s t = some (Rz (some (mkG N E)) (s, t)) ∧ fn_ref33_walk (N : Int) (ai E) s t = some (Rz (some (mkG N E)) (s, t)) ∧ (Rz (some (mkG N E)) (s, t)).1.length ≤ 1000 ∧
    ∀ c : Nat, c ≤ 10000000 → ∃ c' : Nat, c' ≤ c + 3 * (N + E.length) ∧ fn_path_Short_kpiip0_iiiiiii (some (mkG N E)) s t 0 0 0 0 0 0 (c : Int) = some ((Rz (some (mkG N E)) (s, t)).1, (Rz (some (mkG N E)) (s, t)).2, (c' : Int)) := by
    intro u h1 h2 h3 h4
    have e := Short_not h1 h2
    rw [fin _ e]
    refine ⟨e, h3, by simp, fun c hc => ?_⟩
    obtain ⟨c', u', g1, g2, g3⟩ := h4 c hc
    refine ⟨c', g1, ?_⟩
    unfold fn_path_Short_kpiip0_iiiiiii
    rw [g2]
    simp only [Option.bind_some]
    rw [g3]
    rfl
  have wnot : (s < 0 ∨ (N : Int) ≤ s ∨ t < 0 ∨ (N : Int) ≤ t) → fn_ref33_walk (N : Int) (ai E) s t = some ([], false) := fun h => by
    unfold fn_ref33_walk
    have : (((decide (s < 0) || decide ((N : Int) ≤ s)) || decide (t < 0)) || decide ((N : Int) ≤ t)) = true := by
      simp only [Bool.or_eq_true, decide_eq_true_eq]; omega
    rw [this, cond_true]
  by_cases hs : s < 0 ∨ (N : Int) ≤ s
  · have hd0 : ∀ {bk : List Int} {ls : List (List Int)}, fn_bfs_Tree_Dist (some (dl N (fun _ => none), bk, ls)) t = some (-1) := by
      intro bk ls
      by_cases hd : t < 0 ∨ (N : Int) ≤ t
      · exact Dist_not hd
      · obtain ⟨x, rfl⟩ := Int.eq_ofNat_of_zero_le (show 0 ≤ t by omega)
        rw [Dist_of (by omega)]; rfl
    exact none_case (From_not (by omega) hs) hd0 (wnot (by omega)) (fun c hc => ⟨c, _, by omega, From_c_not (by omega) hs, hd0⟩)
  obtain ⟨v, rfl⟩ := Int.eq_ofNat_of_zero_le (show 0 ≤ s by omega)
  have hvN : v < N := by omega
  obtain ⟨L, d, m, β, e1, b⟩ := From_ok hE (by omega) (by omega) hvN
  have counted : ∀ c : Nat, c ≤ 10000000 → ∃ (L' : List Nat) (d' : Nat → Option Nat) (m' : Nat) (β' : Nat → Option Nat), fn_bfs_From_kpip0_iiiiiii (some (mkG N E)) (v : Int) 0 0 0 0 0 0 (c : Int) = some (some (dl N d', dl N β', lyS N m' d'), ((c + cost E L' : Nat) : Int)) ∧ Bend N E v L' d' m' β' ∧ cost E L' ≤ N + E.length ∧ (∀ y, d' y = d y) ∧ ∀ y, β' y = β y := fun c hc => by
    obtain ⟨L', d', m', β', e2, b2⟩ := From_c_any hE (by omega) (by omega) hvN hc
    have hdd : ∀ y, d' y = d y := fun y => by
      cases hk : d y with
      | some k => exact (b2.b.far y k).2 ((b.b.far y k).1 hk)
      | none => exact (b2.b.far_not y).2 ((b.b.far_not y).1 hk)
    have lead : ∀ i w, Lead E d' i w ↔ Lead E d i w := fun i w => by
      have : d' = d := funext hdd
      rw [this]
    refine ⟨L', d', m', β', e2, b2, ?_, hdd, fun y => ?_⟩
    · have h1 := cost_le E b2.b.nd
      have h2 := b2.b.len
      omega
    · cases hb : β y with
      | none =>
        cases hb2 : β' y with
        | none => rfl
        | some j =>
          obtain ⟨i, h1, _⟩ := b.low y j ((lead j y).1 (b2.yes y j hb2))
          rw [hb] at h1; cases h1
      | some i =>
        obtain ⟨j, h1, h2⟩ := b2.low y i ((lead i y).2 (b.yes y i hb))
        obtain ⟨q, h3, h4⟩ := b.low y j ((lead j y).1 (b2.yes y j h1))
        rw [hb] at h3; cases h3
        rw [h1]; congr 1; omega
  by_cases ht : t < 0 ∨ (N : Int) ≤ t
  · exact none_case e1 (Dist_not ht) (wnot (by omega)) (fun c hc => by
      obtain ⟨L', d', m', β', g1, g2, g3, _, _⟩ := counted c hc
      exact ⟨_, _, by omega, g1, Dist_not ht⟩)
  obtain ⟨w, rfl⟩ := Int.eq_ofNat_of_zero_le (show 0 ≤ t by omega)
  have hwN : w < N := by omega
  have hin : (((decide ((v : Int) < 0) || decide ((N : Int) ≤ (v : Int))) || decide ((w : Int) < 0)) || decide ((N : Int) ≤ (w : Int))) = false := by
    simp only [Bool.or_eq_false_iff, decide_eq_false_iff_not]; omega
  cases hw : d w with
  | none =>
    refine none_case e1 (by rw [Dist_of hwN, hw]; rfl) ?_ (fun c hc => ?_)
    · unfold fn_ref33_walk
      rw [hin, cond_false, refDist_ok hE (by omega) (by omega) hvN b]
      simp only [Option.bind_some]
      rw [dl_get hwN, hw]
      rfl
    · obtain ⟨L', d', m', β', g1, g2, g3, g4, _⟩ := counted c hc
      exact ⟨_, _, by omega, g1, by rw [Dist_of hwN, g4, hw]; rfl⟩
  | some k =>
    have hk := b.lt hw
    have e := Short_ok hE (by omega) b e1 hw
    rw [fin _ e]
    obtain ⟨w1, w2⟩ := sw_ok b hw
    refine ⟨e, ?_, by show (li _).length ≤ 1000; rw [li_len, w2]; omega, fun c hc => ?_⟩
    · unfold fn_ref33_walk
      rw [hin, cond_false, refDist_ok hE (by omega) (by omega) hvN b]
      simp only [Option.bind_some]
      rw [dl_get hwN, hw]
      simp only [Option.bind_some]
      rw [decide_eq_false (p := dN (some k) < 0) (by show ¬ ((k : Int) < 0); omega), cond_false, walk_loop (S := []) hE (by omega) (by omega) b hw (by simp; omega), List.append_nil]
      rfl
    · obtain ⟨L', d', m', β', g1, g2, g3, g4, g5⟩ := counted c hc
      have hsw : sw E β' k w = sw E β k w := by
        have : β' = β := funext g5
        rw [this]
      refine ⟨c + cost E L' + k, by omega, ?_⟩
      unfold fn_path_Short_kpiip0_iiiiiii
      rw [g1]
      simp only [Option.bind_some]
      rw [Dist_of hwN, g4, hw]
      simp only [Option.bind_some]
      rw [show dN (some k) = (k : Int) from rfl, decide_eq_false (p := (k : Int) < 0) (by omega), cond_false, mkN (by omega)]
      simp only [Option.bind_some]
      rw [List.length_replicate, w64 (by omega) (by omega), short_l1_same]
      have := Short_loop (S := []) (ls := lyS N m' d') hE g2 (x := w) (k := k) (by rw [g4]; exact hw) (by omega)
      rw [List.append_nil, List.append_nil] at this
      rw [this]
      simp only [Option.bind_some]
      rw [hsw, li_len, w2, add_ok (by omega) (by omega)]
      rfl
theorem reason_none (x : Int × Int) : fn_path_Short_kpiiz none x.1 x.2 = some ([], false) ∧ ∀ c : Int, fn_path_Short_kpiip0_iiiiiii none x.1 x.2 0 0 0 0 0 0 c = some ([], false, c) := by
  have dnil : fn_bfs_Tree_Dist (some ([], [], [])) x.2 = some (-1) := by
    have := Dist_not (N := 0) (w := x.2) (d := fun _ => none) (bk := []) (ls := []) (by omega)
    simpa [dl] using this
  refine ⟨Short_not (From_none x.1) dnil, fun c => ?_⟩
  unfold fn_path_Short_kpiip0_iiiiiii
  rw [From_c_none]
  simp only [Option.bind_some]
  rw [dnil]
  rfl
/-- The findings. -/
noncomputable def fnds (g : Option Gr) (l : List (Int × Int)) : List Fd := l.filterMap fun x => if (Rz g x).2 = true then some (x.1, x.2, (Rz g x).1) else none
theorem fnds_len (g : Option Gr) (l : List (Int × Int)) : (fnds g l).length ≤ l.length := List.length_filterMap_le _ _
theorem fnds_snoc (g : Option Gr) (l : List (Int × Int)) (x : Int × Int) : fnds g (l ++ [x]) = fnds g l ++ if (Rz g x).2 = true then [(x.1, x.2, (Rz g x).1)] else [] := by
  unfold fnds
  rw [List.filterMap_append]
  congr 1
  by_cases h : (Rz g x).2 = true <;> simp [h]
def missT : List UInt8 := [32, 105, 115, 32, 109, 105, 115, 115, 105, 110, 103, 44, 32, 98, 121, 32]
def line33 (l : List Eg) (i : Int) : Option (List UInt8) := if h : 0 ≤ i ∧ i < (l.length : Int) then some ([32, 32] ++ pedge (l[i.toNat]'(by omega))) else none
def text33 (l : List Eg) (f : Fd) : List (List UInt8) := (pair (f.1, f.2.1) ++ missT ++ text ((f.2.2.length : Nat) : Int)) :: f.2.2.filterMap (line33 l)
theorem edge_len {e : Eg} (h : EOk e) : (pedge e).length ≤ 200 := by
  have l1 := pair_len (b := (e.1, e.2.1)) h.a h.b
  have l2 := ptext_len h.p
  unfold pedge
  rw [List.length_append, List.length_append]
  simp; omega
theorem line_some {l : List Eg} {i : Int} (h : 0 ≤ i ∧ i < (l.length : Int)) : ∃ e ∈ l, getI l i = some e ∧ line33 l i = some ([32, 32] ++ pedge e) := by
  obtain ⟨k, rfl⟩ := Int.eq_ofNat_of_zero_le h.1
  have hk : k < l.length := by omega
  refine ⟨l[k], List.getElem_mem hk, getN hk, ?_⟩
  unfold line33
  rw [dif_pos h]
  simp
theorem bText_eq (l : List Eg) (f : Fd) (hl : l.length ≤ 10000) (hp : f.2.2.length ≤ 10000) (he : ∀ e ∈ l, EOk e) (h1 : f.1 ≤ 9223372036854775807) (h2 : f.2.1 ≤ 9223372036854775807) : fn_blame_Text l f = some (text33 l f) := by
  have l1 := pair_len (b := (f.1, f.2.1)) h1 h2
  have l2 := text_len (n := ((f.2.2.length : Nat) : Int)) (by omega)
  unfold fn_blame_Text
  rw [nPair_eq _ h1 h2]
  simp only [Option.bind_some]
  rw [show ([32, 105, 115, 32, 109, 105, 115, 115, 105, 110, 103, 44, 32, 98, 121, 32] : List UInt8) = missT from rfl, app_eq (by simp [missT]; omega)]
  simp only [Option.bind_some]
  rw [nText_eq _ (by omega)]
  simp only [Option.bind_some]
  rw [app_eq (by simp [missT]; omega)]
  simp only [Option.bind_some]
  have := loop_nat (body := fn_blame_Text_l1 l f) (fun i : Nat => ((pair (f.1, f.2.1) ++ missT ++ text ((f.2.2.length : Nat) : Int)) :: (f.2.2.take i).filterMap (line33 l), (i : Int))) f.2.2.length (b := text33 l f) ?_ ?_
  · have e' : loop (fn_blame_Text_l1 l f) ([pair (f.1, f.2.1) ++ missT ++ text ((f.2.2.length : Nat) : Int)], 0) = _ := this
    rw [e']; rfl
  · intro i hi
    have hfl : ((f.2.2.take i).filterMap (line33 l)).length ≤ i := by have := List.length_filterMap_le (line33 l) (f.2.2.take i); rw [List.length_take] at this; omega
    unfold fn_blame_Text_l1
    dsimp only
    rw [dlt hi, cond_true, getN hi]
    simp only [Option.bind_some]
    rw [take_snoc hi, List.filterMap_append, w64s hi (by omega)]
    by_cases hr : 0 ≤ f.2.2[i] ∧ f.2.2[i] < (l.length : Int)
    · obtain ⟨e, hm, g1, g2⟩ := line_some hr
      have hlen := edge_len (he e hm)
      rw [decide_eq_true hr.1, decide_eq_true hr.2, Bool.and_self, cond_true, g1]
      simp only [Option.bind_some]
      rw [provEdge_eq _ (he e hm)]
      simp only [Option.bind_some]
      rw [app_eq (by simp; omega)]
      simp only [Option.bind_some]
      rw [app_eq (by simp; omega)]
      simp only [Option.bind_some, List.filterMap_cons, List.filterMap_nil, g2]
      rfl
    · have hc : (decide (0 ≤ f.2.2[i]) && decide (f.2.2[i] < (l.length : Int))) = false := by
        rw [Bool.and_eq_false_iff, decide_eq_false_iff_not, decide_eq_false_iff_not]; omega
      have g2 : line33 l f.2.2[i] = none := by unfold line33; rw [dif_neg hr]
      rw [hc, cond_false]
      simp only [List.filterMap_cons, List.filterMap_nil, g2, List.append_nil]
  · unfold fn_blame_Text_l1
    dsimp only
    rw [dge (Nat.lt_irrefl _), cond_false, List.take_length]
    rfl
theorem rText33_eq (l : List Eg) (f : Fd) (hl : l.length ≤ 10000) (hp : f.2.2.length ≤ 10000) (he : ∀ e ∈ l, EOk e) (h1 : f.1 ≤ 9223372036854775807) (h2 : f.2.1 ≤ 9223372036854775807) : fn_ref33_Text l f = some (text33 l f) := by
  have l1 := pair_len (b := (f.1, f.2.1)) h1 h2
  have l2 := text_len (n := ((f.2.2.length : Nat) : Int)) (by omega)
  unfold fn_ref33_Text
  rw [rPair_eq _ h1 h2]
  simp only [Option.bind_some]
  rw [show ([32, 105, 115, 32, 109, 105, 115, 115, 105, 110, 103, 44, 32, 98, 121, 32] : List UInt8) = missT from rfl, app_eq (by simp [missT]; omega)]
  simp only [Option.bind_some]
  rw [rText_eq _ (by omega)]
  simp only [Option.bind_some]
  rw [app_eq (by simp [missT]; omega)]
  simp only [Option.bind_some]
  have := loop_nat (body := fn_ref33_Text_l1 l f) (fun i : Nat => ((pair (f.1, f.2.1) ++ missT ++ text ((f.2.2.length : Nat) : Int)) :: (f.2.2.take i).filterMap (line33 l), (i : Int))) f.2.2.length (b := text33 l f) ?_ ?_
  · have e' : loop (fn_ref33_Text_l1 l f) ([pair (f.1, f.2.1) ++ missT ++ text ((f.2.2.length : Nat) : Int)], 0) = _ := this
    rw [e']; rfl
  · intro i hi
    have hfl : ((f.2.2.take i).filterMap (line33 l)).length ≤ i := by have := List.length_filterMap_le (line33 l) (f.2.2.take i); rw [List.length_take] at this; omega
    unfold fn_ref33_Text_l1
    dsimp only
    rw [dlt hi, cond_true, getN hi]
    simp only [Option.bind_some]
    rw [take_snoc hi, List.filterMap_append, w64s hi (by omega)]
    by_cases hr : 0 ≤ f.2.2[i] ∧ f.2.2[i] < (l.length : Int)
    · obtain ⟨e, hm, g1, g2⟩ := line_some hr
      have hlen := edge_len (he e hm)
      rw [decide_eq_true hr.1, decide_eq_true hr.2, cond_true]
      simp only [Option.bind_some, cond_true]
      rw [g1]
      simp only [Option.bind_some]
      rw [refEdge_eq _ (he e hm)]
      simp only [Option.bind_some]
      rw [app_eq (by simp; omega)]
      simp only [Option.bind_some]
      rw [app_eq (by simp; omega)]
      simp only [Option.bind_some, List.filterMap_cons, List.filterMap_nil, g2]
      rfl
    · have hc : (cond (decide (0 ≤ f.2.2[i])) (some (decide (f.2.2[i] < (l.length : Int)))) (some false) : Option Bool) = some false := by
        by_cases h0 : 0 ≤ f.2.2[i]
        · rw [decide_eq_true h0, cond_true, decide_eq_false (p := f.2.2[i] < (l.length : Int)) (by omega)]
        · rw [decide_eq_false h0, cond_false]
      have g2 : line33 l f.2.2[i] = none := by unfold line33; rw [dif_neg hr]
      rw [hc]
      simp only [Option.bind_some, cond_false, List.filterMap_cons, List.filterMap_nil, g2, List.append_nil]
  · unfold fn_ref33_Text_l1
    dsimp only
    rw [dge (Nat.lt_irrefl _), cond_false, List.take_length]
    rfl
theorem lines_eq (a b : List (List UInt8)) (ha : a.length ≤ 1000000) : fn_ref33_Lines a b = some (decide (a = b)) := by
  unfold fn_ref33_Lines
  by_cases hl : a.length = b.length
  · rw [dlen hl, cond_false, loop_alike (body := fn_ref33_Lines_l1 a b) a b (.inr false) (.inl ()) hl ?_ ?_]
    · by_cases h : a = b <;> simp [h]
    · intro k h; unfold fn_ref33_Lines_l1
      have h2 : k < b.length := by omega
      by_cases q : a[k] = b[k] <;> simp [getN h, getN h2, h, q, w64s h (by omega)]
    · simp [fn_ref33_Lines_l1]
  · rw [dlen' hl, cond_true]
    have : ¬ a = b := fun h => hl (by rw [h])
    simp [this]
end Go.Proofs.Ythoclljhjcfemaa
namespace Go.Proofs.Ythoclljhjcfemaa
open Go.RowKit Nu
set_option linter.unusedVariables false
set_option linter.unnecessarySimpa false
set_option linter.unusedSimpArgs false
theorem graph_case (xa : Int) (l : List Eg) (hl : l.length ≤ 40) (hn : xa ≤ 16) :
    (fn_cons_Graph (0, xa, [], [], [], [], []) l = some none ∧ ∃ e, e ≠ 0 ∧ fn_ref10_Check xa (arcsOf l) = some e) ∨
    ∃ (N : Nat) (E : ArG), xa = (N : Int) ∧ N ≤ 16 ∧ E.length ≤ 40 ∧ l.length = E.length ∧ inN N E ∧ arcsOf l = ai E ∧ fn_cons_Graph (0, xa, [], [], [], [], []) l = some (some (mkG N E)) ∧ fn_ref10_Check xa (arcsOf l) = some 0 := by
  rw [consGraph_eq xa l (by omega), Check_eq _ _ (by rw [arcsOf_len]; omega)]
  rcases New_eq xa (arcsOf l) (by rw [arcsOf_len]; omega) with ⟨h, e⟩ | ⟨h, e⟩ | ⟨h1, h2, h3, e⟩ | ⟨N, E, rfl, hN, hA, hE, hout, e⟩
  · exact .inl ⟨by rw [e]; rfl, 2, by decide, by rw [if_pos h]⟩
  · omega
  · exact .inl ⟨by rw [e]; rfl, 7, by decide, by rw [if_neg (by omega), if_neg (by omega), h3, if_pos rfl]⟩
  · have hlen : l.length = E.length := by have := congrArg List.length hA; rwa [arcsOf_len, ai_len] at this
    refine .inr ⟨N, E, rfl, by omega, by omega, hlen, hE, hA, by rw [e]; rfl, ?_⟩
    rw [if_neg (by omega), if_neg (by omega), hout, if_neg (by decide)]
theorem awake33 : fn_law33_awake = some true := by
  have hE : inN 3 [(1, 2)] := by unfold inN; decide
  have hG : fn_cons_Graph (0, 3, [], [], [], [], []) [(1, 2, (0, 0, 7, 0, false))] = some (some (mkG 3 [(1, 2)])) := by
    rw [consGraph_eq _ _ (by decide), show arcsOf [(1, 2, (0, 0, 7, 0, false))] = ai [(1, 2)] from rfl, show (3 : Int) = ((3 : Nat) : Int) from rfl, New_ok hE (by omega) (by decide)]
    rfl
  obtain ⟨L, d, m, β, e, b⟩ := From_ok (v := 1) hE (by omega) (by decide) (by omega)
  obtain ⟨L2, d2, m2, β2, e2, b2⟩ := From_ok (v := 2) hE (by omega) (by decide) (by omega)
  have hpot : ∀ a c, (a, c) ∈ ([(1, 2)] : ArG) → (if c = 2 then 1 else 0 : Nat) ≤ (if a = 2 then 1 else 0) + 1 := by
    intro a c h
    simp at h
    obtain ⟨rfl, rfl⟩ := h
    decide
  have h2 : d 2 = some 1 := (b.b.far 2 1).2 ⟨.step .zero (by decide), fun j h => Wk.pot (fun c => if c = 2 then 1 else 0) rfl hpot h⟩
  have hβ : β 2 = some 0 := by
    obtain ⟨j, h1, h3⟩ := b.low 2 0 ⟨by decide, 0, rfl, b.b.d0, h2⟩
    rw [h1]; congr 1; omega
  have h1 : d2 1 = none := (b2.b.far_not 1).2 (fun hr => by
    have := Rch.closed (E := [(1, 2)]) (p := fun x => x = 2) rfl (fun w u h hw => by
      simp at h; exact h.2) hr
    cases this)
  have r1 : fn_path_Short_kpiiz (some (mkG 3 [(1, 2)])) 1 2 = some ([0], true) := by
    have := Short_ok hE (by omega) b e h2
    have hs : sw [(1, 2)] β 1 2 = [0] := by
      show (match β 2 with | some j => [] ++ [j] | none => []) = _
      rw [hβ]; rfl
    rw [hs] at this
    exact this
  have r2 : fn_path_Short_kpiiz (some (mkG 3 [(1, 2)])) 2 1 = some ([], false) := Short_not (x := ((1 : Nat) : Int)) e2 (by rw [Dist_of (by omega), h1]; rfl)
  have hl : loop (fn_blame_Of_akkz_l1 [(1, 2), (2, 1)] (some (mkG 3 [(1, 2)]))) ([], 0) = some [(1, 2, [0])] := by
    have := loop_nat (body := fn_blame_Of_akkz_l1 [(1, 2), (2, 1)] (some (mkG 3 [(1, 2)]))) (fun i : Nat => ((if i = 0 then [] else [(1, 2, [0])] : List Fd), (i : Int))) 2 (b := [(1, 2, [0])]) ?_ ?_
    · exact this
    · intro i hi
      match i, hi with
      | 0, _ =>
        unfold fn_blame_Of_akkz_l1
        dsimp only
        rw [show getI ([(1, 2), (2, 1)] : List (Int × Int)) ((0 : Nat) : Int) = some (1, 2) from rfl, show decide (((0 : Nat) : Int) < ((List.length ([(1, 2), (2, 1)] : List (Int × Int)) : Nat) : Int)) = true from rfl]
        simp only [Option.bind_some, cond_true]
        rw [r1]
        rfl
      | 1, _ =>
        unfold fn_blame_Of_akkz_l1
        dsimp only
        rw [show getI ([(1, 2), (2, 1)] : List (Int × Int)) ((1 : Nat) : Int) = some (2, 1) from rfl, show decide (((1 : Nat) : Int) < ((List.length ([(1, 2), (2, 1)] : List (Int × Int)) : Nat) : Int)) = true from rfl]
        simp only [Option.bind_some, cond_true]
        rw [r2]
        rfl
    · rfl
  unfold fn_law33_awake fn_blame_Of_akkz
  dsimp only
  rw [hG]
  simp only [Option.bind_some]
  rw [hl]
  simp only [Option.bind_some]
  rw [show decide ((((List.length ([(1, 2, [0])] : List Fd) : Nat) : Int)) = 1) = true from rfl, cond_true, show getI ([(1, 2, [0])] : List Fd) 0 = some (1, 2, [0]) from rfl]
  simp only [Option.bind_some]
  rw [bText_eq _ _ (by decide) (by decide) (by
    intro e he
    simp at he
    subst he
    exact ⟨by decide, by decide, by decide, by decide, by decide⟩) (by decide) (by decide)]
  simp only [Option.bind_some]
  have ht : text33 [(1, 2, (0, 0, 7, 0, false))] (1, 2, [0]) = [([49, 58, 50, 32, 105, 115, 32, 109, 105, 115, 115, 105, 110, 103, 44, 32, 98, 121, 32, 49] : List UInt8), ([32, 32, 49, 58, 50, 32, 97, 116, 32, 48, 46, 48, 32, 111, 117, 116, 32, 48] : List UInt8)] := by
    simp [text33, pair, text, missT, line33, pedge, ptext, right, words, nm, glue, dec_lt, ch]
  rw [ht, lines_eq _ _ (by decide), decide_eq_true rfl]
  rfl
theorem same33_eq (a : List Fd) (ha : a.length ≤ 1000) (h : ∀ f ∈ a, f.2.2.length ≤ 100000) : fn_ref33_Same a a = some true := by
  unfold fn_ref33_Same
  rw [dlen rfl, cond_false]
  have := loop_nat (body := fn_ref33_Same_l1 a a) (fun i : Nat => (i : Int)) a.length (b := (.inl () : Unit ⊕ Bool)) ?_ ?_
  · have e' : loop (fn_ref33_Same_l1 a a) 0 = _ := this
    rw [e']; rfl
  · intro i hi
    unfold fn_ref33_Same_l1
    rw [dlt hi, cond_true, getN hi]
    simp only [Option.bind_some, decide_true, Bool.not_true, cond_false]
    rw [same01_eq _ _ (by have := h _ (List.getElem_mem hi); omega), decide_eq_true rfl]
    simp only [Option.bind_some, Bool.not_true, cond_false]
    rw [w64s hi (by omega)]
  · unfold fn_ref33_Same_l1
    rw [dge (Nat.lt_irrefl _), cond_false]
theorem bounds_eq (a : List Fd) (ha : a.length ≤ 1000) : fn_blame_Bounds a = some (a.map fun f => (f.1, f.2.1)) := by
  unfold fn_blame_Bounds
  have := loop_map a (fun f : Fd => (f.1, f.2.1)) [] (by simp; omega) (body := fn_blame_Bounds_l1 a) (fun c i => by
    unfold fn_blame_Bounds_l1
    cases hg : getI a i with
    | none => simp [hg]
    | some x => simp [hg])
  rw [this]; simp
/-- Findings, as they come out of the program and the document. -/
theorem finds_c {N : Nat} {E : ArG} (hE : inN N E) (hN : N ≤ 16) (he : E.length ≤ 1000) (l : List (Int × Int)) (hl : l.length ≤ 20) :
    ∃ c : Nat, c ≤ l.length * (3 * (N + E.length)) ∧ loop (fn_blame_Of_akkp0_iiiiiii_l1 l 0 0 0 0 0 0 (some (mkG N E))) ([], 0, 0) = some (fnds (some (mkG N E)) l, (c : Int)) := by
  have key : ∀ (r i c : Nat), i + r = l.length → c ≤ i * (3 * (N + E.length)) → ∃ c' : Nat, c' ≤ l.length * (3 * (N + E.length)) ∧ loop (fn_blame_Of_akkp0_iiiiiii_l1 l 0 0 0 0 0 0 (some (mkG N E))) (fnds (some (mkG N E)) (l.take i), (i : Int), (c : Int)) = some (fnds (some (mkG N E)) l, (c' : Int)) := by
    intro r
    induction r with
    | zero =>
      intro i c hi hc
      obtain rfl : i = l.length := by omega
      refine ⟨c, hc, ?_⟩
      apply loop_end
      unfold fn_blame_Of_akkp0_iiiiiii_l1
      dsimp only
      rw [dge (Nat.lt_irrefl _), cond_false, List.take_length]
    | succ r ih =>
      intro i c hi hc
      have hil : i < l.length := by omega
      have hmul : i * (3 * (N + E.length)) ≤ 20 * (3 * (N + E.length)) := Nat.mul_le_mul_right _ (by omega)
      obtain ⟨_, _, h3, h4⟩ := reason_ok hE hN he l[i]
      obtain ⟨c1, g1, g2⟩ := h4 c (by omega)
      obtain ⟨c', q1, q2⟩ := ih (i + 1) c1 (by omega) (by rw [Nat.succ_mul]; omega)
      refine ⟨c', q1, ?_⟩
      have hfl := fnds_len (some (mkG N E)) (l.take i)
      rw [List.length_take, Nat.min_eq_left (by omega)] at hfl
      have e : fn_blame_Of_akkp0_iiiiiii_l1 l 0 0 0 0 0 0 (some (mkG N E)) (fnds (some (mkG N E)) (l.take i), (i : Int), (c : Int)) = some (.inl (fnds (some (mkG N E)) (l.take (i + 1)), ((i + 1 : Nat) : Int), (c1 : Int))) := by
        unfold fn_blame_Of_akkp0_iiiiiii_l1
        dsimp only
        rw [dlt hil, cond_true, getN hil]
        simp only [Option.bind_some]
        rw [g2]
        simp only [Option.bind_some]
        rw [take_snoc hil, fnds_snoc, w64s hil (by omega)]
        cases hb : (Rz (some (mkG N E)) l[i]).2 with
        | true =>
          rw [cond_true, if_pos rfl, app_eq (by simp; omega)]
          rfl
        | false =>
          rw [cond_false, if_neg (by simp), List.append_nil]
      rw [loop_next e]
      exact q2
  obtain ⟨c', h1, h2⟩ := key l.length 0 0 (by omega) (by omega)
  exact ⟨c', h1, h2⟩
theorem finds_r {N : Nat} {E : ArG} (hE : inN N E) (hN : N ≤ 16) (he : E.length ≤ 1000) (l : List (Int × Int)) (hl : l.length ≤ 20) :
    loop (fn_ref33_Of_l1 (0, (N : Int), [], [], [], [], []) l (ai E)) ([], 0) = some (fnds (some (mkG N E)) l) := by
  refine loop_nat (body := fn_ref33_Of_l1 (0, (N : Int), [], [], [], [], []) l (ai E)) (fun i : Nat => (fnds (some (mkG N E)) (l.take i), (i : Int))) l.length ?_ ?_
  · intro i hi
    obtain ⟨_, h2, h3, _⟩ := reason_ok hE hN he l[i]
    have hfl := fnds_len (some (mkG N E)) (l.take i)
    rw [List.length_take, Nat.min_eq_left (by omega)] at hfl
    unfold fn_ref33_Of_l1
    dsimp only
    rw [dlt hi, cond_true, getN hi]
    simp only [Option.bind_some]
    rw [h2]
    simp only [Option.bind_some]
    rw [take_snoc hi, fnds_snoc, w64s hi (by omega)]
    cases hb : (Rz (some (mkG N E)) l[i]).2 with
    | true =>
      rw [cond_true, if_pos rfl, app_eq (by simp; omega)]
      rfl
    | false =>
      rw [cond_false, if_neg (by simp), List.append_nil]
  · unfold fn_ref33_Of_l1
    dsimp only
    rw [dge (Nat.lt_irrefl _), cond_false, List.take_length]
theorem finds_none (l : List (Int × Int)) (hl : l.length ≤ 20) : loop (fn_blame_Of_akkp0_iiiiiii_l1 l 0 0 0 0 0 0 none) ([], 0, 0) = some ([], 0) := by
  refine loop_nat (body := fn_blame_Of_akkp0_iiiiiii_l1 l 0 0 0 0 0 0 none) (fun i : Nat => (([] : List Fd), (i : Int), (0 : Int))) l.length ?_ ?_
  · intro i hi
    unfold fn_blame_Of_akkp0_iiiiiii_l1
    dsimp only
    rw [dlt hi, cond_true, getN hi]
    simp only [Option.bind_some]
    rw [(reason_none l[i]).2]
    simp only [Option.bind_some, cond_false]
    rw [w64s hi (by omega)]
  · unfold fn_blame_Of_akkp0_iiiiiii_l1
    dsimp only
    rw [dge (Nat.lt_irrefl _), cond_false]
theorem eok {e : Eg} (k : Tp.Ok (.cons (.int .i64) (.cons (.int .i64) (.one (.cons (.int .i64) (.cons (.int .i64) (.cons (.int .i64) (.cons (.int .i64) (.one .bool)))))))) e) : EOk e := ⟨(ok64 k.1).2, (ok64 k.2.1).2, (ok64 k.2.2.1).2, (ok64 k.2.2.2.1).2, (ok64 k.2.2.2.2.2.1).2⟩
theorem finds_end {xa : Int} {xb : List Eg} {xc : List (Int × Int)} {F : List Fd} {c : Nat} (hn : xa ≤ 16) (hb : xb.length ≤ 40) (hc : xc.length ≤ 20) (he : ∀ e ∈ xb, EOk e)
    (hF : F.length ≤ 20) (hp : ∀ f ∈ F, f.2.2.length ≤ 1000 ∧ f.1 ≤ 9223372036854775807 ∧ f.2.1 ≤ 9223372036854775807)
    (h1 : fn_blame_Of_akkp0_iiiiiii (0, xa, [], [], [], [], []) xb xc 0 0 0 0 0 0 0 = some (F, (c : Int))) (h2 : fn_ref33_Of (0, xa, [], [], [], [], []) xb xc = some F) (h3 : c ≤ 100000) (h4 : 0 ≤ xa → (c : Int) ≤ 3 * (xc.length : Int) * (xa + (xb.length : Int))) :
    fn_law33_BlameFinds xa xb xc = some true := by
  have o6 : ∀ a, fn_tick_Counter_Of_p0c6_iiiiiii 0 0 0 0 0 0 a = some a := fun a => rfl
  unfold fn_law33_BlameFinds
  rw [awake33]
  have hg : ((decide (16 < xa) || decide ((40 : Int) < ((xb.length : Nat) : Int))) || decide ((20 : Int) < ((xc.length : Nat) : Int))) = false := by
    simp only [Bool.or_eq_false_iff, decide_eq_false_iff_not]; omega
  rw [hg, cond_false, h1]
  simp only [Option.bind_some]
  rw [h2]
  simp only [Option.bind_some]
  rw [same33_eq F (by omega) (fun f hf => by have := (hp f hf).1; omega)]
  simp only [Option.bind_some, Bool.not_true, cond_false, o6]
  rw [total_ok (by omega)]
  simp only [Option.bind_some, decide_true, Bool.not_true, cond_false]
  have hsteps : (cond (decide (0 ≤ xa)) (some (decide ((IntKind.wrap .i64 ((IntKind.wrap .i64 (3 * (((xc.length : Nat) : Int)))) * (IntKind.wrap .i64 (xa + (((xb.length : Nat) : Int)))))) < (c : Int)))) (some (false)) : Option Bool) = some false := by
    by_cases h0 : 0 ≤ xa
    · have hm1 : 3 * ((xc.length : Nat) : Int) * (xa + ((xb.length : Nat) : Int)) ≤ 60 * (xa + ((xb.length : Nat) : Int)) := Int.mul_le_mul_of_nonneg_right (by omega) (by omega)
      have hm0 : 0 ≤ 3 * ((xc.length : Nat) : Int) * (xa + ((xb.length : Nat) : Int)) := Int.mul_nonneg (by omega) (by omega)
      rw [decide_eq_true h0, cond_true, w64 (x := 3 * _) (by omega) (by omega), w64 (x := xa + _) (by omega) (by omega), w64 (by omega) (by omega), decide_eq_false (by have := h4 h0; omega)]
    · rw [decide_eq_false h0, cond_false]
  rw [hsteps]
  simp only [Option.bind_some, cond_false]
  rw [bounds_eq F (by omega)]
  simp only [Option.bind_some]
  rw [List.length_map, decide_eq_true rfl]
  simp only [Bool.not_true, cond_false]
  have := loop_nat (body := fn_law33_BlameFinds_l1 xb F (F.map fun f => (f.1, f.2.1))) (fun i : Nat => (i : Int)) F.length (b := (.inl () : Unit ⊕ Bool)) ?_ ?_
  · have e' : loop (fn_law33_BlameFinds_l1 xb F (F.map fun f => (f.1, f.2.1))) 0 = _ := this
    rw [e']
    rfl
  · intro i hi
    obtain ⟨p1, p2, p3⟩ := hp _ (List.getElem_mem hi)
    unfold fn_law33_BlameFinds_l1
    rw [dlt hi, cond_true, getN (l := F.map _) (by simpa using hi), getN hi]
    simp only [Option.bind_some, List.getElem_map, decide_true, Bool.not_true, cond_false]
    have hf : (F[i].1, F[i].2.1, F[i].2.2) = F[i] := rfl
    rw [hf, bText_eq _ _ (by omega) (by omega) he p2 p3, rText33_eq _ _ (by omega) (by omega) he p2 p3]
    simp only [Option.bind_some]
    have hlen : (text33 xb F[i]).length ≤ 1000000 := by
      unfold text33
      rw [List.length_cons]
      have := List.length_filterMap_le (line33 xb) F[i].2.2
      omega
    rw [lines_eq _ _ hlen, decide_eq_true rfl]
    simp only [Option.bind_some, Bool.not_true, cond_false]
    rw [w64s hi (by omega)]
  · unfold fn_law33_BlameFinds_l1
    rw [dge (Nat.lt_irrefl _), cond_false]
theorem BlameFinds_true (xa : Int) (xb : (List (Int × Int × (Int × Int × Int × Int × Bool)))) (xc : (List (Int × Int))) (k0 : Tp.Ok (.int .i64) xa) (k1 : Tp.Ok (.sl (.cons (.int .i64) (.cons (.int .i64) (.one (.cons (.int .i64) (.cons (.int .i64) (.cons (.int .i64) (.cons (.int .i64) (.one .bool))))))))) xb) (k2 : Tp.Ok (.sl (.cons (.int .i64) (.one (.int .i64)))) xc) : fn_law33_BlameFinds xa xb xc = some true := by
  by_cases hg : 16 < xa ∨ 40 < xb.length ∨ 20 < xc.length
  · unfold fn_law33_BlameFinds
    have : ((decide (16 < xa) || decide ((40 : Int) < ((xb.length : Nat) : Int))) || decide ((20 : Int) < ((xc.length : Nat) : Int))) = true := by
      simp only [Bool.or_eq_true, decide_eq_true_eq]; omega
    rw [this, cond_true, awake33]
    rfl
  have he : ∀ e ∈ xb, EOk e := fun e h => eok (k1.2 e h)
  rcases graph_case xa xb (by omega) (by omega) with ⟨h1, e, hne, h2⟩ | ⟨N, E, rfl, hN, hEl, hlen, hE, hA, h1, h2⟩
  · refine finds_end (F := []) (c := 0) (by omega) (by omega) (by omega) he (by simp) (fun f h => by cases h) ?_ ?_ (by omega) (fun h0 => ?_)
    · unfold fn_blame_Of_akkp0_iiiiiii
      dsimp only
      rw [h1]
      simp only [Option.bind_some]
      rw [finds_none xc (by omega)]
      rfl
    · unfold fn_ref33_Of
      dsimp only
      rw [refArcs_eq xb (by omega)]
      simp only [Option.bind_some]
      rw [h2]
      simp only [Option.bind_some]
      rw [decide_eq_false hne]
      rfl
    · exact Int.mul_nonneg (by omega) (by omega)
  · obtain ⟨c, c1, c2⟩ := finds_c hE hN (by omega) xc (by omega)
    have hmul : xc.length * (3 * (N + E.length)) ≤ 20 * (3 * (N + E.length)) := Nat.mul_le_mul_right _ (by omega)
    have hfl := fnds_len (some (mkG N E)) xc
    refine finds_end (F := fnds (some (mkG N E)) xc) (c := c) (by omega) (by omega) (by omega) he (by omega) (fun f hf => ?_) ?_ ?_ (by omega) (fun h0 => ?_)
    · unfold fnds at hf
      rw [List.mem_filterMap] at hf
      obtain ⟨x, hx, hf⟩ := hf
      split at hf
      · cases hf
        obtain ⟨_, _, h3, _⟩ := reason_ok hE hN (by omega) x
        have kx := k2.2 x hx
        exact ⟨h3, (ok64 kx.1).2, (ok64 kx.2).2⟩
      · cases hf
    · unfold fn_blame_Of_akkp0_iiiiiii
      dsimp only
      rw [h1]
      simp only [Option.bind_some]
      rw [c2]
      rfl
    · unfold fn_ref33_Of
      dsimp only
      rw [refArcs_eq xb (by omega)]
      simp only [Option.bind_some]
      rw [h2]
      simp only [Option.bind_some]
      rw [hA]
      simp only [decide_true, Bool.not_true, cond_false]
      rw [finds_r hE hN (by omega) xc (by omega)]
      rfl
    · rw [hlen]
      have e3 : (3 : Int) * (xc.length : Int) * ((N : Int) + (E.length : Int)) = ((xc.length * (3 * (N + E.length)) : Nat) : Int) := by
        push_cast
        rw [← Int.mul_assoc, Int.mul_comm (xc.length : Int) 3]
      rw [e3]
      omega
end Go.Proofs.Ythoclljhjcfemaa
namespace Go.Proofs.Ythoclljhjcfemaa
open Go.RowKit Nu
set_option linter.unusedVariables false
set_option linter.unnecessarySimpa false
set_option linter.unusedSimpArgs false
/-- Where the constraints come from. -/
def plc (l : List Eg) : List Int → Option (List Pv)
  | [] => some []
  | i :: r => if h : 0 ≤ i ∧ i < (l.length : Int) then (plc l r).map ((l[i.toNat]'(by omega)).2.2 :: ·) else none
theorem plc_cons (l : List Eg) (i : Int) (r : List Int) : plc l (i :: r) = if h : 0 ≤ i ∧ i < (l.length : Int) then (plc l r).map ((l[i.toNat]'(by omega)).2.2 :: ·) else none := rfl
def places (l : List Eg) (p : List Int) : List Pv := (plc l p).getD []
theorem plc_len {l : List Eg} : ∀ {p : List Int} {q : List Pv}, plc l p = some q → q.length = p.length
  | [], q, h => by cases h; rfl
  | i :: p, q, h => by
    rw [plc_cons] at h
    split at h
    · cases hq : plc l p with
      | none => rw [hq] at h; cases h
      | some r => rw [hq] at h; cases h; simp [plc_len hq]
    · cases h
theorem bPlaces_key {l : List Eg} {f : Fd} (hp : f.2.2.length ≤ 10000) : ∀ (r i : Nat) (acc : List Pv), i + r = f.2.2.length → acc.length = i →
    loop (fn_blame_Places_l1 l f) (acc, (i : Int)) = some (match plc l (f.2.2.drop i) with | some q => .inl (acc ++ q) | none => .inr []) := by
  intro r
  induction r with
  | zero =>
    intro i acc hi ha
    rw [List.drop_eq_nil_of_le (by omega)]
    apply loop_end
    unfold fn_blame_Places_l1
    dsimp only
    rw [dge (by omega), cond_false]
    simp [plc]
  | succ r ih =>
    intro i acc hi ha
    have hil : i < f.2.2.length := by omega
    rw [List.drop_eq_getElem_cons hil, plc_cons]
    by_cases hr : 0 ≤ f.2.2[i] ∧ f.2.2[i] < (l.length : Int)
    · rw [dif_pos hr]
      have hlt : (f.2.2[i]).toNat < l.length := by omega
      have hg : getI l f.2.2[i] = some l[(f.2.2[i]).toNat] := getZ hr.1 (by omega)
      have e : fn_blame_Places_l1 l f (acc, (i : Int)) = some (.inl (acc ++ [l[(f.2.2[i]).toNat].2.2], ((i + 1 : Nat) : Int))) := by
        unfold fn_blame_Places_l1
        dsimp only
        rw [dlt hil, cond_true, getN hil]
        simp only [Option.bind_some]
        rw [decide_eq_false (p := f.2.2[i] < 0) (by omega), decide_eq_false (p := ((l.length : Nat) : Int) ≤ f.2.2[i]) (by omega), Bool.or_self, cond_false, hg]
        simp only [Option.bind_some]
        rw [app_eq (by simp; omega), w64s hil (by omega)]
        rfl
      rw [loop_next e, ih (i + 1) _ (by omega) (by simp [ha])]
      cases plc l (f.2.2.drop (i + 1)) with
      | none => rfl
      | some q => simp
    · rw [dif_neg hr]
      apply loop_end
      unfold fn_blame_Places_l1
      dsimp only
      have hc : (decide (f.2.2[i] < 0) || decide (((l.length : Nat) : Int) ≤ f.2.2[i])) = true := by
        simp only [Bool.or_eq_true, decide_eq_true_eq]; omega
      rw [dlt hil, cond_true, getN hil]
      simp only [Option.bind_some]
      rw [hc]
      rfl
theorem rPlaces_key {l : List Eg} {f : Fd} (hp : f.2.2.length ≤ 10000) : ∀ (r i : Nat) (acc : List Pv), i + r = f.2.2.length → acc.length = i →
    loop (fn_ref33_Places_l1 l f) (acc, (i : Int)) = some (match plc l (f.2.2.drop i) with | some q => .inl (acc ++ q) | none => .inr []) := by
  intro r
  induction r with
  | zero =>
    intro i acc hi ha
    rw [List.drop_eq_nil_of_le (by omega)]
    apply loop_end
    unfold fn_ref33_Places_l1
    dsimp only
    rw [dge (by omega), cond_false]
    simp [plc]
  | succ r ih =>
    intro i acc hi ha
    have hil : i < f.2.2.length := by omega
    rw [List.drop_eq_getElem_cons hil, plc_cons]
    by_cases hr : 0 ≤ f.2.2[i] ∧ f.2.2[i] < (l.length : Int)
    · rw [dif_pos hr]
      have hlt : (f.2.2[i]).toNat < l.length := by omega
      have hg : getI l f.2.2[i] = some l[(f.2.2[i]).toNat] := getZ hr.1 (by omega)
      have e : fn_ref33_Places_l1 l f (acc, (i : Int)) = some (.inl (acc ++ [l[(f.2.2[i]).toNat].2.2], ((i + 1 : Nat) : Int))) := by
        unfold fn_ref33_Places_l1
        dsimp only
        rw [dlt hil, cond_true, getN hil]
        simp only [Option.bind_some]
        rw [decide_eq_false (p := f.2.2[i] < 0) (by omega), decide_eq_false (p := ((l.length : Nat) : Int) ≤ f.2.2[i]) (by omega), cond_false]
        simp only [Option.bind_some, cond_false]
        rw [hg]
        simp only [Option.bind_some]
        rw [app_eq (by simp; omega), w64s hil (by omega)]
        rfl
      rw [loop_next e, ih (i + 1) _ (by omega) (by simp [ha])]
      cases plc l (f.2.2.drop (i + 1)) with
      | none => rfl
      | some q => simp
    · rw [dif_neg hr]
      apply loop_end
      unfold fn_ref33_Places_l1
      dsimp only
      have hc : (cond (decide (f.2.2[i] < 0)) (some true) (some (decide (((l.length : Nat) : Int) ≤ f.2.2[i]))) : Option Bool) = some true := by
        by_cases h0 : f.2.2[i] < 0
        · rw [decide_eq_true h0]; rfl
        · rw [decide_eq_false h0, decide_eq_true (p := ((l.length : Nat) : Int) ≤ f.2.2[i]) (by omega)]; rfl
      rw [dlt hil, cond_true, getN hil]
      simp only [Option.bind_some]
      rw [hc]
      rfl
theorem bPlaces_eq {l : List Eg} {f : Fd} (hp : f.2.2.length ≤ 10000) : fn_blame_Places l f = some (places l f.2.2) := by
  have := bPlaces_key (l := l) hp f.2.2.length 0 [] (Nat.zero_add _) rfl
  rw [List.drop_zero] at this
  have e' : loop (fn_blame_Places_l1 l f) ([], 0) = _ := this
  unfold fn_blame_Places places
  rw [e']
  cases plc l f.2.2 <;> rfl
theorem rPlaces_eq {l : List Eg} {f : Fd} (hp : f.2.2.length ≤ 10000) : fn_ref33_Places l f = some (places l f.2.2) := by
  have := rPlaces_key (l := l) hp f.2.2.length 0 [] (Nat.zero_add _) rfl
  rw [List.drop_zero] at this
  have e' : loop (fn_ref33_Places_l1 l f) ([], 0) = _ := this
  unfold fn_ref33_Places places
  rw [e']
  cases plc l f.2.2 <;> rfl
theorem goW_nat {E : ArG} : ∀ {l : List Int} {x y : Int}, goW E x l = some y → ∃ M : List Nat, l = li M
  | [], x, y, _ => ⟨[], rfl⟩
  | i :: l, x, y, h => by
    rw [goW_cons] at h
    split at h
    · rename_i hc
      obtain ⟨M, rfl⟩ := goW_nat h
      obtain ⟨k, rfl⟩ := Int.eq_ofNat_of_zero_le hc.1.1
      exact ⟨k :: M, rfl⟩
    · cases h
/-- Both hold a finding to be right alike. -/
theorem right_ok {xa : Int} {l : List Eg} {f : Fd} (hl : l.length ≤ 40) (hn : xa ≤ 16) (hp : f.2.2.length ≤ 20) : ∃ b, fn_blame_Right (0, xa, [], [], [], [], []) l f = some b ∧ fn_ref33_Right (0, xa, [], [], [], [], []) l f = some b := by
  rcases graph_case xa l hl hn with ⟨h1, e, hne, h2⟩ | ⟨N, E, rfl, hN, hEl, hlen, hE, hA, h1, h2⟩
  · refine ⟨false, ?_, ?_⟩
    · unfold fn_blame_Right
      dsimp only
      rw [h1]
      simp only [Option.bind_some]
      have hw : fn_path_Walk none f.1 f.2.2 = some (0, false) := by
        unfold fn_path_Walk
        rw [Nodes_none]
        simp only [Option.bind_some]
        have hc : (cond (decide (f.1 < 0)) (some true) (some (decide ((0 : Int) ≤ f.1))) : Option Bool) = some true := by
          by_cases h0 : f.1 < 0
          · rw [decide_eq_true h0]; rfl
          · rw [decide_eq_false h0, decide_eq_true (p := (0 : Int) ≤ f.1) (by omega)]; rfl
        rw [hc]
        rfl
      rw [hw]
      rfl
    · unfold fn_ref33_Right
      dsimp only
      rw [refArcs_eq l (by omega)]
      simp only [Option.bind_some]
      rw [h2]
      simp only [Option.bind_some]
      rw [decide_eq_false hne]
      rfl
  · unfold fn_blame_Right fn_ref33_Right
    dsimp only
    rw [h1, refArcs_eq l (by omega)]
    simp only [Option.bind_some]
    rw [h2]
    simp only [Option.bind_some, decide_true, Bool.not_true, cond_false]
    rw [hA, pWalk_ok (by omega) (by omega), rWalk_ok (by omega) (by omega)]
    simp only [Option.bind_some]
    by_cases hs : 0 ≤ f.1 ∧ f.1 < (N : Int)
    · rw [if_pos hs]
      cases hg : goW E f.1 f.2.2 with
      | none => exact ⟨false, rfl, rfl⟩
      | some y =>
        simp only [Bool.not_true, Bool.false_or, cond_true]
        by_cases hy : y = f.2.1
        · rw [decide_eq_true hy]
          simp only [Bool.not_true, cond_false, cond_true]
          obtain ⟨v, hv⟩ := Int.eq_ofNat_of_zero_le hs.1
          obtain ⟨M, hM⟩ := goW_nat hg
          rw [hv] at hs hg ⊢
          rw [hM] at hg hp ⊢
          have hvN : v < N := by omega
          obtain ⟨L, d, m, β, e1, b⟩ := From_ok hE (by omega) (by omega) hvN
          -- where it ends is a node, which is reached
          have hex : ∃ w : Nat, y = (w : Int) := by
            have : ∀ (M : List Nat) (x : Nat) (y : Int), goW E (x : Int) (li M) = some y → ∃ w : Nat, y = (w : Int) := by
              intro M
              induction M with
              | nil => intro x y h; cases h; exact ⟨x, rfl⟩
              | cons i M ih =>
                intro x y h
                have h' : goW E (x : Int) ((i : Int) :: li M) = some y := h
                rw [goW_cons] at h'
                split at h'
                · exact ih _ _ h'
                · cases h'
            exact this M v y hg
          obtain ⟨w, rfl⟩ := hex
          have hwk : Wk E v M.length w := by
            have he := eW_of hg
            have := wks_wk (wks_mem.2 ⟨rfl, by rw [he]; exact hg⟩)
            rwa [he] at this
          rw [← hy]
          cases hd : d w with
          | none => exact absurd hwk.rch ((b.b.far_not w).1 hd)
          | some k =>
            have hwN := b.b.lt w ((b.b.mem w).2 (by rw [hd]; rfl))
            obtain ⟨w1, w2⟩ := sw_ok b hd
            rw [Short_ok hE (by omega) b e1 hd, refDist_ok hE (by omega) (by omega) hvN b]
            simp only [Option.bind_some]
            rw [dl_get hwN, hd, li_len, li_len, w2]
            refine ⟨_, rfl, ?_⟩
            simp only [Option.bind_some]
            congr 1
            exact decide_eq_decide.2 ⟨fun h => h.symm, fun h => h.symm⟩
        · rw [decide_eq_false hy]
          exact ⟨false, rfl, rfl⟩
    · rw [if_neg hs]
      exact ⟨false, rfl, rfl⟩
theorem BlameRight_true (xa : Int) (xb : (List (Int × Int × (Int × Int × Int × Int × Bool)))) (xc : (Int × Int × (List Int))) (k0 : Tp.Ok (.int .i64) xa) (k1 : Tp.Ok (.sl (.cons (.int .i64) (.cons (.int .i64) (.one (.cons (.int .i64) (.cons (.int .i64) (.cons (.int .i64) (.cons (.int .i64) (.one .bool))))))))) xb) (k2 : Tp.Ok (.cons (.int .i64) (.cons (.int .i64) (.one (.sl (.int .i64))))) xc) : fn_law33_BlameRight xa xb xc = some true := by
  unfold fn_law33_BlameRight
  rw [awake33]
  by_cases hg : 16 < xa ∨ 40 < xb.length ∨ 20 < xc.2.2.length
  · have : ((decide (16 < xa) || decide ((40 : Int) < ((xb.length : Nat) : Int))) || decide ((20 : Int) < ((xc.2.2.length : Nat) : Int))) = true := by
      simp only [Bool.or_eq_true, decide_eq_true_eq]; omega
    rw [this, cond_true]
    rfl
  have hb : ((decide (16 < xa) || decide ((40 : Int) < ((xb.length : Nat) : Int))) || decide ((20 : Int) < ((xc.2.2.length : Nat) : Int))) = false := by
    simp only [Bool.or_eq_false_iff, decide_eq_false_iff_not]; omega
  have he : ∀ e ∈ xb, EOk e := fun e h => eok (k1.2 e h)
  have hf : (xc.1, xc.2.1, xc.2.2) = xc := rfl
  obtain ⟨b, r1, r2⟩ := right_ok (xa := xa) (l := xb) (f := xc) (by omega) (by omega) (by omega)
  have hpl : (places xb xc.2.2).length ≤ 20 := by
    unfold places
    cases hq : plc xb xc.2.2 with
    | none => simp
    | some q => have := plc_len hq; show q.length ≤ 20; omega
  rw [hb, cond_false, hf, bPlaces_eq (by omega), rPlaces_eq (by omega)]
  simp only [Option.bind_some]
  rw [r1, r2]
  simp only [Option.bind_some, beq_self_eq_true, Bool.not_true, cond_false, decide_true]
  rw [bText_eq _ _ (by omega) (by omega) he (ok64 k2.1).2 (ok64 k2.2.1).2, rText33_eq _ _ (by omega) (by omega) he (ok64 k2.1).2 (ok64 k2.2.1).2]
  simp only [Option.bind_some]
  have hlen : (text33 xb xc).length ≤ 1000000 := by
    unfold text33
    rw [List.length_cons]
    have := List.length_filterMap_le (line33 xb) xc.2.2
    omega
  rw [lines_eq _ _ hlen, decide_eq_true rfl]
  simp only [Option.bind_some, Bool.not_true, cond_false]
  have := loop_nat (body := fn_law33_BlameRight_l1 (places xb xc.2.2) (places xb xc.2.2)) (fun i : Nat => (i : Int)) (places xb xc.2.2).length (b := (.inl () : Unit ⊕ Bool)) ?_ ?_
  · have e' : loop (fn_law33_BlameRight_l1 (places xb xc.2.2) (places xb xc.2.2)) 0 = _ := this
    rw [e']
    rfl
  · intro i hi
    unfold fn_law33_BlameRight_l1
    rw [dlt hi, cond_true, getN hi]
    simp only [Option.bind_some, decide_true, Bool.and_self, beq_self_eq_true, Bool.not_true, cond_false]
    rw [w64s hi (by omega)]
  · unfold fn_law33_BlameRight_l1
    rw [dge (Nat.lt_irrefl _), cond_false]
end Go.Proofs.Ythoclljhjcfemaa
namespace Go.Proofs.Ythoclljhjcfemaa
open Go.RowKit
set_option linter.unusedVariables false
set_option linter.unnecessarySimpa false
set_option linter.unusedSimpArgs false
set_option maxRecDepth 20000
theorem BlameRight_walk {H : Type} (enc : TypeId × Value → H) (W : World) (base : Nat) {v0 v1 v2 : Value} {d0 d1 d2 : DataW H} {p0 p1 p2 : List MemPlace}
    (h0 : DataW.Trod enc Try.prog W 0 (fun _ => true) true 3 v0 d0 p0) (h1 : DataW.Trod enc Try.prog W 0 (fun _ => true) true 22 v1 d1 p1) (h2 : DataW.Trod enc Try.prog W 0 (fun _ => true) true 48 v2 d2 p2)
    (o0 : Value.okWide Try.prog W .any base 3 v0) (o1 : Value.okWide Try.prog W .any base 22 v1) (o2 : Value.okWide Try.prog W .any base 48 v2) :
    Calls Try.prog 4 #[v0, v1, v2] W fun e W' => e = .returned (.bool true) ∧ Below W.heap.size W W' := by
  obtain ⟨xa, i0, k0⟩ := Tp.arg (.int .i64) (by kernel_rfl) o0 h0
  obtain ⟨xb, i1, k1⟩ := Tp.arg (.sl (.cons (.int .i64) (.cons (.int .i64) (.one (.cons (.int .i64) (.cons (.int .i64) (.cons (.int .i64) (.cons (.int .i64) (.one .bool))))))))) (by kernel_rfl) o1 h1
  obtain ⟨xc, i2, k2⟩ := Tp.arg (.cons (.int .i64) (.cons (.int .i64) (.one (.sl (.int .i64))))) (by kernel_rfl) o2 h2
  exact walkX (s := sp_law33_BlameRight) (x := (xa, xb, xc)) (args := [v0, v1, v2]) law33_BlameRight_is (BlameRight_true xa xb xc k0 k1 k2) rfl rfl ⟨_, _, rfl, of_rel _ i0, _, _, rfl, of_rel _ i1, _, _, rfl, of_rel _ i2, rfl⟩
end Go.Proofs.Ythoclljhjcfemaa
namespace Go.Proofs.Ythoclljhjcfemaa.blameRightFrame
set_option maxRecDepth 40000
open Go.ChangeShapes Go.WideShapes Go.ChangeAt Go.RowKit
theorem own : ownKnob Try.prog.godebug = none := by kernel_rfl
theorem contract (H : Type) (enc : TypeId × Value → H) (W : World) (base : Nat) (args : Array Value) (ds gs : List (DataW H)) (before : List MemPlace)
    (hval : ∀ (j : Nat) t v, Try.f4.params[j]? = some t → args[j]? = some v → Value.okWide Try.prog W .any base t v)
    (hW : DataW.Whole enc Try.prog Try.f4.params.toList Rows.blameRightSpec.vars false W args.toList ds gs before) :
    Calls Try.prog 4 args W fun e W' => ∃ v, e = .returned v ∧ Rows.blameRightSpec.post enc Try.prog Try.f4 false true false false W args v W' := by
  have hW' := hW
  obtain ⟨p, q, hA0, hV, rfl, hfz, hnd⟩ := hW
  have hA : DataW.TrodAll enc Try.prog W 0 (fun _ => true) true Try.f4.params.toList args.toList ds p := hA0
  rw [Try.params4] at hA hval
  obtain ⟨v0, vs0, d0, ds0, p0, q0, hargs, rfl, rfl, h0, r0⟩ := trodAll_cons hA
  obtain ⟨v1, vs1, d1, ds1, p1, q1, rfl, rfl, rfl, h1, r1⟩ := trodAll_cons r0
  obtain ⟨v2, vs2, d2, ds2, p2, q2, rfl, rfl, rfl, h2, r2⟩ := trodAll_cons r1
  obtain ⟨rfl, rfl, rfl⟩ := trodAll_nil r2
  obtain rfl : args = #[v0, v1, v2] := by cases args; simp_all
  refine (BlameRight_walk enc W base h0 h1 h2 (hval 0 _ v0 rfl rfl) (hval 1 _ v1 rfl rfl) (hval 2 _ v2 rfl rfl)).mono fun e W' ⟨he, hb⟩ => ?_
  subst he
  exact ⟨_, rfl, law_post (tb := _) rfl hW' rfl rfl (by kernel_rfl) (by kernel_rfl) (of_decide_eq_true (by kernel_rfl)) hb⟩
noncomputable def world (os : Os) : World := World.holding Try.prog os ⟨#[], #[], []⟩
theorem reads (os : Os) {H : Type} (enc : TypeId × Value → H) : ∃ x, DataW.whole enc Try.prog ((world os).forCall (fun _ _ => 0) ⟨#[], #[.int .i64 0, .slice none 0 0, .agg #[.int .i64 0, .int .i64 0, .slice none 0 0]], []⟩).memory Try.f4.params.toList Rows.blameRightSpec.vars false (#[.int .i64 0, .slice none 0 0, .agg #[.int .i64 0, .int .i64 0, .slice none 0 0]] : Array Value).toList 8 = some x :=
  Option.isSome_iff_exists.1 (by kernel_rfl)
set_option maxRecDepth 100000 in
theorem lifted (os : Os) (started : os.Started) (H : Type) (enc : TypeId × Value → H) (F : Stop.Interp) :
    ReturnsInHanded {} Try.checked os 4 .any ((OpenSpec.ofChange Rows.blameRightSpec).preRow enc Try.prog Try.f4 Rows.blameRightRow.domain false Rows.blameRightRow.laid) (((OpenSpec.ofChange Rows.blameRightSpec).at F).post enc Try.prog Try.f4 false true false false) := by
  obtain ⟨x, hx⟩ := reads os enc
  refine returnsInHanded_of_row (C := Try.checked) (s := OpenSpec.ofChange Rows.blameRightSpec) own started (by kernel_rfl) Try.func4
    (witness_row_at (enc := enc) (C := Try.checked) false (world os) #[.int .i64 0, .slice none 0 0, .agg #[.int .i64 0, .int .i64 0, .slice none 0 0]] rfl (by kernel_rfl) (by kernel_rfl) (by kernel_rfl)
      (OpenSpec.preRow_of_cond 8 hx (by kernel_rfl) (fun k hk => by cases hk) (by kernel_rfl) (laidMet_of_run' 8 (by kernel_rfl) (by kernel_rfl)))) ?_
  intro W base args ds gs before hval hW _ _ _ hL _ _
  exact contract H enc W base args ds gs before hval hW
theorem proved : Rows.BlameRightSaid :=
  OpenClaim.holds_of_cond 4 Try.f4 rfl rfl rfl rfl rfl rfl rfl ⟨rfl, rfl, rfl, rfl, rfl⟩ rfl rfl rfl rfl rfl (by kernel_rfl) Try.func4 (by kernel_rfl)
    (of_decide_eq_true (by kernel_rfl)) (by unfold Func.isWrapper; first | (rw [if_pos (by decide +kernel)]; kernel_rfl) | (rw [if_neg (by decide +kernel)]; exact ⟨rfl, rfl⟩))
    (fun os started H enc _ F => by rw [OpenClaim.pre_eq_preRow]; exact lifted os started H enc F)
end Go.Proofs.Ythoclljhjcfemaa.blameRightFrame
