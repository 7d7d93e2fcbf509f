/- 'easement/easementlaw08.TableNone' returns true for every input, and each argument reads afterwards as it read before: the row's frame round the walk. -/
import Derived.Test.YthimgbjeeoiefaaZ4
namespace Go.Proofs.Ythimgbjeeoiefaa
open Go.RowKit
set_option linter.unusedVariables false
set_option linter.unusedSimpArgs false
set_option linter.unnecessarySimpa false
/-- The pairs of places, from a number on. -/
def prs : Int → List (Int × Bool) → List (Int × Int)
  | _, [] => []
  | k, p :: r => if p.2 = true then (k, p.1) :: prs (k + 1) r else prs (k + 1) r
def insP (i v : Int) : List (Int × Int) → List (Int × Int)
  | [] => [(i, v)]
  | x :: r => if x.1 < i then x :: insP i v r else if x.1 = i then (i, v) :: r else (i, v) :: x :: r
def SortP (l : List (Int × Int)) : Prop := l.Pairwise (fun a b => a.1 < b.1)
theorem prs_ge : ∀ (q : List (Int × Bool)) (k : Int) (x : Int × Int), x ∈ prs k q → k ≤ x.1
  | [], k, x, h => by simp [prs] at h
  | p :: r, k, x, h => by
    unfold prs at h
    split at h
    · rcases List.mem_cons.1 h with rfl | h
      · exact Int.le_refl _
      · have := prs_ge r (k + 1) x h; omega
    · have := prs_ge r (k + 1) x h; omega
theorem prs_sort : ∀ (q : List (Int × Bool)) (k : Int), SortP (prs k q)
  | [], k => by simp [prs, SortP]
  | p :: r, k => by
    unfold prs
    split
    · exact List.pairwise_cons.2 ⟨fun x hx => by have := prs_ge r (k + 1) x hx; dsimp only; omega, prs_sort r (k + 1)⟩
    · exact prs_sort r (k + 1)
theorem prs_len : ∀ (q : List (Int × Bool)) (k : Int), (prs k q).length ≤ q.length
  | [], k => by simp [prs]
  | p :: r, k => by
    have := prs_len r (k + 1)
    unfold prs
    split <;> simp only [List.length_cons] <;> omega
theorem insP_lt {i v : Int} {l : List (Int × Int)} (h : ∀ x ∈ l, i < x.1) : insP i v l = (i, v) :: l := by
  cases l with
  | nil => rfl
  | cons x r =>
    have := h x (List.mem_cons_self ..)
    unfold insP
    rw [if_neg (by omega), if_neg (by omega)]
theorem prs_set : ∀ (q : List (Int × Bool)) (k : Int) (j : Nat) (v : Int), j < q.length → prs k (q.set j (v, true)) = insP (k + (j : Int)) v (prs k q)
  | [], k, j, v, h => by simp at h
  | p :: r, k, 0, v, h => by
    have hg : ∀ x ∈ prs (k + 1) r, k < x.1 := fun x hx => by have := prs_ge r (k + 1) x hx; omega
    rw [List.set_cons_zero]
    simp only [prs, if_true, Int.natCast_zero, Int.ofNat_zero, Int.add_zero]
    by_cases hp : p.2 = true
    · rw [if_pos hp]; simp [insP]
    · rw [if_neg hp, insP_lt hg]
  | p :: r, k, j + 1, v, h => by
    have ih := prs_set r (k + 1) j v (by simpa using h)
    have e : k + 1 + (j : Int) = k + ((j + 1 : Nat) : Int) := by omega
    rw [e] at ih
    rw [List.set_cons_succ]
    simp only [prs]
    by_cases hp : p.2 = true
    · rw [if_pos hp, if_pos hp, ih]
      conv => rhs; unfold insP
      rw [if_pos (by dsimp only; omega)]
    · rw [if_neg hp, if_neg hp, ih]
theorem prs_setLen : ∀ (q : List (Int × Bool)) (k : Int) (j : Nat) (v : Int) (h : j < q.length), (prs k (q.set j (v, true))).length = (prs k q).length + (if q[j].2 = true then 0 else 1)
  | [], k, j, v, h => by simp at h
  | p :: r, k, 0, v, h => by
    rw [List.set_cons_zero]
    simp only [prs, if_true, List.getElem_cons_zero]
    by_cases hp : p.2 = true <;> simp [hp]
  | p :: r, k, j + 1, v, h => by
    have ih := prs_setLen r (k + 1) j v (by simpa using h)
    rw [List.set_cons_succ]
    simp only [prs, List.getElem_cons_succ]
    by_cases hp : p.2 = true
    · rw [if_pos hp, if_pos hp, List.length_cons, List.length_cons, ih]; omega
    · rw [if_neg hp, if_neg hp, ih]
theorem prs_none : ∀ (n : Nat) (k : Int), prs k (List.replicate n ((0 : Int), false)) = []
  | 0, k => rfl
  | n + 1, k => by rw [List.replicate_succ]; simp only [prs, Bool.false_eq_true, if_false]; exact prs_none n (k + 1)
theorem prs_app : ∀ (q : List (Int × Bool)) (k : Int) (n : Nat), prs k (q ++ List.replicate n ((0 : Int), false)) = prs k q
  | [], k, n => by rw [List.nil_append, prs_none]; rfl
  | p :: r, k, n => by rw [List.cons_append]; simp only [prs]; rw [prs_app r (k + 1) n]
theorem prs_snoc : ∀ (q : List (Int × Bool)) (k : Int) (p : Int × Bool), prs k (q ++ [p]) = prs k q ++ (if p.2 = true then [(k + (q.length : Int), p.1)] else [])
  | [], k, p => by
    rw [List.nil_append]; simp only [prs, List.length_nil, Int.natCast_zero, Int.ofNat_zero, Int.add_zero]
    split <;> rfl
  | x :: r, k, p => by
    have ih := prs_snoc r (k + 1) p
    have e : k + 1 + (r.length : Int) = k + ((r.length + 1 : Nat) : Int) := by omega
    rw [e] at ih
    rw [List.cons_append]
    simp only [prs, List.length_cons]
    rw [ih]
    split <;> rfl
/-- What is not taken is zero. -/
def Zr (q : List (Int × Bool)) : Prop := ∀ p ∈ q, p.2 = false → p.1 = 0
def lk (q : List (Int × Bool)) (i : Int) : Int × Bool := if 0 ≤ i then q.getD i.toNat (0, false) else (0, false)
theorem prs_find : ∀ (q : List (Int × Bool)) (k i : Int), Zr q → (match (prs k q).find? (fun x => decide (x.1 = i)) with | some x => (x.2, true) | none => ((0 : Int), false)) = if k ≤ i then q.getD (i - k).toNat (0, false) else (0, false)
  | [], k, i, h => by simp [prs]
  | (v, true) :: r, k, i, h => by
    have ih := prs_find r (k + 1) i (fun p hp => h p (List.mem_cons_of_mem _ hp))
    simp only [prs, if_true]
    by_cases hk : k = i
    · subst hk
      simp
    · rw [List.find?_cons_of_neg (by simpa using hk), ih]
      by_cases h2 : k + 1 ≤ i
      · have e : (i - k).toNat = (i - (k + 1)).toNat + 1 := by omega
        rw [if_pos h2, if_pos (by omega), e, List.getD_cons_succ]
      · rw [if_neg h2, if_neg (by omega)]
  | (v, false) :: r, k, i, h => by
    have ih := prs_find r (k + 1) i (fun p hp => h p (List.mem_cons_of_mem _ hp))
    simp only [prs, Bool.false_eq_true, if_false]
    rw [ih]
    by_cases h2 : k + 1 ≤ i
    · have e : (i - k).toNat = (i - (k + 1)).toNat + 1 := by omega
      rw [if_pos h2, if_pos (by omega), e, List.getD_cons_succ]
    · rw [if_neg h2]
      by_cases h3 : k ≤ i
      · obtain rfl : i = k := by omega
        have := h (v, false) (List.mem_cons_self ..) rfl
        dsimp only at this
        simp [this]
      · rw [if_neg h3]
theorem prs_lk {q : List (Int × Bool)} (h : Zr q) (i : Int) : (match (prs 0 q).find? (fun x => decide (x.1 = i)) with | some x => (x.2, true) | none => ((0 : Int), false)) = lk q i := by
  rw [prs_find q 0 i h, Int.sub_zero]; rfl
/-! ### The reference's. -/
def stp (i v : Int) (s : List (Int × Int) × Bool) (x : Int × Int) : List (Int × Int) × Bool :=
  let s1 := if s.2 = false ∧ i ≤ x.1 then (s.1 ++ [(i, v)], true) else s
  if x.1 = i then s1 else (s1.1 ++ [x], s1.2)
theorem fold_true (i v : Int) : ∀ (l o : List (Int × Int)), (∀ x ∈ l, i < x.1) → l.foldl (stp i v) (o, true) = (o ++ l, true)
  | [], o, h => by simp
  | x :: r, o, h => by
    have h1 := h x (List.mem_cons_self ..)
    have e : stp i v (o, true) x = (o ++ [x], true) := by
      unfold stp; simp only [Bool.true_eq_false, false_and, if_false]; rw [if_neg (by omega)]
    rw [List.foldl_cons, e, fold_true i v r _ (fun y hy => h y (List.mem_cons_of_mem _ hy))]; simp
def fins (i v : Int) (f : List (Int × Int) × Bool) : List (Int × Int) := if f.2 = true then f.1 else f.1 ++ [(i, v)]
theorem fold_ins (i v : Int) : ∀ (l o : List (Int × Int)), SortP l → fins i v (l.foldl (stp i v) (o, false)) = o ++ insP i v l
  | [], o, h => by simp [fins, insP]
  | x :: r, o, h => by
    obtain ⟨h1, h2⟩ := List.pairwise_cons.1 h
    rw [List.foldl_cons]
    unfold insP
    by_cases a : x.1 < i
    · have e : stp i v (o, false) x = (o ++ [x], false) := by
        have b : ¬ i ≤ x.1 := by omega
        have c : ¬ x.1 = i := by omega
        unfold stp; simp [b, c]
      rw [e, fold_ins i v r _ h2, if_pos a]; simp
    · rw [if_neg a]
      by_cases b : x.1 = i
      · have e : stp i v (o, false) x = (o ++ [(i, v)], true) := by
          unfold stp; simp [b]
        rw [e, fold_true i v r _ (fun y hy => by have := h1 y hy; omega), if_pos b]; simp [fins]
      · have e : stp i v (o, false) x = (o ++ [(i, v)] ++ [x], true) := by
          have c : i ≤ x.1 := by omega
          unfold stp; simp [b, c]
        rw [e, fold_true i v r _ (fun y hy => by have := h1 y hy; omega), if_neg b]; simp [fins]
theorem stp_len (i v : Int) (l : List (Int × Int)) : ∀ k, ((l.take k).foldl (stp i v) ([], false)).1.length ≤ 2 * k := by
  intro k
  induction k with
  | zero => simp
  | succ k ih =>
    by_cases h : k < l.length
    · rw [take_snoc h, List.foldl_append]
      change (stp i v ((l.take k).foldl (stp i v) ([], false)) l[k]).1.length ≤ _
      generalize (l.take k).foldl (stp i v) ([], false) = s at ih
      unfold stp
      dsimp only
      split <;> split <;> (try simp only [List.length_append, List.length_cons, List.length_nil]) <;> omega
    · rw [List.take_of_length_le (by omega)] at ih ⊢
      omega

theorem refSet_loop (l : List (Int × Int)) (i v : Int) (hn : l.length ≤ 1000000) : loop (fn_ref08_Set_l1 l i v) ([], false, 0) = some (l.foldl (stp i v) ([], false)) := by
  refine loop_val (body := fn_ref08_Set_l1 l i v) (fun q => ∃ k : Nat, k ≤ l.length ∧ q = (((l.take k).foldl (stp i v) ([], false)).1, ((l.take k).foldl (stp i v) ([], false)).2, (k : Int))) (fun q => l.length - q.2.2.toNat) ?_ (s := ([], false, 0)) ⟨0, Nat.zero_le _, rfl⟩
  rintro q ⟨k, hk, rfl⟩
  unfold fn_ref08_Set_l1
  by_cases hc : k < l.length
  · left
    refine ⟨_, ?_, ⟨k + 1, hc, rfl⟩, by dsimp only; rw [Int.toNat_natCast, Int.toNat_natCast]; omega⟩
    have hl := stp_len i v l k
    have e2 : (l.take (k + 1)).foldl (stp i v) ([], false) = stp i v ((l.take k).foldl (stp i v) ([], false)) l[k] := by rw [take_snoc hc, List.foldl_append]; rfl
    rw [e2]
    generalize (l.take k).foldl (stp i v) ([], false) = s at hl
    obtain ⟨o, t⟩ := s
    dsimp only at hl
    simp only [dlt hc, cond_true, getN hc, Option.bind_some, w64s hc (by omega)]
    unfold stp
    have ha1 : app o ([(i, v)] : List (Int × Int)) = some (o ++ [(i, v)]) := app_eq (by simp; omega)
    have ha2 : app o ([(l[k].1, l[k].2)] : List (Int × Int)) = some (o ++ [l[k]]) := app_eq (by simp; omega)
    have ha3 : app (o ++ [(i, v)]) ([(l[k].1, l[k].2)] : List (Int × Int)) = some (o ++ [(i, v)] ++ [l[k]]) := app_eq (by simp; omega)
    cases t with
    | true =>
      simp only [Bool.not_true, cond_false, Option.bind_some, Bool.true_eq_false, false_and, if_false]
      by_cases hx : l[k].1 = i
      · simp only [hx, decide_true, Bool.not_true, cond_false, if_true]
      · simp only [hx, decide_false, Bool.not_false, cond_true, if_false, ha2, Option.bind_some]
    | false =>
      simp only [Bool.not_false, cond_true, Option.bind_some, true_and]
      by_cases hi : i ≤ l[k].1
      · simp only [hi, decide_true, cond_true, if_true, ha1, Option.bind_some]
        by_cases hx : l[k].1 = i
        · simp only [hx, decide_true, Bool.not_true, cond_false, if_true]
        · simp only [hx, decide_false, Bool.not_false, cond_true, if_false, ha3, Option.bind_some]
      · simp only [hi, decide_false, cond_false, if_false, Option.bind_some]
        have hx : ¬ l[k].1 = i := by omega
        simp only [hx, decide_false, Bool.not_false, cond_true, if_false, ha2, Option.bind_some]
  · right
    obtain rfl : k = l.length := by omega
    simp only [dge hc, cond_false, List.take_length]
theorem refSet_in (l : List (Int × Int)) (i v : Int) (hn : l.length ≤ 1000000) (hs : SortP l) (h0 : 0 ≤ i) (h1 : i < 1048576) : fn_ref08_Set l i v = some (insP i v l, true) := by
  unfold fn_ref08_Set
  have e : ((decide (i < 0)) || (decide (1048576 ≤ i))) = false := by simp; omega
  rw [e, cond_false, refSet_loop l i v hn]
  have hl := stp_len i v l l.length
  rw [List.take_length] at hl
  have hf := fold_ins i v l [] hs
  generalize l.foldl (stp i v) ([], false) = s at hl hf
  obtain ⟨o, t⟩ := s
  dsimp only at hl
  rw [List.nil_append] at hf
  cases t with
  | true => rw [← hf]; rfl
  | false =>
    have ha1 : app o ([(i, v)] : List (Int × Int)) = some (o ++ [(i, v)]) := app_eq (by simp; omega)
    simp only [Option.bind_some, Bool.not_false, cond_true, ha1]
    rw [← hf]; rfl
theorem refSet_out (l : List (Int × Int)) (i v : Int) (h : i < 0 ∨ 1048576 ≤ i) : fn_ref08_Set l i v = some (l, false) := by
  unfold fn_ref08_Set
  have e : ((decide (i < 0)) || (decide (1048576 ≤ i))) = true := by simp; omega
  rw [e, cond_true]
theorem refGet_eq (l : List (Int × Int)) (i : Int) (hn : l.length ≤ 1000000) : fn_ref08_Get l i = some (match l.find? (fun x => decide (x.1 = i)) with | some x => (x.2, true) | none => (0, false)) := by
  unfold fn_ref08_Get
  rw [loop_search (body := fn_ref08_Get_l1 l i) l (fun x => decide (x.1 = i)) (fun k => .inr ((l.getD k (0, 0)).2, true)) (.inl ()) ?_ ?_]
  · rw [List.find?_eq_bind_findIdx?_getElem?]
    cases h : l.findIdx? (fun x => decide (x.1 = i)) with
    | none => rfl
    | some k =>
      obtain ⟨hk, _⟩ := List.findIdx?_eq_some_iff_getElem.1 h
      simp [List.getD_eq_getElem?_getD, hk]
  · intro k h; unfold fn_ref08_Get_l1
    by_cases q : l[k].1 = i
    · simp [getN h, h, q, List.getD_eq_getElem?_getD]
    · simp [getN h, h, q, w64s h (by omega)]
  · simp [fn_ref08_Get_l1]
/-! ### The table's. -/
/-- A table: its places and how many. -/
def Tb (q : List (Int × Bool)) (m : Int) : Prop := Zr q ∧ m = ((prs 0 q).length : Int) ∧ q.length ≤ 2000
theorem Zr.app {q : List (Int × Bool)} (h : Zr q) (n : Nat) : Zr (q ++ List.replicate n (0, false)) := by
  intro p hp hf
  rcases List.mem_append.1 hp with h1 | h1
  · exact h p h1 hf
  · rw [List.eq_of_mem_replicate h1]
theorem Zr.set {q : List (Int × Bool)} (h : Zr q) (j : Nat) (v : Int) : Zr (q.set j (v, true)) := by
  intro p hp hf
  rcases List.mem_or_eq_of_mem_set hp with h1 | rfl
  · exact h p h1 hf
  · cases hf
theorem tbSet_in {q : List (Int × Bool)} {m i v : Int} (h : Tb q m) (h0 : 0 ≤ i) (h1 : i < 2000) : ∃ q' m', fn_table_Table_int_Set_p0ii_ri i v q m = some (true, q', m') ∧ Tb q' m' ∧ prs 0 q' = insP i v (prs 0 q) := by
  obtain ⟨j, rfl⟩ := Int.eq_ofNat_of_zero_le h0
  obtain ⟨hz, hm, hl⟩ := h
  unfold fn_table_Table_int_Set_p0ii_ri
  have e : ((decide ((j : Int) < 0)) || (decide (1048576 ≤ (j : Int)))) = false := by simp; omega
  rw [e, cond_false]
  have core : ∀ q1 : List (Int × Bool), Zr q1 → prs 0 q1 = prs 0 q → q1.length ≤ 2000 → j < q1.length →
      ∃ q' m', (((getI q1 (j : Int)).bind fun x178 => cond (!x178.2) (some (IntKind.wrap .i64 (m + 1))) (some (m)) : Option Int).bind fun i177 => (getI q1 (j : Int)).bind fun x186 => (some (q1.set (j : Int).toNat (v, true))).bind fun z193 => some ((true, z193, i177))) = some (true, q', m') ∧ Tb q' m' ∧ prs 0 q' = insP (j : Int) v (prs 0 q) := by
    intro q1 z1 p1 l1 j1
    have s1 := prs_set q1 0 j v j1
    have s2 := prs_setLen q1 0 j v j1
    have s3 := prs_len q1 0
    rw [Int.zero_add] at s1
    rw [getN j1]
    simp only [Option.bind_some, Int.toNat_natCast]
    refine ⟨q1.set j (v, true), m + (if q1[j].2 = true then 0 else 1), ?_, ⟨z1.set j v, ?_, by rw [List.length_set]; exact l1⟩, by rw [s1, p1]⟩
    · cases hq : q1[j].2 with
      | true => simp
      | false =>
        have : IntKind.wrap .i64 (m + 1) = m + 1 := w64 (by rw [hm]; omega) (by rw [hm, ← p1]; omega)
        simp [this]
    · rw [s2, hm, p1]; split <;> omega
  by_cases hq : j < q.length
  · have e2 : decide (((q.length : Nat) : Int) ≤ (j : Int)) = false := by simp; omega
    rw [e2, cond_false]
    exact core q hz rfl hl hq
  · have e2 : decide (((q.length : Nat) : Int) ≤ (j : Int)) = true := by simp; omega
    have e3 : IntKind.wrap .i64 ((IntKind.wrap .i64 ((j : Int) + 1)) - (((q.length : Nat) : Int))) = ((j + 1 - q.length : Nat) : Int) := by
      rw [w64 (x := (j : Int) + 1) (by omega) (by omega), w64 (by omega) (by omega)]; omega
    rw [e2, cond_true, e3, mkN (by omega)]
    simp only [Option.bind_some]
    rw [app_eq (by rw [List.length_replicate]; omega)]
    exact core (q ++ List.replicate (j + 1 - q.length) (0, false)) (hz.app _) (prs_app q 0 _) (by rw [List.length_append, List.length_replicate]; omega) (by rw [List.length_append, List.length_replicate]; omega)
theorem tbSet_out {q : List (Int × Bool)} {m i v : Int} (h : i < 0 ∨ 1048576 ≤ i) : fn_table_Table_int_Set_p0ii_ri i v q m = some (false, q, m) := by
  unfold fn_table_Table_int_Set_p0ii_ri
  have e : ((decide (i < 0)) || (decide (1048576 ≤ i))) = true := by simp; omega
  rw [e, cond_true]
theorem tbGet_eq (q : List (Int × Bool)) (m i : Int) : fn_table_Table_int_Get_p0i_ri i q m = some ((lk q i).1, (lk q i).2, q) := by
  unfold fn_table_Table_int_Get_p0i_ri lk
  by_cases h : i < 0 ∨ (q.length : Int) ≤ i
  · have e : ((decide (i < 0)) || (decide (((q.length : Nat) : Int) ≤ i))) = true := by simp; exact h
    rw [e, cond_true]
    by_cases h0 : 0 ≤ i
    · rw [if_pos h0, List.getD_eq_getElem?_getD, List.getElem?_eq_none (by omega)]; rfl
    · rw [if_neg h0]
  · have e : ((decide (i < 0)) || (decide (((q.length : Nat) : Int) ≤ i))) = false := by simp; omega
    obtain ⟨j, rfl⟩ := Int.eq_ofNat_of_zero_le (show 0 ≤ i by omega)
    have hj : j < q.length := by omega
    rw [e, cond_false, getN hj, if_pos (by omega), Int.toNat_natCast, List.getD_eq_getElem?_getD, List.getElem?_eq_getElem hj]
    rfl
theorem tbOr_eq (q : List (Int × Bool)) (m i v : Int) : fn_table_Table_int_Or_p0ii_ri i v q m = some ((if (lk q i).2 = true then (lk q i).1 else v), q) := by
  unfold fn_table_Table_int_Or_p0ii_ri
  rw [tbGet_eq]
  simp only [Option.bind_some]
  cases (lk q i).2 <;> rfl
theorem pairs_eq (q : List (Int × Bool)) (m : Int) (hl : q.length ≤ 2000) : fn_law08_pairs_p0_ri q m = some (prs 0 q, true, q) := by
  unfold fn_law08_pairs_p0_ri fn_table_Table_int_All_p0_ri
  simp only [Option.bind_some]
  rw [loop_val (body := fn_law08_pairs_p0_ri_l1 q) (fun s => ∃ k : Nat, k ≤ q.length ∧ s = ((k : Int), prs 0 (q.take k))) (fun s => q.length - s.1.toNat) (b := prs 0 q) ?_ (s := (0, [])) ⟨0, Nat.zero_le _, rfl⟩]
  · rfl
  · rintro s ⟨k, hk, rfl⟩
    unfold fn_law08_pairs_p0_ri_l1
    by_cases hc : k < q.length
    · left
      refine ⟨_, ?_, ⟨k + 1, hc, rfl⟩, by dsimp only; rw [Int.toNat_natCast, Int.toNat_natCast]; omega⟩
      have hp := prs_len (q.take k) 0
      rw [List.length_take] at hp
      simp only [dlt hc, cond_true, getN hc, Option.bind_some, w64s hc (by omega)]
      rw [take_snoc hc, prs_snoc, List.length_take, Nat.min_eq_left (by omega), Int.zero_add]
      cases ht : q[k].2 with
      | true =>
        simp only [cond_true, if_true]
        rw [app_eq (by simp; omega)]
        rfl
      | false => simp
    · right
      obtain rfl : k = q.length := by omega
      simp only [dge hc, cond_false, List.take_length]
theorem TablePlays_true (xa : (List (Int × Int))) (xb : Int) (xc : Int) (k0 : Tp.Ok (.sl (.cons (.int .i64) (.one (.int .i64)))) xa) (k1 : Tp.Ok (.int .i64) xb) (k2 : Tp.Ok (.int .i64) xc) : fn_law08_TablePlays xa xb xc = some true := by
  unfold fn_law08_TablePlays
  by_cases hg : 40 < xa.length
  · have hb : decide ((40 : Int) < ((xa.length : Nat) : Int)) = true := by simp; omega
    rw [hb, cond_true, awake08]; rfl
  have hb : decide ((40 : Int) < ((xa.length : Nat) : Int)) = false := by simp; omega
  rw [hb, cond_false]
  obtain ⟨b, h1, h2⟩ := loop_inv (body := fn_law08_TablePlays_l1 xa xb xc) (fun s => ∃ (k : Nat) (q : List (Int × Bool)) (m : Int), k ≤ xa.length ∧ s = (prs 0 q, (k : Int), q, m) ∧ Tb q m) (fun s => xa.length - s.2.1.toNat)
    (Q := fun b => b = .inr true ∨ ∃ q m, Tb q m ∧ b = .inl (prs 0 q, q, m)) (fun s hs => by
    obtain ⟨k, q, m, hk, rfl, ht⟩ := hs
    unfold fn_law08_TablePlays_l1
    by_cases hc : k < xa.length
    · simp only [dlt hc, cond_true, getN hc, Option.bind_some]
      have hpl := prs_len q 0
      have hql := ht.2.2
      have tail : ∀ (q' : List (Int × Bool)) (m' : Int), Tb q' m' → ((fn_table_Table_int_Get_p0i_ri xb q' m').bind fun (i5567, t5568, l5569) => (fn_ref08_Get (prs 0 q') xb).bind fun (i5580, t5581) => cond ((!decide (i5567 = i5580)) || (!(t5568 == t5581))) (some (.inr ((.inr (false))))) ((fn_table_Table_int_Len_p0_ri l5569 m').bind fun (i5604, l5605) => cond (!decide (i5604 = ((((prs 0 q').length : Nat) : Int)))) (some (.inr ((.inr (false))))) (cond (t5581) ((fn_table_Table_int_Or_p0ii_ri xb xc l5605 m').bind fun (i5658, l5659) => cond (!decide (i5658 = i5580)) (some (.inr ((.inr (false))))) (cond (!t5581) ((fn_table_Table_int_Or_p0ii_ri xb xc l5659 m').bind fun (i5712, l5713) => cond (!decide (i5712 = xc)) (some (.inr ((.inr (false))))) (some (.inl ((prs 0 q', IntKind.wrap .i64 ((k : Int) + 1), l5713, m'))))) (some (.inl ((prs 0 q', IntKind.wrap .i64 ((k : Int) + 1), l5659, m')))))) (cond (!t5581) ((fn_table_Table_int_Or_p0ii_ri xb xc l5605 m').bind fun (i5739, l5740) => cond (!decide (i5739 = xc)) (some (.inr ((.inr (false))))) (some (.inl ((prs 0 q', IntKind.wrap .i64 ((k : Int) + 1), l5740, m'))))) (some (.inl ((prs 0 q', IntKind.wrap .i64 ((k : Int) + 1), l5605, m'))))))) : Option (((List (Int × Int)) × Int × (List (Int × Bool)) × Int) ⊕ (((List (Int × Int)) × (List (Int × Bool)) × Int) ⊕ Bool))) = some (.inl (prs 0 q', ((k + 1 : Nat) : Int), q', m')) := by
        intro q' m' h'
        have hpl' := prs_len q' 0
        have hql' := h'.2.2
        rw [tbGet_eq, refGet_eq _ _ (by omega), prs_lk h'.1]
        simp only [Option.bind_some, decide_true, Bool.not_true, BEq.rfl, Bool.or_self, cond_false, fn_table_Table_int_Len_p0_ri, h'.2.1, tbOr_eq, w64s hc (by omega)]
        cases h9 : (lk q' xb).2 <;> simp
      by_cases ha : 2000 ≤ xa[k].1 ∧ xa[k].1 < 1048576
      · right
        simp only [ha.1, ha.2, decide_true, cond_true, Option.bind_some, awake08]
        exact ⟨_, rfl, .inl rfl⟩
      · left
        have e1 : (cond (decide (2000 ≤ xa[k].1)) (some (decide (xa[k].1 < 1048576))) (some (false))) = some false := by
          by_cases h5 : 2000 ≤ xa[k].1
          · have : ¬ xa[k].1 < 1048576 := fun h => ha ⟨h5, h⟩
            simp [h5, this]
          · simp [h5]
        rw [e1]
        simp only [Option.bind_some, cond_false]
        by_cases hr : xa[k].1 < 0 ∨ 1048576 ≤ xa[k].1
        · rw [refSet_out _ _ _ hr, tbSet_out hr]
          simp only [Option.bind_some, BEq.rfl, Bool.not_true, cond_false]
          exact ⟨_, tail q m ht, ⟨k + 1, q, m, hc, rfl, ht⟩, by dsimp only; rw [Int.toNat_natCast, Int.toNat_natCast]; omega⟩
        · obtain ⟨q', m', g1, g2, g3⟩ := tbSet_in (v := xa[k].2) ht (show 0 ≤ xa[k].1 by omega) (by omega)
          rw [refSet_in _ _ _ (by omega) (prs_sort q 0) (by omega) (by omega), g1, ← g3]
          simp only [Option.bind_some, BEq.rfl, Bool.not_true, cond_false]
          exact ⟨_, tail q' m' g2, ⟨k + 1, q', m', hc, rfl, g2⟩, by dsimp only; rw [Int.toNat_natCast, Int.toNat_natCast]; omega⟩
    · right
      simp only [dge hc, cond_false]
      exact ⟨_, rfl, .inr ⟨q, m, ht, rfl⟩⟩) (s := ([], 0, [], 0)) ⟨0, [], 0, Nat.zero_le _, rfl, (fun p hp => by cases hp), rfl, by simp⟩
  rw [h1]
  rcases h2 with rfl | ⟨q, m, ht, rfl⟩
  · rfl
  · have hpl := prs_len q 0
    have hql := ht.2.2
    simp only [Option.bind_some]
    rw [pairs_eq _ _ ht.2.2]
    simp only [Option.bind_some, cond_true]
    rw [same08_eq _ _ (by omega)]
    simp only [Option.bind_some, decide_true, cond_true, awake08]
theorem TableNone_true (xa : Int) (xb : (List UInt8)) (k0 : Tp.Ok (.int .i64) xa) (k1 : Tp.Ok .str xb) : fn_law08_TableNone xa xb = some true := by
  unfold fn_law08_TableNone
  by_cases hg : 50 < xb.length ∨ (2000 < xa ∧ xa < 1048576)
  · have hb : ((decide ((50 : Int) < ((xb.length : Nat) : Int))) || ((decide (2000 < xa)) && (decide (xa < 1048576)))) = true := by simp; omega
    rw [hb, cond_true, awake08]; rfl
  have hb : ((decide ((50 : Int) < ((xb.length : Nat) : Int))) || ((decide (2000 < xa)) && (decide (xa < 1048576)))) = false := by
    rw [Bool.eq_false_iff]; intro e; apply hg
    rw [Bool.or_eq_true, Bool.and_eq_true, decide_eq_true_eq, decide_eq_true_eq, decide_eq_true_eq] at e
    omega
  rw [hb, cond_false]
  have o1 : fn_table_Table_string_Or_zis xa xb = some xb := rfl
  simp only [fn_table_Table_string_Get_zi, fn_table_Table_string_Set_zis, fn_table_Table_string_Len_z, Option.bind_some, o1, decide_true, Bool.not_true, Bool.or_self, cond_false]
  by_cases hr : xa < 0 ∨ 1048576 ≤ xa
  · have h1 : fn_table_Table_string_Set_p0is_ni xa xb 0 = some (false, [], 0) := by
      unfold fn_table_Table_string_Set_p0is_ni
      have e : ((decide (xa < 0)) || (decide (1048576 ≤ xa))) = true := by simp; omega
      rw [e, cond_true]
    have h2 : fn_table_Table_string_Get_p0i_ri xa [] 0 = some ([], false, []) := by
      unfold fn_table_Table_string_Get_p0i_ri
      have e : ((decide (xa < 0)) || (decide (((([] : List (List UInt8 × Bool)).length : Nat) : Int) ≤ xa))) = true := by simp; omega
      rw [e, cond_true]
    have e : ((decide (0 ≤ xa)) && (decide (xa < 1048576))) = false := by
      rw [Bool.eq_false_iff]; intro e
      rw [Bool.and_eq_true, decide_eq_true_eq, decide_eq_true_eq] at e
      omega
    rw [h1]
    simp only [Option.bind_some]
    rw [h2]
    simp [e, awake08]
  · obtain ⟨j, rfl⟩ := Int.eq_ofNat_of_zero_le (show 0 ≤ xa by omega)
    have e : ((decide ((j : Int) < 0)) || (decide (1048576 ≤ (j : Int)))) = false := by simp; omega
    have e3 : IntKind.wrap .i64 ((IntKind.wrap .i64 ((j : Int) + 1)) - 0) = ((j + 1 : Nat) : Int) := by
      rw [w64 (x := (j : Int) + 1) (by omega) (by omega), w64 (by omega) (by omega)]; omega
    have h1 : fn_table_Table_string_Set_p0is_ni (j : Int) xb 0 = some (true, (List.replicate (j + 1) (([] : List UInt8), false)).set j (xb, true), 1) := by
      unfold fn_table_Table_string_Set_p0is_ni
      have e2 : decide (0 ≤ (j : Int)) = true := by simp
      rw [e, cond_false, e2, cond_true, e3, mkN (by omega)]
      simp only [Option.bind_some]
      rw [app_eq (by simp; omega)]
      simp only [Option.bind_some, List.nil_append]
      rw [getN (by simp)]
      simp only [Option.bind_some, List.getElem_replicate, Bool.not_false, cond_true, Int.toNat_natCast]
      rfl
    have h2 : fn_table_Table_string_Get_p0i_ri (j : Int) ((List.replicate (j + 1) (([] : List UInt8), false)).set j (xb, true)) 1 = some (xb, true, (List.replicate (j + 1) (([] : List UInt8), false)).set j (xb, true)) := by
      unfold fn_table_Table_string_Get_p0i_ri
      have e4 : ((decide ((j : Int) < 0)) || (decide (((((List.replicate (j + 1) (([] : List UInt8), false)).set j (xb, true)).length : Nat) : Int) ≤ (j : Int)))) = false := by simp; omega
      rw [e4, cond_false, getN (by simp)]
      simp
    have e5 : ((decide (0 ≤ (j : Int))) && (decide ((j : Int) < 1048576))) = true := by simp; omega
    rw [h1]
    simp only [Option.bind_some]
    rw [h2]
    have e6 : (j : Int) < 1048576 := by omega
    simp [e5, e6, awake08]
end Go.Proofs.Ythimgbjeeoiefaa
namespace Go.Proofs.Ythimgbjeeoiefaa
open Go.RowKit
set_option linter.unusedVariables false
set_option linter.unnecessarySimpa false
set_option linter.unusedSimpArgs false
set_option maxRecDepth 20000
theorem TableNone_walk {H : Type} (enc : TypeId × Value → H) (W : World) (base : Nat) {v0 v1 : Value} {d0 d1 : DataW H} {p0 p1 : List MemPlace}
    (h0 : DataW.Trod enc Try.prog W 0 (fun _ => true) true 3 v0 d0 p0) (h1 : DataW.Trod enc Try.prog W 0 (fun _ => true) true 9 v1 d1 p1)
    (o0 : Value.okWide Try.prog W .any base 3 v0) (o1 : Value.okWide Try.prog W .any base 9 v1) :
    Calls Try.prog 5 #[v0, v1] W fun e W' => e = .returned (.bool true) ∧ Below W.heap.size W W' := by
  obtain ⟨xa, i0, k0⟩ := Tp.arg (.int .i64) (by kernel_rfl) o0 h0
  obtain ⟨xb, i1, k1⟩ := Tp.arg .str (by kernel_rfl) o1 h1
  exact walkX (s := sp_law08_TableNone) (x := (xa, xb)) (args := [v0, v1]) law08_TableNone_is (TableNone_true xa xb k0 k1) trivial rfl rfl ⟨_, _, rfl, of_rel _ i0, _, _, rfl, of_rel _ i1, rfl⟩
end Go.Proofs.Ythimgbjeeoiefaa
namespace Go.Proofs.Ythimgbjeeoiefaa.tableNoneFrame
set_option maxRecDepth 40000
open Go.ChangeShapes Go.WideShapes Go.ChangeAt Go.RowKit
theorem own : ownKnob Try.prog.godebug = none := by kernel_rfl
theorem contract (H : Type) (enc : TypeId × Value → H) (W : World) (base : Nat) (args : Array Value) (ds gs : List (DataW H)) (before : List MemPlace)
    (hval : ∀ (j : Nat) t v, Try.f5.params[j]? = some t → args[j]? = some v → Value.okWide Try.prog W .any base t v)
    (hW : DataW.Whole enc Try.prog Try.f5.params.toList Rows.tableNoneSpec.vars false W args.toList ds gs before) :
    Calls Try.prog 5 args W fun e W' => ∃ v, e = .returned v ∧ Rows.tableNoneSpec.post enc Try.prog Try.f5 false true false false W args v W' := by
  have hW' := hW
  obtain ⟨p, q, hA0, hV, rfl, hfz, hnd⟩ := hW
  have hA : DataW.TrodAll enc Try.prog W 0 (fun _ => true) true Try.f5.params.toList args.toList ds p := hA0
  rw [Try.params5] at hA hval
  obtain ⟨v0, vs0, d0, ds0, p0, q0, hargs, rfl, rfl, h0, r0⟩ := trodAll_cons hA
  obtain ⟨v1, vs1, d1, ds1, p1, q1, rfl, rfl, rfl, h1, r1⟩ := trodAll_cons r0
  obtain ⟨rfl, rfl, rfl⟩ := trodAll_nil r1
  obtain rfl : args = #[v0, v1] := by cases args; simp_all
  refine (TableNone_walk enc W base h0 h1 (hval 0 _ v0 rfl rfl) (hval 1 _ v1 rfl rfl)).mono fun e W' ⟨he, hb⟩ => ?_
  subst he
  exact ⟨_, rfl, law_post (tb := _) rfl hW' rfl rfl (by kernel_rfl) (by kernel_rfl) (of_decide_eq_true (by kernel_rfl)) hb⟩
noncomputable def world (os : Os) : World := World.holding Try.prog os ⟨#[], #[], []⟩
theorem reads (os : Os) {H : Type} (enc : TypeId × Value → H) : ∃ x, DataW.whole enc Try.prog ((world os).forCall (fun _ _ => 0) ⟨#[], #[.int .i64 0, .string ⟨#[]⟩], []⟩).memory Try.f5.params.toList Rows.tableNoneSpec.vars false (#[.int .i64 0, .string ⟨#[]⟩] : Array Value).toList 8 = some x :=
  Option.isSome_iff_exists.1 (by kernel_rfl)
set_option maxRecDepth 100000 in
theorem lifted (os : Os) (started : os.Started) (H : Type) (enc : TypeId × Value → H) (F : Stop.Interp) :
    ReturnsInHanded {} Try.checked os 5 .any ((OpenSpec.ofChange Rows.tableNoneSpec).preRow enc Try.prog Try.f5 Rows.tableNoneRow.domain false Rows.tableNoneRow.laid) (((OpenSpec.ofChange Rows.tableNoneSpec).at F).post enc Try.prog Try.f5 false true false false) := by
  obtain ⟨x, hx⟩ := reads os enc
  refine returnsInHanded_of_row (C := Try.checked) (s := OpenSpec.ofChange Rows.tableNoneSpec) own started (by kernel_rfl) Try.func5
    (witness_row_at (enc := enc) (C := Try.checked) false (world os) #[.int .i64 0, .string ⟨#[]⟩] rfl (by kernel_rfl) (by kernel_rfl) (by kernel_rfl)
      (OpenSpec.preRow_of_cond 8 hx (by kernel_rfl) (fun k hk => by cases hk) (by kernel_rfl) (laidMet_of_run' 8 (by kernel_rfl) (by kernel_rfl)))) ?_
  intro W base args ds gs before hval hW _ _ _ hL _ _
  exact contract H enc W base args ds gs before hval hW
theorem proved : Rows.TableNoneSaid :=
  OpenClaim.holds_of_cond 5 Try.f5 rfl rfl rfl rfl rfl rfl rfl ⟨rfl, rfl, rfl, rfl, rfl⟩ rfl rfl rfl rfl rfl (by kernel_rfl) Try.func5 (by kernel_rfl)
    (of_decide_eq_true (by kernel_rfl)) (by unfold Func.isWrapper; first | (rw [if_pos (by decide +kernel)]; kernel_rfl) | (rw [if_neg (by decide +kernel)]; exact ⟨rfl, rfl⟩))
    (fun os started H enc _ F => by rw [OpenClaim.pre_eq_preRow]; exact lifted os started H enc F)
end Go.Proofs.Ythimgbjeeoiefaa.tableNoneFrame
