/- 'easement/easementlaw05.MixedFills' returns true for every input, and each argument reads afterwards as it read before: the row's frame round the walk. -/
import Derived.Test.YtfdkbceponodmaaZ4
namespace Go.Proofs.Ytfdkbceponodmaa
open Go.RowKit
set_option linter.unusedVariables false
set_option linter.unusedSimpArgs false
set_option linter.unnecessarySimpa false
/-! ### How many are below. -/
def rk (L : List Int) (i : Int) : Nat := (L.filter (fun x => decide (x < i))).length
theorem rk_le (L : List Int) (i : Int) : rk L i ≤ L.length := List.length_filter_le _ _
theorem rk_split (i : Int) : ∀ {L : List Int}, L.Pairwise (· < ·) → ∀ k (hk : k < L.length), L[k] < i ↔ k < rk L i
  | [], _, k, hk => by simp at hk
  | x :: L, h, k, hk => by
    obtain ⟨h1, h2⟩ := List.pairwise_cons.1 h
    by_cases hx : x < i
    · have e : rk (x :: L) i = rk L i + 1 := by unfold rk; simp [hx]
      rw [e]
      cases k with
      | zero => simp [hx]
      | succ k =>
        have := rk_split i h2 k (by simpa using hk)
        simp only [List.getElem_cons_succ]
        rw [this]
        omega
    · have e : rk (x :: L) i = 0 := by
        unfold rk
        rw [List.length_eq_zero_iff, List.filter_eq_nil_iff]
        intro y hy
        rcases List.mem_cons.1 hy with rfl | hy
        · simpa using hx
        · have := h1 y hy
          simp
          omega
      rw [e]
      have : x ≤ (x :: L)[k] := by
        cases k with
        | zero => exact Int.le_refl _
        | succ k => exact Int.le_of_lt (h1 _ (by simp))
      omega
theorem rk_of {L : List Int} (h : L.Pairwise (· < ·)) {i : Int} {n : Nat} (hn : n ≤ L.length) (h1 : ∀ k (hk : k < L.length), k < n → L[k] < i) (h2 : ∀ k (hk : k < L.length), n ≤ k → ¬ L[k] < i) : rk L i = n := by
  have hl := rk_le L i
  rcases Nat.lt_trichotomy (rk L i) n with h3 | h3 | h3
  · have := (rk_split i h (rk L i) (by omega)).1 (h1 _ (by omega) h3)
    omega
  · exact h3
  · exact absurd ((rk_split i h n (by omega)).2 h3) (h2 n (by omega) (Nat.le_refl _))
theorem rk_next {L : List Int} (h : L.Pairwise (· < ·)) {k : Nat} (hk : k < L.length) : rk L (L[k] + 1) = k + 1 := by
  have hp := List.pairwise_iff_getElem.1 h
  refine rk_of h (by omega) (fun j hj hjk => ?_) (fun j hj hjk => ?_)
  · rcases Nat.lt_or_ge j k with h1 | h1
    · have := hp j k hj hk h1; omega
    · have : j = k := by omega
      subst this; omega
  · have := hp k j hk hj (by omega); omega
theorem rk_zero {L : List Int} (h : ∀ x ∈ L, 0 ≤ x) : rk L 0 = 0 := by
  unfold rk
  rw [List.length_eq_zero_iff, List.filter_eq_nil_iff]
  intro y hy
  have := h y hy
  simp
  omega
theorem rk_get {L : List Int} (h : L.Pairwise (· < ·)) {k : Nat} (hk : k < L.length) : rk L L[k] = k := by
  have hp := List.pairwise_iff_getElem.1 h
  refine rk_of h (by omega) (fun j hj hjk => hp j k hj hk hjk) (fun j hj hjk => ?_)
  rcases Nat.lt_or_ge k j with h1 | h1
  · have := hp k j hk hj h1; omega
  · have : j = k := by omega
    subst this; omega
theorem mem_rk {L : List Int} (h : L.Pairwise (· < ·)) (i : Int) : i ∈ L ↔ ∃ hk : rk L i < L.length, L[rk L i] = i := by
  constructor
  · intro hi
    obtain ⟨k, hk, rfl⟩ := List.getElem_of_mem hi
    have e := rk_get h hk
    exact ⟨by rw [e]; exact hk, by simp only [e]⟩
  · rintro ⟨hk, e⟩
    rw [← e]
    exact List.getElem_mem hk
/-! ### The search. -/
theorem Less_some (a b : Int) : fn_cmp_Less_int a b = some (decide (a < b)) := by
  unfold fn_cmp_Less_int fn_cmp_isNaN_int
  simp
theorem mid_eq (s : Nat) (h : s ≤ 4611686018427387904) : IntKind.wrap .i64 (Int.fdiv (IntKind.wrap .u64 (IntKind.wrap .i64 (s : Int))) (2 ^ (min (Int.toNat 1) (IntKind.bits .u64)))) = ((s / 2 : Nat) : Int) := by
  rw [w64 (x := (s : Int)) (by omega) (by omega)]
  have e1 : IntKind.wrap .u64 (s : Int) = (s : Int) := by rw [IntKind.wrap_u64]; omega
  rw [e1]
  have e2 : ((2 : Int) ^ (min (Int.toNat 1) (IntKind.bits .u64))) = ((2 : Nat) : Int) := rfl
  rw [e2, Int.fdiv_eq_ediv_of_nonneg _ (Int.natCast_nonneg _)]
  rw [show (s : Int) / ((2 : Nat) : Int) = ((s / 2 : Nat) : Int) from rfl]
  exact w64 (by omega) (by omega)
theorem bs_loop {L : List Int} (h : L.Pairwise (· < ·)) (hl : L.length ≤ 4000000) (x : Int) : loop (fn_slices_BinarySearch_int_int_l1 L x) ((0 : Int), ((L.length : Nat) : Int)) = some ((rk L x : Nat) : Int) := by
  refine loop_val (fun s => ∃ lo hi : Nat, s = ((lo : Int), (hi : Int)) ∧ lo ≤ hi ∧ hi ≤ L.length ∧ (∀ k (hk : k < L.length), k < lo → L[k] < x) ∧ (∀ k (hk : k < L.length), hi ≤ k → ¬ L[k] < x)) (fun s => s.2.toNat - s.1.toNat) ?_ ⟨0, L.length, rfl, Nat.zero_le _, Nat.le_refl _, fun k hk h => absurd h (by omega), fun k hk h => absurd h (by omega)⟩
  rintro s ⟨lo, hi, rfl, h1, h2, h3, h4⟩
  unfold fn_slices_BinarySearch_int_int_l1
  by_cases hlt : lo < hi
  · left
    have hm : (lo + hi) / 2 < L.length := by omega
    have hmid := mid_eq (lo + hi) (by omega)
    rw [Int.natCast_add] at hmid
    have hp := List.pairwise_iff_getElem.1 h
    simp only [dlt hlt, cond_true, hmid, getN hm, Option.bind_some, Less_some]
    by_cases hx : L[(lo + hi) / 2] < x
    · refine ⟨((((lo + hi) / 2 + 1 : Nat) : Int), (hi : Int)), ?_, ⟨_, hi, rfl, by omega, h2, fun k hk hkl => ?_, h4⟩, ?_⟩
      · rw [decide_eq_true hx, cond_true, w64s hm (by omega)]
      · rcases Nat.lt_or_ge k ((lo + hi) / 2) with h5 | h5
        · have := hp k _ hk hm h5; omega
        · have : k = (lo + hi) / 2 := by omega
          subst this; exact hx
      · show (hi : Int).toNat - (((lo + hi) / 2 + 1 : Nat) : Int).toNat < (hi : Int).toNat - (lo : Int).toNat
        rw [Int.toNat_natCast, Int.toNat_natCast, Int.toNat_natCast]; omega
    · refine ⟨((lo : Int), (((lo + hi) / 2 : Nat) : Int)), ?_, ⟨lo, _, rfl, by omega, by omega, h3, fun k hk hkl => ?_⟩, ?_⟩
      · rw [decide_eq_false hx, cond_false]
      · rcases Nat.lt_or_ge ((lo + hi) / 2) k with h5 | h5
        · have := hp _ k hm hk h5; omega
        · have : k = (lo + hi) / 2 := by omega
          subst this; exact hx
      · show (((lo + hi) / 2 : Nat) : Int).toNat - (lo : Int).toNat < (hi : Int).toNat - (lo : Int).toNat
        rw [Int.toNat_natCast, Int.toNat_natCast, Int.toNat_natCast]; omega
  · right
    have e : hi = lo := by omega
    subst e
    rw [rk_of h h2 h3 h4]
    simp only [dge hlt, cond_false]
theorem bs_some {L : List Int} (h : L.Pairwise (· < ·)) (hl : L.length ≤ 4000000) (x : Int) : fn_slices_BinarySearch_int_int L x = some (((rk L x : Nat) : Int), decide (x ∈ L)) := by
  unfold fn_slices_BinarySearch_int_int
  rw [bs_loop h hl]
  simp only [Option.bind_some]
  have hm := mem_rk h x
  by_cases hk : rk L x < L.length
  · simp only [dlt hk, cond_true, getN hk, Option.bind_some]
    by_cases hx : L[rk L x] = x
    · have : x ∈ L := hm.2 ⟨hk, hx⟩
      simp [hx, this]
    · have : ¬ x ∈ L := fun h => hx (hm.1 h).2
      simp [hx, this, fn_slices_isNaN_int]
  · have : ¬ x ∈ L := fun h => hk (hm.1 h).1
    simp only [dge hk, cond_false, Option.bind_some, decide_eq_false this]
theorem Rank_some {L : List Int} (h : L.Pairwise (· < ·)) (hl : L.length ≤ 4000000) (x : Int) : fn_sparse_Set_Rank (some L) x = some ((rk L x : Nat) : Int) := by
  unfold fn_sparse_Set_Rank
  simp only [Option.isNone_some, cond_false, Option.bind_some, bs_some h hl]
theorem At_nat {L : List Int} (k : Nat) : fn_sparse_Set_At (some L) (k : Int) = some (L.getD k 0, decide (k < L.length)) := by
  unfold fn_sparse_Set_At fn_sparse_Set_Len
  have h0 : ¬ ((k : Int) < 0) := by omega
  simp only [decide_eq_false h0, cond_false, Option.bind_some, Option.isNone_some]
  by_cases hk : k < L.length
  · have h1 : ¬ (((L.length : Nat) : Int) ≤ (k : Int)) := by omega
    simp only [decide_eq_false h1, cond_false, getN hk, Option.bind_some]
    simp [hk]
  · have h1 : (((L.length : Nat) : Int) ≤ (k : Int)) := by omega
    simp only [decide_eq_true h1, cond_true]
    simp [hk]
theorem At_neg {L : List Int} {i : Int} (h : i < 0) : fn_sparse_Set_At (some L) i = some (0, false) := by
  unfold fn_sparse_Set_At
  rw [decide_eq_true h]
  rfl
/-- A set of few: rising, of numbers that may be. -/
structure Sp (L : List Int) : Prop where
  rs : L.Pairwise (· < ·)
  bd : ∀ x ∈ L, 0 ≤ x ∧ x ≤ 2147483647
  ln : L.length ≤ 1000000
theorem Sp.rank {L : List Int} (h : Sp L) (x : Int) : fn_sparse_Set_Rank (some L) x = some ((rk L x : Nat) : Int) := Rank_some h.rs (Nat.le_trans h.ln (by decide)) x
theorem Sp.has {L : List Int} (h : Sp L) (x : Int) : fn_sparse_Set_Has (some L) x = some (decide (x ∈ L)) := by
  have hl := h.ln
  unfold fn_sparse_Set_Has
  rw [h.rank]
  simp only [Option.bind_some, At_nat]
  have hm := mem_rk h.rs x
  congr 1
  rw [Bool.eq_iff_iff, Bool.and_eq_true, decide_eq_true_eq, decide_eq_true_eq, decide_eq_true_eq, hm]
  constructor
  · rintro ⟨h1, h2⟩
    refine ⟨h1, ?_⟩
    simpa [h1] using h2
  · rintro ⟨h1, h2⟩
    refine ⟨h1, ?_⟩
    simpa [h1] using h2
/-- The members, one by one. -/
theorem step_rank {L : List Int} (h : Sp L) {k : Nat} (hk : k < L.length) : fn_sparse_Set_Rank (some L) (IntKind.wrap .i64 (L[k] + 1)) = some ((k + 1 : Nat) : Int) := by
  have hb := h.bd L[k] (List.getElem_mem hk)
  rw [w64 (by omega) (by omega), h.rank, rk_next h.rs hk]
theorem rk_lt {x i : Int} (L : List Int) (h : x < i) : rk (x :: L) i = rk L i + 1 := by unfold rk; simp [h]
theorem rk_ge {x i : Int} {L : List Int} (h : ¬ x < i) (hs : (x :: L).Pairwise (· < ·)) : rk (x :: L) i = 0 := by
  obtain ⟨h1, h2⟩ := List.pairwise_cons.1 hs
  unfold rk
  rw [List.length_eq_zero_iff, List.filter_eq_nil_iff]
  intro y hy
  rcases List.mem_cons.1 hy with rfl | hy
  · simpa using h
  · have := h1 y hy
    simp
    omega
theorem ins_rk (i : Int) : ∀ {L : List Int}, L.Pairwise (· < ·) → i ∉ L → L.take (rk L i) ++ [i] ++ L.drop (rk L i) = ins i L
  | [], _, _ => rfl
  | x :: L, hs, hi => by
    obtain ⟨h1, h2⟩ := List.pairwise_cons.1 hs
    have hne : i ≠ x := fun e => hi (by simp [e])
    by_cases hx : x < i
    · rw [rk_lt L hx, ins_cons, if_neg (by omega), ← ins_rk i h2 (fun h => hi (by simp [h]))]
      simp
    · rw [rk_ge hx hs, ins_cons, if_pos (by omega)]
      rfl
theorem del_rk (i : Int) : ∀ {L : List Int}, L.Pairwise (· < ·) → i ∈ L → L.take (rk L i) ++ L.drop (rk L i + 1) = rDel L i
  | [], _, hi => by simp at hi
  | x :: L, hs, hi => by
    obtain ⟨h1, h2⟩ := List.pairwise_cons.1 hs
    by_cases hx : x < i
    · have hm : i ∈ L := by
        rcases List.mem_cons.1 hi with h | h
        · omega
        · exact h
      have hne : ¬ x = i := by omega
      have ih := del_rk i h2 hm
      rw [rk_lt L hx]
      unfold rDel at ih ⊢
      simp only [List.take_succ_cons, List.drop_succ_cons, List.cons_append, ih]
      simp [hne]
    · have he : x = i := by
        rcases List.mem_cons.1 hi with h | h
        · exact h.symm
        · have := h1 i h; omega
      subst he
      rw [rk_ge hx hs]
      unfold rDel
      have : L.filter (fun y => !decide (y = x)) = L := by
        rw [List.filter_eq_self]
        intro y hy
        have := h1 y hy
        simp
        omega
      simp [this]
/-! ### Or: two rising lists laid into one. -/
def InSp (L M : List Int) (k j : Nat) (B : List Int) : Prop := B.Pairwise (· < ·) ∧ (∀ x, x ∈ B ↔ x ∈ L.take k ∨ x ∈ M.take j) ∧ (∀ x ∈ B, ∀ y ∈ L.drop k, x < y) ∧ B.length ≤ k + j
def un (L M : List Int) : List Int := (rOr 2147483648 L M).1
theorem un_mem {L M : List Int} (hM : Sp M) (x : Int) : x ∈ un L M ↔ x ∈ L ∨ x ∈ M := by
  unfold un
  rw [rOr_mem]
  constructor
  · rintro (h | h)
    · exact .inl h
    · exact .inr h.1
  · rintro (h | h)
    · exact .inl h
    · have := hM.bd x h
      exact .inr ⟨h, by omega, by omega⟩
theorem un_rs {L : List Int} (M : List Int) (h : L.Pairwise (· < ·)) : (un L M).Pairwise (· < ·) := rOr_rs _ _ _ h
theorem un_len (L M : List Int) : (un L M).length ≤ L.length + M.length := rOr_len _ _ _
theorem un_ok {L M : List Int} (hL : Sp L) (hM : Sp M) : (rOr 2147483648 L M).2 = decide (L.length < (un L M).length) := by
  rw [Bool.eq_iff_iff, decide_eq_true_eq, rOr_ok]
  have e : (un L M).filter (fun x => decide (x ∈ L)) = L := by
    refine strict_eq (List.Pairwise.filter _ (un_rs M hL.rs)) hL.rs fun x => ?_
    rw [List.mem_filter, un_mem hM, decide_eq_true_eq]
    exact ⟨fun h => h.2, fun h => ⟨.inl h, h⟩⟩
  have hlt := List.length_filter_lt_length_iff_exists (p := fun x => decide (x ∈ L)) (l := un L M)
  rw [e] at hlt
  rw [hlt]
  constructor
  · rintro ⟨x, h1, h2, h3⟩
    exact ⟨x, (un_mem hM x).2 (.inr h1), by simpa using h3⟩
  · rintro ⟨x, h1, h2⟩
    have h3 : ¬ x ∈ L := by simpa using h2
    rcases (un_mem hM x).1 h1 with h | h
    · exact absurd h h3
    · have := hM.bd x h
      exact ⟨x, h, ⟨by omega, by omega⟩, h3⟩
/-- Add. -/
theorem sAdd_some {L : List Int} (h : Sp L) (i : Int) (hl : L.length + 1 ≤ 1000000) : fn_sparse_Set_Add_p0i_r i L = some (rAddOk 2147483648 L i, rAdd 2147483648 L i) ∧ Sp (rAdd 2147483648 L i) := by
  refine ⟨?_, rAdd_rs h.rs i, fun x hx => ?_, Nat.le_trans (rAdd_len _ _ _) hl⟩
  · have hcond : (fn_sparse_mayBe i).bind (fun t380 => cond (!t380) (some (true)) ((fn_sparse_Set_Has (some L) i).bind fun t395 => some (t395))) = some (!rAddOk 2147483648 L i) := by
      rw [show fn_sparse_mayBe i = some ((decide (0 ≤ i)) && (decide (i ≤ 2147483647))) from rfl, h.has]
      unfold rAddOk
      by_cases h1 : 0 ≤ i
      · by_cases h2 : i ≤ 2147483647
        · have h3 : i < 2147483648 := by omega
          simp [h1, h2, h3]
        · have h3 : ¬ i < 2147483648 := by omega
          simp [h1, h2, h3]
      · simp [h1]
    unfold fn_sparse_Set_Add_p0i_r
    have hm : ∀ {β : Type} (k : Bool → Option β), ((fn_sparse_mayBe i).bind fun t380 => (cond (!t380) (some (true)) ((fn_sparse_Set_Has (some L) i).bind fun t395 => some (t395))).bind k) = k (!rAddOk 2147483648 L i) := fun k => by
      have := congrArg (fun z => Option.bind z k) hcond
      simpa [Option.bind_assoc] using this
    rw [hm]
    cases ho : rAddOk 2147483648 L i with
    | false =>
      have : ¬ ((0 ≤ i ∧ i < 2147483648) ∧ i ∉ L) := of_decide_eq_false ho
      unfold rAdd
      rw [if_neg this]
      rfl
    | true =>
      have hh : (0 ≤ i ∧ i < 2147483648) ∧ i ∉ L := of_decide_eq_true ho
      have he : rAdd 2147483648 L i = ins i L := by unfold rAdd; rw [if_pos hh]
      have hrk := rk_le L i
      have hi : insF L ((rk L i : Nat) : Int) [i] = some (ins i L) := by
        unfold insF
        rw [if_pos ⟨by omega, by omega, by simp, by simp; omega⟩, Int.toNat_natCast, ins_rk i h.rs hh.2]
      simp only [Bool.not_true, cond_false, h.rank, Option.bind_some, hi, agr_self, he]
  · rcases (rAdd_mem i x).1 hx with h1 | ⟨rfl, h2⟩
    · exact h.bd x h1
    · omega
/-! ### Of. -/
def srtd (l : List Int) : List Int := l.mergeSort fun x y => decide (x ≤ y)
theorem srt_eq {l : List Int} (h : l.length ≤ 1073741824) : srt l = some (srtd l) := by unfold srt; rw [if_pos h]; rfl
def cp (l : List Int) : List Int := Lib.compact (srtd l)
theorem srtd_le (l : List Int) : (srtd l).Pairwise (· ≤ ·) := by
  have := List.pairwise_mergeSort (le := fun x y : Int => decide (x ≤ y)) (fun a b c h1 h2 => by simp at *; omega) (fun a b => by simp; omega) l
  exact this.imp (fun h => by simpa using h)
theorem cp_lt (l : List Int) : (cp l).Pairwise (· < ·) := (compact_sorted (srtd_le l)).1
theorem cp_mem (l : List Int) (a : Int) : a ∈ cp l ↔ a ∈ l := by
  rw [cp, (compact_sorted (srtd_le l)).2 a]; unfold srtd; exact List.mem_mergeSort
theorem cp_len (l : List Int) : (cp l).length ≤ l.length := by
  have := Lib.compact_length_le (srtd l)
  unfold srtd at this
  rw [List.length_mergeSort] at this
  exact this
def okm (i : Int) : Bool := decide (0 ≤ i) && decide (i ≤ 2147483647)
def ofS (xa : List Int) : List Int := cp (xa.filter okm)
theorem Of_some {xa : List Int} (h : xa.length ≤ 1000000) : fn_sparse_Of xa = some (ofS xa) := by
  have hlp : loop (fn_sparse_Of_l1 xa) ((0 : Int), ([] : List Int)) = some (xa.filter okm) := by
    have := loop_nat (body := fn_sparse_Of_l1 xa) (fun k : Nat => ((k : Int), (xa.take k).filter okm)) xa.length (b := xa.filter okm) ?_ ?_
    · exact this
    · intro k hk
      unfold fn_sparse_Of_l1
      have hle := List.length_filter_le okm (xa.take k)
      have ha : app ((xa.take k).filter okm) [xa[k]] = some ((xa.take k).filter okm ++ [xa[k]]) := app_eq (by simp at hle ⊢; omega)
      have e : (xa.take (k + 1)).filter okm = (xa.take k).filter okm ++ (if okm xa[k] then [xa[k]] else []) := by
        rw [take_snoc hk, List.filter_append]
        cases hm : okm xa[k] <;> simp [hm]
      simp only [dlt hk, cond_true, getN hk, Option.bind_some, show ∀ i, fn_sparse_mayBe i = some (okm i) from fun _ => rfl, ha, e, w64s hk (by omega)]
      cases hm : okm xa[k] <;> simp
    · unfold fn_sparse_Of_l1
      simp
  unfold fn_sparse_Of
  rw [hlp]
  have hle := List.length_filter_le okm xa
  simp only [Option.bind_some, srt_eq (l := xa.filter okm) (by omega)]
  rfl
theorem ofS_mem (xa : List Int) (x : Int) : x ∈ ofS xa ↔ x ∈ xa ∧ 0 ≤ x ∧ x ≤ 2147483647 := by
  unfold ofS okm
  rw [cp_mem, List.mem_filter, Bool.and_eq_true, decide_eq_true_eq, decide_eq_true_eq]
theorem ofS_len (xa : List Int) : (ofS xa).length ≤ xa.length := Nat.le_trans (cp_len _) (List.length_filter_le _ _)
theorem ofS_sp {xa : List Int} (h : xa.length ≤ 1000000) : Sp (ofS xa) :=
  ⟨cp_lt _, fun x hx => ((ofS_mem xa x).1 hx).2, Nat.le_trans (ofS_len xa) h⟩
end Go.Proofs.Ytfdkbceponodmaa
namespace Go.Proofs.Ytfdkbceponodmaa
open Go.RowKit
set_option linter.unusedVariables false
set_option linter.unusedSimpArgs false
set_option linter.unnecessarySimpa false
structure Mx (n : Nat) (f : Option (List Int)) (b : Option (Int × List Int)) (L : List Int) : Prop where
  hn : n ≤ 1048576
  rs : L.Pairwise (· < ·)
  bd : ∀ x ∈ L, 0 ≤ x ∧ x < n
  st : (f = some L ∧ b = none ∧ L.length ≤ 8) ∨ ∃ w, f = none ∧ b = some ((n : Int), w) ∧ Rp n w L
theorem Rp.bd {n : Nat} {w L : List Int} (h : Rp n w L) : ∀ x ∈ L, 0 ≤ x ∧ x < n := fun x hx => by
  have := (h.mm x).1 hx
  have := lt_of_mem h.ds this.2
  omega
theorem sp_of {n : Nat} {L : List Int} (hn : n ≤ 1048576) (hr : L.Pairwise (· < ·)) (hb : ∀ x ∈ L, 0 ≤ x ∧ x < n) (hl : L.length ≤ 9) : Sp L :=
  ⟨hr, fun x hx => by have := hb x hx; omega, by omega⟩
theorem len_le {n : Nat} {L : List Int} (hr : L.Pairwise (· < ·)) (hb : ∀ x ∈ L, 0 ≤ x ∧ x < n) : L.length ≤ n := by
  have h2 : ((List.range n).map (fun k : Nat => (k : Int))).Pairwise (· < ·) := by
    rw [List.pairwise_map]
    exact List.Pairwise.imp (fun h => Int.ofNat_lt.2 h) (List.pairwise_lt_range (n := n))
  have := sub_len hr h2 (fun x hx => by
    have := hb x hx
    rw [List.mem_map]
    exact ⟨x.toNat, List.mem_range.2 (by omega), by omega⟩)
  simpa using this
theorem Mx.len {n : Nat} {f : Option (List Int)} {b : Option (Int × List Int)} {L : List Int} (h : Mx n f b L) : L.length ≤ n := len_le h.rs h.bd
theorem rAdd_in {n : Nat} {L : List Int} {i : Int} (hn : n ≤ 1048576) (hi : 0 ≤ i ∧ i < n) : rAdd 2147483648 L i = rAdd n L i ∧ rAddOk 2147483648 L i = rAddOk n L i := by
  have h1 : 0 ≤ i ∧ i < 2147483648 := by omega
  unfold rAdd rAddOk
  simp [h1, hi]
theorem rAdd_out {n : Nat} {L : List Int} {i : Int} (hi : ¬ (0 ≤ i ∧ i < n)) : rAdd n L i = L ∧ rAddOk n L i = false := by
  unfold rAdd rAddOk
  rw [if_neg (fun h => hi h.1), decide_eq_false (fun h => hi h.1)]
  exact ⟨rfl, rfl⟩
theorem rAdd_bd {n : Nat} {L : List Int} (i : Int) (hb : ∀ x ∈ L, 0 ≤ x ∧ x < n) : ∀ x ∈ rAdd n L i, 0 ≤ x ∧ x < n := fun x hx => by
  rcases (rAdd_mem i x).1 hx with h | ⟨rfl, h⟩
  · exact hb x h
  · exact h
theorem Dense_some (n : Int) (f : Option (List Int)) (b : Option (Int × List Int)) : fn_mixed_Set_Dense (some (n, f, b)) = some b.isSome := by
  unfold fn_mixed_Set_Dense
  cases b <;> rfl
/-- A list laid into bits. -/
theorem thick_some {n : Nat} {L : List Int} (hn : n ≤ 1048576) (h : Sp L) (hb : ∀ x ∈ L, 0 ≤ x ∧ x < n) (b : Option (Int × List Int)) : ∃ w, fn_mixed_Set_thicken_p0_iodod n (some L) b = some (some ((n : Int), w)) ∧ Rp n w L := by
  have hl := h.ln
  have hp := List.pairwise_iff_getElem.1 h.rs
  have key := loop_inv (body := fn_mixed_Set_thicken_p0_iodod_l2 n L) (fun s => ∃ k : Nat, k ≤ L.length ∧ s.1 = L.getD k 0 ∧ s.2.1 = decide (k < L.length) ∧ Rp n s.2.2 (L.take k)) (fun s => if s.2.1 then (L.filter (fun x => decide (s.1 ≤ x))).length else 0) (Q := fun w => Rp n w L) ?_ (s := (L.getD 0 0, decide (0 < L.length), List.replicate ((n + 63) / 64) (0 : Int))) ⟨0, Nat.zero_le _, rfl, rfl, Rp_new hn⟩
  · obtain ⟨w, k1, k2⟩ := key
    refine ⟨w, ?_, k2⟩
    unfold fn_mixed_Set_thicken_p0_iodod
    have h1 : ¬ ((n : Int) < 0) := by omega
    have h2 : ¬ (1048576 < (n : Int)) := by omega
    rw [New_some, if_neg h1, if_neg h2, Int.toNat_natCast]
    simp only [Option.bind_some, show fn_sparse_Set_All_p0_r L = some L from rfl]
    have at0 : fn_sparse_Set_At (some L) 0 = some (L.getD 0 0, decide (0 < L.length)) := At_nat 0
    rw [at0]
    simp only [Option.bind_some, k1]
  · rintro ⟨i, t, w⟩ ⟨k, hk, rfl, rfl, hw⟩
    dsimp only at hw ⊢
    unfold fn_mixed_Set_thicken_p0_iodod_l2
    by_cases hkl : k < L.length
    · left
      have hg : L.getD k 0 = L[k] := by simp [hkl]
      obtain ⟨w', a1, a2⟩ := hw.add L[k]
      have hbk := hb L[k] (List.getElem_mem hkl)
      have hlt : ∀ y ∈ L.take k, y < L[k] := fun y hy => by
        obtain ⟨j, hj, rfl⟩ := List.mem_take_iff_getElem.1 hy
        exact hp j k (by omega) hkl (by omega)
      have hni : L[k] ∉ L.take k := fun hm => by have := hlt _ hm; omega
      have e : rAdd n (L.take k) L[k] = L.take (k + 1) := by
        unfold rAdd
        rw [if_pos ⟨hbk, hni⟩, ins_last hlt, take_snoc hkl]
      rw [e] at a2
      refine ⟨(L.getD (k + 1) 0, decide (k + 1 < L.length), w'), ?_, ⟨k + 1, by omega, rfl, rfl, a2⟩, ?_⟩
      · simp only [decide_eq_true hkl, cond_true, hg, a1, Option.bind_some, step_rank h hkl, At_nat]
      · dsimp only
        rw [decide_eq_true hkl, if_pos rfl, hg]
        by_cases hk2 : k + 1 < L.length
        · have hg2 : L.getD (k + 1) 0 = L[k + 1] := by simp [hk2]
          rw [decide_eq_true hk2, if_pos rfl, hg2]
          have hs : (L.filter (fun x => decide (L[k + 1] ≤ x))) = (L.filter (fun x => decide (L[k] ≤ x))).filter (fun x => decide (L[k + 1] ≤ x)) := by
            rw [List.filter_filter]
            refine List.filter_congr fun x hx => ?_
            have := hp k (k + 1) hkl hk2 (by omega)
            by_cases h1 : L[k + 1] ≤ x
            · have h2 : L[k] ≤ x := by omega
              simp [h1, h2]
            · simp [h1]
          rw [hs, List.length_filter_lt_length_iff_exists]
          refine ⟨L[k], List.mem_filter.2 ⟨List.getElem_mem hkl, by simp⟩, ?_⟩
          have := hp k (k + 1) hkl hk2 (by omega)
          simp
          omega
        · rw [decide_eq_false hk2]
          simp only [Bool.false_eq_true, if_false]
          refine List.length_pos_of_mem (a := L[k]) (List.mem_filter.2 ⟨List.getElem_mem hkl, by simp⟩)
    · right
      have e : k = L.length := by omega
      subst e
      rw [List.take_length] at hw
      refine ⟨w, ?_, hw⟩
      simp
/-- Add. -/
theorem mAdd_some {n : Nat} {f : Option (List Int)} {b : Option (Int × List Int)} {L : List Int} (h : Mx n f b L) (i : Int) : ∃ f' b', fn_mixed_Set_Add_p0i_iodod i n f b = some (rAddOk n L i, f', b') ∧ Mx n f' b' (rAdd n L i) ∧ b'.isSome = (b.isSome || decide (8 < (rAdd n L i).length)) := by
  have hn := h.hn
  have hcond : (cond (decide (i < 0)) (some (true)) ((fn_mixed_Set_Size (some ((n : Int), f, b))).bind fun i173 => some (decide (i173 ≤ i)))) = some (!decide (0 ≤ i ∧ i < n)) := by
    rw [show fn_mixed_Set_Size (some ((n : Int), f, b)) = some (n : Int) from rfl]
    by_cases h1 : i < 0
    · have h2 : ¬ 0 ≤ i := by omega
      simp [h1, h2]
    · have h2 : 0 ≤ i := by omega
      by_cases h3 : (n : Int) ≤ i
      · have h4 : ¬ i < n := by omega
        simp [h1, h2, h3, h4]
      · have h4 : i < n := by omega
        simp [h1, h2, h3, h4]
  unfold fn_mixed_Set_Add_p0i_iodod
  rw [hcond]
  simp only [Option.bind_some]
  by_cases hi : 0 ≤ i ∧ i < (n : Int)
  · rw [decide_eq_true hi]
    simp only [Bool.not_true, cond_false, Dense_some, Option.bind_some]
    rcases h.st with ⟨rfl, rfl, h8⟩ | ⟨w, rfl, rfl, hw⟩
    · have hsp := sp_of hn h.rs h.bd (by omega)
      obtain ⟨a1, a2⟩ := sAdd_some hsp i (by omega)
      obtain ⟨e1, e2⟩ := rAdd_in (L := L) hn hi
      rw [e1, e2] at a1
      rw [e1] at a2
      have hl9 : (rAdd n L i).length ≤ 9 := by have := rAdd_len n L i; omega
      simp only [Option.isSome_none, cond_false, Option.bind_some, a1, show ∀ M : List Int, fn_sparse_Set_Len (some M) = some ((M.length : Nat) : Int) from fun _ => rfl, Bool.false_or]
      by_cases h9 : 8 < (rAdd n L i).length
      · have h9' : (8 : Int) < (((rAdd n L i).length : Nat) : Int) := by omega
        obtain ⟨w, t1, t2⟩ := thick_some hn a2 (rAdd_bd i h.bd) none
        rw [decide_eq_true h9', decide_eq_true h9]
        simp only [cond_true, t1, Option.bind_some]
        exact ⟨_, _, rfl, ⟨hn, a2.rs, rAdd_bd i h.bd, .inr ⟨w, rfl, rfl, t2⟩⟩, rfl⟩
      · have h9' : ¬ (8 : Int) < (((rAdd n L i).length : Nat) : Int) := by omega
        rw [decide_eq_false h9', decide_eq_false h9]
        simp only [cond_false]
        exact ⟨_, _, rfl, ⟨hn, a2.rs, rAdd_bd i h.bd, .inl ⟨rfl, rfl, by omega⟩⟩, rfl⟩
    · obtain ⟨w', a1, a2⟩ := hw.add i
      simp only [Option.isSome_some, cond_true, Option.bind_some, a1, Bool.true_or]
      exact ⟨_, _, rfl, ⟨hn, a2.rs, a2.bd, .inr ⟨w', rfl, rfl, a2⟩⟩, rfl⟩
  · rw [decide_eq_false hi]
    obtain ⟨e1, e2⟩ := rAdd_out (L := L) hi
    rw [e1, e2]
    refine ⟨f, b, rfl, h, ?_⟩
    rcases h.st with ⟨rfl, rfl, h8⟩ | ⟨w, rfl, rfl, hw⟩
    · rw [decide_eq_false (by omega : ¬ 8 < L.length)]; rfl
    · rfl
theorem Mx.has {n : Nat} {f : Option (List Int)} {b : Option (Int × List Int)} {L : List Int} (h : Mx n f b L) (i : Int) : fn_mixed_Set_Has (some ((n : Int), f, b)) i = some (decide (i ∈ L)) := by
  have hn := h.hn
  unfold fn_mixed_Set_Has
  rw [Dense_some]
  rcases h.st with ⟨rfl, rfl, h8⟩ | ⟨w, rfl, rfl, hw⟩
  · have hsp := sp_of hn h.rs h.bd (by omega)
    simp only [Option.isSome_none, Option.bind_some, cond_false, Option.isNone_some, Bool.not_false, cond_true, hsp.has]
  · simp only [Option.isSome_some, Option.bind_some, cond_true, hw.has]
    rfl
theorem Mx.size {n : Nat} {f : Option (List Int)} {b : Option (Int × List Int)} {L : List Int} (h : Mx n f b L) : fn_mixed_Set_Len (some ((n : Int), f, b)) = some ((L.length : Nat) : Int) := by
  unfold fn_mixed_Set_Len
  rw [Dense_some]
  rcases h.st with ⟨rfl, rfl, h8⟩ | ⟨w, rfl, rfl, hw⟩
  · rfl
  · simp only [Option.isSome_some, Option.bind_some, cond_true, hw.count]
theorem Mx.words {n : Nat} {f : Option (List Int)} {b : Option (Int × List Int)} {L : List Int} (h : Mx n f b L) : fn_mixed_Set_Words (some ((n : Int), f, b)) = some (if b.isSome then (((n + 63) / 64 : Nat) : Int) else ((L.length : Nat) : Int)) := by
  have hn := h.hn
  unfold fn_mixed_Set_Words
  rw [Dense_some, h.size]
  have e : IntKind.wrap .i64 (Int.tdiv (IntKind.wrap .i64 ((n : Int) + 63)) 64) = (((n + 63) / 64 : Nat) : Int) := by
    rw [w64 (x := (n : Int) + 63) (by omega) (by omega), show (n : Int) + 63 = ((n + 63 : Nat) : Int) by omega, show Int.tdiv ((n + 63 : Nat) : Int) 64 = (((n + 63) / 64 : Nat) : Int) from rfl]
    exact w64 (by omega) (by omega)
  cases b with
  | none => rfl
  | some x => simp only [Option.isSome_some, Option.bind_some, cond_true, e, if_true]
/-- Fill. -/
theorem mFill_some {n : Nat} {f : Option (List Int)} {b : Option (Int × List Int)} {L : List Int} (h : Mx n f b L) (lo hi : Int) : ∃ f' b' L', fn_mixed_Set_Fill_p0ii_iodod lo hi n f b = some (f', b') ∧ Mx n f' b' L' ∧ b'.isSome = (b.isSome || decide (8 < L'.length)) ∧ ∀ x, x ∈ L' ↔ x ∈ L ∨ (lo ≤ x ∧ x < hi ∧ 0 ≤ x ∧ x < n) := by
  have hn := h.hn
  have key := loop_inv (body := fn_mixed_Set_Fill_p0ii_iodod_l1 hi n) (fun s => ∃ L' : List Int, 0 ≤ s.1 ∧ lo ≤ s.1 ∧ Mx n s.2.1 s.2.2 L' ∧ s.2.2.isSome = (b.isSome || decide (8 < L'.length)) ∧ ∀ x, x ∈ L' ↔ x ∈ L ∨ (lo ≤ x ∧ x < s.1 ∧ x < hi ∧ 0 ≤ x ∧ x < n)) (fun s => n - s.1.toNat)
    (Q := fun r => ∃ L' : List Int, Mx n r.1 r.2 L' ∧ r.2.isSome = (b.isSome || decide (8 < L'.length)) ∧ ∀ x, x ∈ L' ↔ x ∈ L ∨ (lo ≤ x ∧ x < hi ∧ 0 ≤ x ∧ x < n)) ?_ (s := (if lo < 0 then 0 else lo, f, b)) ⟨L, ?_, ?_, h, ?_, fun x => ?_⟩
  · obtain ⟨⟨f', b'⟩, k1, L', k2, k3, k4⟩ := key
    refine ⟨f', b', L', ?_, k2, k3, k4⟩
    unfold fn_mixed_Set_Fill_p0ii_iodod
    rw [k1]
    rfl
  · rintro ⟨i, f1, b1⟩ ⟨L', h0, hlo, hm, hd, hx⟩
    dsimp only at h0 hlo hm hd hx ⊢
    unfold fn_mixed_Set_Fill_p0ii_iodod_l1
    simp only [show fn_mixed_Set_Size (some ((n : Int), f1, b1)) = some (n : Int) from rfl, Option.bind_some]
    by_cases hc : i < (if (n : Int) < hi then (n : Int) else hi)
    · left
      have hin : i < n ∧ i < hi := by split at hc <;> omega
      obtain ⟨f2, b2, a1, a2, a3⟩ := mAdd_some hm i
      refine ⟨(i + 1, f2, b2), ?_, ⟨rAdd n L' i, by dsimp only; omega, by dsimp only; omega, a2, ?_, fun x => ?_⟩, ?_⟩
      · rw [decide_eq_true hc]
        simp only [cond_true, a1, Option.bind_some, w64 (x := i + 1) (by omega) (by omega)]
      · dsimp only
        rw [a3, hd]
        have hle : L'.length ≤ (rAdd n L' i).length := sub_len hm.rs a2.rs (fun x hx => (rAdd_mem _ _).2 (.inl hx))
        by_cases h1 : 8 < L'.length
        · have h2 : 8 < (rAdd n L' i).length := by omega
          simp [h1, h2]
        · simp [h1]
      · dsimp only
        rw [rAdd_mem, hx]
        constructor
        · rintro ((h1 | h1) | ⟨rfl, h1⟩)
          · exact .inl h1
          · exact .inr ⟨h1.1, by omega, h1.2.2⟩
          · exact .inr ⟨hlo, by omega, hin.2, h1⟩
        · rintro (h1 | h1)
          · exact .inl (.inl h1)
          · by_cases h2 : x < i
            · exact .inl (.inr ⟨h1.1, h2, h1.2.2⟩)
            · exact .inr ⟨by omega, by omega, by omega⟩
      · show n - (i + 1).toNat < n - i.toNat
        omega
    · right
      refine ⟨(f1, b1), by rw [decide_eq_false hc]; rfl, L', hm, hd, fun x => ?_⟩
      rw [hx]
      constructor
      · rintro (h1 | h1)
        · exact .inl h1
        · exact .inr ⟨h1.1, h1.2.2⟩
      · rintro (h1 | h1)
        · exact .inl h1
        · exact .inr ⟨h1.1, by split at hc <;> omega, h1.2⟩
  · dsimp only; split <;> omega
  · dsimp only; split <;> omega
  · rcases h.st with ⟨rfl, rfl, h8⟩ | ⟨w, rfl, rfl, hw⟩
    · rw [decide_eq_false (by omega : ¬ 8 < L.length)]; rfl
    · rfl
  · dsimp only
    constructor
    · exact .inl
    · rintro (h1 | h1)
      · exact h1
      · exfalso
        have := h1.2.1
        split at this <;> omega
theorem ofS_nil : ofS [] = [] := by
  have := ofS_len []
  exact List.length_eq_zero_iff.1 (by simpa using this)
theorem Of_nil : fn_sparse_Of [] = some [] := by rw [Of_some (by decide), ofS_nil]
theorem Mx_new {n : Nat} (h : n ≤ 1048576) : Mx n (some []) none [] := ⟨h, List.Pairwise.nil, by simp, .inl ⟨rfl, rfl, by decide⟩⟩
theorem mNew_some (n : Int) : fn_mixed_New n = if n < 0 then some (.inl 2) else if 1048576 < n then some (.inl 5) else some (.inr (0, some [])) := by
  unfold fn_mixed_New
  rw [Of_nil]
  by_cases h1 : n < 0
  · simp [h1]
  · by_cases h2 : 1048576 < n
    · simp [h1, h2]
    · simp [h1, h2]
end Go.Proofs.Ytfdkbceponodmaa
namespace Go.Proofs.Ytfdkbceponodmaa
open Go.RowKit
set_option linter.unusedVariables false
set_option linter.unusedSimpArgs false
set_option linter.unnecessarySimpa false
theorem awake05 : fn_law05_awake = some true := by
  have hnew : fn_mixed_New_c100 = some (.inr (0, some [])) := by
    unfold fn_mixed_New_c100
    rw [Of_nil]
    rfl
  obtain ⟨f, b, L, a1, a2, a3, a4⟩ := mFill_some (Mx_new (n := 100) (by decide)) 0 8
  have hL : L = [0, 1, 2, 3, 4, 5, 6, 7] := by
    refine strict_eq a2.rs (by decide) fun x => ?_
    rw [a4]
    simp
    omega
  subst hL
  obtain ⟨f2, b2, c1, c2, c3⟩ := mAdd_some a2 8
  have e : rAdd ((100 : Nat) : Int) [0, 1, 2, 3, 4, 5, 6, 7] 8 = [0, 1, 2, 3, 4, 5, 6, 7, 8] := by decide
  have e2 : rAddOk ((100 : Nat) : Int) [0, 1, 2, 3, 4, 5, 6, 7] 8 = true := by decide
  rw [e] at c2 c3
  rw [e2] at c1
  have hb : b.isSome = false := a3
  have hb2 : b2.isSome = true := by rw [c3, hb]; rfl
  have w := c2.words
  rw [hb2] at w
  have w2 : fn_mixed_Set_Words (some (100, f2, b2)) = some 2 := w
  have s2 : fn_mixed_Set_Len (some (100, f2, b2)) = some 9 := c2.size
  have a1' : fn_mixed_Set_Fill_p0ii_iodod 0 8 100 (some []) none = some (f, b) := a1
  have c1' : fn_mixed_Set_Add_p0i_iodod 8 100 f b = some (true, f2, b2) := c1
  unfold fn_law05_awake
  rw [hnew]
  simp only [Option.bind_some, a1', Dense_some, hb, c1', hb2, w2, s2]
  rfl
theorem adds_loop5 {n : Nat} (hn : n ≤ 200) {xb : List Int} (hb : xb.length ≤ 40) : ∃ f b L, loop (fn_law05_MixedFills_l1 n xb) ((0 : Int), some ([] : List Int), (none : Option (Int × List Int))) = some (f, b) ∧ Mx n f b L := by
  have key := loop_inv (body := fn_law05_MixedFills_l1 n xb) (fun s => ∃ (k : Nat) (L : List Int), k ≤ xb.length ∧ s.1 = (k : Int) ∧ Mx n s.2.1 s.2.2 L) (fun s => xb.length - s.1.toNat) (Q := fun r => ∃ L, Mx n r.1 r.2 L) ?_ (s := ((0 : Int), some ([] : List Int), (none : Option (Int × List Int)))) ⟨0, [], Nat.zero_le _, rfl, Mx_new (by omega)⟩
  · obtain ⟨⟨f, b⟩, h1, L, h2⟩ := key
    exact ⟨f, b, L, h1, h2⟩
  · rintro ⟨i, f, b⟩ ⟨k, M, hk, rfl, hM⟩
    dsimp only at hM ⊢
    unfold fn_law05_MixedFills_l1
    by_cases hkl : k < xb.length
    · left
      obtain ⟨f2, b2, a1, a2, _⟩ := mAdd_some hM xb[k]
      refine ⟨(((k + 1 : Nat) : Int), f2, b2), ?_, ⟨k + 1, _, by omega, rfl, a2⟩, ?_⟩
      · simp only [dlt hkl, cond_true, getN hkl, Option.bind_some, a1, w64s hkl (by omega)]
      · show xb.length - ((k + 1 : Nat) : Int).toNat < xb.length - ((k : Nat) : Int).toNat
        rw [Int.toNat_natCast, Int.toNat_natCast]; omega
    · right
      exact ⟨(f, b), by simp only [dge hkl, cond_false], M, hM⟩
theorem MixedFills_true (xa : Int) (xb : (List Int)) (xc : Int) (xd : Int) (xe : Int) (k0 : Tp.Ok (.int .i64) xa) (k1 : Tp.Ok (.sl (.int .i64)) xb) (k2 : Tp.Ok (.int .i64) xc) (k3 : Tp.Ok (.int .i64) xd) (k4 : Tp.Ok (.int .i64) xe) : fn_law05_MixedFills xa xb xc xd xe = some true := by
  unfold fn_law05_MixedFills
  rw [awake05]
  by_cases hg : (((decide (40 < (((xb.length : Nat) : Int)))) || (decide (xa < 0))) || (decide (200 < xa))) = true
  · rw [hg]; rfl
  · rw [Bool.eq_false_iff.2 hg]
    simp only [Bool.or_eq_true, decide_eq_true_eq, not_or] at hg
    obtain ⟨⟨g1, g2⟩, g3⟩ := hg
    obtain ⟨n, rfl⟩ := Int.eq_ofNat_of_zero_le (by omega : 0 ≤ xa)
    have hn : n ≤ 200 := by omega
    have h2 : ¬ 1048576 < (n : Int) := by omega
    rw [cond_false, mNew_some, if_neg g2, if_neg h2]
    obtain ⟨f, b, L, a1, a2⟩ := adds_loop5 hn (xb := xb) (by omega)
    obtain ⟨f1, b1, L1, c1, c2, c3, c4⟩ := mFill_some a2 xc xd
    obtain ⟨f2, b2, L2, d1, d2, d3, d4⟩ := mFill_some c2 xc xd
    have hle : L.length ≤ L1.length := sub_len a2.rs c2.rs (fun x hx => (c4 x).2 (.inl hx))
    have hsame : L2 = L1 := by
      refine strict_eq d2.rs c2.rs fun x => ?_
      rw [d4, c4]
      constructor
      · rintro (h | h)
        · exact h
        · exact .inr h
      · exact .inl
    subst hsame
    have hhas : decide (xe ∈ L2) = (decide (xe ∈ L) || ((((decide (xc ≤ xe)) && (decide (xe < xd))) && (decide (0 ≤ xe))) && (decide (xe < (n : Int))))) := by
      rw [Bool.eq_iff_iff, decide_eq_true_eq, c4]
      simp [and_assoc]
    have hlen : ¬ (((L2.length : Nat) : Int) < ((L.length : Nat) : Int)) := by omega
    have hwd : (cond (decide ((IntKind.wrap .i64 (Int.tdiv (IntKind.wrap .i64 ((n : Int) + 63)) 64)) < (if b1.isSome then (((n + 63) / 64 : Nat) : Int) else ((L2.length : Nat) : Int)))) (some (decide (8 < (if b1.isSome then (((n + 63) / 64 : Nat) : Int) else ((L2.length : Nat) : Int))))) (some (false))) = some false := by
      have e : IntKind.wrap .i64 (Int.tdiv (IntKind.wrap .i64 ((n : Int) + 63)) 64) = (((n + 63) / 64 : Nat) : Int) := by
        rw [w64 (x := (n : Int) + 63) (by omega) (by omega), show (n : Int) + 63 = ((n + 63 : Nat) : Int) by omega, show Int.tdiv ((n + 63 : Nat) : Int) 64 = (((n + 63) / 64 : Nat) : Int) from rfl]
        exact w64 (by omega) (by omega)
      rw [e]
      rcases c2.st with ⟨rfl, rfl, h8⟩ | ⟨w, rfl, rfl, hw⟩
      · have : ¬ (8 : Int) < ((L2.length : Nat) : Int) := by omega
        simp only [Option.isSome_none, Bool.false_eq_true, if_false, Option.bind_some, decide_eq_false this]
        cases decide ((((n + 63) / 64 : Nat) : Int) < ((L2.length : Nat) : Int)) <;> rfl
      · simp only [Option.isSome_some, if_true]
        rw [decide_eq_false (Int.lt_irrefl _)]
        rfl
    simp only [Option.bind_some, decide_true, Bool.not_true, cond_false, a1, a2.has, a2.size, c1, c2.has, ← hhas, beq_self_eq_true, c2.size, decide_eq_false hlen, c2.words, hwd, d1, d2.size, cond_true]
end Go.Proofs.Ytfdkbceponodmaa
namespace Go.Proofs.Ytfdkbceponodmaa
open Go.RowKit
set_option linter.unusedVariables false
set_option linter.unnecessarySimpa false
set_option linter.unusedSimpArgs false
set_option maxRecDepth 20000
theorem MixedFills_walk {H : Type} (enc : TypeId × Value → H) (W : World) (base : Nat) {v0 v1 v2 v3 v4 : Value} {d0 d1 d2 d3 d4 : DataW H} {p0 p1 p2 p3 p4 : List MemPlace}
    (h0 : DataW.Trod enc Try.prog W 0 (fun _ => true) true 3 v0 d0 p0) (h1 : DataW.Trod enc Try.prog W 0 (fun _ => true) true 22 v1 d1 p1) (h2 : DataW.Trod enc Try.prog W 0 (fun _ => true) true 3 v2 d2 p2) (h3 : DataW.Trod enc Try.prog W 0 (fun _ => true) true 3 v3 d3 p3) (h4 : DataW.Trod enc Try.prog W 0 (fun _ => true) true 3 v4 d4 p4)
    (o0 : Value.okWide Try.prog W .any base 3 v0) (o1 : Value.okWide Try.prog W .any base 22 v1) (o2 : Value.okWide Try.prog W .any base 3 v2) (o3 : Value.okWide Try.prog W .any base 3 v3) (o4 : Value.okWide Try.prog W .any base 3 v4) :
    Calls Try.prog 3 #[v0, v1, v2, v3, v4] W fun e W' => e = .returned (.bool true) ∧ Below W.heap.size W W' := by
  obtain ⟨xa, i0, k0⟩ := Tp.arg (.int .i64) (by kernel_rfl) o0 h0
  obtain ⟨xb, i1, k1⟩ := Tp.arg (.sl (.int .i64)) (by kernel_rfl) o1 h1
  obtain ⟨xc, i2, k2⟩ := Tp.arg (.int .i64) (by kernel_rfl) o2 h2
  obtain ⟨xd, i3, k3⟩ := Tp.arg (.int .i64) (by kernel_rfl) o3 h3
  obtain ⟨xe, i4, k4⟩ := Tp.arg (.int .i64) (by kernel_rfl) o4 h4
  exact walkX (s := sp_law05_MixedFills) (x := (xa, xb, xc, xd, xe)) (args := [v0, v1, v2, v3, v4]) law05_MixedFills_is (MixedFills_true xa xb xc xd xe k0 k1 k2 k3 k4) trivial rfl rfl ⟨_, _, rfl, of_rel _ i0, _, _, rfl, of_rel _ i1, _, _, rfl, of_rel _ i2, _, _, rfl, of_rel _ i3, _, _, rfl, of_rel _ i4, rfl⟩
end Go.Proofs.Ytfdkbceponodmaa
namespace Go.Proofs.Ytfdkbceponodmaa.mixedFillsFrame
set_option maxRecDepth 40000
open Go.ChangeShapes Go.WideShapes Go.ChangeAt Go.RowKit
theorem own : ownKnob Try.prog.godebug = none := by kernel_rfl
theorem contract (H : Type) (enc : TypeId × Value → H) (W : World) (base : Nat) (args : Array Value) (ds gs : List (DataW H)) (before : List MemPlace)
    (hval : ∀ (j : Nat) t v, Try.f3.params[j]? = some t → args[j]? = some v → Value.okWide Try.prog W .any base t v)
    (hW : DataW.Whole enc Try.prog Try.f3.params.toList Rows.mixedFillsSpec.vars false W args.toList ds gs before) :
    Calls Try.prog 3 args W fun e W' => ∃ v, e = .returned v ∧ Rows.mixedFillsSpec.post enc Try.prog Try.f3 false true false false W args v W' := by
  have hW' := hW
  obtain ⟨p, q, hA0, hV, rfl, hfz, hnd⟩ := hW
  have hA : DataW.TrodAll enc Try.prog W 0 (fun _ => true) true Try.f3.params.toList args.toList ds p := hA0
  rw [Try.params3] at hA hval
  obtain ⟨v0, vs0, d0, ds0, p0, q0, hargs, rfl, rfl, h0, r0⟩ := trodAll_cons hA
  obtain ⟨v1, vs1, d1, ds1, p1, q1, rfl, rfl, rfl, h1, r1⟩ := trodAll_cons r0
  obtain ⟨v2, vs2, d2, ds2, p2, q2, rfl, rfl, rfl, h2, r2⟩ := trodAll_cons r1
  obtain ⟨v3, vs3, d3, ds3, p3, q3, rfl, rfl, rfl, h3, r3⟩ := trodAll_cons r2
  obtain ⟨v4, vs4, d4, ds4, p4, q4, rfl, rfl, rfl, h4, r4⟩ := trodAll_cons r3
  obtain ⟨rfl, rfl, rfl⟩ := trodAll_nil r4
  obtain rfl : args = #[v0, v1, v2, v3, v4] := by cases args; simp_all
  refine (MixedFills_walk enc W base h0 h1 h2 h3 h4 (hval 0 _ v0 rfl rfl) (hval 1 _ v1 rfl rfl) (hval 2 _ v2 rfl rfl) (hval 3 _ v3 rfl rfl) (hval 4 _ v4 rfl rfl)).mono fun e W' ⟨he, hb⟩ => ?_
  subst he
  exact ⟨_, rfl, law_post (tb := _) rfl hW' rfl rfl (by kernel_rfl) (by kernel_rfl) (of_decide_eq_true (by kernel_rfl)) hb⟩
noncomputable def world (os : Os) : World := World.holding Try.prog os ⟨#[], #[], []⟩
theorem reads (os : Os) {H : Type} (enc : TypeId × Value → H) : ∃ x, DataW.whole enc Try.prog ((world os).forCall (fun _ _ => 0) ⟨#[], #[.int .i64 0, .slice none 0 0, .int .i64 0, .int .i64 0, .int .i64 0], []⟩).memory Try.f3.params.toList Rows.mixedFillsSpec.vars false (#[.int .i64 0, .slice none 0 0, .int .i64 0, .int .i64 0, .int .i64 0] : Array Value).toList 8 = some x :=
  Option.isSome_iff_exists.1 (by kernel_rfl)
set_option maxRecDepth 100000 in
theorem lifted (os : Os) (started : os.Started) (H : Type) (enc : TypeId × Value → H) (F : Stop.Interp) :
    ReturnsInHanded {} Try.checked os 3 .any ((OpenSpec.ofChange Rows.mixedFillsSpec).preRow enc Try.prog Try.f3 Rows.mixedFillsRow.domain false Rows.mixedFillsRow.laid) (((OpenSpec.ofChange Rows.mixedFillsSpec).at F).post enc Try.prog Try.f3 false true false false) := by
  obtain ⟨x, hx⟩ := reads os enc
  refine returnsInHanded_of_row (C := Try.checked) (s := OpenSpec.ofChange Rows.mixedFillsSpec) own started (by kernel_rfl) Try.func3
    (witness_row_at (enc := enc) (C := Try.checked) false (world os) #[.int .i64 0, .slice none 0 0, .int .i64 0, .int .i64 0, .int .i64 0] rfl (by kernel_rfl) (by kernel_rfl) (by kernel_rfl)
      (OpenSpec.preRow_of_cond 8 hx (by kernel_rfl) (fun k hk => by cases hk) (by kernel_rfl) (laidMet_of_run' 8 (by kernel_rfl) (by kernel_rfl)))) ?_
  intro W base args ds gs before hval hW _ _ _ hL _ _
  exact contract H enc W base args ds gs before hval hW
theorem proved : Rows.MixedFillsSaid :=
  OpenClaim.holds_of_cond 3 Try.f3 rfl rfl rfl rfl rfl rfl rfl ⟨rfl, rfl, rfl, rfl, rfl⟩ rfl rfl rfl rfl rfl (by kernel_rfl) Try.func3 (by kernel_rfl)
    (of_decide_eq_true (by kernel_rfl)) (by unfold Func.isWrapper; first | (rw [if_pos (by decide +kernel)]; kernel_rfl) | (rw [if_neg (by decide +kernel)]; exact ⟨rfl, rfl⟩))
    (fun os started H enc _ F => by rw [OpenClaim.pre_eq_preRow]; exact lifted os started H enc F)
end Go.Proofs.Ytfdkbceponodmaa.mixedFillsFrame
