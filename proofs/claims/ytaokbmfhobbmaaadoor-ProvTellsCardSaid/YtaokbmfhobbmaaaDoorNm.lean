/- Numbers as decimal texts, and texts in pieces: plain mathematics. -/
import Derived.Test.YtaokbmfhobbmaaaDoorPv
import Derived.Lib.SplitLaws
import Derived.Lib.IndexMore
import Derived.Lib.Join
namespace Go.Proofs.YtaokbmfhobbmaaaDoor
namespace Nu
set_option linter.unusedVariables false
set_option linter.unnecessarySimpa false
set_option linter.unusedSimpArgs false
theorem head_app {α : Type} {l m : List α} (h : l ≠ []) : (l ++ m).head? = l.head? := by cases l with
  | nil => exact absurd rfl h
  | cons a l => rfl
def ch (d : Nat) : UInt8 := UInt8.ofNat (48 + d)
theorem ch_nat {d : Nat} (h : d < 10) : (ch d).toNat = 48 + d := by unfold ch; simp; omega
def dec (n : Nat) : List UInt8 := if h : n < 10 then [ch n] else dec (n / 10) ++ [ch (n % 10)]
termination_by n
theorem dec_lt {n : Nat} (h : n < 10) : dec n = [ch n] := by rw [dec, dif_pos h]
theorem dec_ge {n : Nat} (h : ¬ n < 10) : dec n = dec (n / 10) ++ [ch (n % 10)] := by rw [dec, dif_neg h]
def text (n : Int) : List UInt8 := if n < 0 then [] else dec n.toNat
def isDig (c : UInt8) : Bool := decide (48 ≤ c.toNat) && decide (c.toNat ≤ 57)
def dig (c : UInt8) : Nat := c.toNat - 48
def val (s : List UInt8) : Nat := s.foldl (fun a c => a * 10 + dig c) 0
theorem val_snoc (s : List UInt8) (c : UInt8) : val (s ++ [c]) = val s * 10 + dig c := by simp [val]
def isNum (s : List UInt8) : Bool := s.all isDig && (decide (s.length = 1) || (decide (1 < s.length) && !decide (s.head? = some 48)))
def parse (s : List UInt8) (most : Int) : Int × Int := if isNum s = true then (if most < (val s : Int) then (0, 5) else ((val s : Int), 0)) else (0, 3)
theorem isDig_ch {d : Nat} (h : d < 10) : isDig (ch d) = true := by unfold isDig; rw [ch_nat h]; simp; omega
theorem dig_ch {d : Nat} (h : d < 10) : dig (ch d) = d := by unfold dig; rw [ch_nat h]; omega
theorem ch_dig {c : UInt8} (h : isDig c = true) : ch (dig c) = c ∧ dig c < 10 := by
  unfold isDig at h; simp only [Bool.and_eq_true, decide_eq_true_eq] at h
  refine ⟨?_, by unfold dig; omega⟩
  unfold ch dig
  rw [show 48 + (c.toNat - 48) = c.toNat by omega]; simp
theorem dec_ne (n : Nat) : dec n ≠ [] := by
  by_cases h : n < 10
  · rw [dec_lt h]; simp
  · rw [dec_ge h]; simp
theorem dec_all (n : Nat) : (dec n).all isDig = true := by
  induction n using Nat.strongRecOn with
  | _ n ih =>
    by_cases h : n < 10
    · rw [dec_lt h]; simp [isDig_ch h]
    · rw [dec_ge h, List.all_append, ih (n / 10) (by omega)]; simp [isDig_ch (show n % 10 < 10 by omega)]
theorem val_dec (n : Nat) : val (dec n) = n := by
  induction n using Nat.strongRecOn with
  | _ n ih =>
    by_cases h : n < 10
    · rw [dec_lt h]; simp [val, dig_ch h]
    · rw [dec_ge h, val_snoc, ih (n / 10) (by omega), dig_ch (by omega)]; omega
theorem dec_head (n : Nat) (h0 : n ≠ 0) : (dec n).head? ≠ some 48 := by
  induction n using Nat.strongRecOn with
  | _ n ih =>
    by_cases h : n < 10
    · rw [dec_lt h]
      intro hc
      have h1 := ch_nat h
      simp only [List.head?_cons, Option.some.injEq] at hc
      rw [hc] at h1
      simp at h1; omega
    · rw [dec_ge h, head_app (dec_ne _)]
      exact ih (n / 10) (by omega) (by omega)
theorem isNum_dec (n : Nat) : isNum (dec n) = true := by
  unfold isNum
  rw [dec_all, Bool.true_and]
  by_cases h : n < 10
  · rw [dec_lt h]; simp
  · have h1 := dec_head n (by omega)
    have h2 : 1 < (dec n).length := by
      rw [dec_ge h, List.length_append]
      have := List.length_pos_iff.2 (dec_ne (n / 10))
      simp; omega
    simp [h1, h2]
theorem val_pos {s : List UInt8} (hs : s ≠ []) (ha : s.all isDig = true) (hh : s.head? ≠ some 48) : 0 < val s := by
  have key : ∀ (l : List UInt8) (a : Nat), 0 < a → 0 < l.foldl (fun a c => a * 10 + dig c) a := by
    intro l
    induction l with
    | nil => intro a h; exact h
    | cons c l ih => intro a h; rw [List.foldl_cons]; exact ih _ (by show 0 < a * 10 + dig c; omega)
  cases s with
  | nil => exact absurd rfl hs
  | cons c s =>
    unfold val
    rw [List.foldl_cons]
    refine key s _ ?_
    simp only [List.all_cons, Bool.and_eq_true] at ha
    have h1 : c ≠ 48 := fun e => hh (by rw [e]; rfl)
    have h2 := ha.1
    unfold isDig at h2; simp only [Bool.and_eq_true, decide_eq_true_eq] at h2
    have h3 : c.toNat ≠ 48 := fun e => h1 (by apply UInt8.toNat_inj.1; rw [e]; rfl)
    unfold dig; omega
theorem dec_val : ∀ (n : Nat) (s : List UInt8), s.length = n → isNum s = true → dec (val s) = s := by
  intro n
  induction n with
  | zero => intro s hl h; obtain rfl := List.length_eq_zero_iff.1 hl; simp [isNum] at h
  | succ n ih =>
    intro s hl h
    rcases List.eq_nil_or_concat s with rfl | ⟨t, c, rfl⟩
    · simp at hl
    rw [List.concat_eq_append] at *
    unfold isNum at h
    simp only [List.all_append, List.all_cons, List.all_nil, Bool.and_true, Bool.and_eq_true] at h
    obtain ⟨⟨h1, h2⟩, h3⟩ := h
    obtain ⟨h4, h5⟩ := ch_dig h2
    rw [val_snoc]
    by_cases ht : t = []
    · subst ht
      rw [show val [] = 0 from rfl, Nat.zero_mul, Nat.zero_add, dec_lt h5, h4]; rfl
    · have hh : t.head? ≠ some 48 := by
        have : 1 < (t ++ [c]).length := by have := List.length_pos_iff.2 ht; simp; omega
        have h6 : ¬ (t ++ [c]).length = 1 := by omega
        simp only [h6, this, decide_false, decide_true, Bool.false_or, Bool.true_and, Bool.not_eq_true', decide_eq_false_iff_not] at h3
        rwa [head_app ht] at h3
      have hv := val_pos ht h1 hh
      have hn : isNum t = true := by
        unfold isNum; rw [h1, Bool.true_and]
        have := List.length_pos_iff.2 ht
        by_cases h7 : t.length = 1
        · simp [h7]
        · have : 1 < t.length := by omega
          simp [this, hh]
      rw [dec_ge (by omega), show (val t * 10 + dig c) / 10 = val t by omega, show (val t * 10 + dig c) % 10 = dig c by omega, ih t (by simpa using hl) hn, h4]
theorem text_val {s : List UInt8} (h : isNum s = true) : text (val s : Int) = s := by
  unfold text; rw [if_neg (by omega)]; exact dec_val _ s rfl h
theorem parse_text {n : Int} (h : 0 ≤ n) (most : Int) : parse (text n) most = if most < n then (0, 5) else (n, 0) := by
  have e : text n = dec n.toNat := by unfold text; rw [if_neg (by omega)]
  rw [e]; unfold parse
  rw [if_pos (isNum_dec _), val_dec, Int.toNat_of_nonneg h]
theorem text_neg {n : Int} (h : n < 0) : text n = [] := by unfold text; rw [if_pos h]
theorem parse_nil (most : Int) : parse [] most = (0, 3) := rfl
theorem dec_len : ∀ (k n : Nat), n < 10 ^ (k + 1) → (dec n).length ≤ k + 1 := by
  intro k
  induction k with
  | zero => intro n h; rw [dec_lt (by simpa using h)]; simp
  | succ k ih =>
    intro n h
    by_cases hn : n < 10
    · rw [dec_lt hn]; simp
    · rw [dec_ge hn, List.length_append]
      have := ih (n / 10) (by rw [Nat.pow_succ] at h; omega)
      simp; omega
theorem text_len {n : Int} (h : n ≤ 9223372036854775807) : (text n).length ≤ 19 := by
  unfold text; split
  · simp
  · exact dec_len 18 _ (by omega)
theorem val_take_le (s : List UInt8) (k : Nat) : val (s.take k) ≤ val s := by
  have key : ∀ (l : List UInt8) (a : Nat), a ≤ l.foldl (fun a c => a * 10 + dig c) a := by
    intro l
    induction l with
    | nil => intro a; exact Nat.le_refl _
    | cons c l ih => intro a; rw [List.foldl_cons]; exact Nat.le_trans (by show a ≤ a * 10 + dig c; omega) (ih _)
  conv => rhs; rw [← List.take_append_drop k s]
  unfold val
  rw [List.foldl_append]
  exact key _ _
theorem text_no {n : Int} {c : UInt8} (hc : isDig c = false) : c ∉ text n := by
  unfold text; split
  · simp
  · intro h
    have := List.all_eq_true.1 (dec_all n.toNat) c h
    rw [hc] at this; cases this
theorem isNum_no {s : List UInt8} {c : UInt8} (hc : isDig c = false) (h : isNum s = true) : c ∉ s := by
  rw [← text_val h]; exact text_no hc
/-! ### Where a byte is met first. -/
theorem index_one (c : UInt8) : ∀ s : List UInt8, Lib.index s [c] = match s.findIdx? (fun x => decide (x = c)) with | some k => (k : Int) | none => -1
  | [] => by simp [Lib.index]
  | b :: l => by
    unfold Lib.index
    rw [index_one c l, List.findIdx?_cons]
    by_cases h : b = c
    · subst h; simp
    · have : ([c] : List UInt8).isPrefixOf (b :: l) = false := by simp [List.isPrefixOf]; exact fun e => h e.symm
      rw [this]
      simp only [Bool.false_eq_true, if_false, h, decide_false]
      cases hq : l.findIdx? (fun x => decide (x = c)) with
      | none => simp
      | some k =>
        have : ((k : Int) == -1) = false := by rw [beq_eq_false_iff_ne]; omega
        simp [this]
theorem cut_one (c : UInt8) (s : List UInt8) : Lib.cut s [c] = match s.findIdx? (fun x => decide (x = c)) with | some k => (s.take k, s.drop (k + 1), true) | none => (s, [], false) := by
  unfold Lib.cut
  rw [index_one]
  cases s.findIdx? (fun x => decide (x = c)) with
  | none => simp
  | some k => simp
/-! ### Texts in pieces. -/
def hd (b : UInt8) : List (List UInt8) → List (List UInt8)
  | p :: ps => (b :: p) :: ps
  | [] => [[b]]
def pieces (c : UInt8) : List UInt8 → List (List UInt8)
  | [] => [[]]
  | b :: l => if b = c then [] :: pieces c l else hd b (pieces c l)
theorem pieces_cons (c b : UInt8) (l : List UInt8) : pieces c (b :: l) = if b = c then [] :: pieces c l else hd b (pieces c l) := rfl
theorem pieces_ne (c : UInt8) : ∀ s, pieces c s ≠ []
  | [] => by simp [pieces]
  | b :: l => by
    rw [pieces_cons]; split
    · simp
    · cases pieces c l <;> simp [hd]
theorem pieces_hit (c : UInt8) : ∀ (s : List UInt8) (k : Nat), s.findIdx? (fun x => decide (x = c)) = some k → pieces c s = s.take k :: pieces c (s.drop (k + 1))
  | [], k, h => by simp at h
  | b :: l, k, h => by
    rw [List.findIdx?_cons] at h
    rw [pieces_cons]
    by_cases hb : b = c
    · subst hb; simp at h; subst h; simp
    · simp only [hb, decide_false, Bool.false_eq_true, if_false] at h ⊢
      cases hq : l.findIdx? (fun x => decide (x = c)) with
      | none => rw [hq] at h; simp at h
      | some j =>
        rw [hq] at h; simp at h; subst h
        rw [pieces_hit c l j hq]; simp [hd]
theorem pieces_miss (c : UInt8) : ∀ (s : List UInt8), s.findIdx? (fun x => decide (x = c)) = none → pieces c s = [s]
  | [], h => rfl
  | b :: l, h => by
    rw [List.findIdx?_cons] at h
    rw [pieces_cons]
    by_cases hb : b = c
    · subst hb; simp at h
    · simp only [hb, decide_false, Bool.false_eq_true, if_false] at h ⊢
      cases hq : l.findIdx? (fun x => decide (x = c)) with
      | none => rw [pieces_miss c l hq]; rfl
      | some j => rw [hq] at h; simp at h
theorem splitK_pieces (c : UInt8) : ∀ (k : Nat) (s : List UInt8), s.count c = k → Lib.splitK [c] 0 k s = pieces c s := by
  intro k
  induction k with
  | zero =>
    intro s h
    have : s.findIdx? (fun x => decide (x = c)) = none := by
      rw [List.findIdx?_eq_none_iff]
      intro x hx
      rw [List.count_eq_zero] at h
      simp only [decide_eq_false_iff_not]
      rintro rfl; exact h hx
    rw [pieces_miss c s this]; rfl
  | succ k ih =>
    intro s h
    unfold Lib.splitK
    rw [index_one]
    cases hq : s.findIdx? (fun x => decide (x = c)) with
    | none =>
      rw [List.findIdx?_eq_none_iff] at hq
      have : c ∈ s := by rw [← List.count_pos_iff]; omega
      have := hq c this
      simp at this
    | some j =>
      have : ((j : Int) == -1) = false := by rw [beq_eq_false_iff_ne]; omega
      simp only [this, Bool.false_eq_true, if_false, Int.toNat_natCast, Nat.add_zero, List.length_cons, List.length_nil, Nat.zero_add]
      rw [pieces_hit c s j hq]
      have e : (s.drop (j + 1)).count c = k := by
        obtain ⟨hj, h1, h2⟩ := List.findIdx?_eq_some_iff_getElem.1 hq
        have e1 : s = s.take j ++ s[j] :: s.drop (j + 1) := by rw [List.getElem_cons_drop, List.take_append_drop]
        have e2 : (s.take j).count c = 0 := by
          rw [List.count_eq_zero]
          intro hm
          obtain ⟨i, hi, e⟩ := List.getElem_of_mem hm
          have hij : i < j := by rw [List.length_take] at hi; omega
          have := h2 i hij
          rw [List.getElem_take] at e
          simp [e] at this
        have e3 : s[j] = c := by simpa using h1
        have e4 := congrArg (List.count c) e1
        rw [List.count_append, e2, e3, List.count_cons_self] at e4
        omega
      rw [ih _ e]
theorem pieces_app (c : UInt8) : ∀ (p s : List UInt8), c ∉ p → pieces c (p ++ c :: s) = p :: pieces c s
  | [], s, h => by simp [pieces]
  | b :: p, s, h => by
    have hb : b ≠ c := fun e => h (by simp [e])
    rw [List.cons_append, pieces_cons, if_neg hb, pieces_app c p s (fun e => h (by simp [e]))]; rfl
theorem pieces_all (c : UInt8) (p : List UInt8) (h : c ∉ p) : pieces c p = [p] := by
  refine pieces_miss c p ?_
  rw [List.findIdx?_eq_none_iff]
  intro x hx
  simp only [decide_eq_false_iff_not]
  rintro rfl; exact h hx
/-- Pieces, put together with the byte between. -/
def glue (c : UInt8) : List (List UInt8) → List UInt8
  | [] => []
  | p :: ps => p ++ ps.flatMap (c :: ·)
theorem glue_snoc (c : UInt8) (l : List (List UInt8)) (x : List UInt8) : glue c (l ++ [x]) = if l = [] then x else glue c l ++ c :: x := by
  cases l with
  | nil => simp [glue]
  | cons p ps => simp [glue]
theorem glue_cons2 (c : UInt8) (p q : List UInt8) (ps : List (List UInt8)) : glue c (p :: q :: ps) = p ++ c :: glue c (q :: ps) := by simp [glue]
theorem pieces_glue (c : UInt8) : ∀ (l : List (List UInt8)), l ≠ [] → (∀ p ∈ l, c ∉ p) → pieces c (glue c l) = l
  | [], h, _ => absurd rfl h
  | [p], _, h => by simp only [glue, List.flatMap_nil, List.append_nil]; exact pieces_all c p (h p (by simp))
  | p :: q :: ps, _, h => by
    rw [glue_cons2, pieces_app c p _ (h p (by simp)), pieces_glue c (q :: ps) (by simp) (fun x hx => h x (by simp at hx ⊢; exact .inr hx))]
theorem glue_pieces (c : UInt8) : ∀ (s : List UInt8), glue c (pieces c s) = s
  | [] => rfl
  | b :: l => by
    have ih := glue_pieces c l
    rw [pieces_cons]
    by_cases hb : b = c
    · subst hb
      rw [if_pos rfl]
      cases hq : pieces b l with
      | nil => exact absurd hq (pieces_ne b l)
      | cons p ps => rw [glue_cons2, ← hq, ih]; rfl
    · rw [if_neg hb]
      cases hq : pieces c l with
      | nil => exact absurd hq (pieces_ne c l)
      | cons p ps =>
        rw [hq] at ih
        simp only [glue, hd] at ih ⊢
        rw [List.cons_append, ih]
theorem join_glue (c : UInt8) : ∀ (l : List (List UInt8)), Lib.join l [c] = glue c l
  | [] => by simp [Lib.join, glue]
  | [p] => by simp [Lib.join, glue, List.intercalate]
  | p :: q :: ps => by
    have ih := join_glue c (q :: ps)
    rw [glue_cons2, ← ih]
    simp [Lib.join, List.intercalate]
def lst (l : List Int) : List UInt8 := glue 44 (l.map text)
end Nu
end Go.Proofs.YtaokbmfhobbmaaaDoor
