/- What layer 1's functions read: bounds and lists, in plain words. -/
import Derived.Test.YtaokbmfhobbmaaaDoorNu
namespace Go.Proofs.YtaokbmfhobbmaaaDoor
open Go.RowKit Nu
set_option linter.unusedVariables false
set_option linter.unnecessarySimpa false
set_option linter.unusedSimpArgs false
/-- A bound out of two texts. -/
def two (a b : List UInt8) (most : Int) : Int × Int × Int :=
  if (parse a most).2 ≠ 0 then (0, 0, (parse a most).2) else if (parse b most).2 ≠ 0 then (0, 0, (parse b most).2) else ((parse a most).1, (parse b most).1, 0)
def readPair (s : List UInt8) (most : Int) : Int × Int × Int := match s.findIdx? (fun x => decide (x = 58)) with | some k => two (s.take k) (s.drop (k + 1)) most | none => (0, 0, 3)
theorem take_len {α : Type} {s : List α} {k n : Nat} (h : s.length ≤ n) : (s.take k).length ≤ n := by rw [List.length_take]; omega
theorem drop_len {α : Type} {s : List α} {k n : Nat} (h : s.length ≤ n) : (s.drop k).length ≤ n := by rw [List.length_drop]; omega
/-- Numbers out of pieces: up to the first that is none. -/
def plist (most : Int) : List (List UInt8) → List Int → List Int × Int
  | [], acc => (acc, 0)
  | p :: ps, acc => if (parse p most).2 ≠ 0 then ([], (parse p most).2) else plist most ps (acc ++ [(parse p most).1])
def readList (s : List UInt8) (most : Int) : List Int × Int := if s = [] then ([], 0) else plist most (pieces 44 s) []
theorem pieces_len (c : UInt8) : ∀ s, (pieces c s).length ≤ s.length + 1
  | [] => by simp [pieces]
  | b :: l => by
    have := pieces_len c l
    rw [pieces_cons]; split
    · simp; omega
    · cases hq : pieces c l with
      | nil => simp [hd]
      | cons p ps => rw [hq] at this; simp [hd] at this ⊢; omega
theorem pieces_each (c : UInt8) (n : Nat) : ∀ s, s.length ≤ n → ∀ p ∈ pieces c s, p.length ≤ n := by
  intro s hs p hp
  have key : ∀ s : List UInt8, ∀ p ∈ pieces c s, p.length ≤ s.length := by
    intro s
    induction s with
    | nil => intro p hp; simp [pieces] at hp; subst hp; simp
    | cons b l ih =>
      intro p hp
      rw [pieces_cons] at hp
      split at hp
      · rcases List.mem_cons.1 hp with rfl | hp
        · simp
        · have := ih p hp; simp; omega
      · cases hq : pieces c l with
        | nil => exact absurd hq (pieces_ne c l)
        | cons q qs =>
          rw [hq] at hp ih
          rcases List.mem_cons.1 hp with rfl | hp
          · have := ih q (by simp); simp; omega
          · have := ih p (by simp [hp]); simp; omega
  have := key s p hp
  omega
/-! ### There and back. -/
theorem parse_ok {s : List UInt8} {most : Int} (h : (parse s most).2 = 0) : isNum s = true ∧ text (parse s most).1 = s ∧ 0 ≤ (parse s most).1 ∧ (parse s most).1 ≤ most := by
  unfold parse at h ⊢
  cases hs : isNum s with
  | false => rw [hs] at h; simp at h
  | true =>
    rw [hs] at h
    simp only [if_true] at h ⊢
    split at h
    · simp at h
    · rename_i h1
      rw [if_neg h1]
      exact ⟨trivial, text_val hs, by show (0 : Int) ≤ ((val s : Nat) : Int); omega, by show ((val s : Nat) : Int) ≤ most; omega⟩
theorem d58 : isDig 58 = false := rfl
theorem d44 : isDig 44 = false := rfl
theorem idx_app {c : UInt8} {a b : List UInt8} (h : c ∉ a) : (a ++ c :: b).findIdx? (fun x => decide (x = c)) = some a.length := by
  rw [List.findIdx?_eq_some_iff_getElem]
  refine ⟨by simp, by simp, fun j hj => ?_⟩
  rw [List.getElem_append_left hj]
  simp only [Bool.not_eq_true, decide_eq_false_iff_not]
  intro e; exact h (e ▸ List.getElem_mem hj)
theorem readPair_pair {b : Int × Int} {most : Int} (h1 : 0 ≤ b.1) (h2 : 0 ≤ b.2) (m1 : b.1 ≤ most) (m2 : b.2 ≤ most) : readPair (pair b) most = (b.1, b.2, 0) := by
  unfold readPair pair
  rw [if_neg (by omega), idx_app (text_no d58)]
  simp only [List.take_left, List.drop_append, Nat.add_sub_cancel_left]
  have e : (text b.1).drop ((text b.1).length + 1) = [] := List.drop_eq_nil_of_le (by omega)
  rw [e]
  have p1 := parse_text h1 most; have p2 := parse_text h2 most
  rw [if_neg (by omega)] at p1 p2
  unfold two
  simp [p1, p2]
theorem readPair_ok {s : List UInt8} {most : Int} (h : (readPair s most).2.2 = 0) : pair ((readPair s most).1, (readPair s most).2.1) = s ∧ 0 ≤ (readPair s most).1 ∧ (readPair s most).1 ≤ most ∧ 0 ≤ (readPair s most).2.1 ∧ (readPair s most).2.1 ≤ most := by
  unfold readPair at h ⊢
  cases hq : s.findIdx? (fun x => decide (x = 58)) with
  | none => rw [hq] at h; simp at h
  | some k =>
    rw [hq] at h
    obtain ⟨hk, hc, _⟩ := List.findIdx?_eq_some_iff_getElem.1 hq
    have hc' : s[k] = 58 := by simpa using hc
    unfold two at h
    simp only at h ⊢
    by_cases h1 : (parse (s.take k) most).2 = 0
    · by_cases h2 : (parse (s.drop (k + 1)) most).2 = 0
      · obtain ⟨_, a1, a2, a3⟩ := parse_ok h1
        obtain ⟨_, b1, b2, b3⟩ := parse_ok h2
        have e : two (s.take k) (s.drop (k + 1)) most = ((parse (s.take k) most).1, (parse (s.drop (k + 1)) most).1, 0) := by unfold two; simp [h1, h2]
        rw [e]
        refine ⟨?_, a2, a3, b2, b3⟩
        unfold pair
        rw [if_neg (by simp only; omega)]
        simp only [a1, b1]
        rw [← hc', List.getElem_cons_drop, List.take_append_drop]
      · simp [h1, h2] at h
    · simp [h1] at h
theorem plist_app (most : Int) : ∀ (ps : List (List UInt8)) (acc : List Int), (plist most ps acc).2 = 0 → ∃ l, (plist most ps acc).1 = acc ++ l ∧ l.map text = ps ∧ (∀ x ∈ l, 0 ≤ x ∧ x ≤ most) ∧ l.length = ps.length
  | [], acc, h => ⟨[], by simp [plist], rfl, by simp, rfl⟩
  | p :: ps, acc, h => by
    unfold plist at h ⊢
    by_cases h1 : (parse p most).2 = 0
    · simp only [h1, ne_eq, not_true_eq_false, if_false] at h ⊢
      obtain ⟨l, e1, e2, e3, e4⟩ := plist_app most ps _ h
      obtain ⟨_, a1, a2, a3⟩ := parse_ok h1
      refine ⟨(parse p most).1 :: l, by rw [e1]; simp, by simp [a1, e2], fun x hx => ?_, by simp [e4]⟩
      rcases List.mem_cons.1 hx with rfl | hx
      · exact ⟨a2, a3⟩
      · exact e3 x hx
    · simp [h1] at h
theorem plist_text (most : Int) : ∀ (l acc : List Int), (∀ x ∈ l, 0 ≤ x ∧ x ≤ most) → plist most (l.map text) acc = (acc ++ l, 0)
  | [], acc, _ => by simp [plist]
  | x :: l, acc, h => by
    have hx := h x (by simp)
    have p1 := parse_text hx.1 most
    rw [if_neg (by omega)] at p1
    rw [List.map_cons]
    unfold plist
    rw [p1]
    simp only [ne_eq, not_true_eq_false, if_false]
    rw [plist_text most l _ (fun y hy => h y (by simp [hy]))]
    simp
theorem readList_lst {l : List Int} {most : Int} (h : ∀ x ∈ l, 0 ≤ x ∧ x ≤ most) : readList (lst l) most = (l, 0) := by
  unfold readList
  by_cases hl : l = []
  · subst hl; rfl
  · have hne : l.map text ≠ [] := by simpa using hl
    have hp : pieces 44 (lst l) = l.map text := pieces_glue 44 _ hne (fun p hp => by obtain ⟨x, _, rfl⟩ := List.mem_map.1 hp; exact text_no d44)
    have hnn : lst l ≠ [] := by
      intro e
      rw [e] at hp
      cases l with
      | nil => exact hl rfl
      | cons x l =>
        simp only [pieces, List.map_cons, List.cons.injEq] at hp
        have : text x = [] := hp.1.symm
        have h0 := (h x (by simp)).1
        unfold text at this
        rw [if_neg (by omega)] at this
        exact dec_ne _ this
    rw [if_neg hnn, hp, plist_text most l [] h]; simp
theorem readList_ok {s : List UInt8} {most : Int} (h : (readList s most).2 = 0) : lst (readList s most).1 = s ∧ (∀ x ∈ (readList s most).1, 0 ≤ x ∧ x ≤ most) ∧ (readList s most).1.length ≤ s.length + 1 := by
  unfold readList at h ⊢
  by_cases h0 : s = []
  · subst h0; simp [lst, glue]
  · rw [if_neg h0] at h ⊢
    obtain ⟨l, e1, e2, e3, e4⟩ := plist_app most _ [] h
    rw [e1, List.nil_append]
    refine ⟨?_, e3, by have := pieces_len 44 s; omega⟩
    unfold lst
    rw [e2, glue_pieces]
theorem readList_len {s : List UInt8} {most : Int} : (readList s most).1.length ≤ s.length + 1 := by
  by_cases h : (readList s most).2 = 0
  · exact (readList_ok h).2.2
  · have : (readList s most).1 = [] := by
      unfold readList at h ⊢
      split at h
      · simp at h
      · rename_i h0
        rw [if_neg h0]
        have key : ∀ (ps : List (List UInt8)) (acc : List Int), (plist most ps acc).2 ≠ 0 → (plist most ps acc).1 = [] := by
          intro ps
          induction ps with
          | nil => intro acc h; exact absurd rfl h
          | cons p ps ih =>
            intro acc h
            unfold plist at h ⊢
            by_cases h1 : (parse p most).2 = 0
            · simp only [h1, ne_eq, not_true_eq_false, if_false] at h ⊢; exact ih _ h
            · simp [h1]
        exact key _ _ h
    rw [this]; simp
end Go.Proofs.YtaokbmfhobbmaaaDoor
