/- What layer 1's functions read: bounds and lists, in plain words. -/
import Derived.Test.YthmnkgldkjkheaaDoorNu
namespace Go.Proofs.YthmnkgldkjkheaaDoor
open Go.RowKit Nu
set_option linter.unusedVariables false
set_option linter.unnecessarySimpa false
set_option linter.unusedSimpArgs false
/-- A bound out of two texts. -/
def two (a b : List UInt8) (most : Int) : Int × Int × Int :=
  if (parse a most).2 ≠ 0 then (0, 0, (parse a most).2) else if (parse b most).2 ≠ 0 then (0, 0, (parse b most).2) else ((parse a most).1, (parse b most).1, 0)
def readPair (s : List UInt8) (most : Int) : Int × Int × Int := match s.findIdx? (fun x => decide (x = 58)) with | some k => two (s.take k) (s.drop (k + 1)) most | none => (0, 0, 3)
theorem take_len {α : Type} {s : List α} {k n : Nat} (h : s.length ≤ n) : (s.take k).length ≤ n := by rw [List.length_take]; omega
theorem drop_len {α : Type} {s : List α} {k n : Nat} (h : s.length ≤ n) : (s.drop k).length ≤ n := by rw [List.length_drop]; omega
theorem nPair_read (s : List UInt8) (most : Int) (hn : s.length ≤ 1000000) (hm : -9223372036854775808 ≤ most) (hm2 : most ≤ 9223372036854775807) : fn_numeral_ParsePair s most = some (readPair s most) := by
  unfold fn_numeral_ParsePair cutF readPair
  rw [if_pos (by omega), cut_one]
  cases s.findIdx? (fun x => decide (x = 58)) with
  | none => rfl
  | some k =>
    simp only [Option.bind_some, Bool.not_true, cond_false, nParse_eq _ most (take_len (k := k) hn) hm hm2, nParse_eq _ most (drop_len (k := k + 1) hn) hm hm2]
    unfold two
    by_cases h1 : (parse (s.take k) most).2 = 0
    · by_cases h2 : (parse (s.drop (k + 1)) most).2 = 0 <;> simp [h1, h2]
    · simp [h1]
theorem rPair_read (s : List UInt8) (most : Int) (hn : s.length ≤ 1000000) (hm2 : most ≤ 9223372036854775807) : fn_ref01_ParsePair s most = some (readPair s most) := by
  unfold fn_ref01_ParsePair readPair
  have h := loop_search (body := fn_ref01_ParsePair_l1 s most) s (fun x => decide (x = 58)) (fun k => .inr (two (s.take k) (s.drop (k + 1)) most)) (.inl ()) (fun k hk => by
    unfold fn_ref01_ParsePair_l1
    simp only [dlt hk, cond_true, getN hk, Option.bind_some, w64s hk (by omega)]
    by_cases hc : s[k] = 58
    · have e1 : decide ((((s[k].toNat : Nat) : Int)) = 58) = true := by rw [hc]; rfl
      rw [if_pos (by simpa using hc), e1]
      simp only [Bool.not_true, cond_false]
      rw [subL_eq (by omega) (by omega) (by omega), subL_eq (by omega) (by omega) (by omega)]
      simp only [Option.bind_some, Int.toNat_natCast, List.take_length, List.drop_zero, rParse_eq _ most (take_len (k := k) hn) hm2, rParse_eq _ most (drop_len (k := k + 1) hn) hm2]
      unfold two
      simp only [show ((0 : Int).toNat) = 0 from rfl, List.drop_zero, rParse_eq _ most (take_len (k := k) hn) hm2, Option.bind_some]
      by_cases h1 : (parse (s.take k) most).2 = 0
      · by_cases h2 : (parse (s.drop (k + 1)) most).2 = 0 <;> simp [h1, h2]
      · simp [h1]
    · have e1 : decide ((((s[k].toNat : Nat) : Int)) = 58) = false := decide_eq_false (fun e => hc (by apply UInt8.toNat_inj.1; simpa using Int.ofNat.inj e))
      rw [if_neg (by simpa using hc), e1]
      rfl) (by unfold fn_ref01_ParsePair_l1; simp only [dge (show ¬ s.length < s.length by omega), cond_false])
  rw [h]
  cases s.findIdx? (fun x => decide (x = 58)) <;> rfl
/-- Numbers out of pieces: up to the first that is none. -/
def plist (most : Int) : List (List UInt8) → List Int → List Int × Int
  | [], acc => (acc, 0)
  | p :: ps, acc => if (parse p most).2 ≠ 0 then ([], (parse p most).2) else plist most ps (acc ++ [(parse p most).1])
def readList (s : List UInt8) (most : Int) : List Int × Int := if s = [] then ([], 0) else plist most (pieces 44 s) []
theorem pieces_len (c : UInt8) : ∀ s, (pieces c s).length ≤ s.length + 1
  | [] => by simp [pieces]
  | b :: l => by
    have := pieces_len c l
    rw [pieces_cons]; split
    · simp; omega
    · cases hq : pieces c l with
      | nil => simp [hd]
      | cons p ps => rw [hq] at this; simp [hd] at this ⊢; omega
theorem pieces_each (c : UInt8) (n : Nat) : ∀ s, s.length ≤ n → ∀ p ∈ pieces c s, p.length ≤ n := by
  intro s hs p hp
  have key : ∀ s : List UInt8, ∀ p ∈ pieces c s, p.length ≤ s.length := by
    intro s
    induction s with
    | nil => intro p hp; simp [pieces] at hp; subst hp; simp
    | cons b l ih =>
      intro p hp
      rw [pieces_cons] at hp
      split at hp
      · rcases List.mem_cons.1 hp with rfl | hp
        · simp
        · have := ih p hp; simp; omega
      · cases hq : pieces c l with
        | nil => exact absurd hq (pieces_ne c l)
        | cons q qs =>
          rw [hq] at hp ih
          rcases List.mem_cons.1 hp with rfl | hp
          · have := ih q (by simp); simp; omega
          · have := ih p (by simp [hp]); simp; omega
  have := key s p hp
  omega
theorem nList_key (most : Int) (l : List (List UInt8)) (hl : l.length ≤ 1000001) (hs : ∀ p ∈ l, p.length ≤ 1000000) (hm : -9223372036854775808 ≤ most) (hm2 : most ≤ 9223372036854775807) :
    ∀ (m k : Nat) (acc : List Int), k + m = l.length → acc.length = k → loop (fn_numeral_ParseList_l1 most l) (acc, (k : Int)) = some (if (plist most (l.drop k) acc).2 = 0 then .inl (plist most (l.drop k) acc).1 else .inr (plist most (l.drop k) acc)) := by
  intro m
  induction m with
  | zero =>
    intro k acc hk ha
    refine loop_end ?_
    unfold fn_numeral_ParseList_l1
    rw [List.drop_eq_nil_of_le (by omega)]
    simp only [dge (show ¬ k < l.length by omega), cond_false, plist, if_true]
  | succ m ih =>
    intro k acc hk ha
    have hk' : k < l.length := by omega
    have hp := nParse_eq l[k] most (hs _ (List.getElem_mem hk')) hm hm2
    rw [List.drop_eq_getElem_cons hk']
    by_cases h1 : (parse l[k] most).2 = 0
    · have e : plist most (l[k] :: l.drop (k + 1)) acc = plist most (l.drop (k + 1)) (acc ++ [(parse l[k] most).1]) := by simp [plist, h1]
      rw [e, loop_next (s' := (acc ++ [(parse l[k] most).1], ((k + 1 : Nat) : Int))), ih (k + 1) _ (by omega) (by simp [ha])]
      unfold fn_numeral_ParseList_l1
      simp only [dlt hk', cond_true, getN hk', Option.bind_some, hp, w64s hk' (by omega), h1, decide_true, Bool.not_true, cond_false]
      rw [app_eq (by simp; omega)]
      rfl
    · have e : plist most (l[k] :: l.drop (k + 1)) acc = ([], (parse l[k] most).2) := by simp [plist, h1]
      rw [e]
      simp only [h1, if_false]
      refine loop_end ?_
      unfold fn_numeral_ParseList_l1
      simp only [dlt hk', cond_true, getN hk', Option.bind_some, hp, h1, decide_false, Bool.not_false]
theorem nList_read (s : List UInt8) (most : Int) (hn : s.length ≤ 1000000) (hm : -9223372036854775808 ≤ most) (hm2 : most ≤ 9223372036854775807) : fn_numeral_ParseList s most = some (readList s most) := by
  unfold fn_numeral_ParseList readList
  by_cases h0 : s = []
  · subst h0; rfl
  · rw [if_neg h0, decide_eq_false h0, cond_false]
    have e : splF s [44] = some (pieces 44 s) := by
      unfold splF
      rw [if_pos ⟨by omega, by simp⟩, Lib.splitB_data]
      congr 1
      show Lib.splitK [44] 0 (Lib.count s [44]) s = _
      rw [Lib.count_one]
      exact splitK_pieces 44 _ s rfl
    rw [e]
    have := nList_key most (pieces 44 s) (by have := pieces_len 44 s; omega) (pieces_each 44 _ s hn) hm hm2 (pieces 44 s).length 0 [] (by omega) rfl
    rw [show ((0 : Nat) : Int) = 0 from rfl, List.drop_zero] at this
    simp only [Option.bind_some]
    rw [this]
    by_cases h1 : (plist most (pieces 44 s) []).2 = 0
    · simp only [h1, if_true, Option.bind_some]; rw [← h1]
    · simp only [h1, if_false, Option.bind_some]
/-- From one comma to the next. -/
theorem rList_key (s : List UInt8) (most : Int) (hn : s.length ≤ 1000000) (h0 : s ≠ []) (hm2 : most ≤ 9223372036854775807) :
    ∀ (m f : Nat) (acc : List Int), f + m = s.length + 1 → acc.length ≤ f → loop (fn_ref01_ParseList_l1 s most) (acc, (f : Int), (f : Int)) = some (if m = 0 then .inl acc else if (plist most (pieces 44 (s.drop f)) acc).2 = 0 then .inl (plist most (pieces 44 (s.drop f)) acc).1 else .inr (plist most (pieces 44 (s.drop f)) acc)) := by
  have e0 : decide (s = ([] : List UInt8)) = false := decide_eq_false h0
  have hp : 0 < s.length := List.length_pos_iff.2 h0
  -- on to the next comma, or the end
  have walk : ∀ (acc : List Int) (f j : Nat), (∀ i, i < j → ∃ h : f + i < s.length, s[f + i] ≠ 44) → loop (fn_ref01_ParseList_l1 s most) (acc, (f : Int), (f : Int)) = loop (fn_ref01_ParseList_l1 s most) (acc, (f : Int), ((f + j : Nat) : Int)) := by
    intro acc f j
    induction j with
    | zero => intro _; rfl
    | succ j ih =>
      intro h
      rw [ih (fun i hi => h i (by omega))]
      obtain ⟨hj, hne⟩ := h j (by omega)
      refine loop_next ?_
      unfold fn_ref01_ParseList_l1
      have e1 : decide (((f + j : Nat) : Int) ≤ (((s.length : Nat) : Int))) = true := decide_eq_true (by omega)
      have e2 : decide ((((s[f + j].toNat : Nat) : Int)) = 44) = false := decide_eq_false (fun e => hne (by apply UInt8.toNat_inj.1; simpa using Int.ofNat.inj e))
      simp only [e0, e1, Bool.not_false, Bool.and_true, cond_true, dlt hj, getN hj, Option.bind_some, e2, w64s hj (by omega)]
      rfl
  intro m
  induction m using Nat.strongRecOn with
  | _ m ih =>
    intro f acc hf ha
    by_cases hm0 : m = 0
    · subst hm0
      rw [if_pos rfl]
      refine loop_end ?_
      unfold fn_ref01_ParseList_l1
      have e1 : decide (((f : Nat) : Int) ≤ (((s.length : Nat) : Int))) = false := decide_eq_false (by omega)
      simp only [e1, Bool.false_and, cond_false]
    rw [if_neg hm0]
    have hdl : (s.drop f).length = s.length - f := List.length_drop ..
    cases hq : (s.drop f).findIdx? (fun x => decide (x = 44)) with
    | none =>
      rw [pieces_miss 44 _ hq]
      rw [List.findIdx?_eq_none_iff] at hq
      rw [walk acc f (s.length - f) (fun i hi => ⟨by omega, by
        have := hq (s.drop f)[i] (List.getElem_mem (by omega))
        rw [List.getElem_drop] at this; simpa using this⟩), show f + (s.length - f) = s.length by omega]
      have e1 : decide (((s.length : Nat) : Int) ≤ (((s.length : Nat) : Int))) = true := decide_eq_true (by omega)
      have e3 : decide (((s.length : Nat) : Int) = IntKind.wrap .i64 (((s.length : Nat) : Int) - 1)) = false := by rw [w64 (by omega) (by omega)]; exact decide_eq_false (by omega)
      have hsub : subL s (f : Int) (((s.length : Nat) : Int)) = some (s.drop f) := by rw [subL_eq (by omega) (by omega) (by omega)]; simp
      have hr := rParse_eq (s.drop f) most (drop_len hn) hm2
      by_cases h1 : (parse (s.drop f) most).2 = 0
      · simp only [plist, h1, ne_eq, not_true_eq_false, if_false, if_true]
        rw [loop_next (s' := (acc ++ [(parse (s.drop f) most).1], ((s.length + 1 : Nat) : Int), ((s.length + 1 : Nat) : Int)))]
        · have := ih 0 (by omega) (s.length + 1) (acc ++ [(parse (s.drop f) most).1]) (by omega) (by simp; omega)
          rw [this, if_pos rfl]
        · unfold fn_ref01_ParseList_l1
          simp only [e0, e1, Bool.not_false, Bool.and_true, cond_true, dge (show ¬ s.length < s.length by omega), cond_false, Option.bind_some, hsub, hr, h1, decide_true, Bool.not_true, e3]
          rw [app_eq (by simp; omega), w64 (by omega) (by omega)]
          rfl
      · simp only [plist, h1, ne_eq, not_false_eq_true, if_true, if_false]
        refine loop_end ?_
        unfold fn_ref01_ParseList_l1
        simp only [e0, e1, Bool.not_false, Bool.and_true, cond_true, dge (show ¬ s.length < s.length by omega), cond_false, Option.bind_some, hsub, hr, h1, decide_false]
    | some j =>
      rw [pieces_hit 44 _ j hq]
      obtain ⟨hj, h44, hmin⟩ := List.findIdx?_eq_some_iff_getElem.1 hq
      rw [walk acc f j (fun i hi => ⟨by omega, by
        have := hmin i hi
        rw [List.getElem_drop] at this; simpa using this⟩)]
      have hfj : f + j < s.length := by omega
      have hc : s[f + j] = 44 := by rw [List.getElem_drop] at h44; simpa using h44
      have e1 : decide (((f + j : Nat) : Int) ≤ (((s.length : Nat) : Int))) = true := decide_eq_true (by omega)
      have e2 : decide ((((s[f + j].toNat : Nat) : Int)) = 44) = true := by rw [hc]; rfl
      have hsub : subL s (f : Int) ((f + j : Nat) : Int) = some ((s.drop f).take j) := by
        rw [subL_eq (by omega) (by omega) (by omega)]
        simp only [Int.toNat_natCast]
        rw [List.drop_take, Nat.add_sub_cancel_left]
      have hr := rParse_eq ((s.drop f).take j) most (take_len (drop_len hn)) hm2
      rw [List.drop_drop]
      by_cases h1 : (parse ((s.drop f).take j) most).2 = 0
      · have e4 : plist most ((s.drop f).take j :: pieces 44 (s.drop (f + (j + 1)))) acc = plist most (pieces 44 (s.drop (f + (j + 1)))) (acc ++ [(parse ((s.drop f).take j) most).1]) := by simp [plist, h1]
        rw [e4]
        by_cases hlast : f + j = s.length - 1
        · have e3 : decide (((f + j : Nat) : Int) = IntKind.wrap .i64 (((s.length : Nat) : Int) - 1)) = true := by rw [w64 (by omega) (by omega)]; exact decide_eq_true (by omega)
          rw [List.drop_eq_nil_of_le (by omega)]
          have e5 : plist most (pieces 44 []) (acc ++ [(parse ((s.drop f).take j) most).1]) = ([], 3) := rfl
          rw [e5]
          refine loop_end ?_
          unfold fn_ref01_ParseList_l1
          simp only [e0, e1, Bool.not_false, Bool.and_true, cond_true, dlt hfj, getN hfj, e2, Bool.not_true, Option.bind_some, cond_false, hsub, hr, h1, decide_true, e3]
          rfl
        · have e3 : decide (((f + j : Nat) : Int) = IntKind.wrap .i64 (((s.length : Nat) : Int) - 1)) = false := by rw [w64 (by omega) (by omega)]; exact decide_eq_false (by omega)
          rw [loop_next (s' := (acc ++ [(parse ((s.drop f).take j) most).1], ((f + (j + 1) : Nat) : Int), ((f + (j + 1) : Nat) : Int)))]
          · have := ih (m - (j + 1)) (by omega) (f + (j + 1)) (acc ++ [(parse ((s.drop f).take j) most).1]) (by omega) (by simp; omega)
            rw [this, if_neg (by omega)]
          · unfold fn_ref01_ParseList_l1
            simp only [e0, e1, Bool.not_false, Bool.and_true, cond_true, dlt hfj, getN hfj, e2, Bool.not_true, Option.bind_some, cond_false, hsub, hr, h1, decide_true, e3]
            rw [app_eq (by simp; omega), w64 (by omega) (by omega)]
            have : ((f + j : Nat) : Int) + 1 = ((f + (j + 1) : Nat) : Int) := by omega
            rw [this]; rfl
      · have e4 : plist most ((s.drop f).take j :: pieces 44 (s.drop (f + (j + 1)))) acc = ([], (parse ((s.drop f).take j) most).2) := by simp [plist, h1]
        rw [e4]
        simp only [h1, if_false]
        refine loop_end ?_
        unfold fn_ref01_ParseList_l1
        simp only [e0, e1, Bool.not_false, Bool.and_true, cond_true, dlt hfj, getN hfj, e2, Bool.not_true, Option.bind_some, cond_false, hsub, hr, h1, decide_false]
theorem rList_read (s : List UInt8) (most : Int) (hn : s.length ≤ 1000000) (hm2 : most ≤ 9223372036854775807) : fn_ref01_ParseList s most = some (readList s most) := by
  unfold fn_ref01_ParseList readList
  by_cases h0 : s = []
  · subst h0
    rw [if_pos rfl, loop_end (b := .inl ([] : List Int)) (by rfl)]; rfl
  · rw [if_neg h0]
    have := rList_key s most hn h0 hm2 (s.length + 1) 0 [] (by omega) (by simp)
    rw [show ((0 : Nat) : Int) = 0 from rfl, List.drop_zero, if_neg (by omega)] at this
    rw [this]
    by_cases h1 : (plist most (pieces 44 s) []).2 = 0
    · simp only [h1, if_true, Option.bind_some]; rw [← h1]
    · simp only [h1, if_false, Option.bind_some]
/-! ### There and back. -/
theorem parse_ok {s : List UInt8} {most : Int} (h : (parse s most).2 = 0) : isNum s = true ∧ text (parse s most).1 = s ∧ 0 ≤ (parse s most).1 ∧ (parse s most).1 ≤ most := by
  unfold parse at h ⊢
  cases hs : isNum s with
  | false => rw [hs] at h; simp at h
  | true =>
    rw [hs] at h
    simp only [if_true] at h ⊢
    split at h
    · simp at h
    · rename_i h1
      rw [if_neg h1]
      exact ⟨trivial, text_val hs, by show (0 : Int) ≤ ((val s : Nat) : Int); omega, by show ((val s : Nat) : Int) ≤ most; omega⟩
theorem d58 : isDig 58 = false := rfl
theorem d44 : isDig 44 = false := rfl
theorem idx_app {c : UInt8} {a b : List UInt8} (h : c ∉ a) : (a ++ c :: b).findIdx? (fun x => decide (x = c)) = some a.length := by
  rw [List.findIdx?_eq_some_iff_getElem]
  refine ⟨by simp, by simp, fun j hj => ?_⟩
  rw [List.getElem_append_left hj]
  simp only [Bool.not_eq_true, decide_eq_false_iff_not]
  intro e; exact h (e ▸ List.getElem_mem hj)
theorem readPair_pair {b : Int × Int} {most : Int} (h1 : 0 ≤ b.1) (h2 : 0 ≤ b.2) (m1 : b.1 ≤ most) (m2 : b.2 ≤ most) : readPair (pair b) most = (b.1, b.2, 0) := by
  unfold readPair pair
  rw [if_neg (by omega), idx_app (text_no d58)]
  simp only [List.take_left, List.drop_append, Nat.add_sub_cancel_left]
  have e : (text b.1).drop ((text b.1).length + 1) = [] := List.drop_eq_nil_of_le (by omega)
  rw [e]
  have p1 := parse_text h1 most; have p2 := parse_text h2 most
  rw [if_neg (by omega)] at p1 p2
  unfold two
  simp [p1, p2]
theorem readPair_ok {s : List UInt8} {most : Int} (h : (readPair s most).2.2 = 0) : pair ((readPair s most).1, (readPair s most).2.1) = s ∧ 0 ≤ (readPair s most).1 ∧ (readPair s most).1 ≤ most ∧ 0 ≤ (readPair s most).2.1 ∧ (readPair s most).2.1 ≤ most := by
  unfold readPair at h ⊢
  cases hq : s.findIdx? (fun x => decide (x = 58)) with
  | none => rw [hq] at h; simp at h
  | some k =>
    rw [hq] at h
    obtain ⟨hk, hc, _⟩ := List.findIdx?_eq_some_iff_getElem.1 hq
    have hc' : s[k] = 58 := by simpa using hc
    unfold two at h
    simp only at h ⊢
    by_cases h1 : (parse (s.take k) most).2 = 0
    · by_cases h2 : (parse (s.drop (k + 1)) most).2 = 0
      · obtain ⟨_, a1, a2, a3⟩ := parse_ok h1
        obtain ⟨_, b1, b2, b3⟩ := parse_ok h2
        have e : two (s.take k) (s.drop (k + 1)) most = ((parse (s.take k) most).1, (parse (s.drop (k + 1)) most).1, 0) := by unfold two; simp [h1, h2]
        rw [e]
        refine ⟨?_, a2, a3, b2, b3⟩
        unfold pair
        rw [if_neg (by simp only; omega)]
        simp only [a1, b1]
        rw [← hc', List.getElem_cons_drop, List.take_append_drop]
      · simp [h1, h2] at h
    · simp [h1] at h
theorem plist_app (most : Int) : ∀ (ps : List (List UInt8)) (acc : List Int), (plist most ps acc).2 = 0 → ∃ l, (plist most ps acc).1 = acc ++ l ∧ l.map text = ps ∧ (∀ x ∈ l, 0 ≤ x ∧ x ≤ most) ∧ l.length = ps.length
  | [], acc, h => ⟨[], by simp [plist], rfl, by simp, rfl⟩
  | p :: ps, acc, h => by
    unfold plist at h ⊢
    by_cases h1 : (parse p most).2 = 0
    · simp only [h1, ne_eq, not_true_eq_false, if_false] at h ⊢
      obtain ⟨l, e1, e2, e3, e4⟩ := plist_app most ps _ h
      obtain ⟨_, a1, a2, a3⟩ := parse_ok h1
      refine ⟨(parse p most).1 :: l, by rw [e1]; simp, by simp [a1, e2], fun x hx => ?_, by simp [e4]⟩
      rcases List.mem_cons.1 hx with rfl | hx
      · exact ⟨a2, a3⟩
      · exact e3 x hx
    · simp [h1] at h
theorem plist_text (most : Int) : ∀ (l acc : List Int), (∀ x ∈ l, 0 ≤ x ∧ x ≤ most) → plist most (l.map text) acc = (acc ++ l, 0)
  | [], acc, _ => by simp [plist]
  | x :: l, acc, h => by
    have hx := h x (by simp)
    have p1 := parse_text hx.1 most
    rw [if_neg (by omega)] at p1
    rw [List.map_cons]
    unfold plist
    rw [p1]
    simp only [ne_eq, not_true_eq_false, if_false]
    rw [plist_text most l _ (fun y hy => h y (by simp [hy]))]
    simp
theorem readList_lst {l : List Int} {most : Int} (h : ∀ x ∈ l, 0 ≤ x ∧ x ≤ most) : readList (lst l) most = (l, 0) := by
  unfold readList
  by_cases hl : l = []
  · subst hl; rfl
  · have hne : l.map text ≠ [] := by simpa using hl
    have hp : pieces 44 (lst l) = l.map text := pieces_glue 44 _ hne (fun p hp => by obtain ⟨x, _, rfl⟩ := List.mem_map.1 hp; exact text_no d44)
    have hnn : lst l ≠ [] := by
      intro e
      rw [e] at hp
      cases l with
      | nil => exact hl rfl
      | cons x l =>
        simp only [pieces, List.map_cons, List.cons.injEq] at hp
        have : text x = [] := hp.1.symm
        have h0 := (h x (by simp)).1
        unfold text at this
        rw [if_neg (by omega)] at this
        exact dec_ne _ this
    rw [if_neg hnn, hp, plist_text most l [] h]; simp
theorem readList_ok {s : List UInt8} {most : Int} (h : (readList s most).2 = 0) : lst (readList s most).1 = s ∧ (∀ x ∈ (readList s most).1, 0 ≤ x ∧ x ≤ most) ∧ (readList s most).1.length ≤ s.length + 1 := by
  unfold readList at h ⊢
  by_cases h0 : s = []
  · subst h0; simp [lst, glue]
  · rw [if_neg h0] at h ⊢
    obtain ⟨l, e1, e2, e3, e4⟩ := plist_app most _ [] h
    rw [e1, List.nil_append]
    refine ⟨?_, e3, by have := pieces_len 44 s; omega⟩
    unfold lst
    rw [e2, glue_pieces]
theorem readList_len {s : List UInt8} {most : Int} : (readList s most).1.length ≤ s.length + 1 := by
  by_cases h : (readList s most).2 = 0
  · exact (readList_ok h).2.2
  · have : (readList s most).1 = [] := by
      unfold readList at h ⊢
      split at h
      · simp at h
      · rename_i h0
        rw [if_neg h0]
        have key : ∀ (ps : List (List UInt8)) (acc : List Int), (plist most ps acc).2 ≠ 0 → (plist most ps acc).1 = [] := by
          intro ps
          induction ps with
          | nil => intro acc h; exact absurd rfl h
          | cons p ps ih =>
            intro acc h
            unfold plist at h ⊢
            by_cases h1 : (parse p most).2 = 0
            · simp only [h1, ne_eq, not_true_eq_false, if_false] at h ⊢; exact ih _ h
            · simp [h1]
        exact key _ _ h
    rw [this]; simp
end Go.Proofs.YthmnkgldkjkheaaDoor
