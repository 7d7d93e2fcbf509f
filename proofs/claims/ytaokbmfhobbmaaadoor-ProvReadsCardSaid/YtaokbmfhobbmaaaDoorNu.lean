/- What layer 1's functions compute (numbers as texts), in plain words. -/
import Derived.Test.YtaokbmfhobbmaaaDoorF2
import Derived.Test.YtaokbmfhobbmaaaDoorNm
import Derived.Test.YtaokbmfhobbmaaaDoorQ01
namespace Go.Proofs.YtaokbmfhobbmaaaDoor
open Go.RowKit Nu
set_option linter.unusedVariables false
set_option linter.unnecessarySimpa false
set_option linter.unusedSimpArgs false
theorem byte48 (c : UInt8) (h : isDig c = true) : IntKind.wrap .i64 (IntKind.wrap .u8 (((c.toNat : Nat) : Int) - 48)) = (dig c : Int) ∧ dig c < 10 := by
  unfold isDig at h; simp only [Bool.and_eq_true, decide_eq_true_eq] at h
  have e : IntKind.wrap .u8 (((c.toNat : Nat) : Int) - 48) = (((c.toNat : Nat) : Int) - 48) % 256 := IntKind.wrap_u8' _
  have e2 : (((c.toNat : Nat) : Int) - 48) % 256 = ((c.toNat : Nat) : Int) - 48 := Int.emod_eq_of_lt (by omega) (by omega)
  rw [e, e2, w64 (by omega) (by omega)]
  unfold dig; omega
theorem all_of {s : List UInt8} (h : isNum s = true) : s.all isDig = true := by unfold isNum at h; rw [Bool.and_eq_true] at h; exact h.1
theorem ne_of {s : List UInt8} (h : isNum s = true) : s ≠ [] := by rintro rfl; simp [isNum] at h
theorem val_take {s : List UInt8} {k : Nat} (h : k < s.length) : val (s.take (k + 1)) = val (s.take k) * 10 + dig s[k] := by rw [take_snoc h, val_snoc]
theorem notDig (c : UInt8) : (decide ((((c.toNat : Nat) : Int)) < 48) || decide (57 < (((c.toNat : Nat) : Int)))) = !isDig c := by
  unfold isDig
  rw [Bool.eq_iff_iff]
  simp only [Bool.or_eq_true, decide_eq_true_eq, Bool.not_eq_true', Bool.and_eq_false_iff, decide_eq_false_iff_not]; omega
theorem digLoop {s : List UInt8} {β : Type} {body : Int → Option (Int ⊕ β)} (hit e : β) (hn : s.length ≤ 1000000)
    (hb : ∀ i : Int, body i = cond (decide (i < (((s.length : Nat) : Int)))) ((getI s i).bind fun x => (cond (decide ((((x.toNat : Nat) : Int)) < 48)) (some (true)) ((getI s i).bind fun x => some (decide (57 < (((x.toNat : Nat) : Int)))))).bind fun t => cond (t) (some (.inr hit)) (some (.inl (IntKind.wrap .i64 (i + 1))))) (some (.inr e))) :
    loop body 0 = some (if s.all isDig then e else hit) := by
  have h := loop_some (body := body) s (fun c => !isDig c) hit e (fun k hk => by
    rw [hb, dlt hk, cond_true, getN hk, Option.bind_some, w64s hk (by omega)]
    rw [← notDig]
    by_cases h1 : (((s[k].toNat : Nat) : Int)) < 48
    · simp only [h1, decide_true, cond_true, Option.bind_some, Bool.true_or, if_true]
    · simp only [h1, decide_false, cond_false, Option.bind_some, Bool.false_or]
      by_cases h2 : 57 < (((s[k].toNat : Nat) : Int)) <;> simp [h2]) (by rw [hb, dge (by omega), cond_false])
  rw [h]
  congr 1
  cases ha : s.all isDig with
  | true =>
    have : s.any (fun c => !isDig c) = false := by rw [List.any_eq_false]; intro x hx; simp [List.all_eq_true.1 ha x hx]
    rw [this]; rfl
  | false =>
    have : s.any (fun c => !isDig c) = true := by
      rw [List.all_eq_false] at ha
      obtain ⟨x, hx, h⟩ := ha
      exact List.any_eq_true.2 ⟨x, hx, by simpa using h⟩
    rw [this]; rfl
theorem get0 {s : List UInt8} (h : 0 < s.length) : getI s 0 = some (s[0]'h) := getN (k := 0) h
theorem head48 {s : List UInt8} (h : 0 < s.length) : decide ((((s[0]'h).toNat : Nat) : Int) = 48) = decide (s.head? = some 48) := by
  cases s with
  | nil => simp at h
  | cons b l =>
    simp only [List.getElem_cons_zero, List.head?_cons, Option.some.injEq]
    by_cases hb : b = 48
    · subst hb; rfl
    · have : ¬ ((b.toNat : Nat) : Int) = 48 := fun e => hb (by apply UInt8.toNat_inj.1; simpa using Int.ofNat.inj e)
      simp [hb, this]
theorem isNumber_eq (s : List UInt8) (hn : s.length ≤ 1000000) : fn_numeral_isNumber s = some (isNum s) := by
  unfold fn_numeral_isNumber
  by_cases h0 : s = []
  · subst h0; rfl
  have hp : 0 < s.length := List.length_pos_iff.2 h0
  have hl := digLoop (s := s) (body := fn_numeral_isNumber_l1 s) (.inr false) (.inl ()) hn (fun i => rfl)
  have he : decide (s = ([] : List UInt8)) = false := by simp [h0]
  rw [he, cond_false]
  by_cases h1 : 1 < s.length
  · have e1 : decide (1 < (((s.length : Nat) : Int))) = true := by simp; omega
    rw [e1, cond_true, get0 hp]
    simp only [Option.bind_some, head48 hp]
    unfold isNum
    have e2 : ¬ s.length = 1 := by omega
    by_cases h2 : s.head? = some 48
    · simp [h2, e2]
    · simp only [h2, decide_false, cond_false, hl, e2, h1, decide_true, Bool.false_or, Bool.true_and, Bool.not_false, Bool.and_true]
      cases s.all isDig <;> simp
  · have e1 : decide (1 < (((s.length : Nat) : Int))) = false := by simp; omega
    rw [e1, cond_false]
    simp only [Option.bind_some, cond_false, hl]
    unfold isNum
    have e2 : s.length = 1 := by omega
    simp only [e2, decide_true, Bool.true_or, Bool.and_true]
    cases s.all isDig <;> simp
theorem form_eq (s : List UInt8) (hn : s.length ≤ 1000000) : fn_ref01_Form s = some (isNum s) := by
  unfold fn_ref01_Form
  have hl := digLoop (s := s) (body := fn_ref01_Form_l1 s) (.inr false) (.inl ()) hn (fun i => rfl)
  rw [hl]
  unfold isNum
  cases ha : s.all isDig with
  | false => simp
  | true =>
    by_cases e2 : s.length = 1
    · simp [e2]
    · by_cases h1 : 1 < s.length
      · have hp : 0 < s.length := by omega
        have e1 : decide (1 < (((s.length : Nat) : Int))) = true := by simp; omega
        have e3 : decide ((((s.length : Nat) : Int)) = 1) = false := by simp; omega
        have := head48 hp
        simp only [e1, e3, e2, h1, get0 hp, if_true, Option.bind_some, cond_true, cond_false, decide_true, decide_false, Bool.false_or, Bool.true_and, this]
      · have e1 : decide (1 < (((s.length : Nat) : Int))) = false := by simp; omega
        have e3 : decide ((((s.length : Nat) : Int)) = 1) = false := by simp; omega
        simp [e1, e3, e2, h1]
theorem nParse_eq (s : List UInt8) (most : Int) (hn : s.length ≤ 1000000) (hm : -9223372036854775808 ≤ most) (hm2 : most ≤ 9223372036854775807) : fn_numeral_Parse s most = some (parse s most) := by
  unfold fn_numeral_Parse
  rw [isNumber_eq s hn]
  unfold parse
  cases hs : isNum s with
  | false => simp
  | true =>
    have ha := all_of hs
    simp only [Option.bind_some, Bool.not_true, cond_false, if_true]
    have h := loop_find (body := fn_numeral_Parse_l1 s most) (fun k => most < (val (s.take (k + 1)) : Int)) (fun k : Nat => (((val (s.take k) : Nat) : Int), (k : Int))) s.length (fun _ => .inr (0, 5)) (.inl ((val s : Nat) : Int))
    have step : ∀ k, k < s.length → (∀ j, j < k → ¬ most < (val (s.take (j + 1)) : Int)) → fn_numeral_Parse_l1 s most (((val (s.take k) : Nat) : Int), (k : Int)) = if most < (val (s.take (k + 1)) : Int) then some (.inr (.inr (0, 5))) else some (.inl ((((val (s.take (k + 1)) : Nat) : Int), ((k + 1 : Nat) : Int)))) := by
      intro k hk hprev
      obtain ⟨b1, b2⟩ := byte48 s[k] (List.all_eq_true.1 ha _ (List.getElem_mem hk))
      have hv := val_take hk
      have hpre : k = 0 ∨ ((val (s.take k) : Nat) : Int) ≤ most := by
        rcases Nat.eq_zero_or_pos k with h | h
        · exact .inl h
        · right
          have := hprev (k - 1) (by omega)
          rw [show k - 1 + 1 = k by omega] at this
          omega
      have hz : k = 0 → val (s.take k) = 0 := fun e => by subst e; rfl
      unfold fn_numeral_Parse_l1
      simp only [dlt hk, cond_true, getN hk, Option.bind_some, b1]
      rw [hv]
      by_cases h1 : most < (dig s[k] : Int)
      · have : most < ((val (s.take k) * 10 + dig s[k] : Nat) : Int) := by omega
        rw [if_pos this]; simp [h1]
      · have e1 : IntKind.wrap .i64 (most - (dig s[k] : Int)) = most - (dig s[k] : Int) := w64 (by omega) (by omega)
        have e2 : Int.tdiv (most - (dig s[k] : Int)) 10 = (most - (dig s[k] : Int)) / 10 := Int.tdiv_eq_ediv_of_nonneg (by omega)
        have e3 : IntKind.wrap .i64 ((most - (dig s[k] : Int)) / 10) = (most - (dig s[k] : Int)) / 10 := w64 (by omega) (by omega)
        rw [e1, e2, e3]
        by_cases h2 : most < ((val (s.take k) * 10 + dig s[k] : Nat) : Int)
        · have : (most - (dig s[k] : Int)) / 10 < ((val (s.take k) : Nat) : Int) := by omega
          rw [if_pos h2]; simp [this]
        · have : ¬ (most - (dig s[k] : Int)) / 10 < ((val (s.take k) : Nat) : Int) := by omega
          rw [if_neg h2]
          have w1 : IntKind.wrap .i64 (((val (s.take k) : Nat) : Int) * 10) = ((val (s.take k) : Nat) : Int) * 10 := w64 (by omega) (by omega)
          have w2 : IntKind.wrap .i64 (((val (s.take k) : Nat) : Int) * 10 + (dig s[k] : Int)) = ((val (s.take k) * 10 + dig s[k] : Nat) : Int) := by rw [w64 (by omega) (by omega)]; omega
          simp only [decide_eq_false h1, decide_eq_false this, Bool.or_self, cond_false, w1, w2, w64s hk (by omega)]
    rcases least (fun k => most < (val (s.take (k + 1)) : Int)) s.length with ⟨k, hk, hp, hmin⟩ | hall
    · have hl : loop (fn_numeral_Parse_l1 s most) (0, 0) = some (.inr (0, 5)) := by
        have := loop_nat (body := fn_numeral_Parse_l1 s most) (fun k : Nat => (((val (s.take k) : Nat) : Int), (k : Int))) k (b := .inr (0, 5)) (fun j hj => by rw [step j (by omega) (fun i hi => hmin i (by omega)), if_neg (hmin j hj)]) (by rw [step k hk hmin, if_pos hp])
        exact this
      rw [hl]
      have h9 : most < ((val s : Nat) : Int) := by have := val_take_le s (k + 1); omega
      simp [h9]
    · have hl : loop (fn_numeral_Parse_l1 s most) (0, 0) = some (.inl ((val s : Nat) : Int)) := by
        have := loop_nat (body := fn_numeral_Parse_l1 s most) (fun k : Nat => (((val (s.take k) : Nat) : Int), (k : Int))) s.length (b := .inl ((val s : Nat) : Int)) (fun j hj => by rw [step j hj (fun i hi => hall i (by omega)), if_neg (hall j hj)]) (by
          unfold fn_numeral_Parse_l1
          simp only [dge (show ¬ s.length < s.length by omega), cond_false, List.take_length])
        exact this
      rw [hl]
      have h9 : ¬ most < ((val s : Nat) : Int) := by
        have hp : 0 < s.length := List.length_pos_iff.2 (ne_of hs)
        have := hall (s.length - 1) (by omega)
        rw [show s.length - 1 + 1 = s.length by omega, List.take_length] at this
        exact this
      simp [h9]
theorem rParse_eq (s : List UInt8) (most : Int) (hn : s.length ≤ 1000000) (hm2 : most ≤ 9223372036854775807) : fn_ref01_Parse s most = some (parse s most) := by
  unfold fn_ref01_Parse
  rw [form_eq s hn]
  unfold parse
  cases hs : isNum s with
  | false => simp
  | true =>
    have ha := all_of hs
    simp only [Option.bind_some, Bool.not_true, cond_false, if_true]
    have step : ∀ k, k < s.length → ((val (s.take k) : Nat) : Int) ≤ 9223372036854775807 → fn_ref01_Parse_l1 s (((val (s.take k) : Nat) : Int), (k : Int)) = if 9223372036854775807 < (val (s.take (k + 1)) : Int) then some (.inr (.inr (0, 5))) else some (.inl ((((val (s.take (k + 1)) : Nat) : Int), ((k + 1 : Nat) : Int)))) := by
      intro k hk hprev
      obtain ⟨b1, b2⟩ := byte48 s[k] (List.all_eq_true.1 ha _ (List.getElem_mem hk))
      have hv := val_take hk
      unfold fn_ref01_Parse_l1
      simp only [dlt hk, cond_true, getN hk, Option.bind_some, b1]
      rw [hv]
      by_cases h2 : 9223372036854775807 < ((val (s.take k) * 10 + dig s[k] : Nat) : Int)
      · rw [if_pos h2]
        have : (decide (922337203685477580 < ((val (s.take k) : Nat) : Int)) || (decide (((val (s.take k) : Nat) : Int) = 922337203685477580) && decide (7 < (dig s[k] : Int)))) = true := by
          simp only [Bool.or_eq_true, Bool.and_eq_true, decide_eq_true_eq]; omega
        rw [this]; rfl
      · rw [if_neg h2]
        have : (decide (922337203685477580 < ((val (s.take k) : Nat) : Int)) || (decide (((val (s.take k) : Nat) : Int) = 922337203685477580) && decide (7 < (dig s[k] : Int)))) = false := by
          rw [Bool.eq_false_iff]; intro hc
          simp only [Bool.or_eq_true, Bool.and_eq_true, decide_eq_true_eq] at hc; omega
        rw [this, cond_false]
        have w1 : IntKind.wrap .i64 (((val (s.take k) : Nat) : Int) * 10) = ((val (s.take k) : Nat) : Int) * 10 := w64 (by omega) (by omega)
        have w2 : IntKind.wrap .i64 (((val (s.take k) : Nat) : Int) * 10 + (dig s[k] : Int)) = ((val (s.take k) * 10 + dig s[k] : Nat) : Int) := by rw [w64 (by omega) (by omega)]; omega
        rw [w1, w2, w64s hk (by omega)]
    have hpre : ∀ k, (∀ j, j < k → ¬ 9223372036854775807 < (val (s.take (j + 1)) : Int)) → ((val (s.take k) : Nat) : Int) ≤ 9223372036854775807 := fun k h => by
      rcases Nat.eq_zero_or_pos k with h0 | h0
      · subst h0; show ((0 : Nat) : Int) ≤ _; omega
      · have := h (k - 1) (by omega)
        rw [show k - 1 + 1 = k by omega] at this; omega
    rcases least (fun k => 9223372036854775807 < (val (s.take (k + 1)) : Int)) s.length with ⟨k, hk, hp, hmin⟩ | hall
    · have hl : loop (fn_ref01_Parse_l1 s) (0, 0) = some (.inr (0, 5)) := by
        have := loop_nat (body := fn_ref01_Parse_l1 s) (fun k : Nat => (((val (s.take k) : Nat) : Int), (k : Int))) k (b := .inr (0, 5)) (fun j hj => by rw [step j (by omega) (hpre j (fun i hi => hmin i (by omega))), if_neg (hmin j hj)]) (by rw [step k hk (hpre k hmin), if_pos hp])
        exact this
      rw [hl]
      have h9 : most < ((val s : Nat) : Int) := by have := val_take_le s (k + 1); omega
      simp [h9]
    · have hl : loop (fn_ref01_Parse_l1 s) (0, 0) = some (.inl ((val s : Nat) : Int)) := by
        have := loop_nat (body := fn_ref01_Parse_l1 s) (fun k : Nat => (((val (s.take k) : Nat) : Int), (k : Int))) s.length (b := .inl ((val s : Nat) : Int)) (fun j hj => by rw [step j hj (hpre j (fun i hi => hall i (by omega))), if_neg (hall j hj)]) (by
          unfold fn_ref01_Parse_l1
          simp only [dge (show ¬ s.length < s.length by omega), cond_false, List.take_length])
        exact this
      rw [hl]
      by_cases h9 : most < ((val s : Nat) : Int) <;> simp [h9]
theorem u8_48 {d : Nat} (h : d < 10) : IntKind.wrap .u8 (IntKind.wrap .i64 (48 + (d : Int))) = ((48 + d : Nat) : Int) := by
  rw [w64 (by omega) (by omega)]
  have e : IntKind.wrap .u8 (48 + (d : Int)) = (48 + (d : Int)) % 256 := IntKind.wrap_u8' _
  rw [e, Int.emod_eq_of_lt (by omega) (by omega)]; omega
theorem nText_key : ∀ (k n a : Nat) (l : List Int), n < 10 ^ (k + 1) → n ≤ 9223372036854775807 → k < a → a ≤ 20 → l.length = 20 → loop fn_numeral_Text_l1 ((n : Int), l, (a : Int)) = some (dec n ++ toU8 (l.drop a)) := by
  intro k
  induction k with
  | zero =>
    intro n a l hn hb ha ha2 hl
    have h10 : n < 10 := by simpa using hn
    have e0 : IntKind.wrap .i64 ((a : Int) - 1) = ((a - 1 : Nat) : Int) := by rw [w64 (by omega) (by omega)]; omega
    have e1 : Int.tmod (n : Int) 10 = (n : Int) := by rw [Int.tmod_eq_emod_of_nonneg (by omega)]; omega
    have e2 : Int.tdiv (n : Int) 10 = 0 := by rw [Int.tdiv_eq_ediv_of_nonneg (by omega)]; omega
    refine loop_end ?_
    unfold fn_numeral_Text_l1
    have hs : subL (l.set (a - 1) ((48 + n : Nat) : Int)) ((a - 1 : Nat) : Int) (((20 : Nat) : Int)) = some (((48 + n : Nat) : Int) :: l.drop a) := by
      rw [subL_eq (by omega) (by omega) (by rw [List.length_set, hl]; omega)]
      simp only [Int.toNat_natCast]
      rw [List.take_of_length_le (by rw [List.length_set, hl]; omega), List.drop_eq_getElem_cons (by rw [List.length_set]; omega), List.getElem_set_self, List.drop_set_of_lt (by omega), show a - 1 + 1 = a by omega]
    simp only [e0, getN (show a - 1 < l.length by omega), Option.bind_some, e1, u8_48 h10, e2, Int.toNat_natCast, show IntKind.wrap .i64 0 = 0 from rfl, decide_true, cond_true, hs]
    rw [dec_lt h10]
    simp only [toU8, List.map_cons, Int.toNat_natCast]; rfl
  | succ k ih =>
    intro n a l hn hb ha ha2 hl
    by_cases h10 : n < 10
    · have e0 : IntKind.wrap .i64 ((a : Int) - 1) = ((a - 1 : Nat) : Int) := by rw [w64 (by omega) (by omega)]; omega
      have e1 : Int.tmod (n : Int) 10 = (n : Int) := by rw [Int.tmod_eq_emod_of_nonneg (by omega)]; omega
      have e2 : Int.tdiv (n : Int) 10 = 0 := by rw [Int.tdiv_eq_ediv_of_nonneg (by omega)]; omega
      refine loop_end ?_
      unfold fn_numeral_Text_l1
      have hs : subL (l.set (a - 1) ((48 + n : Nat) : Int)) ((a - 1 : Nat) : Int) (((20 : Nat) : Int)) = some (((48 + n : Nat) : Int) :: l.drop a) := by
        rw [subL_eq (by omega) (by omega) (by rw [List.length_set, hl]; omega)]
        simp only [Int.toNat_natCast]
        rw [List.take_of_length_le (by rw [List.length_set, hl]; omega), List.drop_eq_getElem_cons (by rw [List.length_set]; omega), List.getElem_set_self, List.drop_set_of_lt (by omega), show a - 1 + 1 = a by omega]
      simp only [e0, getN (show a - 1 < l.length by omega), Option.bind_some, e1, u8_48 h10, e2, Int.toNat_natCast, show IntKind.wrap .i64 0 = 0 from rfl, decide_true, cond_true, hs]
      rw [dec_lt h10]
      simp only [toU8, List.map_cons, Int.toNat_natCast]; rfl
    · have e0 : IntKind.wrap .i64 ((a : Int) - 1) = ((a - 1 : Nat) : Int) := by rw [w64 (by omega) (by omega)]; omega
      have e1 : Int.tmod (n : Int) 10 = ((n % 10 : Nat) : Int) := by rw [Int.tmod_eq_emod_of_nonneg (by omega)]; omega
      have e2 : IntKind.wrap .i64 (Int.tdiv (n : Int) 10) = ((n / 10 : Nat) : Int) := by rw [Int.tdiv_eq_ediv_of_nonneg (by omega), w64 (by omega) (by omega)]; omega
      have e3 : decide (((n / 10 : Nat) : Int) = 0) = false := by simp; omega
      rw [loop_next (s' := (((n / 10 : Nat) : Int), l.set (a - 1) ((48 + n % 10 : Nat) : Int), ((a - 1 : Nat) : Int))), ih (n / 10) (a - 1) _ (by rw [Nat.pow_succ] at hn; omega) (by omega) (by omega) (by omega) (by rw [List.length_set, hl])]
      · rw [dec_ge h10, List.drop_eq_getElem_cons (by rw [List.length_set]; omega), List.getElem_set_self, List.drop_set_of_lt (by omega), show a - 1 + 1 = a by omega]
        simp only [toU8, List.map_cons, Int.toNat_natCast, List.append_assoc]; rfl
      · unfold fn_numeral_Text_l1
        simp only [e0, getN (show a - 1 < l.length by omega), Option.bind_some, e1, u8_48 (show n % 10 < 10 by omega), e2, e3, Int.toNat_natCast, cond_false]
theorem nText_eq (n : Int) (h : n ≤ 9223372036854775807) : fn_numeral_Text n = some (text n) := by
  unfold fn_numeral_Text text
  by_cases h0 : n < 0
  · simp [h0]
  · obtain ⟨m, rfl⟩ := Int.eq_ofNat_of_zero_le (show 0 ≤ n by omega)
    rw [if_neg h0, decide_eq_false h0, cond_false]
    have := nText_key 18 m 20 [0, 0, 0, 0, 0, 0, 0, 0, 0, 0, 0, 0, 0, 0, 0, 0, 0, 0, 0, 0] (by omega) (by omega) (by omega) (by omega) rfl
    rw [show ((20 : Nat) : Int) = 20 from rfl] at this
    rw [this]
    simp [toU8]
theorem sub1ch {d : Nat} (h : d < 10) : subL ([48, 49, 50, 51, 52, 53, 54, 55, 56, 57] : List UInt8) (d : Int) (IntKind.wrap .i64 ((d : Int) + 1)) = some [ch d] := by
  have : d = 0 ∨ d = 1 ∨ d = 2 ∨ d = 3 ∨ d = 4 ∨ d = 5 ∨ d = 6 ∨ d = 7 ∨ d = 8 ∨ d = 9 := by omega
  rcases this with h | h | h | h | h | h | h | h | h | h <;> subst h <;> decide
theorem rText_key : ∀ (k n fuel : Nat), n < 10 ^ (k + 1) → k < 19 → n ≤ 9223372036854775807 → k < fuel → fnr_ref01_Text fuel (n : Int) = some (dec n) := by
  intro k
  induction k with
  | zero =>
    intro n fuel hn hk hb hf
    have h10 : n < 10 := by simpa using hn
    cases fuel with
    | zero => omega
    | succ fuel =>
      unfold fnr_ref01_Text
      have e1 : decide ((n : Int) < 0) = false := decide_eq_false (by omega)
      have e2 : decide ((n : Int) < 10) = true := by simp; omega
      simp only [e1, e2, cond_true, cond_false, sub1ch h10, Option.bind_some]
      rw [dec_lt h10]
  | succ k ih =>
    intro n fuel hn hk hb hf
    cases fuel with
    | zero => omega
    | succ fuel =>
      unfold fnr_ref01_Text
      have e1 : decide ((n : Int) < 0) = false := decide_eq_false (by omega)
      by_cases h10 : n < 10
      · have e2 : decide ((n : Int) < 10) = true := by simp; omega
        simp only [e1, e2, cond_true, cond_false, sub1ch h10, Option.bind_some]
        rw [dec_lt h10]
      · have e2 : decide ((n : Int) < 10) = false := by simp; omega
        have e3 : Int.tmod (n : Int) 10 = ((n % 10 : Nat) : Int) := by rw [Int.tmod_eq_emod_of_nonneg (by omega)]; omega
        have e4 : IntKind.wrap .i64 (Int.tdiv (n : Int) 10) = ((n / 10 : Nat) : Int) := by rw [Int.tdiv_eq_ediv_of_nonneg (by omega), w64 (by omega) (by omega)]; omega
        have e5 := dec_len k (n / 10) (by rw [Nat.pow_succ] at hn; omega)
        simp only [e1, e2, e3, e4, cond_false, sub1ch (show n % 10 < 10 by omega), Option.bind_some, ih (n / 10) fuel (by rw [Nat.pow_succ] at hn; omega) (by omega) (by omega) (by omega)]
        rw [app_eq (by simp; omega)]
        simp only [Option.bind_some]
        rw [dec_ge h10]
theorem rText_eq (n : Int) (h : n ≤ 9223372036854775807) : fn_ref01_Text n = some (text n) := by
  unfold fn_ref01_Text text
  by_cases h0 : n < 0
  · refine lev_eq 1 (fun m hm => ?_)
    cases m with
    | zero => omega
    | succ m => unfold fnr_ref01_Text; simp [h0]
  · obtain ⟨m, rfl⟩ := Int.eq_ofNat_of_zero_le (show 0 ≤ n by omega)
    rw [if_neg h0]
    exact lev_eq 19 (fun f hf => rText_key 18 m f (by omega) (by omega) (by omega) (by omega))
def pair (b : Int × Int) : List UInt8 := if b.1 < 0 ∨ b.2 < 0 then [] else text b.1 ++ 58 :: text b.2
theorem nPair_eq (b : Int × Int) (h1 : b.1 ≤ 9223372036854775807) (h2 : b.2 ≤ 9223372036854775807) : fn_numeral_Pair b = some (pair b) := by
  unfold fn_numeral_Pair pair
  by_cases h : b.1 < 0 ∨ b.2 < 0
  · rw [if_pos h]
    have : (decide (b.1 < 0) || decide (b.2 < 0)) = true := by simpa using h
    rw [this]; rfl
  · rw [if_neg h]
    have : (decide (b.1 < 0) || decide (b.2 < 0)) = false := by simp; omega
    have l1 := text_len h1; have l2 := text_len h2
    rw [this, cond_false, nText_eq _ h1, nText_eq _ h2]
    simp only [Option.bind_some]
    rw [app_eq (by simp; omega)]
    simp only [Option.bind_some]
    rw [app_eq (by simp; omega)]
    simp
theorem rPair_eq (b : Int × Int) (h1 : b.1 ≤ 9223372036854775807) (h2 : b.2 ≤ 9223372036854775807) : fn_ref01_Pair b = some (pair b) := by
  unfold fn_ref01_Pair pair
  by_cases h : b.1 < 0 ∨ b.2 < 0
  · rw [if_pos h]
    have : (decide (b.1 < 0) || decide (b.2 < 0)) = true := by simpa using h
    rw [this]; rfl
  · rw [if_neg h]
    have : (decide (b.1 < 0) || decide (b.2 < 0)) = false := by simp; omega
    have l1 := text_len h1; have l2 := text_len h2
    rw [this, cond_false, rText_eq _ h1, rText_eq _ h2]
    simp only [Option.bind_some]
    rw [app_eq (by simp; omega)]
    simp only [Option.bind_some]
    rw [app_eq (by simp; omega)]
    simp
theorem glue_len {l : List Int} (h : ∀ x ∈ l, x ≤ 9223372036854775807) : (lst l).length ≤ l.length * 20 := by
  have key : ∀ l : List Int, (∀ x ∈ l, x ≤ 9223372036854775807) → (l.map text).flatMap (44 :: ·) = l.flatMap (fun x => 44 :: text x) ∧ (l.flatMap (fun x => 44 :: text x)).length ≤ l.length * 20 := by
    intro l
    induction l with
    | nil => intro _; simp
    | cons x l ih =>
      intro h
      obtain ⟨i1, i2⟩ := ih (fun y hy => h y (by simp [hy]))
      have := text_len (h x (by simp))
      refine ⟨by simp [List.flatMap_map], ?_⟩
      simp only [List.flatMap_cons, List.length_append, List.length_cons]; omega
  unfold lst
  cases l with
  | nil => simp [glue]
  | cons x l =>
    obtain ⟨i1, i2⟩ := key l (fun y hy => h y (by simp [hy]))
    have := text_len (h x (by simp))
    simp only [List.map_cons, glue, i1, List.length_append, List.length_cons]; omega
theorem lst_snoc (l : List Int) (x : Int) : lst (l ++ [x]) = if l = [] then text x else lst l ++ 44 :: text x := by
  unfold lst; rw [List.map_append, List.map_singleton, glue_snoc]; simp
end Go.Proofs.YtaokbmfhobbmaaaDoor
