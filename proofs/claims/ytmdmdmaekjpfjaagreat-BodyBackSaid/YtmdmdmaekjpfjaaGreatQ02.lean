import Derived.Test.YtmdmdmaekjpfjaaGreatF5
import Derived.Test.YtmdmdmaekjpfjaaGreatPv
import Derived.Test.YtmdmdmaekjpfjaaGreatLebMath
namespace Go.Proofs.YtmdmdmaekjpfjaaGreat
open Go.RowKit Lb
set_option linter.unusedVariables false
set_option linter.unnecessarySimpa false
set_option linter.unusedSimpArgs false
theorem e256 : (2 : Int) ^ (min (Int.toNat 8) (IntKind.bits .i64)) = 256 := by decide
theorem fdiv256 (n : Int) (h : 0 ≤ n) : Int.fdiv n ((2 : Int) ^ (min (Int.toNat 8) (IntKind.bits .i64))) = n / 256 := by rw [e256, Int.fdiv_eq_ediv_of_nonneg _ (by omega)]
theorem or256 (a b : Nat) (ha : a < 1099511627776) (hb : b < 256) : IntKind.wrap .i64 ((BitVec.ofInt (IntKind.bits .i64) (IntKind.wrap .i64 ((a : Int) * 2 ^ (min (Int.toNat 8) (IntKind.bits .i64)))) ||| BitVec.ofInt (IntKind.bits .i64) (IntKind.wrap .i64 (b : Int))).toNat : Int) = (a : Int) * 256 + b := by
  rw [e256, w64 (x := (a : Int) * 256) (by omega) (by omega), w64 (x := (b : Int)) (by omega) (by omega)]
  have h : IntKind.wrap .i64 ((BitVec.ofInt 64 ((a * 256 : Nat) : Int) ||| BitVec.ofInt 64 (b : Int)).toNat : Int) = ((a * 256 ||| b : Nat) : Int) := or_i64 (a * 256) b (by omega) (by omega)
  have e : ((a * 256 : Nat) : Int) = (a : Int) * 256 := by omega
  rw [e] at h
  show IntKind.wrap .i64 ((BitVec.ofInt 64 _ ||| BitVec.ofInt 64 _).toNat : Int) = _
  rw [h]
  clear h
  have e2 : a * 256 ||| b = a * 256 + b := by
    have := Nat.shiftLeft_add_eq_or_of_lt (i := 8) (b := b) hb a
    rw [Nat.shiftLeft_eq] at this
    exact this.symm
  rw [e2, Int.natCast_add, e]
theorem wrB_u8 (s : List UInt8) (n : Int) (h0 : 0 ≤ n) (hs : s.length ≤ 1000000) : wrB s (IntKind.wrap .u8 n) = some (s ++ [u8 n]) := by
  unfold wrB
  have e : IntKind.wrap .u8 n = n % 256 := IntKind.wrap_u8' n
  rw [e, if_pos (by omega), app_eq (by simp; omega)]
  have := u8_mod n h0
  unfold u8 at this
  rw [this]; rfl
theorem toU8_one (n : Int) (h0 : 0 ≤ n) : toU8 [IntKind.wrap .u8 n] = [u8 n] := by
  have e : IntKind.wrap .u8 n = n % 256 := IntKind.wrap_u8' n
  have := u8_mod n h0
  unfold u8 at this
  simp only [toU8, List.map_cons, List.map_nil, e, this]; rfl
theorem put_mem0 {n : Int} (h : 0 ≤ n) (h2 : n ≤ 4294967295) : put n = if n < 248 then [u8 n] else u8 (247 + digs n) :: low (digs n) n := by
  unfold put; rw [if_neg (by omega)]
theorem digs_zero {m : Int} (h : digs m = 0) : m ≤ 0 := by
  rcases Int.lt_or_le 0 m with h' | h'
  · have := digs_pos m h'; omega
  · exact h'
theorem nat_byte (c : UInt8) : IntKind.wrap .i64 ((c.toNat : Nat) : Int) = (c.toNat : Int) := by
  have := c.toNat_lt
  exact w64 (by omega) (by omega)
theorem lebDigits_eq (n : Int) (h : n ≤ 4294967295) : fn_leb_digits n = some (digs n : Int) := by
  have key : ∀ (k : Nat) (m : Int) (c : Nat), digs m = k → m ≤ 4294967295 → c + k ≤ 100 → loop fn_leb_digits_l1 (m, (c : Int)) = some ((c + k : Nat) : Int) := by
    intro k
    induction k with
    | zero =>
      intro m c hk _ _
      have := digs_zero hk
      exact loop_end (by unfold fn_leb_digits_l1; simp only [decide_eq_false (show ¬ 0 < m by omega), cond_false]; rfl)
    | succ k ih =>
      intro m c hk hm hc
      have hp : 0 < m := by
        rcases Int.lt_or_le 0 m with h' | h'
        · exact h'
        · unfold digs at hk; rw [if_pos h'] at hk; omega
      have hs := digs_step m hp hm
      have hw : IntKind.wrap .i64 ((c : Int) + 1) = ((c + 1 : Nat) : Int) := w64s (n := 200) (by omega) (by omega)
      rw [loop_next (s' := (m / 256, ((c + 1 : Nat) : Int))), ih (m / 256) (c + 1) (by omega) (by omega) (by omega)]
      · congr 1; omega
      · unfold fn_leb_digits_l1
        simp only [hp, decide_true, cond_true, fdiv256 m (by omega), hw]
  unfold fn_leb_digits
  have h4 := digs_le n
  have := key (digs n) n 0 rfl h (by omega)
  rw [show ((0 : Int)) = ((0 : Nat) : Int) from rfl, this]
  simp
theorem lebSize_eq (n : Int) : fn_leb_Size n = some (size n) := by
  unfold fn_leb_Size size
  by_cases h : n < 0 ∨ 4294967295 < n
  · rw [if_pos h]
    have : (decide (n < 0) || decide (4294967295 < n)) = true := by simpa using h
    rw [this]; rfl
  · rw [if_neg h]
    have : (decide (n < 0) || decide (4294967295 < n)) = false := by simp; omega
    rw [this, cond_false]
    by_cases h2 : n < 248
    · simp [h2]
    · have h4 := digs_le n
      rw [lebDigits_eq n (by omega)]
      simp only [h2, decide_false, cond_false, Option.bind_some, if_false]
      rw [w64 (by omega) (by omega)]
theorem lebAll_l1_eq (x : Int) (h : 0 ≤ x) : ∀ (j : Nat), j ≤ 7 → ∀ s : List UInt8, s.length + j ≤ 1000000 → loop (fn_leb_All_l1 x) (8 * ((j : Int) - 1), s) = some (s ++ low j x) := by
  intro j
  induction j with
  | zero => intro _ s _; exact loop_end (by simp [fn_leb_All_l1, low])
  | succ j ih =>
    intro hj s hs
    rw [loop_next (s' := (8 * ((j : Int) - 1), s ++ [u8 (x / 256 ^ j)])), ih (by omega) _ (by simp; omega)]
    · simp only [low, List.append_assoc, List.singleton_append]
      have := u8_mod (x / 256 ^ j) (Int.ediv_nonneg h (Int.le_of_lt (Int.pow_pos (by omega))))
      rw [this]
    · have e1 : (8 * (((j + 1 : Nat) : Int) - 1)) = ((8 * j : Nat) : Int) := by omega
      unfold fn_leb_All_l1
      rw [e1]
      have e2 : (2 : Int) ^ (min (Int.toNat ((8 * j : Nat) : Int)) (IntKind.bits .i64)) = 256 ^ j := by
        have hb : IntKind.bits .i64 = 64 := rfl
        rw [Int.toNat_natCast, hb, Nat.min_eq_left (by omega), show (256 : Int) = 2 ^ 8 by decide, ← Int.pow_mul]
      have e3 : Int.fdiv x (256 ^ j) = x / 256 ^ j := Int.fdiv_eq_ediv_of_nonneg _ (Int.le_of_lt (Int.pow_pos (by omega)))
      have e4 : IntKind.wrap .i64 (((8 * j : Nat) : Int) - 8) = 8 * ((j : Int) - 1) := by rw [w64 (by omega) (by omega)]; omega
      have e5 : decide (0 ≤ ((8 * j : Nat) : Int)) = true := by simp; omega
      simp only [e5, cond_true, ge0_eq (show 0 ≤ ((8 * j : Nat) : Int) by omega), Option.bind_some, e2, e3, e4]
      rw [wrB_u8 _ _ (Int.ediv_nonneg h (Int.le_of_lt (Int.pow_pos (by omega)))) (by omega)]
      rfl
theorem lebAll_eq (l : List Int) (hl : l.length ≤ 100000) : fn_leb_All l = some (l.flatMap put) := by
  have key := loop_nat (body := fn_leb_All_l2 l) (fun k : Nat => ((k : Int), (l.take k).flatMap put)) l.length (b := l.flatMap put) ?_ ?_
  · unfold fn_leb_All
    simp only [List.take_zero, List.flatMap_nil] at key
    have key' : loop (fn_leb_All_l2 l) (0, ([] : List UInt8)) = some (l.flatMap put) := key
    rw [key']; rfl
  · intro k hk
    have hlen := putAll_length (l.take k)
    simp only [List.length_take] at hlen
    have e := putAll_snoc l k hk
    have hgd : l.getD k 0 = l[k] := by simp [List.getD, hk]
    rw [hgd] at e
    have hs : ((l.take k).flatMap put).length ≤ 500000 := by omega
    unfold fn_leb_All_l2
    simp only [dlt hk, cond_true, getN hk, Option.bind_some, lebSize_eq, w64s hk (by omega : l.length ≤ 9223372036854775807), e]
    generalize (l.take k).flatMap put = S at *
    generalize hx : l[k] = x
    have h4 := digs_le x
    by_cases h0 : x < 0 ∨ 4294967295 < x
    · have a1 : size x = 0 := by unfold size; rw [if_pos h0]
      have a2 : put x = [] := (put_nil x).2 h0
      simp [a1, a2]
    · by_cases h1 : x < 248
      · have a1 : size x = 1 := by unfold size; rw [if_neg h0, if_pos h1]
        have a2 : put x = [u8 x] := by rw [put_mem0 (by omega) (by omega), if_pos h1]
        rw [a1, a2]
        simp only [show (decide ((1 : Int) = 0)) = false from rfl, cond_false, decide_true, cond_true]
        rw [wrB_u8 _ _ (by omega) (by omega)]; rfl
      · have a1 : size x = 1 + digs x := by unfold size; rw [if_neg h0, if_neg h1]
        have a2 : put x = u8 (247 + digs x) :: low (digs x) x := by rw [put_mem0 (by omega) (by omega), if_neg h1]
        have hp := digs_pos x (by omega)
        rw [a1, a2]
        have c1 : decide ((1 : Int) + digs x = 0) = false := by simp; omega
        have c2 : decide ((1 : Int) + digs x = 1) = false := by simp; omega
        have c3 : IntKind.wrap .i64 ((IntKind.wrap .i64 (247 + (1 + (digs x : Int)))) - 1) = 247 + digs x := by
          rw [w64 (x := 247 + (1 + (digs x : Int))) (by omega) (by omega), w64 (by omega) (by omega)]; omega
        have c4 : IntKind.wrap .i64 (8 * (IntKind.wrap .i64 ((1 + (digs x : Int)) - 2))) = 8 * ((digs x : Int) - 1) := by
          rw [w64 (x := (1 + (digs x : Int)) - 2) (by omega) (by omega), w64 (by omega) (by omega)]; omega
        rw [c1, c2, cond_false, cond_false, c3, c4, wrB_u8 _ _ (by omega) (by omega), Option.bind_some, lebAll_l1_eq x (by omega) _ (by omega) _ (by simp; omega)]
        simp
  · simp [fn_leb_All_l2]
theorem val_take (r : List UInt8) (k : Nat) (h : k < r.length) : val (r.take (k + 1)) = val (r.take k) * 256 + r[k].toNat := by
  rw [take_snoc h, val_snoc]
theorem val_small (r : List UInt8) (k : Nat) (h : k ≤ 4) : 0 ≤ val (r.take k) ∧ val (r.take k) ≤ 4294967295 := by
  have hb := val_bd (r.take k)
  have hl : (r.take k).length ≤ 4 := by simp; omega
  generalize (r.take k).length = m at *
  have : (256 : Int) ^ m ≤ 256 ^ 4 := by rcases m with _ | _ | _ | _ | _ | m <;> first | omega | decide
  have e4 : (256 : Int) ^ 4 = 4294967296 := by decide
  omega
theorem lebTake_eq (l : List UInt8) (hl : l.length ≤ 1073741824) : fn_leb_Take l = some (take l) := by
  unfold fn_leb_Take take
  match l with
  | [] => rfl
  | c :: r =>
    have hne : decide (c :: r = ([] : List UInt8)) = false := by simp
    have hc := c.toNat_lt
    simp only [hne, cond_false, show getI (c :: r) 0 = some c from rfl, Option.bind_some, nat_byte]
    by_cases h1 : c.toNat < 248
    · have : decide ((c.toNat : Int) < 248) = true := by simp; omega
      rw [this, if_pos h1]; rfl
    · have e1 : decide ((c.toNat : Int) < 248) = false := by simp; omega
      have e2 : IntKind.wrap .i64 ((c.toNat : Int) - 247) = ((c.toNat - 247 : Nat) : Int) := by rw [w64 (by omega) (by omega)]; omega
      rw [e1, if_neg h1, cond_false, lebDigits_eq _ (by omega), Option.bind_some, e2]
      have ed : digs 4294967295 = 4 := by decide
      rw [ed]
      generalize hk : c.toNat - 247 = k
      by_cases h2 : 251 < c.toNat
      · have : decide (((4 : Nat) : Int) < (k : Int)) = true := by simp; omega
        rw [this, if_pos h2]; rfl
      · have : decide (((4 : Nat) : Int) < (k : Int)) = false := by simp; omega
        rw [this, if_neg h2, cond_false]
        by_cases h3 : r.length < k
        · have : decide ((((c :: r).length : Nat) : Int) ≤ (k : Int)) = true := by simp; omega
          rw [this, if_pos h3]; rfl
        · have : decide ((((c :: r).length : Nat) : Int) ≤ (k : Int)) = false := by simp; omega
          rw [this, if_neg h3, cond_false]
          have hloop : loop (fn_leb_Take_l1 (c :: r) c) (0, 1) = some (val (r.take k)) := by
            have := loop_nat (body := fn_leb_Take_l1 (c :: r) c) (fun j : Nat => (val (r.take j), ((j + 1 : Nat) : Int))) k (b := val (r.take k)) ?_ ?_
            · simpa [val] using this
            · intro j hj
              have hjr : j < r.length := by omega
              have hjl : j + 1 < (c :: r).length := by simp; omega
              have hv := val_small r j (by omega)
              have hx := (r[j]).toNat_lt
              have d1 : decide (((j + 1 : Nat) : Int) ≤ (k : Int)) = true := by simp; omega
              have d2 : (c :: r)[j + 1] = r[j] := rfl
              have d3 : ((j + 1 : Nat) : Int) + 1 = ((j + 1 + 1 : Nat) : Int) := by omega
              obtain ⟨a, ha⟩ := Int.eq_ofNat_of_zero_le hv.1
              have d4 := or256 a r[j].toNat (by omega) (by omega)
              unfold fn_leb_Take_l1
              simp only [nat_byte, e2, hk, d1, cond_true]
              rw [getN hjl, Option.bind_some, d2, val_take r j hjr, ha]
              rw [nat_byte] at d4
              rw [d4, w64 (x := ((j + 1 : Nat) : Int) + 1) (by omega) (by omega), d3]
            · unfold fn_leb_Take_l1
              have d1 : decide (((k + 1 : Nat) : Int) ≤ (k : Int)) = false := by simp; omega
              simp only [nat_byte, e2, hk, d1, cond_false]
          rw [hloop, Option.bind_some]
          have hv := val_small r k (by omega)
          have e5 : IntKind.wrap .i64 (1 + (k : Int)) = 1 + (k : Int) := w64 (by omega) (by omega)
          rw [e5, lebDigits_eq _ hv.2]
          by_cases h4 : val (r.take k) < 248
          · simp [h4]
          · by_cases h5 : digs (val (r.take k)) < k
            · have : decide (((digs (val (r.take k)) : Nat) : Int) < (k : Int)) = true := by simp; omega
              simp [h4, h5]
            · have : decide (((digs (val (r.take k)) : Nat) : Int) < (k : Int)) = false := by simp; omega
              simp [h4, h5]
theorem refDigits_eq : ∀ (k : Nat) (n : Int), digs n = k + 1 → n ≤ 4294967295 → ∀ m, k < m → fnr_ref02_digits m n = some (low (k + 1) n) := by
  intro k
  induction k with
  | zero =>
    intro n hd hn m hm
    obtain ⟨m, rfl⟩ : ∃ q, m = q + 1 := ⟨m - 1, by omega⟩
    have h0 : 0 < n := by
      rcases Int.lt_or_le 0 n with h' | h'
      · exact h'
      · unfold digs at hd; rw [if_pos h'] at hd; omega
    have h1 : n < 256 := by have := lt_pow_digs n (by omega) hn; rw [hd] at this; simpa using this
    unfold fnr_ref02_digits
    rw [decide_eq_true h1, cond_true, toU8_one n (by omega)]
    simp only [low, Int.pow_zero, Int.ediv_one, u8_mod n (by omega)]
  | succ k ih =>
    intro n hd hn m hm
    obtain ⟨m, rfl⟩ : ∃ q, m = q + 1 := ⟨m - 1, by omega⟩
    have h0 : 0 < n := by
      rcases Int.lt_or_le 0 n with h' | h'
      · exact h'
      · unfold digs at hd; rw [if_pos h'] at hd; omega
    have hs := digs_step n h0 hn
    have h1 : ¬ n < 256 := by
      intro h
      have := digs_le_of n 1 (by simpa using h) (by omega)
      omega
    unfold fnr_ref02_digits
    have hk := digs_le n
    have e1 : Int.tdiv n 256 = n / 256 := Int.tdiv_eq_ediv_of_nonneg (by omega)
    have e2 : Int.tmod n 256 = n % 256 := Int.tmod_eq_emod_of_nonneg (by omega)
    rw [decide_eq_false h1, cond_false, e1, w64 (by omega) (by omega), ih (n / 256) (by omega) (by omega) m (by omega), Option.bind_some, e2, toU8_one _ (by omega), app_eq (by simp [low_length]; omega), low_snoc (k + 1) n (by omega)]
    rfl
theorem refPut_eq (n : Int) : fn_ref02_Put n = some (put n) := by
  unfold fn_ref02_Put
  by_cases h : n < 0 ∨ 4294967295 < n
  · have : (decide (n < 0) || decide (4294967295 < n)) = true := by simpa using h
    rw [this, (put_nil n).2 h]; rfl
  · have : (decide (n < 0) || decide (4294967295 < n)) = false := by simp; omega
    rw [this, cond_false, put_mem0 (by omega) (by omega)]
    by_cases h2 : n < 248
    · simp only [h2, decide_true, cond_true, if_true, toU8_one n (by omega)]
    · have h4 := digs_le n
      have hp := digs_pos n (by omega)
      obtain ⟨k, hk⟩ : ∃ k, digs n = k + 1 := ⟨digs n - 1, by omega⟩
      have hd : fn_ref02_digits n = some (low (k + 1) n) := lev_eq (k + 1) (fun m hm => refDigits_eq k n hk (by omega) m (by omega))
      simp only [h2, decide_false, cond_false, if_false, hd, Option.bind_some, low_length]
      rw [w64 (by omega) (by omega), toU8_one _ (by omega), app_eq (by simp [low_length]; omega), hk]
      rfl
theorem refTake_eq (l : List UInt8) (hl : l.length ≤ 1073741824) : fn_ref02_Take l = some (take l) := by
  unfold fn_ref02_Take take
  match l with
  | [] => rfl
  | c :: r =>
    have hne : decide (c :: r = ([] : List UInt8)) = false := by simp
    have hc := c.toNat_lt
    simp only [hne, cond_false, show getI (c :: r) 0 = some c from rfl, Option.bind_some, nat_byte]
    by_cases h1 : c.toNat < 248
    · have : decide ((c.toNat : Int) < 248) = true := by simp; omega
      rw [this, if_pos h1]; rfl
    · have e1 : decide ((c.toNat : Int) < 248) = false := by simp; omega
      have e2 : IntKind.wrap .i64 ((c.toNat : Int) - 247) = ((c.toNat - 247 : Nat) : Int) := by rw [w64 (by omega) (by omega)]; omega
      rw [e1, if_neg h1, cond_false, e2]
      by_cases h2 : 251 < c.toNat
      · have : decide (251 < (c.toNat : Int)) = true := by simp; omega
        rw [this, if_pos h2]; rfl
      · have : decide (251 < (c.toNat : Int)) = false := by simp; omega
        rw [this, if_neg h2, cond_false]
        have hpv := put_val c r (by omega) (by omega)
        generalize hk : c.toNat - 247 = k at *
        have e5 : IntKind.wrap .i64 (1 + (k : Int)) = 1 + (k : Int) := w64 (by omega) (by omega)
        rw [e5]
        by_cases h3 : r.length < k
        · have : decide ((((c :: r).length : Nat) : Int) < 1 + (k : Int)) = true := by simp; omega
          rw [this, if_pos h3]; rfl
        · have : decide ((((c :: r).length : Nat) : Int) < 1 + (k : Int)) = false := by simp; omega
          rw [this, if_neg h3, cond_false]
          have hloop : loop (fn_ref02_Take_l1 (c :: r) c) (0, 1) = some (val (r.take k)) := by
            have := loop_nat (body := fn_ref02_Take_l1 (c :: r) c) (fun j : Nat => (val (r.take j), ((j + 1 : Nat) : Int))) k (b := val (r.take k)) ?_ ?_
            · simpa [val] using this
            · intro j hj
              have hjr : j < r.length := by omega
              have hjl : j + 1 < (c :: r).length := by simp; omega
              have hv := val_small r j (by omega)
              have hx := (r[j]).toNat_lt
              have d1 : decide (((j + 1 : Nat) : Int) ≤ (k : Int)) = true := by simp; omega
              have d2 : (c :: r)[j + 1] = r[j] := rfl
              have d3 : ((j + 1 : Nat) : Int) + 1 = ((j + 1 + 1 : Nat) : Int) := by omega
              unfold fn_ref02_Take_l1
              simp only [nat_byte, e2, hk, d1, cond_true]
              rw [getN hjl, Option.bind_some, d2, val_take r j hjr, w64 (x := val (r.take j) * 256) (by omega) (by omega), w64 (x := val (r.take j) * 256 + (r[j].toNat : Int)) (by omega) (by omega), w64 (x := ((j + 1 : Nat) : Int) + 1) (by omega) (by omega), d3]
            · unfold fn_ref02_Take_l1
              have d1 : decide (((k + 1 : Nat) : Int) ≤ (k : Int)) = false := by simp; omega
              simp only [nat_byte, e2, hk, d1, cond_false]
          rw [hloop, Option.bind_some, subL_eq (by omega) (by omega) (by simp; omega), Option.bind_some, refPut_eq, Option.bind_some]
          have et : ((c :: r).take (1 + (k : Int)).toNat).drop (0 : Int).toNat = c :: r.take k := by
            rw [show (1 + (k : Int)).toNat = k + 1 by omega]; rfl
          rw [et]
          by_cases h4 : val (r.take k) < 248 ∨ digs (val (r.take k)) < k
          · have : ¬ put (val (r.take k)) = c :: r.take k := fun h => (hpv (by omega)).1 h h4
            rw [if_pos h4, decide_eq_false this]; rfl
          · have : put (val (r.take k)) = c :: r.take k := (hpv (by omega)).2 h4
            rw [if_neg h4, decide_eq_true this]; rfl
/-- What is taken is right, or nothing is taken. -/
theorem take_cases (l : List UInt8) : (∃ (n : Int) (k : Nat), take l = (n, (k : Int), 0) ∧ 0 ≤ n ∧ n ≤ 4294967295 ∧ 1 ≤ k ∧ k ≤ l.length ∧ put n = l.take k) ∨ (∃ e, take l = (0, 0, e) ∧ e ≠ 0) := by
  by_cases h : (take l).2.2 = 0
  · obtain ⟨h1, h2, h3⟩ := put_take l h
    refine .inl ⟨(take l).1, (take l).2.1.toNat, ?_, ?_, ?_, by omega, by omega, h3⟩
    · generalize take l = t at *
      obtain ⟨a, b, c⟩ := t
      dsimp only at *
      rw [h, Int.toNat_of_nonneg (by omega)]
    all_goals
      have hne : ¬ put (take l).1 = [] := by
        intro h0; rw [h0] at h3
        have := congrArg List.length h3
        simp at this; omega
      have hb : ¬ ((take l).1 < 0 ∨ 4294967295 < (take l).1) := fun q => hne ((put_nil (take l).1).2 q)
      omega
  · refine .inr ⟨(take l).2.2, ?_, h⟩
    have : (take l).2.2 = 0 ∨ take l = (0, 0, (take l).2.2) := by
      unfold take
      split
      · exact .inr rfl
      · split
        · exact .inl rfl
        · split
          · exact .inr rfl
          · split
            · exact .inr rfl
            · split
              · exact .inr rfl
              · exact .inl rfl
    rcases this with h' | h'
    · exact absurd h' h
    · exact h'
/-- Numbers where they are due, 0 where not: the error, the numbers, how many bytes. -/
def nums : List Bool → List UInt8 → Int × List Int × Nat
  | [], _ => (0, [], 0)
  | false :: hs, s => ((nums hs s).1, 0 :: (nums hs s).2.1, (nums hs s).2.2)
  | true :: hs, s => if (take s).2.2 ≠ 0 then ((take s).2.2, [], 0) else ((nums hs (s.drop (take s).2.1.toNat)).1, (take s).1 :: (nums hs (s.drop (take s).2.1.toNat)).2.1, (take s).2.1.toNat + (nums hs (s.drop (take s).2.1.toNat)).2.2)
def numsPut : List Bool → List Int → List UInt8
  | true :: hs, n :: ns => put n ++ numsPut hs ns
  | false :: hs, _ :: ns => numsPut hs ns
  | _, _ => []
theorem nums_put : ∀ (hs : List Bool) (ns : List Int) (s : List UInt8), hs.length = ns.length → (∀ k (h1 : k < hs.length) (h2 : k < ns.length), (hs[k] = true → put ns[k] ≠ []) ∧ (hs[k] = false → ns[k] = 0)) → nums hs (numsPut hs ns ++ s) = (0, ns, (numsPut hs ns).length)
  | [], [], s, _, _ => rfl
  | [], _ :: _, _, h, _ => by simp at h
  | _ :: _, [], _, h, _ => by simp at h
  | b :: hs, n :: ns, s, h, hp => by
    have ih := fun s => nums_put hs ns s (by simpa using h) (fun k h1 h2 => hp (k + 1) (by simpa using h1) (by simpa using h2))
    have h0 := hp 0 (by simp) (by simp)
    simp only [List.getElem_cons_zero] at h0
    cases b with
    | false => rw [h0.2 rfl]; simp only [nums, numsPut, ih]
    | true =>
      have ht := take_put n (h0.1 rfl) (numsPut hs ns ++ s)
      have hl := put_length n
      simp only [nums, numsPut, List.append_assoc, ht, ne_eq, not_true_eq_false, if_false]
      have e : (size n).toNat = (put n).length := by omega
      rw [e, List.drop_left, ih, List.length_append]
theorem put_nums : ∀ (hs : List Bool) (s : List UInt8), (nums hs s).1 = 0 → (nums hs s).2.2 ≤ s.length ∧ numsPut hs (nums hs s).2.1 = s.take (nums hs s).2.2 ∧ (nums hs s).2.1.length = hs.length ∧ ∀ k (h1 : k < hs.length) (h2 : k < (nums hs s).2.1.length), (0 ≤ (nums hs s).2.1[k] ∧ (nums hs s).2.1[k] ≤ 4294967295) ∧ (hs[k] = false → (nums hs s).2.1[k] = 0)
  | [], s, _ => by simp [nums, numsPut]
  | false :: hs, s, h => by
    obtain ⟨h1, h2, h3, h4⟩ := put_nums hs s h
    refine ⟨h1, h2, by simp [nums, h3], fun k k1 k2 => ?_⟩
    cases k with
    | zero => simp [nums]
    | succ k => exact h4 k (by simpa using k1) (by simpa [nums] using k2)
  | true :: hs, s, h => by
    rcases take_cases s with ⟨n, m, ht, n0, n1, m0, m1, hp⟩ | ⟨e, ht, he⟩
    · simp only [nums, ht, ne_eq, not_true_eq_false, if_false, Int.toNat_natCast] at h ⊢
      obtain ⟨h1, h2, h3, h4⟩ := put_nums hs (s.drop m) h
      simp only [List.length_drop] at h1
      refine ⟨by omega, ?_, by simp [h3], fun k k1 k2 => ?_⟩
      · simp only [numsPut, hp, h2, List.take_add]
      · cases k with
        | zero => exact ⟨⟨n0, n1⟩, fun h => by simp at h⟩
        | succ k => exact h4 k (by simpa using k1) (by simpa using k2)
    · simp [nums, ht, he] at h
end Go.Proofs.YtmdmdmaekjpfjaaGreat
