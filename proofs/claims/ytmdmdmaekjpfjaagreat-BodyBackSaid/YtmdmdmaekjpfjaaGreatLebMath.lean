import Derived.Test.YtmdmdmaekjpfjaaGreatKit
namespace Go.Proofs.YtmdmdmaekjpfjaaGreat
open Go.RowKit
set_option linter.unusedVariables false
namespace Lb
def u8 (n : Int) : UInt8 := UInt8.ofNat n.toNat
theorem u8_toNat (n : Int) (h0 : 0 ≤ n) (h1 : n < 256) : ((u8 n).toNat : Int) = n := by
  have : (u8 n).toNat = n.toNat % 256 := by simp [u8]
  omega
theorem u8_mod (n : Int) (h0 : 0 ≤ n) : u8 (n % 256) = u8 n := by
  apply UInt8.toNat_inj.1
  have a : (u8 (n % 256)).toNat = (n % 256).toNat % 256 := by simp [u8]
  have b : (u8 n).toNat = n.toNat % 256 := by simp [u8]
  omega
/-- How many digits to the base 256. -/
def digs (n : Int) : Nat := if n ≤ 0 then 0 else if n < 256 then 1 else if n < 65536 then 2 else if n < 16777216 then 3 else 4
theorem digs_step (m : Int) (h0 : 0 < m) (h1 : m ≤ 4294967295) : digs m = digs (m / 256) + 1 := by
  unfold digs
  have : 0 ≤ m / 256 ∧ (m / 256) * 256 ≤ m ∧ m < (m / 256) * 256 + 256 := by omega
  repeat (first | rw [if_pos (by omega)] | rw [if_neg (by omega)])
  split
  · repeat (first | rw [if_pos (by omega)] | rw [if_neg (by omega)])
  · split
    · repeat (first | rw [if_pos (by omega)] | rw [if_neg (by omega)])
    · split
      · repeat (first | rw [if_pos (by omega)] | rw [if_neg (by omega)])
      · repeat (first | rw [if_pos (by omega)] | rw [if_neg (by omega)])
theorem digs_le (m : Int) : digs m ≤ 4 := by unfold digs; repeat (split <;> try omega)
theorem digs_pos (m : Int) (h : 0 < m) : 1 ≤ digs m := by unfold digs; rw [if_neg (by omega)]; repeat (split <;> try omega)
/-- The j lowest digits, the highest first. -/
def low : Nat → Int → List UInt8
  | 0, _ => []
  | j + 1, n => u8 (n / 256 ^ j % 256) :: low j n
theorem low_length (j : Nat) (n : Int) : (low j n).length = j := by induction j <;> simp_all [low]
theorem low_snoc : ∀ (j : Nat) (n : Int), 0 ≤ n → low (j + 1) n = low j (n / 256) ++ [u8 (n % 256)]
  | 0, n, h => by simp [low]
  | j + 1, n, h => by
    have ih := low_snoc j n h
    show u8 (n / 256 ^ (j + 1) % 256) :: low (j + 1) n = u8 (n / 256 / 256 ^ j % 256) :: low j (n / 256) ++ [u8 (n % 256)]
    rw [ih, Int.ediv_ediv_of_nonneg (by omega : (0:Int) ≤ 256)]
    have : (256 : Int) * 256 ^ j = 256 ^ (j + 1) := by rw [Int.pow_succ, Int.mul_comm]
    rw [this]; rfl
def put (n : Int) : List UInt8 := if n < 0 ∨ 4294967295 < n then [] else if n < 248 then [u8 n] else u8 (247 + digs n) :: low (digs n) n
def size (n : Int) : Int := if n < 0 ∨ 4294967295 < n then 0 else if n < 248 then 1 else 1 + digs n
theorem put_length (n : Int) : ((put n).length : Int) = size n := by
  unfold put size
  split
  · rfl
  · split
    · rfl
    · simp [low_length]; omega
def val : List UInt8 → Int
  | l => l.foldl (fun n c => n * 256 + c.toNat) 0
theorem val_snoc (l : List UInt8) (c : UInt8) : val (l ++ [c]) = val l * 256 + c.toNat := by simp [val]
theorem val_bd : ∀ (l : List UInt8), 0 ≤ val l ∧ val l < 256 ^ l.length := by
  intro l
  refine snoc_ind (P := fun l => 0 ≤ val l ∧ val l < 256 ^ l.length) ?_ (fun l c ih => ?_) l
  · simp [val]
  · rw [val_snoc]
    have hc : (c.toNat : Int) < 256 := by have := c.toNat_lt; omega
    simp only [List.length_append, List.length_singleton, Int.pow_succ]
    omega
theorem low_val : ∀ l : List UInt8, low l.length (val l) = l := by
  intro l
  refine snoc_ind (P := fun l => low l.length (val l) = l) ?_ (fun l c ih => ?_) l
  · rfl
  · have hb := val_bd l
    have hc : (c.toNat : Int) < 256 := by have := c.toNat_lt; omega
    rw [val_snoc, List.length_append, List.length_singleton, low_snoc _ _ (by omega)]
    have e1 : (val l * 256 + c.toNat) / 256 = val l := by omega
    have e2 : (val l * 256 + c.toNat) % 256 = c.toNat := by omega
    rw [e1, e2, ih]
    have : u8 (c.toNat : Int) = c := by apply UInt8.toNat_inj.1; have := u8_toNat c.toNat (by omega) hc; omega
    rw [this]
theorem val_low : ∀ (j : Nat) (n : Int), 0 ≤ n → n < 256 ^ j → val (low j n) = n
  | 0, n, h0, h1 => by simp at h1; simp [low, val]; omega
  | j + 1, n, h0, h1 => by
    rw [Int.pow_succ] at h1
    rw [low_snoc j n h0, val_snoc, val_low j (n / 256) (by omega) (by omega), u8_toNat _ (by omega) (by omega)]
    omega
theorem lt_pow_digs (n : Int) (h0 : 0 ≤ n) (h1 : n ≤ 4294967295) : n < 256 ^ digs n := by
  unfold digs
  split
  · simp; omega
  · split
    · simp; omega
    · split
      · simp; omega
      · split <;> simp <;> omega
theorem digs_le_of (n : Int) (j : Nat) (h : n < 256 ^ j) (hj : j ≤ 4) : digs n ≤ j := by
  unfold digs
  rcases j with _ | _ | _ | _ | _ | j
  case succ.succ.succ.succ.succ => omega
  all_goals (simp at h; repeat (split <;> try omega))
/-- What is taken of bytes: the number, how many bytes, the error. -/
def take (l : List UInt8) : Int × Int × Int :=
  match l with
  | [] => (0, 0, 4)
  | c :: r =>
    if c.toNat < 248 then (c.toNat, 1, 0)
    else if 251 < c.toNat then (0, 0, 3)
    else if r.length < c.toNat - 247 then (0, 0, 4)
    else if val (r.take (c.toNat - 247)) < 248 ∨ digs (val (r.take (c.toNat - 247))) < c.toNat - 247 then (0, 0, 3)
    else (val (r.take (c.toNat - 247)), 1 + ((c.toNat - 247 : Nat) : Int), 0)
theorem u8_of (c : UInt8) : u8 c.toNat = c := by
  apply UInt8.toNat_inj.1
  have := u8_toNat c.toNat (by omega) (by have := c.toNat_lt; omega)
  omega
/-- The digits behind a first byte make just the number's bytes, if there are not too many of them. -/
theorem put_val (c : UInt8) (r : List UInt8) (hc : 248 ≤ c.toNat) (hc' : c.toNat ≤ 251) (hr : c.toNat - 247 ≤ r.length) :
    (put (val (r.take (c.toNat - 247))) = c :: r.take (c.toNat - 247)) ↔ ¬ (val (r.take (c.toNat - 247)) < 248 ∨ digs (val (r.take (c.toNat - 247))) < c.toNat - 247) := by
  have hl : (r.take (c.toNat - 247)).length = c.toNat - 247 := by rw [List.length_take]; omega
  generalize hk : c.toNat - 247 = k at *
  have hb := val_bd (r.take k)
  have hlow := low_val (r.take k)
  rw [hl] at hb hlow
  generalize hd : r.take k = d at *
  have hk4 : k ≤ 4 := by omega
  have hbd : val d ≤ 4294967295 := by
    have : (256 : Int) ^ k ≤ 256 ^ 4 := by rcases k with _ | _ | _ | _ | _ | k <;> first | omega | decide
    have e4 : (256 : Int) ^ 4 = 4294967296 := by decide
    omega
  have hdg := digs_le_of (val d) k hb.2 hk4
  constructor
  · intro e
    unfold put at e
    rw [if_neg (by omega)] at e
    split at e
    · have := congrArg List.length e; simp [hl] at this; omega
    · rename_i h1
      have h2 := (List.cons.inj e).2
      have h3 := congrArg List.length h2
      rw [low_length, hl] at h3
      omega
  · intro h
    unfold put
    rw [if_neg (by omega), if_neg (by omega)]
    have e : digs (val d) = k := by omega
    rw [e, hlow]
    have : (247 + (k : Int)) = c.toNat := by omega
    rw [this, u8_of]
theorem take_put (n : Int) (h : put n ≠ []) (s : List UInt8) : take (put n ++ s) = (n, size n, 0) := by
  unfold put at h ⊢
  unfold size
  split at h
  · exact absurd rfl h
  · rename_i hv
    rw [if_neg hv, if_neg hv]
    by_cases h1 : n < 248
    · rw [if_pos h1, if_pos h1]
      have := u8_toNat n (by omega) (by omega)
      unfold take
      simp only [List.singleton_append]
      rw [if_pos (by omega), this]
    · rw [if_neg h1, if_neg h1]
      have hd := digs_le n
      have hp := digs_pos n (by omega)
      have hu := u8_toNat (247 + digs n) (by omega) (by omega)
      have hn : (u8 (247 + digs n)).toNat - 247 = digs n := by omega
      unfold take
      simp only [List.cons_append]
      rw [hn, if_neg (by omega), if_neg (by omega), if_neg (by simp [low_length])]
      have e : (low (digs n) n ++ s).take (digs n) = low (digs n) n := by
        have := List.take_left (l₁ := low (digs n) n) (l₂ := s); rwa [low_length] at this
      rw [e, val_low _ _ (by omega) (lt_pow_digs n (by omega) (by omega)), if_neg (by omega)]
/-- What is taken is, put, the bytes that were taken. -/
theorem put_take (l : List UInt8) (h : (take l).2.2 = 0) : 1 ≤ (take l).2.1 ∧ (take l).2.1 ≤ l.length ∧ put (take l).1 = l.take (take l).2.1.toNat := by
  unfold take at h ⊢
  match l with
  | [] => simp at h
  | c :: r =>
    simp only at h ⊢
    by_cases h1 : c.toNat < 248
    · simp only [if_pos h1]
      refine ⟨by omega, by simp; omega, ?_⟩
      unfold put
      rw [if_neg (by omega), if_pos (by omega), u8_of]; rfl
    · simp only [if_neg h1] at h ⊢
      by_cases h2 : 251 < c.toNat
      · simp [if_pos h2] at h
      · simp only [if_neg h2] at h ⊢
        by_cases h3 : r.length < c.toNat - 247
        · simp [if_pos h3] at h
        · simp only [if_neg h3] at h ⊢
          by_cases h4 : val (r.take (c.toNat - 247)) < 248 ∨ digs (val (r.take (c.toNat - 247))) < c.toNat - 247
          · simp [if_pos h4] at h
          · simp only [if_neg h4]
            refine ⟨by omega, by simp; omega, ?_⟩
            rw [(put_val c r (by omega) (by omega) (by omega)).2 h4]
            have : (1 + ((c.toNat - 247 : Nat) : Int)).toNat = (c.toNat - 247) + 1 := by omega
            rw [this, List.take_succ_cons]
theorem put_len5 (n : Int) : (put n).length ≤ 5 := by
  have h1 := put_length n
  have h2 := digs_le n
  unfold size at h1
  split at h1
  · omega
  · split at h1 <;> omega
theorem putAll_length (m : List Int) : (m.flatMap put).length ≤ m.length * 5 := by
  induction m with
  | nil => simp
  | cons a r ih =>
    have := put_len5 a
    simp only [List.flatMap_cons, List.length_append, List.length_cons]
    omega
theorem putAll_snoc (l : List Int) (k : Nat) (h : k < l.length) : (l.take (k + 1)).flatMap put = (l.take k).flatMap put ++ put (l.getD k 0) := by
  rw [List.take_succ_eq_append_getElem h, List.flatMap_append]
  simp [List.getD, List.getElem?_eq_getElem h]
theorem put_nil (n : Int) : put n = [] ↔ (n < 0 ∨ 4294967295 < n) := by
  unfold put
  split
  · simp [*]
  · split <;> simp [*]
end Lb
end Go.Proofs.YtmdmdmaekjpfjaaGreat
