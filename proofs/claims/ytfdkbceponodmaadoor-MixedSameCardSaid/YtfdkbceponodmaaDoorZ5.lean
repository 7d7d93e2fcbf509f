/- 'easement/easementlaw05.MixedSame' returns true for every input, and each argument reads afterwards as it read before: the row's frame round the walk. -/
import Derived.Test.YtfdkbceponodmaaDoorZ4
import Derived.Lib.RowBridge
import Derived.Test.YtfdkbceponodmaaDoorRows
import Derived.Lib.LaidTab
import Derived.Test.YtfdkbceponodmaaDoorCards
import Derived.Test.YtfdkbceponodmaaDoorTie
import Derived.Lay
import Derived.SevenTiedAt
namespace Go.Proofs.YtfdkbceponodmaaDoor
set_option linter.unusedVariables false
section
variable {σ β : Type} {body : σ → Option (σ ⊕ β)}
theorem loop_nat (st : Nat → σ) (n : Nat) {b : β} (h : ∀ k, k < n → body (st k) = some (.inl (st (k + 1)))) (he : body (st n) = some (.inr b)) : loop body (st 0) = some b := by
  have : ∀ m k, k + m = n → loop body (st k) = some b := by
    intro m
    induction m with
    | zero => intro k hk; have : k = n := by omega
              subst this; exact loop_end he
    | succ m ih => intro k hk; rw [loop_next (h k (by omega))]; exact ih (k + 1) (by omega)
  exact this n 0 (by omega)
theorem least (p : Nat → Prop) : ∀ n, (∃ k, k < n ∧ p k ∧ ∀ j, j < k → ¬ p j) ∨ ∀ j, j < n → ¬ p j
  | 0 => .inr (fun j hj => by omega)
  | n + 1 => by
    rcases least p n with ⟨k, h1, h2, h3⟩ | h
    · exact .inl ⟨k, by omega, h2, h3⟩
    · by_cases hp : p n
      · exact .inl ⟨n, by omega, hp, h⟩
      · exact .inr (fun j hj => if e : j = n then e ▸ hp else h j (by omega))
theorem loop_find (p : Nat → Prop) (st : Nat → σ) (n : Nat) (hit : Nat → β) (e : β) (hgo : ∀ k, k < n → ¬ p k → body (st k) = some (.inl (st (k + 1)))) (hhit : ∀ k, k < n → p k → body (st k) = some (.inr (hit k))) (hend : body (st n) = some (.inr e)) :
    (∃ k, k < n ∧ p k ∧ (∀ j, j < k → ¬ p j) ∧ loop body (st 0) = some (hit k)) ∨ ((∀ j, j < n → ¬ p j) ∧ loop body (st 0) = some e) := by
  rcases least p n with ⟨k, h1, h2, h3⟩ | h
  · exact .inl ⟨k, h1, h2, h3, loop_nat st k (fun j hj => hgo j (by omega) (h3 j hj)) (hhit k h1 h2)⟩
  · exact .inr ⟨h, loop_nat st n (fun k hk => hgo k hk (h k hk)) hend⟩
open Classical in
theorem loop_any (p : Nat → Prop) (st : Nat → σ) (n : Nat) (b e : β) (hgo : ∀ k, k < n → ¬ p k → body (st k) = some (.inl (st (k + 1)))) (hhit : ∀ k, k < n → p k → body (st k) = some (.inr b)) (hend : body (st n) = some (.inr e)) :
    loop body (st 0) = some (if ∃ k, k < n ∧ p k then b else e) := by
  rcases loop_find p st n (fun _ => b) e hgo hhit hend with ⟨k, h1, h2, h3, h4⟩ | ⟨h1, h2⟩
  · rw [if_pos ⟨k, h1, h2⟩]; exact h4
  · rw [if_neg (fun ⟨k, h3, h4⟩ => h1 k h3 h4)]; exact h2
end
theorem w64 {x : Int} (h1 : -9223372036854775808 ≤ x) (h2 : x ≤ 9223372036854775807) : IntKind.wrap .i64 x = x := by
  rw [IntWalk.i64_left, IntWalk.wrap64_in _ ⟨h1, h2⟩]
theorem w64s {k n : Nat} (h : k < n) (hn : n ≤ 9223372036854775807) : IntKind.wrap .i64 ((k : Int) + 1) = ((k + 1 : Nat) : Int) := by
  rw [w64 (by omega) (by omega)]; rfl
theorem ne_list {α : Type} {xs ys : List α} (h : xs.length = ys.length) : (∃ k, k < xs.length ∧ xs[k]? ≠ ys[k]?) ↔ xs ≠ ys := by
  constructor
  · rintro ⟨k, _, h2⟩ rfl; exact h2 rfl
  · intro hne
    rcases least (fun k => xs[k]? ≠ ys[k]?) xs.length with ⟨k, h1, h2, _⟩ | h'
    · exact ⟨k, h1, h2⟩
    · exfalso; apply hne
      apply List.ext_getElem? 
      intro k
      by_cases hk : k < xs.length
      · exact Classical.byContradiction (fun hc => h' k hk hc)
      · rw [List.getElem?_eq_none (by omega), List.getElem?_eq_none (by omega)]
theorem getN {α : Type} {l : List α} {k : Nat} (h : k < l.length) : getI l (k : Int) = some l[k] := getI_eq rfl h
theorem any_ex {α : Type} {t : α → Bool} {l : List α} : l.any t = true ↔ ∃ k, k < l.length ∧ (l[k]?.map t) = some true := by
  rw [List.any_eq_true]
  constructor
  · rintro ⟨x, hx, h⟩
    obtain ⟨k, hk, rfl⟩ := List.getElem_of_mem hx
    exact ⟨k, hk, by simp [hk, h]⟩
  · rintro ⟨k, hk, h⟩
    exact ⟨l[k], List.getElem_mem hk, by simpa [hk] using h⟩
/-- A list searched. -/
theorem loop_one {α β : Type} (xa : List α) (t : α → Bool) (hit e : β) (hn : xa.length ≤ 9223372036854775807) :
    loop (fun (i : Int) => (cond (decide (i < ((xa.length : Nat) : Int))) ((getI xa i).bind fun x => cond (t x) (some (.inr hit)) (some (.inl (IntKind.wrap .i64 (i + 1))))) (some (.inr e)) : Option (Int ⊕ β))) 0 = some (if xa.any t then hit else e) := by
  classical
  have h := loop_any (body := fun (i : Int) => (cond (decide (i < ((xa.length : Nat) : Int))) ((getI xa i).bind fun x => cond (t x) (some (.inr hit)) (some (.inl (IntKind.wrap .i64 (i + 1))))) (some (.inr e)) : Option (Int ⊕ β)))
    (fun k => (xa[k]?.map t) = some true) (fun k : Nat => (k : Int)) xa.length hit e ?_ ?_ ?_
  · refine h.trans ?_
    by_cases hh : xa.any t = true
    · rw [if_pos (any_ex.1 hh), if_pos hh]
    · rw [if_neg (fun h => hh (any_ex.2 h)), if_neg hh]
  · intro k hk hp
    simp [hk] at hp
    simp [hk, getN hk, hp, w64s hk hn]
  · intro k hk hp
    simp [hk] at hp
    simp [hk, getN hk, hp]
  · simp
/-- Two lists searched, hand in hand. -/
theorem loop_two {α γ β : Type} (xa : List α) (xb : List γ) (t : α → γ → Bool) (hit e : β) (hl : xa.length = xb.length) (hn : xa.length ≤ 9223372036854775807) :
    loop (fun (i : Int) => (cond (decide (i < ((xa.length : Nat) : Int))) ((getI xa i).bind fun x => (getI xb i).bind fun y => cond (t x y) (some (.inr hit)) (some (.inl (IntKind.wrap .i64 (i + 1))))) (some (.inr e)) : Option (Int ⊕ β))) 0 = some (if (xa.zip xb).any (fun p => t p.1 p.2) then hit else e) := by
  classical
  have hz : (xa.zip xb).length = xa.length := by simp [hl]
  have h := loop_any (body := fun (i : Int) => (cond (decide (i < ((xa.length : Nat) : Int))) ((getI xa i).bind fun x => (getI xb i).bind fun y => cond (t x y) (some (.inr hit)) (some (.inl (IntKind.wrap .i64 (i + 1))))) (some (.inr e)) : Option (Int ⊕ β)))
    (fun k => ((xa.zip xb)[k]?.map fun p => t p.1 p.2) = some true) (fun k : Nat => (k : Int)) xa.length hit e ?_ ?_ ?_
  · refine h.trans ?_
    have ha := any_ex (t := fun p : α × γ => t p.1 p.2) (l := xa.zip xb)
    rw [hz] at ha
    by_cases hh : (xa.zip xb).any (fun p => t p.1 p.2) = true
    · rw [if_pos (ha.1 hh), if_pos hh]
    · rw [if_neg (fun h => hh (ha.2 h)), if_neg hh]
  · intro k hk hp
    have hk2 : k < xb.length := by omega
    have hk3 : k < (xa.zip xb).length := by omega
    have hz3 : (xa.zip xb)[k]? = some (xa[k], xb[k]) := by rw [List.getElem?_eq_getElem hk3, List.getElem_zip]
    rw [hz3] at hp
    simp at hp
    simp [hk, getN hk, getN hk2, hp, w64s hk hn]
  · intro k hk hp
    have hk2 : k < xb.length := by omega
    have hk3 : k < (xa.zip xb).length := by omega
    have hz3 : (xa.zip xb)[k]? = some (xa[k], xb[k]) := by rw [List.getElem?_eq_getElem hk3, List.getElem_zip]
    rw [hz3] at hp
    simp at hp
    simp [hk, getN hk, getN hk2, hp]
  · simp
theorem zip_any_ne {α : Type} [DecidableEq α] {xs ys : List α} (h : xs.length = ys.length) : (xs.zip ys).any (fun p => !decide (p.1 = p.2)) = !decide (xs = ys) := by
  induction xs generalizing ys with
  | nil => cases ys with
    | nil => rfl
    | cons => cases h
  | cons x xs ih => cases ys with
    | nil => cases h
    | cons y ys =>
      simp only [List.zip_cons_cons, List.any_cons, ih (by simpa using h), List.cons.injEq]
      by_cases h1 : x = y <;> simp [h1]
/-- A list searched for a place. -/
theorem loop_idx {α γ : Type} (xa : List α) (t : α → γ → Bool) (q : γ) (hn : xa.length ≤ 9223372036854775807) :
    ∃ r, loop (fun ((i, c) : Int × γ) => (cond (decide (i < ((xa.length : Nat) : Int))) ((getI xa i).bind fun x => cond (t x c) (some (.inr (.inr (i, c)))) (some (.inl (IntKind.wrap .i64 (i + 1), c)))) (some (.inr (.inl c))) : Option ((Int × γ) ⊕ (γ ⊕ (Int × γ))))) (0, q) = some r ∧ ((r = .inl q ∧ xa.any (t · q) = false) ∨ ∃ k : Nat, r = .inr ((k : Int), q) ∧ xa.any (t · q) = true) := by
  have h := loop_find (body := fun ((i, c) : Int × γ) => (cond (decide (i < ((xa.length : Nat) : Int))) ((getI xa i).bind fun x => cond (t x c) (some (.inr (.inr (i, c)))) (some (.inl (IntKind.wrap .i64 (i + 1), c)))) (some (.inr (.inl c))) : Option ((Int × γ) ⊕ (γ ⊕ (Int × γ)))))
    (fun k => (xa[k]?.map (t · q)) = some true) (fun k : Nat => ((k : Int), q)) xa.length (fun k => .inr ((k : Int), q)) (.inl q) ?_ ?_ ?_
  · rcases h with ⟨k, h1, h2, _, h3⟩ | ⟨h1, h2⟩
    · exact ⟨_, h3, .inr ⟨k, rfl, any_ex.2 ⟨k, h1, h2⟩⟩⟩
    · refine ⟨_, h2, .inl ⟨rfl, ?_⟩⟩
      cases hh : xa.any (t · q) with
      | false => rfl
      | true => obtain ⟨k, h3, h4⟩ := any_ex.1 hh; exact absurd h4 (h1 k h3)
  · intro k hk hp
    simp [hk] at hp
    simp [hk, getN hk, hp, w64s hk hn]
  · intro k hk hp
    simp [hk] at hp
    simp [hk, getN hk, hp]
  · simp
/-- A list gone through, with something carried along. -/
theorem loop_fold {α γ : Type} (xa : List α) (f : γ → α → γ) (c0 : γ) (hn : xa.length ≤ 9223372036854775807) {body : γ × Int → Option ((γ × Int) ⊕ γ)}
    (hb : ∀ k x, xa[k]? = some x → body ((xa.take k).foldl f c0, (k : Int)) = some (.inl (f ((xa.take k).foldl f c0) x, IntKind.wrap .i64 ((k : Int) + 1)))) (he : body (xa.foldl f c0, (xa.length : Int)) = some (.inr (xa.foldl f c0))) : loop body (c0, 0) = some (xa.foldl f c0) := by
  have h := loop_nat (body := body) (fun k : Nat => ((xa.take k).foldl f c0, (k : Int))) xa.length (b := xa.foldl f c0) ?_ ?_
  · simpa using h
  · intro k hk
    rw [hb k xa[k] (by simp [hk]), w64s hk hn]
    congr 3
    rw [List.take_succ_eq_append_getElem hk, List.foldl_append]; rfl
  · simpa using he
theorem foldl_snoc {α γ : Type} (g : α → γ) (xa : List α) (c : List γ) : xa.foldl (fun c x => c ++ [g x]) c = c ++ xa.map g := by
  induction xa generalizing c with
  | nil => simp
  | cons x xa ih => simp [ih]
/-- A list built by going through another. -/
theorem loop_map {α γ : Type} (xa : List α) (g : α → γ) (c0 : List γ) (hn : c0.length + xa.length ≤ 1073741824) {body : List γ × Int → Option ((List γ × Int) ⊕ List γ)}
    (hb : ∀ (c : List γ) (i : Int), body (c, i) = cond (decide (i < ((xa.length : Nat) : Int))) ((getI xa i).bind fun x => (app c [g x]).bind fun z => some (.inl (z, IntKind.wrap .i64 (i + 1)))) (some (.inr c))) : loop body (c0, 0) = some (c0 ++ xa.map g) := by
  rw [← foldl_snoc]
  refine loop_fold xa (fun c x => c ++ [g x]) c0 (by omega) (fun k x hx => ?_) ?_
  · have hk := (List.getElem?_eq_some_iff.1 hx).1
    rw [hb, foldl_snoc]
    have hx' : xa[k] = x := by rw [List.getElem?_eq_getElem hk] at hx; exact Option.some.inj hx
    have ha := app_eq (a := c0 ++ (xa.take k).map g) (b := [g x]) (by simp; omega)
    simp only [Option.bind_some, getN hk, hx', ha, Int.ofNat_lt.2 hk, decide_true, cond_true]
  · rw [hb]; simp
end Go.Proofs.YtfdkbceponodmaaDoor
namespace Go.Proofs.YtfdkbceponodmaaDoor
open Go.RowKit
set_option linter.unusedVariables false
set_option linter.unusedSimpArgs false
set_option linter.unnecessarySimpa false
/-! ### Bits of a word. -/
theorem ofInt_nat (x : Nat) : BitVec.ofInt 64 (x : Int) = BitVec.ofNat 64 x := by simp
theorem wrapU (x : Nat) (h : x < 18446744073709551616) : IntKind.wrap .u64 (x : Int) = (x : Int) := by
  rw [IntKind.wrap_u64]
  omega
theorem pow_lt64 {k : Nat} (hk : k < 64) : 2 ^ k < 18446744073709551616 := Nat.pow_lt_pow_right (by decide) hk
theorem one_pow {k : Nat} (hk : k < 64) : IntKind.wrap .u64 (1 * 2 ^ (min k (IntKind.bits .u64))) = ((2 ^ k : Nat) : Int) := by
  have h1 : min k (IntKind.bits .u64) = k := Nat.min_eq_left (Nat.le_of_lt hk)
  rw [h1, Int.one_mul]
  have := wrapU (2 ^ k) (pow_lt64 hk)
  rw [← this]
  congr 1
theorem andU (x y : Nat) (hx : x < 18446744073709551616) (hy : y < 18446744073709551616) : IntKind.wrap .u64 ((BitVec.ofInt (IntKind.bits .u64) (x : Int) &&& BitVec.ofInt (IntKind.bits .u64) (y : Int)).toNat : Int) = ((x &&& y : Nat) : Int) := by
  show IntKind.wrap .u64 ((BitVec.ofInt 64 (x : Int) &&& BitVec.ofInt 64 (y : Int)).toNat : Int) = _
  rw [ofInt_nat, ofInt_nat, BitVec.toNat_and, BitVec.toNat_ofNat, BitVec.toNat_ofNat, Nat.mod_eq_of_lt hx, Nat.mod_eq_of_lt hy]
  exact wrapU _ (Nat.and_lt_two_pow (n := 64) _ hy)
theorem orU (x y : Nat) (hx : x < 18446744073709551616) (hy : y < 18446744073709551616) : IntKind.wrap .u64 ((BitVec.ofInt (IntKind.bits .u64) (x : Int) ||| BitVec.ofInt (IntKind.bits .u64) (y : Int)).toNat : Int) = ((x ||| y : Nat) : Int) := by
  show IntKind.wrap .u64 ((BitVec.ofInt 64 (x : Int) ||| BitVec.ofInt 64 (y : Int)).toNat : Int) = _
  rw [ofInt_nat, ofInt_nat, BitVec.toNat_or, BitVec.toNat_ofNat, BitVec.toNat_ofNat, Nat.mod_eq_of_lt hx, Nat.mod_eq_of_lt hy]
  exact wrapU _ (Nat.or_lt_two_pow (n := 64) hx hy)
/-- One bit, looked at. -/
theorem and_bit (x k : Nat) : (x &&& 2 ^ k = 0) ↔ x.testBit k = false := by
  constructor
  · intro h
    have := congrArg (fun n => n.testBit k) h
    simpa [Nat.testBit_and, Nat.testBit_two_pow_self] using this
  · intro h
    apply Nat.eq_of_testBit_eq
    intro i
    rw [Nat.testBit_and, Nat.testBit_two_pow, Nat.zero_testBit]
    by_cases hi : k = i
    · subst hi; simp [h]
    · simp [hi]
theorem or_bit (x k i : Nat) : (x ||| 2 ^ k).testBit i = (x.testBit i || decide (k = i)) := by
  rw [Nat.testBit_or, Nat.testBit_two_pow]
/-- A word of a set. -/
def Wd (w : Int) : Prop := 0 ≤ w ∧ w < 18446744073709551616
/-- Is it a member? -/
def mem (l : List Int) (i : Nat) : Bool := match l[i / 64]? with | some w => w.toNat.testBit (i % 64) | none => false
/-- A set of size n in words. -/
structure Ds (n : Nat) (l : List Int) : Prop where
  hn : n ≤ 1048576
  len : l.length = (n + 63) / 64
  wd : ∀ w ∈ l, Wd w
  top : ∀ i, n ≤ i → mem l i = false
theorem mayHave_some {n : Nat} {l : List Int} (i : Int) : fn_dense_Set_mayHave (some ((n : Int), l)) i = some (decide (0 ≤ i ∧ i < n)) := by
  unfold fn_dense_Set_mayHave
  rw [show fn_dense_Set_Size (some ((n : Int), l)) = some (n : Int) from rfl]
  by_cases h : 0 ≤ i
  · simp [h]
  · simp [h]
theorem Ds.word {n : Nat} {l : List Int} (h : Ds n l) {k : Nat} (hk : k < n) : ∃ x : Nat, l[k / 64]? = some (x : Int) ∧ x < 18446744073709551616 := by
  have hl : k / 64 < l.length := by rw [h.len]; omega
  refine ⟨(l[k / 64]).toNat, ?_, ?_⟩
  · rw [List.getElem?_eq_getElem hl, Int.toNat_of_nonneg (h.wd _ (List.getElem_mem hl)).1]
  · have := h.wd _ (List.getElem_mem hl)
    unfold Wd at this
    omega
theorem mem_of {l : List Int} {k x : Nat} (h : l[k / 64]? = some (x : Int)) : mem l k = x.testBit (k % 64) := by
  unfold mem
  rw [h]
  simp
/-- Has. -/
theorem Has_some {n : Nat} {l : List Int} (h : Ds n l) (i : Int) : fn_dense_Set_Has (some ((n : Int), l)) i = some (decide (0 ≤ i ∧ i < n) && mem l i.toNat) := by
  unfold fn_dense_Set_Has
  rw [mayHave_some]
  by_cases hi : 0 ≤ i ∧ i < n
  · obtain ⟨k, rfl⟩ := Int.eq_ofNat_of_zero_le hi.1
    have hk : k < n := by omega
    have hn := h.hn
    obtain ⟨x, hx, hx2⟩ := h.word hk
    have e1 : IntKind.wrap .i64 (Int.tdiv (k : Int) 64) = ((k / 64 : Nat) : Int) := by
      rw [show Int.tdiv (k : Int) 64 = ((k / 64 : Nat) : Int) from rfl]
      exact w64 (by omega) (by omega)
    have e2 : Int.tmod (k : Int) 64 = ((k % 64 : Nat) : Int) := rfl
    have g : getI l ((k / 64 : Nat) : Int) = some (x : Int) := by
      unfold getI
      rw [if_pos (Int.natCast_nonneg _), Int.toNat_natCast]
      exact hx
    have hd : decide (0 ≤ (k : Int) ∧ (k : Int) < n) = true := by simpa using hk
    rw [hd, e1, e2]
    simp only [Option.bind_some, cond_true, g, ge0_eq (Int.natCast_nonneg _), Int.toNat_natCast, Bool.true_and]
    have E : IntKind.wrap .u64 ((BitVec.ofInt (IntKind.bits .u64) (x : Int) &&& BitVec.ofInt (IntKind.bits .u64) (IntKind.wrap .u64 (1 * 2 ^ (min (k % 64) (IntKind.bits .u64))))).toNat : Int) = ((x &&& 2 ^ (k % 64) : Nat) : Int) := by
      rw [one_pow (Nat.mod_lt k (by decide))]
      exact andU x _ hx2 (pow_lt64 (Nat.mod_lt k (by decide)))
    simp only [E, mem_of hx]
    have hb := and_bit x (k % 64)
    cases ht : x.testBit (k % 64) with
    | false => simp [hb.2 ht]
    | true =>
      have : ¬ (x &&& 2 ^ (k % 64) = 0) := fun e => by rw [hb.1 e] at ht; cases ht
      have h2 : ¬ (((x &&& 2 ^ (k % 64) : Nat) : Int) = 0) := by omega
      rw [decide_eq_false h2]
      rfl
  · rw [decide_eq_false hi]
    rfl
theorem mem_set {l : List Int} {q x y : Nat} (hq : l[q]? = some (x : Int)) (j : Nat) : mem (l.set q (y : Int)) j = if j / 64 = q then y.testBit (j % 64) else mem l j := by
  unfold mem
  rw [List.getElem?_set]
  have hlt : q < l.length := (List.getElem?_eq_some_iff.1 hq).1
  by_cases hj : j / 64 = q
  · rw [if_pos hj.symm, if_pos hj, ← hj] 
    simp [hj, hlt]
  · rw [if_neg (fun e => hj e.symm), if_neg hj]
/-- Add. -/
theorem Add_some {n : Nat} {l : List Int} (h : Ds n l) (i : Int) : ∃ l', fn_dense_Set_Add_p0i_ir i n l = some (decide (0 ≤ i ∧ i < n) && !mem l i.toNat, l') ∧ Ds n l' ∧ ∀ j, mem l' j = (mem l j || decide ((0 ≤ i ∧ i < n) ∧ i.toNat = j)) := by
  unfold fn_dense_Set_Add_p0i_ir
  rw [mayHave_some, Has_some h]
  by_cases hi : 0 ≤ i ∧ i < n
  · rw [decide_eq_true hi]
    cases hm : mem l i.toNat with
    | true => exact ⟨l, rfl, h, fun j => by
        by_cases hj : i.toNat = j
        · subst hj; simp [hm]
        · simp [hj]⟩
    | false =>
      obtain ⟨k, rfl⟩ := Int.eq_ofNat_of_zero_le hi.1
      have hk : k < n := by omega
      have hn := h.hn
      obtain ⟨x, hx, hx2⟩ := h.word hk
      have e1 : IntKind.wrap .i64 (Int.tdiv (k : Int) 64) = ((k / 64 : Nat) : Int) := by
        rw [show Int.tdiv (k : Int) 64 = ((k / 64 : Nat) : Int) from rfl]
        exact w64 (by omega) (by omega)
      have e2 : Int.tmod (k : Int) 64 = ((k % 64 : Nat) : Int) := rfl
      have g : getI l ((k / 64 : Nat) : Int) = some (x : Int) := by
        unfold getI
        rw [if_pos (Int.natCast_nonneg _), Int.toNat_natCast]
        exact hx
      have E : IntKind.wrap .u64 ((BitVec.ofInt (IntKind.bits .u64) (x : Int) ||| BitVec.ofInt (IntKind.bits .u64) (IntKind.wrap .u64 (1 * 2 ^ (min (k % 64) (IntKind.bits .u64))))).toNat : Int) = ((x ||| 2 ^ (k % 64) : Nat) : Int) := by
        rw [one_pow (Nat.mod_lt k (by decide))]
        exact orU x _ hx2 (pow_lt64 (Nat.mod_lt k (by decide)))
      have hlt : k / 64 < l.length := (List.getElem?_eq_some_iff.1 hx).1
      have hmem : ∀ j, mem (l.set (k / 64) ((x ||| 2 ^ (k % 64) : Nat) : Int)) j = (mem l j || decide (((0 : Int) ≤ (k : Int) ∧ (k : Int) < n) ∧ k = j)) := fun j => by
        rw [mem_set hx]
        by_cases hj : j / 64 = k / 64
        · rw [if_pos hj, or_bit, mem_of (by rw [hj]; exact hx)]
          have : (k % 64 = j % 64) ↔ k = j := by omega
          simp [this, hk]
        · rw [if_neg hj]
          have : ¬ k = j := fun e => hj (by rw [e])
          simp [this]
      refine ⟨l.set (k / 64) ((x ||| 2 ^ (k % 64) : Nat) : Int), ?_, ⟨hn, by rw [List.length_set]; exact h.len, fun w hw => ?_, fun j hj => ?_⟩, hmem⟩
      · rw [e1, e2]
        simp only [Option.bind_some, cond_true, cond_false, g, ge0_eq (Int.natCast_nonneg _), Int.toNat_natCast, Bool.true_and, Bool.not_true, Bool.not_false, E]
      · rcases List.mem_or_eq_of_mem_set hw with hw | rfl
        · exact h.wd w hw
        · have := Nat.or_lt_two_pow (n := 64) hx2 (pow_lt64 (Nat.mod_lt k (by decide)))
          unfold Wd
          omega
      · rw [hmem, h.top j hj]
        have : ¬ k = j := by omega
        simp [this]
  · rw [decide_eq_false hi]
    exact ⟨l, rfl, h, fun j => by simp [hi]⟩
/-- Bits from r on. -/
theorem from_bit (x r j : Nat) : (x / 2 ^ r * 2 ^ r).testBit j = (decide (r ≤ j) && x.testBit j) := by
  rw [Nat.testBit_mul_two_pow]
  by_cases h : r ≤ j
  · rw [Nat.testBit_div_two_pow, Nat.sub_add_cancel h]
  · simp [h]
theorem from_word (x r : Nat) (hx : x < 18446744073709551616) (hr : r < 64) : IntKind.wrap .u64 ((Int.fdiv (x : Int) (2 ^ (min r (IntKind.bits .u64)))) * 2 ^ (min r (IntKind.bits .u64))) = ((x / 2 ^ r * 2 ^ r : Nat) : Int) := by
  have h1 : min r (IntKind.bits .u64) = r := Nat.min_eq_left (Nat.le_of_lt hr)
  have hp : ((2 : Int) ^ r) = ((2 ^ r : Nat) : Int) := by simp
  have h2 : Int.fdiv (x : Int) ((2 ^ r : Nat) : Int) = ((x / 2 ^ r : Nat) : Int) := by
    rw [Int.fdiv_eq_ediv_of_nonneg _ (Int.natCast_nonneg _)]
    rfl
  rw [h1, hp, h2, ← Int.natCast_mul]
  exact wrapU _ (Nat.lt_of_le_of_lt (Nat.div_mul_le_self x (2 ^ r)) hx)
/-- The least bit of a word. -/
theorem ctz_bit {x : Nat} (h0 : x ≠ 0) (h : x < 18446744073709551616) : Lib.ctz 64 x < 64 ∧ x.testBit (Lib.ctz 64 x) = true ∧ ∀ j, j < Lib.ctz 64 x → x.testBit j = false := by
  have h' : x < 2 ^ 64 := h
  obtain ⟨m, hm, hk⟩ := Lib.ctzFrom_spec 64 x (by omega) h'
  have e : Lib.ctz 64 x = Lib.ctzFrom 64 x := by simp [Lib.ctz, h0]
  rw [e]
  clear e
  revert hm hk
  generalize Lib.ctzFrom 64 x = c
  intro hm hk
  refine ⟨hk, ?_, fun j hj => ?_⟩
  · rw [hm, Nat.mul_comm, Nat.testBit_mul_two_pow]
    simp
  · rw [hm, Nat.mul_comm, Nat.testBit_mul_two_pow]
    simp [Nat.not_le.2 hj]
/-- One bit, taken away. -/
theorem andn_bit (x k : Nat) (hx : x < 18446744073709551616) (hk : k < 64) : ∃ y : Nat, IntKind.wrap .u64 ((BitVec.ofInt (IntKind.bits .u64) (x : Int) &&& ~~~BitVec.ofInt (IntKind.bits .u64) (IntKind.wrap .u64 (1 * 2 ^ (min k (IntKind.bits .u64))))).toNat : Int) = (y : Int) ∧ y < 18446744073709551616 ∧ ∀ j, y.testBit j = (x.testBit j && !decide (k = j)) := by
  rw [one_pow hk]
  refine ⟨(BitVec.ofNat 64 x &&& ~~~BitVec.ofNat 64 (2 ^ k)).toNat, ?_, BitVec.isLt _, fun j => ?_⟩
  · show IntKind.wrap .u64 ((BitVec.ofInt 64 (x : Int) &&& ~~~BitVec.ofInt 64 ((2 ^ k : Nat) : Int)).toNat : Int) = _
    rw [ofInt_nat, ofInt_nat]
    exact wrapU _ (BitVec.isLt _)
  · rw [BitVec.testBit_toNat, BitVec.getLsbD_and, BitVec.getLsbD_not, BitVec.getLsbD_ofNat, BitVec.getLsbD_ofNat, Nat.testBit_two_pow]
    by_cases hj : j < 64
    · simp [hj]
    · have : x.testBit j = false := Nat.testBit_lt_two_pow (Nat.lt_of_lt_of_le hx (show 2 ^ 64 ≤ 2 ^ j from Nat.pow_le_pow_right (by decide) (by omega)))
      simp [hj, this]
/-- The first word that holds a bit, from one on. -/
theorem Next_loop {n : Int} {l : List Int} (hw : ∀ w ∈ l, Wd w) (hlen : l.length ≤ 20000) : ∀ (d a w : Nat), a + 1 + d = l.length → w < 18446744073709551616 →
    ∃ r, loop (fn_dense_Set_Next_l1 (n, l)) ((a : Int), (w : Int)) = some r ∧ ((r = .inr (-1) ∧ w = 0 ∧ ∀ q, a < q → q < l.length → l[q]? = some 0) ∨
      ∃ b v : Nat, r = .inl ((b : Int), (v : Int)) ∧ v ≠ 0 ∧ v < 18446744073709551616 ∧ a ≤ b ∧ b < l.length ∧ ((b = a ∧ v = w) ∨ (a < b ∧ w = 0 ∧ l[b]? = some (v : Int))) ∧ ∀ q, a < q → q < b → l[q]? = some 0) := by
  intro d
  induction d with
  | zero =>
    intro a w ha hx
    by_cases h0 : w = 0
    · subst h0
      refine ⟨.inr (-1), loop_end ?_, .inl ⟨rfl, rfl, fun q h1 h2 => by omega⟩⟩
      have e : IntKind.wrap .i64 ((a : Int) + 1) = ((l.length : Nat) : Int) := by rw [w64 (by omega) (by omega)]; omega
      unfold fn_dense_Set_Next_l1
      simp [e]
    · refine ⟨.inl ((a : Int), (w : Int)), loop_end ?_, .inr ⟨a, w, rfl, h0, hx, Nat.le_refl a, by omega, .inl ⟨rfl, rfl⟩, fun q h1 h2 => by omega⟩⟩
      have h1 : ¬ ((w : Int) = 0) := by omega
      unfold fn_dense_Set_Next_l1
      simp [h1, h0]
  | succ d ih =>
    intro a w ha hx
    by_cases h0 : w = 0
    · subst h0
      have hlt : a + 1 < l.length := by omega
      have hwd := hw _ (List.getElem_mem hlt)
      obtain ⟨x, hxe⟩ : ∃ x : Nat, l[a + 1] = (x : Int) := ⟨l[a + 1].toNat, (Int.toNat_of_nonneg hwd.1).symm⟩
      have hx2 : x < 18446744073709551616 := by have := hwd.2; rw [hxe] at this; omega
      have hq : l[a + 1]? = some (x : Int) := by rw [List.getElem?_eq_getElem hlt, hxe]
      obtain ⟨r, h1, h2⟩ := ih (a + 1) x (by omega) hx2
      have e : IntKind.wrap .i64 ((a : Int) + 1) = ((a + 1 : Nat) : Int) := by rw [w64 (by omega) (by omega)]; rfl
      have hne : ¬ (((a + 1 : Nat) : Int) = ((l.length : Nat) : Int)) := by omega
      have hg : getI l ((a + 1 : Nat) : Int) = some (x : Int) := by
        unfold getI
        rw [if_pos (Int.natCast_nonneg _), Int.toNat_natCast]
        exact hq
      refine ⟨r, (loop_next (s' := (((a + 1 : Nat) : Int), (x : Int))) ?_).trans h1, ?_⟩
      · unfold fn_dense_Set_Next_l1
        simp only [e, hg, Option.bind_some, decide_eq_false hne, cond_false]
        rfl
      · rcases h2 with ⟨h3, h4, h5⟩ | ⟨b, v, h3, h4, h5, h6, h7, h8, h9⟩
        · refine .inl ⟨h3, rfl, fun q g1 g2 => ?_⟩
          by_cases hqa : q = a + 1
          · subst hqa; rw [hq, h4]; rfl
          · exact h5 q (by omega) g2
        · refine .inr ⟨b, v, h3, h4, h5, by omega, h7, .inr ?_, fun q g1 g2 => ?_⟩
          · rcases h8 with ⟨rfl, rfl⟩ | ⟨g1, g2, g3⟩
            · exact ⟨by omega, rfl, hq⟩
            · exact ⟨by omega, rfl, g3⟩
          · by_cases hqa : q = a + 1
            · subst hqa
              rcases h8 with ⟨rfl, rfl⟩ | ⟨k1, k2, k3⟩
              · omega
              · rw [hq, k2]; rfl
            · exact h9 q (by omega) g2
    · refine ⟨.inl ((a : Int), (w : Int)), loop_end ?_, .inr ⟨a, w, rfl, h0, hx, Nat.le_refl a, by omega, .inl ⟨rfl, rfl⟩, fun q h1 h2 => by omega⟩⟩
      have h1 : ¬ ((w : Int) = 0) := by omega
      unfold fn_dense_Set_Next_l1
      simp [h1, h0]
theorem mem_zero {l : List Int} {j : Nat} (h : ∀ w, l[j / 64]? = some w → w = 0) : mem l j = false := by
  unfold mem
  cases hl : l[j / 64]? with
  | none => rfl
  | some w => rw [h w hl]; simp
/-- Next: the least member from a number on. -/
theorem Next_some {n : Nat} {l : List Int} (h : Ds n l) (i : Int) : ∃ r, fn_dense_Set_Next (some ((n : Int), l)) i = some r ∧ ((r = -1 ∧ ∀ j : Nat, i ≤ (j : Int) → mem l j = false) ∨
    ∃ k : Nat, r = (k : Int) ∧ i ≤ (k : Int) ∧ mem l k = true ∧ ∀ j : Nat, i ≤ (j : Int) → j < k → mem l j = false) := by
  obtain ⟨c, hc⟩ : ∃ c : Nat, (if i < 0 then 0 else i) = (c : Int) := ⟨(if i < 0 then 0 else i).toNat, by split <;> omega⟩
  have hci : ∀ j : Nat, i ≤ (j : Int) ↔ c ≤ j := fun j => by split at hc <;> omega
  have hn := h.hn
  have hl := h.len
  unfold fn_dense_Set_Next
  simp only [hc, mayHave_some, Option.bind_some]
  by_cases hk : c < n
  · have hd : decide (0 ≤ (c : Int) ∧ (c : Int) < n) = true := by simpa using hk
    obtain ⟨x, hx, hx2⟩ := h.word hk
    have e1 : IntKind.wrap .i64 (Int.tdiv (c : Int) 64) = ((c / 64 : Nat) : Int) := by
      rw [show Int.tdiv (c : Int) 64 = ((c / 64 : Nat) : Int) from rfl]
      exact w64 (by omega) (by omega)
    have e2 : Int.tmod (c : Int) 64 = ((c % 64 : Nat) : Int) := rfl
    have g : getI l ((c / 64 : Nat) : Int) = some (x : Int) := by
      unfold getI
      rw [if_pos (Int.natCast_nonneg _), Int.toNat_natCast]
      exact hx
    have hr : c % 64 < 64 := Nat.mod_lt c (by decide)
    have hw2 : x / 2 ^ (c % 64) * 2 ^ (c % 64) < 18446744073709551616 := Nat.lt_of_le_of_lt (Nat.div_mul_le_self x _) hx2
    obtain ⟨r, hlp, hcase⟩ := Next_loop (n := (n : Int)) h.wd (by omega) (l.length - 1 - c / 64) (c / 64) _ (by omega) hw2
    simp only [hd, Bool.not_true, cond_false, e1, e2, g, Option.bind_some, ge0_eq (Int.natCast_nonneg _), Int.toNat_natCast, from_word x _ hx2 hr, hlp]
    rcases hcase with ⟨rfl, h4, h5⟩ | ⟨b, v, rfl, h4, h5, h6, h7, h8, h9⟩
    · refine ⟨-1, rfl, .inl ⟨rfl, fun j hj => ?_⟩⟩
      have hj := (hci j).1 hj
      by_cases hja : j / 64 = c / 64
      · rw [mem_of (by rw [hja]; exact hx)]
        have := from_bit x (c % 64) (j % 64)
        rw [h4, Nat.zero_testBit] at this
        have hle : c % 64 ≤ j % 64 := by omega
        simpa [hle] using this.symm
      · refine mem_zero (fun w hw => ?_)
        have hlt := (List.getElem?_eq_some_iff.1 hw).1
        rw [h5 (j / 64) (by omega) hlt] at hw
        exact (Option.some.inj hw).symm
    · obtain ⟨t1, t2, t3⟩ := ctz_bit h4 h5
      have ht : tzF (v : Int) = some ((Lib.ctz 64 v : Nat) : Int) := by
        unfold tzF
        rw [if_pos ⟨Int.natCast_nonneg _, by omega⟩, Int.toNat_natCast]
      have e3 : IntKind.wrap .i64 (IntKind.wrap .i64 ((b : Int) * 64) + ((Lib.ctz 64 v : Nat) : Int)) = ((b * 64 + Lib.ctz 64 v : Nat) : Int) := by
        rw [w64 (x := (b : Int) * 64) (by omega) (by omega), w64 (by omega) (by omega)]
        omega
      refine ⟨((b * 64 + Lib.ctz 64 v : Nat) : Int), by simp only [ht, Option.bind_some, e3], .inr ⟨_, rfl, ?_⟩⟩
      generalize Lib.ctz 64 v = z at t1 t2 t3
      have d1 : (b * 64 + z) / 64 = b := by omega
      have d2 : (b * 64 + z) % 64 = z := by omega
      rcases h8 with ⟨rfl, rfl⟩ | ⟨g1, g2, g3⟩
      · rw [from_bit, Bool.and_eq_true] at t2
        have hz : c % 64 ≤ z := by simpa using t2.1
        refine ⟨(hci _).2 (by omega), ?_, fun j hj hjk => ?_⟩
        · rw [mem_of (x := x) (by rw [d1]; exact hx), d2]
          exact t2.2
        · have hj := (hci j).1 hj
          have := t3 (j % 64) (by omega)
          rw [from_bit] at this
          rw [mem_of (by rw [show j / 64 = c / 64 by omega]; exact hx)]
          have hle : c % 64 ≤ j % 64 := by omega
          simpa [hle] using this
      · refine ⟨(hci _).2 (by omega), ?_, fun j hj hjk => ?_⟩
        · rw [mem_of (x := v) (by rw [d1]; exact g3), d2]
          exact t2
        · have hj := (hci j).1 hj
          by_cases hja : j / 64 = c / 64
          · rw [mem_of (by rw [hja]; exact hx)]
            have := from_bit x (c % 64) (j % 64)
            rw [g2, Nat.zero_testBit] at this
            have hle : c % 64 ≤ j % 64 := by omega
            simpa [hle] using this.symm
          · by_cases hjb : j / 64 = b
            · rw [mem_of (by rw [hjb]; exact g3)]
              exact t3 _ (by omega)
            · exact mem_zero (fun w hw => by
                rw [h9 (j / 64) (by omega) (by omega)] at hw
                exact (Option.some.inj hw).symm)
  · have hd : decide (0 ≤ (c : Int) ∧ (c : Int) < n) = false := by simpa using hk
    simp only [hd, Bool.not_false, cond_true]
    exact ⟨-1, rfl, .inl ⟨rfl, fun j hj => h.top j (by have := (hci j).1 hj; omega)⟩⟩
theorem mem_rep (m j : Nat) : mem (List.replicate m 0) j = false := mem_zero (fun w hw => by
  rw [List.getElem?_replicate] at hw
  split at hw
  · exact (Option.some.inj hw).symm
  · cases hw)
theorem Ds_new {n : Nat} (h : n ≤ 1048576) : Ds n (List.replicate ((n + 63) / 64) 0) :=
  ⟨h, List.length_replicate, fun w hw => by
    obtain ⟨_, rfl⟩ := List.mem_replicate.1 hw
    exact ⟨Int.le_refl _, by decide⟩, fun j _ => mem_rep _ j⟩
/-- New. -/
theorem New_some (n : Int) : fn_dense_New n = if n < 0 then some (.inl 2) else if 1048576 < n then some (.inl 5) else some (.inr (0, List.replicate ((n.toNat + 63) / 64) 0)) := by
  unfold fn_dense_New
  by_cases h1 : n < 0
  · simp [h1]
  · by_cases h2 : 1048576 < n
    · simp [h1, h2]
    · obtain ⟨k, rfl⟩ := Int.eq_ofNat_of_zero_le (by omega : 0 ≤ n)
      have e : IntKind.wrap .i64 (Int.tdiv (IntKind.wrap .i64 (IntKind.wrap .i64 ((k : Int) + 64) - 1)) 64) = (((k + 63) / 64 : Nat) : Int) := by
        rw [w64 (x := (k : Int) + 64) (by omega) (by omega), w64 (x := (k : Int) + 64 - 1) (by omega) (by omega), show (k : Int) + 64 - 1 = ((k + 63 : Nat) : Int) by omega]
        rw [show Int.tdiv ((k + 63 : Nat) : Int) 64 = (((k + 63) / 64 : Nat) : Int) from rfl]
        exact w64 (by omega) (by omega)
      rw [e]
      have hm : (mk ((((k + 63) / 64 : Nat) : Int)) ((((k + 63) / 64 : Nat) : Int)) (0 : Int)) = some (List.replicate ((k + 63) / 64) 0) := by
        unfold mk
        rw [if_pos (by constructor <;> omega), Int.toNat_natCast]
      rw [hm]
      simp [h1, h2]
/-! ### The members, rising. -/
def mems (n : Nat) (l : List Int) : List Nat := (List.range n).filter (mem l)
def liN (L : List Nat) : List Int := L.map Int.ofNat
theorem filter_gap {p : Nat → Bool} {c : Nat} : ∀ (d : Nat), (∀ j, c ≤ j → j < c + d → p j = false) → (List.range (c + d)).filter p = (List.range c).filter p
  | 0, _ => rfl
  | d + 1, h => by
    rw [← Nat.add_assoc, List.range_succ, List.filter_append, filter_gap d (fun j h1 h2 => h j h1 (by omega))]
    simp [h (c + d) (by omega) (by omega)]
theorem filter_len (p : Nat → Bool) (c : Nat) : ((List.range c).filter p).length ≤ c := by
  have := List.length_filter_le p (List.range c)
  simpa using this
/-- A loop over the members that gathers them. -/
theorem gather {n : Nat} {l : List Int} (h : Ds n l) {body : Int × List Int → Option ((Int × List Int) ⊕ List Int)}
    (hb : ∀ (c : List Int) (k : Nat), mem l k = true → body ((k : Int), c) = (app c [(k : Int)]).bind fun z => (fn_dense_Set_Next (some ((n : Int), l)) ((k : Int) + 1)).bind fun i => some (.inl (i, z))) (he : ∀ c, body (-1, c) = some (.inr c)) :
    ∃ r, fn_dense_Set_Next (some ((n : Int), l)) 0 = some r ∧ loop body (r, []) = some (liN (mems n l)) := by
  have hn := h.hn
  have lt_of : ∀ k, mem l k = true → k < n := fun k hk => by
    rcases Nat.lt_or_ge k n with h1 | h1
    · exact h1
    · rw [h.top k h1] at hk; cases hk
  have key : ∀ (r : Int) (acc : List Int), (∃ c : Nat, c ≤ n ∧ acc = liN ((List.range c).filter (mem l)) ∧ ((r = -1 ∧ ∀ j : Nat, (c : Int) ≤ (j : Int) → mem l j = false) ∨ ∃ k : Nat, r = (k : Int) ∧ (c : Int) ≤ (k : Int) ∧ mem l k = true ∧ ∀ j : Nat, (c : Int) ≤ (j : Int) → j < k → mem l j = false)) →
      loop body (r, acc) = some (liN (mems n l)) := by
    intro r acc hI
    refine loop_val (fun s => ∃ c : Nat, c ≤ n ∧ s.2 = liN ((List.range c).filter (mem l)) ∧ ((s.1 = -1 ∧ ∀ j : Nat, (c : Int) ≤ (j : Int) → mem l j = false) ∨ ∃ k : Nat, s.1 = (k : Int) ∧ (c : Int) ≤ (k : Int) ∧ mem l k = true ∧ ∀ j : Nat, (c : Int) ≤ (j : Int) → j < k → mem l j = false)) (fun s => if s.1 < 0 then 0 else n + 1 - s.1.toNat) ?_ (s := (r, acc)) hI
    rintro ⟨r, acc⟩ ⟨c, hcn, rfl, hr⟩
    rcases hr with ⟨rfl, h2⟩ | ⟨k, rfl, h2, h3, h4⟩
    · right
      have e : mems n l = (List.range c).filter (mem l) := by
        unfold mems
        have := filter_gap (p := mem l) (c := c) (n - c) (fun j h1 _ => h2 j (by omega))
        rw [show c + (n - c) = n by omega] at this
        exact this
      rw [e]
      exact he _
    · left
      have hk := lt_of k h3
      obtain ⟨r', g1, g2⟩ := Next_some h (((k + 1 : Nat) : Int))
      have e1 : (k : Int) + 1 = ((k + 1 : Nat) : Int) := rfl
      have e2 : (List.range (k + 1)).filter (mem l) = (List.range c).filter (mem l) ++ [k] := by
        have := filter_gap (p := mem l) (c := c) (k - c) (fun j h5 h6 => h4 j (by omega) (by omega))
        rw [show c + (k - c) = k by omega] at this
        rw [List.range_succ, List.filter_append, this]
        simp [h3]
      have e3 : app (liN ((List.range c).filter (mem l))) [(k : Int)] = some (liN ((List.range (k + 1)).filter (mem l))) := by
        have := filter_len (mem l) c
        unfold app
        rw [if_pos (by simp [liN]; omega), e2]
        simp [liN]
      refine ⟨(r', liN ((List.range (k + 1)).filter (mem l))), ?_, ⟨k + 1, by omega, rfl, g2⟩, ?_⟩
      · rw [hb _ k h3]
        simp only [e3, e1, g1, Option.bind_some]
      · show (if r' < 0 then 0 else n + 1 - r'.toNat) < (if (k : Int) < 0 then 0 else n + 1 - (k : Int).toNat)
        rw [if_neg (by omega : ¬ (k : Int) < 0), Int.toNat_natCast]
        rcases g2 with ⟨rfl, _⟩ | ⟨k', rfl, k1, k2, _⟩
        · simp; omega
        · rw [if_neg (by omega : ¬ (k' : Int) < 0), Int.toNat_natCast]
          have := lt_of k' k2
          omega
  obtain ⟨r, g1, g2⟩ := Next_some h 0
  exact ⟨r, g1, key r [] ⟨0, Nat.zero_le n, rfl, g2⟩⟩
/-- List. -/
theorem List_some {n : Nat} {l : List Int} (h : Ds n l) : fn_dense_Set_List_p0_ir n l = some (liN (mems n l), l) := by
  have hn := h.hn
  have lt_of : ∀ k, mem l k = true → k < n := fun k hk => by
    rcases Nat.lt_or_ge k n with h1 | h1
    · exact h1
    · rw [h.top k h1] at hk; cases hk
  have key : ∀ (r : Int) (acc : List Int), (∃ c : Nat, c ≤ n ∧ acc = liN ((List.range c).filter (mem l)) ∧ ((r = -1 ∧ ∀ j : Nat, (c : Int) ≤ (j : Int) → mem l j = false) ∨ ∃ k : Nat, r = (k : Int) ∧ (c : Int) ≤ (k : Int) ∧ mem l k = true ∧ ∀ j : Nat, (c : Int) ≤ (j : Int) → j < k → mem l j = false)) →
      loop (fn_dense_Set_List_p0_ir_l1 n l) (r, acc) = some (liN (mems n l)) := by
    intro r acc hI
    refine loop_val (fun s => ∃ c : Nat, c ≤ n ∧ s.2 = liN ((List.range c).filter (mem l)) ∧ ((s.1 = -1 ∧ ∀ j : Nat, (c : Int) ≤ (j : Int) → mem l j = false) ∨ ∃ k : Nat, s.1 = (k : Int) ∧ (c : Int) ≤ (k : Int) ∧ mem l k = true ∧ ∀ j : Nat, (c : Int) ≤ (j : Int) → j < k → mem l j = false)) (fun s => if s.1 < 0 then 0 else n + 1 - s.1.toNat) ?_ (s := (r, acc)) hI
    rintro ⟨r, acc⟩ ⟨c, hcn, rfl, hr⟩
    rcases hr with ⟨rfl, h2⟩ | ⟨k, rfl, h2, h3, h4⟩
    · right
      have e : mems n l = (List.range c).filter (mem l) := by
        unfold mems
        have := filter_gap (p := mem l) (c := c) (n - c) (fun j h1 _ => h2 j (by omega))
        rw [show c + (n - c) = n by omega] at this
        exact this
      rw [e]
      rfl
    · left
      have hk := lt_of k h3
      obtain ⟨r', g1, g2⟩ := Next_some h (((k + 1 : Nat) : Int))
      have e1 : IntKind.wrap .i64 ((k : Int) + 1) = ((k + 1 : Nat) : Int) := by rw [w64 (by omega) (by omega)]; rfl
      have e2 : (List.range (k + 1)).filter (mem l) = (List.range c).filter (mem l) ++ [k] := by
        have := filter_gap (p := mem l) (c := c) (k - c) (fun j h5 h6 => h4 j (by omega) (by omega))
        rw [show c + (k - c) = k by omega] at this
        rw [List.range_succ, List.filter_append, this]
        simp [h3]
      have e3 : app (liN ((List.range c).filter (mem l))) [(k : Int)] = some (liN ((List.range (k + 1)).filter (mem l))) := by
        have := filter_len (mem l) c
        unfold app
        rw [if_pos (by simp [liN]; omega), e2]
        simp [liN]
      refine ⟨(r', liN ((List.range (k + 1)).filter (mem l))), ?_, ⟨k + 1, by omega, rfl, g2⟩, ?_⟩
      · unfold fn_dense_Set_List_p0_ir_l1
        have h0 : decide (0 ≤ (k : Int)) = true := by simp
        simp only [h0, cond_true, e3, e1, g1, Option.bind_some]
      · show (if r' < 0 then 0 else n + 1 - r'.toNat) < (if (k : Int) < 0 then 0 else n + 1 - (k : Int).toNat)
        rw [if_neg (by omega : ¬ (k : Int) < 0), Int.toNat_natCast]
        rcases g2 with ⟨rfl, _⟩ | ⟨k', rfl, k1, k2, _⟩
        · simp; omega
        · rw [if_neg (by omega : ¬ (k' : Int) < 0), Int.toNat_natCast]
          have := lt_of k' k2
          omega
  obtain ⟨r, g1, g2⟩ := Next_some h 0
  unfold fn_dense_Set_List_p0_ir
  rw [show fn_dense_Set_All_p0_ir n l = some l from rfl]
  simp only [Option.bind_some, g1]
  rw [key r [] ⟨0, Nat.zero_le n, rfl, g2⟩]
  rfl
theorem Has_nat {n : Nat} {l : List Int} (h : Ds n l) (k : Nat) : fn_dense_Set_Has (some ((n : Int), l)) (k : Int) = some (mem l k) := by
  rw [Has_some h, Int.toNat_natCast]
  cases hm : mem l k with
  | false => simp
  | true =>
    have : k < n := by
      rcases Nat.lt_or_ge k n with h1 | h1
      · exact h1
      · rw [h.top k h1] at hm; cases hm
    simp [this]
end Go.Proofs.YtfdkbceponodmaaDoor
namespace Go.Proofs.YtfdkbceponodmaaDoor
set_option linter.unusedVariables false
theorem bind_of {α β : Type} {m : Option α} {f : α → Option β} {y : β} {Q : α → Prop} (h : ∃ r, m = some r ∧ Q r) (k : ∀ r, Q r → f r = some y) : m.bind f = some y := by
  obtain ⟨r, rfl, h2⟩ := h; exact k r h2
theorem bind_ex {α β : Type} {m : Option α} {f : α → Option β} {Q : α → Prop} {R : β → Prop} (h : ∃ r, m = some r ∧ Q r) (k : ∀ r, Q r → ∃ y, f r = some y ∧ R y) : ∃ y, m.bind f = some y ∧ R y := by
  obtain ⟨r, rfl, h2⟩ := h; exact k r h2
theorem getZ {α : Type} {l : List α} {i : Int} (h0 : 0 ≤ i) (h1 : i < (l.length : Nat)) : getI l i = some (l[i.toNat]'(by omega)) := by
  unfold getI; rw [if_pos h0]; simp
theorem getN1 {α : Type} {l : List α} {k : Nat} (h : k + 1 < l.length) : getI l ((k : Int) + 1) = some l[k + 1] := getI_eq rfl h
theorem dlt {k n : Nat} (h : k < n) : decide ((k : Int) < (n : Int)) = true := by simp; omega
theorem dge {k n : Nat} (h : ¬ k < n) : decide ((k : Int) < (n : Int)) = false := by simp; omega
theorem beq_dec {α : Type} [DecidableEq α] (a b : α) : (a == b) = decide (a = b) := Bool.beq_eq_decide_eq a b
section
variable {α β γ σ : Type}
/-- Counted from 0 to n, with a way out. -/
theorem loop_stop {body : σ → Option (σ ⊕ β)} (n : Nat) (st : Nat → σ) (stop : Nat → Option β) (e : β) (h : ∀ k, k < n → body (st k) = some (match stop k with | none => .inl (st (k + 1)) | some b => .inr b)) (he : body (st n) = some (.inr e)) :
    loop body (st 0) = some (((List.range n).findSome? stop).getD e) := by
  rcases loop_find (fun k => (stop k).isSome = true) st n (fun k => (stop k).getD e) e (fun k hk hp => by
      rw [h k hk]; cases hs : stop k with
      | none => rfl
      | some b => simp [hs] at hp) (fun k hk hp => by
      rw [h k hk]; cases hs : stop k with
      | none => simp [hs] at hp
      | some b => rfl) he with ⟨k, h1, h2, h3, h4⟩ | ⟨h1, h2⟩
  · rw [h4]
    obtain ⟨b, hb⟩ := Option.isSome_iff_exists.1 h2
    have : (List.range n).findSome? stop = some b := by
      rw [List.findSome?_eq_some_iff]
      refine ⟨List.range k, k, (List.range' (k + 1) (n - k - 1)), ?_, hb, fun a ha => ?_⟩
      · rw [List.range_eq_range', List.range_eq_range', ← List.range'_succ (s := k) (n := n - k - 1)]
        rw [show n - k - 1 + 1 = n - k by omega]
        have := List.range'_append_1 (s := 0) (m := k) (n := n - k)
        rw [Nat.zero_add, show k + (n - k) = n by omega] at this
        exact this.symm
      · have := h3 a (List.mem_range.1 ha)
        cases hs : stop a with
        | none => rfl
        | some b => simp [hs] at this
    rw [this, hb]
  · rw [h2]
    have : (List.range n).findSome? stop = none := by
      rw [List.findSome?_eq_none_iff]
      intro a ha
      have := h1 a (List.mem_range.1 ha)
      cases hs : stop a with
      | none => rfl
      | some b => simp [hs] at this
    rw [this]; rfl
/-- A list searched: where the first hit lies. -/
theorem loop_search {body : Int → Option (Int ⊕ β)} (xa : List α) (t : α → Bool) (hit : Nat → β) (e : β) (hb : ∀ (k : Nat) (h : k < xa.length), body (k : Int) = some (if t xa[k] then .inr (hit k) else .inl ((k + 1 : Nat) : Int))) (he : body (xa.length : Int) = some (.inr e)) :
    loop body 0 = some (match xa.findIdx? t with | some k => hit k | none => e) := by
  rcases loop_find (fun k => ∃ h : k < xa.length, t xa[k] = true) (fun k : Nat => (k : Int)) xa.length hit e (fun k hk hp => by
      rw [hb k hk, if_neg (fun h => hp ⟨hk, h⟩)]) (fun k hk ⟨_, hp⟩ => by rw [hb k hk, if_pos hp]) he with ⟨k, h1, ⟨_, h2⟩, h3, h4⟩ | ⟨h1, h2⟩
  · rw [show ((0 : Int)) = ((0 : Nat) : Int) from rfl, h4]
    have : xa.findIdx? t = some k := by
      rw [List.findIdx?_eq_some_iff_getElem]
      exact ⟨h1, h2, fun j hj => fun hc => h3 j hj ⟨by omega, by simpa using hc⟩⟩
    rw [this]
  · rw [show ((0 : Int)) = ((0 : Nat) : Int) from rfl, h2]
    have : xa.findIdx? t = none := by
      rw [List.findIdx?_eq_none_iff]
      intro x hx
      obtain ⟨k, hk, rfl⟩ := List.getElem_of_mem hx
      cases hc : t xa[k] with
      | false => rfl
      | true => exact absurd ⟨hk, hc⟩ (h1 k hk)
    rw [this]
theorem loop_some {body : Int → Option (Int ⊕ β)} (xa : List α) (t : α → Bool) (hit e : β) (hb : ∀ (k : Nat) (h : k < xa.length), body (k : Int) = some (if t xa[k] then .inr hit else .inl ((k + 1 : Nat) : Int))) (he : body (xa.length : Int) = some (.inr e)) :
    loop body 0 = some (if xa.any t then hit else e) := by
  rw [loop_search xa t (fun _ => hit) e hb he]
  cases h : xa.findIdx? t with
  | none =>
    have : xa.any t = false := by
      rw [List.any_eq_false]; intro x hx; have := List.findIdx?_eq_none_iff.1 h x hx; simp [this]
    rw [this]; rfl
  | some k =>
    obtain ⟨hk, h1, _⟩ := List.findIdx?_eq_some_iff_getElem.1 h
    have : xa.any t = true := List.any_eq_true.2 ⟨_, List.getElem_mem hk, h1⟩
    rw [this]; rfl
/-- A list gone through, with what is carried along. -/
theorem loop_carry {δ : Type} {body : (γ × Int) → Option ((γ × Int) ⊕ δ)} (xa : List α) (acc : Nat → γ) (out : δ) (hb : ∀ (k : Nat) (h : k < xa.length), body (acc k, (k : Int)) = some (.inl (acc (k + 1), ((k + 1 : Nat) : Int)))) (he : body (acc xa.length, (xa.length : Int)) = some (.inr out)) :
    loop body (acc 0, 0) = some out := loop_nat (fun k => (acc k, (k : Int))) xa.length hb he
/-- Two lists held against each other, place by place. -/
theorem loop_alike [DecidableEq α] {body : Int → Option (Int ⊕ β)} (xa xb : List α) (hit e : β) (hl : xa.length = xb.length) (hb : ∀ (k : Nat) (h : k < xa.length), body (k : Int) = some (if xa[k] = (xb[k]'(by omega)) then .inl ((k + 1 : Nat) : Int) else .inr hit)) (he : body (xa.length : Int) = some (.inr e)) :
    loop body 0 = some (if xa = xb then e else hit) := by
  rw [loop_search (List.range xa.length) (fun k => decide (xa[k]? ≠ xb[k]?)) (fun _ => hit) e (fun k h => by
      simp at h
      rw [hb k h]
      have h2 : k < xb.length := by omega
      by_cases hq : xa[k] = xb[k] <;> simp [h, h2, hq]) (by simpa using he)]
  by_cases hq : xa = xb
  · subst hq
    have : (List.range xa.length).findIdx? (fun k => decide (xa[k]? ≠ xa[k]?)) = none := by rw [List.findIdx?_eq_none_iff]; simp
    rw [this]; simp
  · cases h : (List.range xa.length).findIdx? (fun k => decide (xa[k]? ≠ xb[k]?)) with
    | some k => simp [hq]
    | none =>
      exfalso; apply hq
      rw [List.findIdx?_eq_none_iff] at h
      apply List.ext_getElem?
      intro k
      by_cases hk : k < xa.length
      · simpa using h k (List.mem_range.2 hk)
      · rw [List.getElem?_eq_none (by omega), List.getElem?_eq_none (by omega)]
theorem take_snoc {l : List α} {k : Nat} (h : k < l.length) : l.take (k + 1) = l.take k ++ [l[k]] := List.take_succ_eq_append_getElem h
theorem dlen {a b : Nat} (h : a = b) : (!decide ((a : Int) = (b : Int))) = false := by simp [h]
theorem dlen' {a b : Nat} (h : ¬ a = b) : (!decide ((a : Int) = (b : Int))) = true := by simp; omega
end
theorem ok64 {x : Int} (h : Tp.Ok (.int .i64) x) : -9223372036854775808 ≤ x ∧ x ≤ 9223372036854775807 := by
  have h' : (Lit.int .i64 x).wf = true := h
  simp only [Lit.wf, IntKind.min, IntKind.max, IntKind.signed, IntKind.bits, Bool.and_eq_true, decide_eq_true_eq] at h'
  simp at h'; omega
theorem sub1 {α : Type} {l : List α} (h : 1 ≤ l.length) : subL l 1 ((l.length : Nat) : Int) = some (l.drop 1) := by
  rw [subL_eq (by omega) (by omega) (by omega)]; simp
end Go.Proofs.YtfdkbceponodmaaDoor
namespace Go.Proofs.YtfdkbceponodmaaDoor
open Go.RowKit
set_option linter.unusedVariables false
set_option linter.unusedSimpArgs false
set_option linter.unnecessarySimpa false
def pc : Nat → Nat → Nat
  | 0, _ => 0
  | n + 1, x => (x % 2) + pc n (x / 2)
theorem land_split (a b y M : Nat) (ha : a < 256) (hb : b < 256) : (a + 256 * y) &&& (b + 256 * M) = (a &&& b) + 256 * (y &&& M) := by
  have h1 : a &&& b < 256 := Nat.and_lt_two_pow (n := 8) a hb
  apply Nat.eq_of_testBit_eq
  intro i
  have e : ∀ (u v : Nat), u < 256 → (u + 256 * v).testBit i = if i < 8 then u.testBit i else v.testBit (i - 8) := fun u v hu => by
    rw [Nat.add_comm, show 256 * v = 2 ^ 8 * v from rfl, Nat.testBit_two_pow_mul_add v (show u < 2 ^ 8 from hu)]
  rw [Nat.testBit_and, e a y ha, e b M hb, e _ _ h1]
  split <;> simp [Nat.testBit_and]
def bts : Nat → List Nat → Nat
  | 0, _ => 0
  | _ + 1, [] => 0
  | n + 1, p :: l => p + 256 * bts n l
theorem eachByte (P : Nat → Bool) (h : (List.range 256).all P = true) {a : Nat} (ha : a < 256) : P a = true := List.all_eq_true.1 h a (List.mem_range.2 ha)
def s1 (M x : Nat) : Nat := ((x / 2) &&& M) + (x &&& M)
def s2 (M x : Nat) : Nat := ((x / 4) &&& M) + (x &&& M)
def s3 (M x : Nat) : Nat := (x / 16 + x) &&& M
theorem s1_split (a y M : Nat) (ha : a < 256) : s1 (85 + 256 * M) (a + 256 * y) = s1 85 a + 256 * s1 M y := by
  unfold s1
  have h2 : (a + 256 * y) / 2 = (a / 2 + 128 * (y % 2)) + 256 * (y / 2) := by omega
  have h3 : (a / 2 + 128 * (y % 2)) &&& 85 = (a / 2) &&& 85 := by
    have h4 : y % 2 = 0 ∨ y % 2 = 1 := by omega
    rcases h4 with h4 | h4
    · rw [h4]; rfl
    · rw [h4]
      have := eachByte (fun a => decide (((a / 2 + 128 * 1) &&& 85) = ((a / 2) &&& 85))) (by decide +kernel) ha
      exact of_decide_eq_true this
  rw [land_split a 85 y M ha (by decide), h2, land_split _ 85 _ M (by omega) (by decide), h3]
  omega
theorem s1_low {a : Nat} (ha : a < 256) : s1 85 a < 256 := by
  have := eachByte (fun a => decide (s1 85 a < 256)) (by decide +kernel) ha
  exact of_decide_eq_true this
theorem s2_split (a y M : Nat) (ha : a < 256) : s2 (51 + 256 * M) (a + 256 * y) = s2 51 a + 256 * s2 M y := by
  unfold s2
  have h2 : (a + 256 * y) / 4 = (a / 4 + 64 * (y % 4)) + 256 * (y / 4) := by omega
  have h3 : (a / 4 + 64 * (y % 4)) &&& 51 = (a / 4) &&& 51 := by
    have h4 : y % 4 = 0 ∨ y % 4 = 1 ∨ y % 4 = 2 ∨ y % 4 = 3 := by omega
    have := eachByte (fun a => decide (((a / 4 + 64 * 1) &&& 51) = ((a / 4) &&& 51) ∧ ((a / 4 + 64 * 2) &&& 51) = ((a / 4) &&& 51) ∧ ((a / 4 + 64 * 3) &&& 51) = ((a / 4) &&& 51))) (by decide +kernel) ha
    have := of_decide_eq_true this
    rcases h4 with h4 | h4 | h4 | h4 <;> rw [h4]
    · rfl
    · exact this.1
    · exact this.2.1
    · exact this.2.2
  rw [land_split a 51 y M ha (by decide), h2, land_split _ 51 _ M (by omega) (by decide), h3]
  omega
theorem s2_low {a : Nat} (ha : a < 256) : s2 51 a < 256 := by
  have := eachByte (fun a => decide (s2 51 a < 256)) (by decide +kernel) ha
  exact of_decide_eq_true this
/-- what the first three steps make of a byte -/
theorem byte_pc {a : Nat} (ha : a < 256) : ((s2 51 (s1 85 a)) / 16 + (s2 51 (s1 85 a)) % 16) = pc 8 a ∧ (s2 51 (s1 85 a)) % 16 ≤ 4 ∧ (s2 51 (s1 85 a)) / 16 ≤ 4 ∧ s2 51 (s1 85 a) < 256 ∧ pc 8 a ≤ 8 := by
  have := eachByte (fun a => decide (((s2 51 (s1 85 a)) / 16 + (s2 51 (s1 85 a)) % 16) = pc 8 a ∧ (s2 51 (s1 85 a)) % 16 ≤ 4 ∧ (s2 51 (s1 85 a)) / 16 ≤ 4 ∧ s2 51 (s1 85 a) < 256 ∧ pc 8 a ≤ 8)) (by decide +kernel) ha
  exact of_decide_eq_true this
/-- the third step, of bytes whose halves are small -/
theorem s3_split (a y M : Nat) (ha : a < 256) (h1 : a % 16 ≤ 4) (h2 : a / 16 ≤ 4) (h3 : y % 16 ≤ 4) : s3 (15 + 256 * M) (a + 256 * y) = (a / 16 + a % 16) + 256 * s3 M y := by
  unfold s3
  have e : (a + 256 * y) / 16 + (a + 256 * y) = (a / 16 + a % 16 + 16 * (a / 16 + y % 16)) + 256 * (y / 16 + y) := by omega
  rw [e, land_split _ 15 _ M (by omega) (by decide)]
  have : (a / 16 + a % 16 + 16 * (a / 16 + y % 16)) &&& 15 = a / 16 + a % 16 := by
    rw [show (15 : Nat) = 2 ^ 4 - 1 from rfl, Nat.and_two_pow_sub_one_eq_mod]
    omega
  rw [this]
theorem pc_add : ∀ (n m x : Nat), pc (n + m) x = pc n x + pc m (x / 2 ^ n)
  | 0, m, x => by simp [pc]
  | n + 1, m, x => by
    rw [show n + 1 + m = (n + m) + 1 by omega, show pc ((n + m) + 1) x = x % 2 + pc (n + m) (x / 2) from rfl, show pc (n + 1) x = x % 2 + pc n (x / 2) from rfl]
    rw [pc_add n m, Nat.div_div_eq_div_mul, Nat.pow_succ, Nat.mul_comm 2]
    omega
theorem pc_mod (a y : Nat) (ha : a < 256) : pc 8 (a + 256 * y) = pc 8 a := by
  unfold pc pc pc pc pc pc pc pc pc
  omega
def masks : Nat → Nat → Nat
  | _, 0 => 0
  | b, n + 1 => b + 256 * masks b n
def pcs : Nat → Nat → Nat
  | 0, _ => 0
  | n + 1, x => pc 8 (x % 256) + 256 * pcs n (x / 256)
/-- All three steps: each byte its count. -/
theorem three (n : Nat) : ∀ x, x < 256 ^ n → s3 (masks 15 n) (s2 (masks 51 n) (s1 (masks 85 n) x)) = pcs n x ∧ (s2 (masks 51 n) (s1 (masks 85 n) x)) % 16 ≤ 4 := by
  induction n with
  | zero => intro x hx; have : x = 0 := by simp at hx; omega
            subst this; decide
  | succ n ih =>
    intro x hx
    have hx2 : x / 256 < 256 ^ n := by
      rw [Nat.pow_succ] at hx
      exact Nat.div_lt_of_lt_mul (by rw [Nat.mul_comm]; exact hx)
    obtain ⟨i1, i2⟩ := ih _ hx2
    have ha : x % 256 < 256 := Nat.mod_lt _ (by decide)
    obtain ⟨b1, b2, b3, b4, b5⟩ := byte_pc ha
    have e : x = x % 256 + 256 * (x / 256) := by omega
    unfold masks
    have e1 : s1 (85 + 256 * masks 85 n) x = s1 85 (x % 256) + 256 * s1 (masks 85 n) (x / 256) := by
      conv => lhs; rw [e]
      exact s1_split _ _ _ ha
    rw [e1, s2_split _ _ _ (s1_low ha), s3_split _ _ _ b4 b2 b3 i2, i1, b1]
    refine ⟨rfl, ?_⟩
    omega
theorem three64 (x : Nat) (hx : x < 18446744073709551616) : s3 1085102592571150095 (s2 3689348814741910323 (s1 6148914691236517205 x)) = pcs 8 x :=
  (three 8 x hx).1
theorem last4 (x : Nat) : ∃ p0 p1 p2 p3 p4 p5 p6 p7 : Nat, pcs 8 x = p0 + 256 * (p1 + 256 * (p2 + 256 * (p3 + 256 * (p4 + 256 * (p5 + 256 * (p6 + 256 * (p7 + 256 * 0))))))) ∧ pc 64 x = p0 + p1 + p2 + p3 + p4 + p5 + p6 + p7 ∧ p0 ≤ 8 ∧ p1 ≤ 8 ∧ p2 ≤ 8 ∧ p3 ≤ 8 ∧ p4 ≤ 8 ∧ p5 ≤ 8 ∧ p6 ≤ 8 ∧ p7 ≤ 8 := by
  have h : ∀ y, pc 8 (y % 256) ≤ 8 := fun y => (byte_pc (Nat.mod_lt y (by decide))).2.2.2.2
  have g : ∀ m y, pc (8 + m) y = pc 8 (y % 256) + pc m (y / 256) := fun m y => by
    rw [pc_add 8 m]
    congr 1
    conv => lhs; rw [show y = y % 256 + 256 * (y / 256) by omega]
    exact pc_mod _ _ (Nat.mod_lt _ (by decide))
  refine ⟨_, _, _, _, _, _, _, _, rfl, ?_, h _, h _, h _, h _, h _, h _, h _, h _⟩
  rw [show (64 : Nat) = 8 + (8 + (8 + (8 + (8 + (8 + (8 + (8 + 0))))))) from rfl, g, g, g, g, g, g, g, g]
  simp only [pc]
  omega
theorem dv {k L R x : Nat} (hk : 0 < k) (h : x = L + k * R) (hL : L < k) : x / k = R := by
  rw [h, Nat.add_mul_div_left _ _ hk, Nat.div_eq_of_lt hL, Nat.zero_add]
theorem sum4 {y z u v s : Nat} {p0 p1 p2 p3 p4 p5 p6 p7 : Nat} (hy : y = p0 + 256 * (p1 + 256 * (p2 + 256 * (p3 + 256 * (p4 + 256 * (p5 + 256 * (p6 + 256 * (p7 + 256 * 0)))))))) (hs : s = p0 + p1 + p2 + p3 + p4 + p5 + p6 + p7) (h0 : p0 ≤ 8) (h1 : p1 ≤ 8) (h2 : p2 ≤ 8) (h3 : p3 ≤ 8) (h4 : p4 ≤ 8) (h5 : p5 ≤ 8) (h6 : p6 ≤ 8) (h7 : p7 ≤ 8)
    (hz : z = y + y / 256) (hu : u = z + z / 65536) (hv : v = u + u / 4294967296) : v % 128 = s ∧ v < 9223372036854775808 := by
  have e1 : y / 256 = p1 + 256 * (p2 + 256 * (p3 + 256 * (p4 + 256 * (p5 + 256 * (p6 + 256 * p7))))) := dv (L := p0) (by decide) (by rw [hy]; rfl) (by omega)
  rw [e1, hy] at hz
  have e2 : z / 65536 = (p2 + p3) + 256 * ((p3 + p4) + 256 * ((p4 + p5) + 256 * ((p5 + p6) + 256 * ((p6 + p7) + 256 * p7)))) := dv (L := (p0 + p1) + 256 * (p1 + p2)) (by decide) (by rw [hz]; clear hz hu hv hy e1; omega) (by clear hz hu hv hy e1; omega)
  rw [e2, hz] at hu
  clear e1 e2 hz hy
  have e3 : u / 4294967296 = (p4 + p5 + p6 + p7) + 256 * ((p5 + p6 + p7) + 256 * ((p6 + p7) + 256 * p7)) := dv (L := (p0 + p1 + p2 + p3) + 256 * ((p1 + p2 + p3 + p4) + 256 * ((p2 + p3 + p4 + p5) + 256 * (p3 + p4 + p5 + p6)))) (by decide) (by rw [hu]; clear hu hv; omega) (by clear hu hv; omega)
  rw [e3, hu] at hv
  clear e3 hu
  refine ⟨?_, by omega⟩
  have : v = s + 128 * (2 * ((p1+p2+p3+p4 + (p5+p6+p7)) + 256 * ((p2+p3+p4+p5 + (p6+p7)) + 256 * ((p3+p4+p5+p6 + p7) + 256 * ((p4+p5+p6+p7) + 256 * ((p5+p6+p7) + 256 * ((p6+p7) + 256 * p7))))))) := by rw [hv, hs]; clear hv hs; omega
  rw [this, Nat.add_mul_mod_self_left]
  exact Nat.mod_eq_of_lt (by omega)

/-! ### OnesCount64. -/
def ocA (x m : Int) : Int := IntKind.wrap .u64 ((BitVec.ofInt (IntKind.bits .u64) x &&& BitVec.ofInt (IntKind.bits .u64) m).toNat : Int)
def ocS (x : Int) (k : Nat) : Int := Int.fdiv x (2 ^ (min k (IntKind.bits .u64)))
def oc1 (x : Int) : Int := IntKind.wrap .u64 (ocA (ocS x 1) 6148914691236517205 + ocA x 6148914691236517205)
def oc2 (x : Int) : Int := IntKind.wrap .u64 (ocA (ocS x 2) 3689348814741910323 + ocA x 3689348814741910323)
def oc3 (x : Int) : Int := ocA (IntKind.wrap .u64 (ocS x 4 + x)) 1085102592571150095
def oc4 (x : Int) : Int := IntKind.wrap .u64 (x + ocS x 8)
def oc5 (x : Int) : Int := IntKind.wrap .u64 (x + ocS x 16)
def oc6 (x : Int) : Int := IntKind.wrap .u64 (x + ocS x 32)
theorem Ones_form (x : Int) : fn_math_bits_OnesCount64 x = some (IntKind.wrap .i64 ((BitVec.ofInt (IntKind.bits .i64) (IntKind.wrap .i64 (oc6 (oc5 (oc4 (oc3 (oc2 (oc1 x))))))) &&& BitVec.ofInt (IntKind.bits .i64) 127).toNat : Int)) := rfl
theorem ocA_eq (x m : Nat) (M : Int) (hM : M = (m : Int)) (hx : x < 18446744073709551616) (hm : m < 18446744073709551616) : ocA (x : Int) M = ((x &&& m : Nat) : Int) := by
  rw [hM]
  exact andU x m hx hm
theorem ocS_eq (x k : Nat) (hk : k < 64) : ocS (x : Int) k = ((x / 2 ^ k : Nat) : Int) := by
  unfold ocS
  have h1 : min k (IntKind.bits .u64) = k := Nat.min_eq_left (Nat.le_of_lt hk)
  have hp : ((2 : Int) ^ k) = ((2 ^ k : Nat) : Int) := by simp
  rw [h1, hp, Int.fdiv_eq_ediv_of_nonneg _ (Int.natCast_nonneg _)]
  rfl
theorem and_le (x m : Nat) : x &&& m ≤ m := Nat.and_le_right
theorem oc1_eq (x : Nat) (hx : x < 18446744073709551616) : oc1 (x : Int) = ((s1 6148914691236517205 x : Nat) : Int) := by
  unfold oc1 s1
  rw [ocS_eq x 1 (by decide), ocA_eq (x / 2 ^ 1) 6148914691236517205 6148914691236517205 rfl (by omega) (by decide), ocA_eq x 6148914691236517205 6148914691236517205 rfl hx (by decide), ← Int.natCast_add]
  have b1 := and_le (x / 2 ^ 1) 6148914691236517205
  have b2 := and_le x 6148914691236517205
  exact wrapU _ (by omega)
theorem oc2_eq (x : Nat) (hx : x < 18446744073709551616) : oc2 (x : Int) = ((s2 3689348814741910323 x : Nat) : Int) := by
  unfold oc2 s2
  rw [ocS_eq x 2 (by decide), ocA_eq (x / 2 ^ 2) 3689348814741910323 3689348814741910323 rfl (by omega) (by decide), ocA_eq x 3689348814741910323 3689348814741910323 rfl hx (by decide), ← Int.natCast_add]
  have b1 := and_le (x / 2 ^ 2) 3689348814741910323
  have b2 := and_le x 3689348814741910323
  exact wrapU _ (by omega)
theorem oc3_eq (z : Nat) (hz : z ≤ 7378697629483820646) : oc3 (z : Int) = ((s3 1085102592571150095 z : Nat) : Int) := by
  unfold oc3 s3
  rw [ocS_eq z 4 (by decide), ← Int.natCast_add, wrapU _ (by omega), ocA_eq _ 1085102592571150095 1085102592571150095 rfl (by omega) (by decide)]
theorem s1_lt (x : Nat) : s1 6148914691236517205 x < 18446744073709551616 := by
  have b1 := and_le (x / 2) 6148914691236517205
  have b2 := and_le x 6148914691236517205
  unfold s1; omega
theorem s2_lt (x : Nat) : s2 3689348814741910323 x ≤ 7378697629483820646 := by
  have b1 := and_le (x / 4) 3689348814741910323
  have b2 := and_le x 3689348814741910323
  unfold s2; omega
theorem oc4_eq (w : Nat) (h : w + w / 256 < 18446744073709551616) : oc4 (w : Int) = ((w + w / 256 : Nat) : Int) := by
  unfold oc4
  rw [ocS_eq w 8 (by decide), ← Int.natCast_add]
  exact wrapU _ h
theorem oc5_eq (w : Nat) (h : w + w / 65536 < 18446744073709551616) : oc5 (w : Int) = ((w + w / 65536 : Nat) : Int) := by
  unfold oc5
  rw [ocS_eq w 16 (by decide), ← Int.natCast_add]
  exact wrapU _ h
theorem oc6_eq (w : Nat) (h : w + w / 4294967296 < 18446744073709551616) : oc6 (w : Int) = ((w + w / 4294967296 : Nat) : Int) := by
  unfold oc6
  rw [ocS_eq w 32 (by decide), ← Int.natCast_add]
  exact wrapU _ h
theorem oc7_eq (v : Nat) (h : v < 9223372036854775808) : IntKind.wrap .i64 ((BitVec.ofInt (IntKind.bits .i64) (IntKind.wrap .i64 (v : Int)) &&& BitVec.ofInt (IntKind.bits .i64) 127).toNat : Int) = ((v % 128 : Nat) : Int) := by
  rw [w64 (x := (v : Int)) (by omega) (by omega)]
  show IntKind.wrap .i64 ((BitVec.ofInt 64 (v : Int) &&& BitVec.ofInt 64 ((127 : Nat) : Int)).toNat : Int) = _
  rw [ofInt_nat, ofInt_nat, BitVec.toNat_and, BitVec.toNat_ofNat, BitVec.toNat_ofNat, Nat.mod_eq_of_lt (by omega), Nat.mod_eq_of_lt (by decide), show (127 : Nat) = 2 ^ 7 - 1 from rfl, Nat.and_two_pow_sub_one_eq_mod]
  exact w64 (by omega) (by omega)
theorem Ones_sum (w s : Nat) (h : ∃ p0 p1 p2 p3 p4 p5 p6 p7 : Nat, w = p0 + 256 * (p1 + 256 * (p2 + 256 * (p3 + 256 * (p4 + 256 * (p5 + 256 * (p6 + 256 * (p7 + 256 * 0))))))) ∧ s = p0 + p1 + p2 + p3 + p4 + p5 + p6 + p7 ∧ p0 ≤ 8 ∧ p1 ≤ 8 ∧ p2 ≤ 8 ∧ p3 ≤ 8 ∧ p4 ≤ 8 ∧ p5 ≤ 8 ∧ p6 ≤ 8 ∧ p7 ≤ 8) :
    IntKind.wrap .i64 ((BitVec.ofInt (IntKind.bits .i64) (IntKind.wrap .i64 (oc6 (oc5 (oc4 (w : Int))))) &&& BitVec.ofInt (IntKind.bits .i64) 127).toNat : Int) = ((s : Nat) : Int) := by
  obtain ⟨p0, p1, p2, p3, p4, p5, p6, p7, q, qs, c0, c1, c2, c3, c4, c5, c6, c7⟩ := h
  obtain ⟨r1, r2⟩ := sum4 q qs c0 c1 c2 c3 c4 c5 c6 c7 rfl rfl rfl
  clear q qs c0 c1 c2 c3 c4 c5 c6 c7
  generalize h1 : w + w / 256 = w1 at *
  generalize h2 : w1 + w1 / 65536 = w2 at *
  generalize h3 : w2 + w2 / 4294967296 = w3 at *
  rw [oc4_eq w (by omega), h1, oc5_eq w1 (by omega), h2, oc6_eq w2 (by omega), h3, oc7_eq w3 r2, r1]
theorem Ones_eq (x : Nat) (hx : x < 18446744073709551616) : fn_math_bits_OnesCount64 (x : Int) = some ((pc 64 x : Nat) : Int) := by
  rw [Ones_form, oc1_eq x hx, oc2_eq _ (s1_lt x), oc3_eq _ (s2_lt _), three64 x hx]
  exact congrArg some (Ones_sum _ _ (last4 x))
/-- Bits counted one by one. -/
theorem pc_filter : ∀ (n x : Nat), pc n x = ((List.range n).filter (fun i => x.testBit i)).length
  | 0, _ => rfl
  | n + 1, x => by
    have e : (fun i => x.testBit i) ∘ Nat.succ = fun i => (x / 2).testBit i := funext fun i => by
      show x.testBit (i + 1) = _
      rw [Nat.testBit_succ]
    rw [show pc (n + 1) x = x % 2 + pc n (x / 2) from rfl, pc_filter n (x / 2), List.range_succ_eq_map, List.filter_cons, List.filter_map, e]
    have h0 : x.testBit 0 = decide (x % 2 = 1) := Nat.testBit_zero x
    rw [h0]
    by_cases h : x % 2 = 1
    · rw [if_pos (decide_eq_true h), List.length_cons, List.length_map, h]
      omega
    · rw [if_neg (by simpa using h), List.length_map]
      omega
def wsum (l : List Int) : Nat := (l.map fun w => pc 64 w.toNat).sum
theorem mem_cons (w : Int) (l : List Int) (i : Nat) : mem (w :: l) i = if i < 64 then w.toNat.testBit i else mem l (i - 64) := by
  unfold mem
  by_cases h : i < 64
  · rw [if_pos h, Nat.div_eq_of_lt h, Nat.mod_eq_of_lt h]
    rfl
  · rw [if_neg h, show i / 64 = (i - 64) / 64 + 1 by omega, show i % 64 = (i - 64) % 64 by omega]
    rfl
theorem wsum_eq : ∀ l : List Int, ((List.range (64 * l.length)).filter (mem l)).length = wsum l
  | [] => rfl
  | w :: l => by
    rw [show 64 * (w :: l).length = 64 + 64 * l.length by simp; omega, List.range_add, List.filter_append, List.length_append, List.filter_map, List.length_map]
    have e1 : (List.range 64).filter (mem (w :: l)) = (List.range 64).filter (fun i => w.toNat.testBit i) := List.filter_congr fun i hi => by
      rw [mem_cons, if_pos (List.mem_range.1 hi)]
    have e2 : (mem (w :: l)) ∘ (64 + ·) = mem l := funext fun i => by
      show mem (w :: l) (64 + i) = _
      rw [mem_cons, if_neg (by omega), Nat.add_sub_cancel_left]
    rw [e1, e2, wsum_eq l, ← pc_filter]
    simp [wsum]
theorem mems_len {n : Nat} {l : List Int} (h : Ds n l) : (mems n l).length = wsum l := by
  have hl := h.len
  rw [← wsum_eq]
  have := filter_gap (p := mem l) (c := n) (64 * l.length - n) (fun j h1 _ => h.top j h1)
  rw [show n + (64 * l.length - n) = 64 * l.length by omega] at this
  rw [this]
  rfl
theorem pc_le (n x : Nat) : pc n x ≤ n := by
  rw [pc_filter]; exact filter_len _ _
theorem wsum_snoc {l : List Int} {k : Nat} (hk : k < l.length) : wsum (l.take (k + 1)) = wsum (l.take k) + pc 64 (l[k]).toNat := by
  unfold wsum
  rw [take_snoc hk, List.map_append, List.sum_append]
  simp
/-- Count. -/
theorem Count_some {n : Nat} {l : List Int} (h : Ds n l) : fn_dense_Set_Count (some ((n : Int), l)) = some (((mems n l).length : Nat) : Int) := by
  have hn := h.hn
  have hl := h.len
  have hb : ∀ k, k ≤ l.length → wsum (l.take k) ≤ 64 * k := fun k => by
    induction k with
    | zero => intro _; simp [wsum]
    | succ k ih =>
      intro hk
      have := ih (by omega)
      have h2 := pc_le 64 (l[k]).toNat
      rw [wsum_snoc (by omega : k < l.length)]
      omega
  unfold fn_dense_Set_Count
  have hlp : loop (fn_dense_Set_Count_l1 ((n : Int), l)) ((0 : Int), (0 : Int)) = some ((wsum l : Nat) : Int) := by
    have := loop_nat (body := fn_dense_Set_Count_l1 ((n : Int), l)) (fun k : Nat => (((wsum (l.take k) : Nat) : Int), (k : Int))) l.length (b := ((wsum l : Nat) : Int)) ?_ ?_
    · exact this
    · intro k hk
      unfold fn_dense_Set_Count_l1
      have hw := h.wd _ (List.getElem_mem hk)
      unfold Wd at hw
      obtain ⟨x, hx⟩ := Int.eq_ofNat_of_zero_le hw.1
      have ho := Ones_eq x (by omega)
      rw [← hx] at ho
      have hp : l[k].toNat = x := by omega
      have h1 := hb k (by omega)
      have h2 := hb (k + 1) (by omega)
      have e : wsum (l.take (k + 1)) = wsum (l.take k) + pc 64 x := by
        rw [wsum_snoc hk, hp]
      simp only [dlt hk, cond_true, getN hk, ho, Option.bind_some]
      rw [w64s hk (by omega), e, w64 (by omega) (by omega), ← Int.natCast_add]
    · unfold fn_dense_Set_Count_l1
      simp
  simp only [Option.isNone_some, cond_false, Option.bind_some]
  rw [hlp, mems_len h]
  rfl
end Go.Proofs.YtfdkbceponodmaaDoor
namespace Go.Proofs.YtfdkbceponodmaaDoor
set_option linter.unusedVariables false
theorem strict_eq : ∀ {xs ys : List Int}, xs.Pairwise (· < ·) → ys.Pairwise (· < ·) → (∀ a, a ∈ xs ↔ a ∈ ys) → xs = ys
  | [], [], _, _, _ => rfl
  | [], y :: ys, _, _, h => by have := (h y).2 (by simp); simp at this
  | x :: xs, [], _, _, h => by have := (h x).1 (by simp); simp at this
  | x :: xs, y :: ys, hx, hy, h => by
    obtain ⟨hx1, hx2⟩ := List.pairwise_cons.1 hx
    obtain ⟨hy1, hy2⟩ := List.pairwise_cons.1 hy
    have e : x = y := by
      have h1 := (h x).1 (by simp)
      have h2 := (h y).2 (by simp)
      rcases List.mem_cons.1 h1 with h1 | h1
      · exact h1
      · rcases List.mem_cons.1 h2 with h2 | h2
        · exact h2.symm
        · have := hy1 x h1; have := hx1 y h2; omega
    subst e
    rw [strict_eq hx2 hy2 (fun a => ?_)]
    constructor
    · intro ha
      rcases List.mem_cons.1 ((h a).1 (by simp [ha])) with e | e
      · subst e; have := hx1 a ha; omega
      · exact e
    · intro ha
      rcases List.mem_cons.1 ((h a).2 (by simp [ha])) with e | e
      · subst e; have := hy1 a ha; omega
      · exact e
theorem compactUpTo_sorted {zs : List Int} (hs : zs.Pairwise (· ≤ ·)) : ∀ m, m ≤ zs.length → (Lib.compactUpTo zs.toArray m).Pairwise (· < ·) ∧ ∀ a, a ∈ Lib.compactUpTo zs.toArray m ↔ a ∈ zs.take m
  | 0, _ => by simp [Lib.compactUpTo]
  | m + 1, h => by
    obtain ⟨h1, h2⟩ := compactUpTo_sorted hs m (by omega)
    have hm : m < zs.length := by omega
    have e : zs.toArray[m]! = zs[m] := by simp [getElem!_pos, hm]
    rw [Lib.compactUpTo_succ, e]
    have htk : zs.take (m + 1) = zs.take m ++ [zs[m]] := List.take_succ_eq_append_getElem hm
    have hle : ∀ a ∈ zs.take m, a ≤ zs[m] := by
      intro a ha
      have := hs.sublist (List.take_sublist (m + 1) zs)
      rw [htk] at this
      exact (List.pairwise_append.1 this).2.2 a ha _ (by simp)
    rw [htk]
    cases hk : Lib.keeps zs.toArray m with
    | false =>
      simp only [Bool.false_eq_true, if_false, List.append_nil]
      refine ⟨h1, fun a => ?_⟩
      rw [h2, List.mem_append]
      have hm0 : m ≠ 0 := by rintro rfl; simp [Lib.keeps] at hk
      have he : zs.toArray[m]! = zs.toArray[m - 1]! := by
        simp [Lib.keeps, hm0] at hk; simpa using hk
      have hp : m - 1 < zs.length := by omega
      have e2 : zs.toArray[m - 1]! = zs[m - 1] := by simp [getElem!_pos, hp]
      rw [e, e2] at he
      constructor
      · exact .inl
      · rintro (h | h)
        · exact h
        · simp at h; rw [h, he]
          exact List.mem_take_iff_getElem.2 ⟨m - 1, by omega, rfl⟩
    | true =>
      simp only [if_true]
      refine ⟨List.pairwise_append.2 ⟨h1, by simp, fun a ha b hb => ?_⟩, fun a => by rw [List.mem_append, List.mem_append, h2]⟩
      simp at hb; subst hb
      have ha' := (h2 a).1 ha
      have hle' := hle a ha'
      rcases Int.lt_or_eq_of_le hle' with h | h
      · exact h
      · exfalso
        obtain ⟨j, hj, rfl⟩ := List.mem_take_iff_getElem.1 ha'
        have hm0 : m ≠ 0 := by omega
        have hp : m - 1 < zs.length := by omega
        have e2 : zs.toArray[m - 1]! = zs[m - 1] := by simp [getElem!_pos, hp]
        simp only [Lib.keeps, e, e2] at hk
        simp [hm0] at hk
        have a1 : zs[j] ≤ zs[m - 1] := by
          rcases Nat.lt_or_ge j (m - 1) with q | q
          · exact List.pairwise_iff_getElem.1 hs j (m - 1) _ _ q
          · have : j = m - 1 := by omega
            subst this; exact Int.le_refl _
        have a2 : zs[m - 1] ≤ zs[m] := List.pairwise_iff_getElem.1 hs (m - 1) m _ _ (by omega)
        omega
theorem compact_sorted {zs : List Int} (hs : zs.Pairwise (· ≤ ·)) : (Lib.compact zs).Pairwise (· < ·) ∧ ∀ a, a ∈ Lib.compact zs ↔ a ∈ zs := by
  have := compactUpTo_sorted hs zs.length (Nat.le_refl _)
  rw [List.take_length] at this
  exact this
end Go.Proofs.YtfdkbceponodmaaDoor
namespace Go.Proofs.YtfdkbceponodmaaDoor
set_option linter.unusedVariables false
set_option linter.unusedSimpArgs false
set_option linter.unnecessarySimpa false
def ins (i : Int) : List Int → List Int
  | [] => [i]
  | x :: l => if i < x then i :: x :: l else x :: ins i l
theorem ins_mem (i a : Int) : ∀ l, a ∈ ins i l ↔ a = i ∨ a ∈ l
  | [] => by simp [ins]
  | x :: l => by
    unfold ins
    split
    · simp
    · rw [List.mem_cons, ins_mem i a l, List.mem_cons]
      constructor
      · rintro (h | h | h) <;> simp [h]
      · rintro (h | h | h) <;> simp [h]
theorem ins_rs (i : Int) : ∀ l : List Int, l.Pairwise (· < ·) → i ∉ l → (ins i l).Pairwise (· < ·)
  | [], _, _ => by simp [ins]
  | x :: l, h, hi => by
    obtain ⟨h1, h2⟩ := List.pairwise_cons.1 h
    have hx : i ≠ x := fun e => hi (by simp [e])
    unfold ins
    split
    · rename_i hlt
      refine List.pairwise_cons.2 ⟨fun a ha => ?_, h⟩
      rcases List.mem_cons.1 ha with rfl | ha
      · exact hlt
      · have := h1 a ha; omega
    · refine List.pairwise_cons.2 ⟨fun a ha => ?_, ins_rs i l h2 (fun hm => hi (by simp [hm]))⟩
      rcases (ins_mem i a l).1 ha with rfl | ha
      · omega
      · exact h1 a ha
theorem ins_len (i : Int) : ∀ l : List Int, (ins i l).length = l.length + 1
  | [] => rfl
  | x :: l => by unfold ins; split <;> simp [ins_len i l]
theorem ins_cons (i x : Int) (l : List Int) : ins i (x :: l) = if i < x then i :: x :: l else x :: ins i l := rfl
def rHas (L : List Int) (i : Int) : Bool := decide (i ∈ L)
def rAdd (s : Int) (L : List Int) (i : Int) : List Int := if (0 ≤ i ∧ i < s) ∧ i ∉ L then ins i L else L
def rAddOk (s : Int) (L : List Int) (i : Int) : Bool := decide ((0 ≤ i ∧ i < s) ∧ i ∉ L)
def rDel (L : List Int) (i : Int) : List Int := L.filter (fun x => !decide (x = i))
def rOr (s : Int) (L : List Int) : List Int → List Int × Bool
  | [] => (L, false)
  | x :: l => ((rOr s (rAdd s L x) l).1, rAddOk s L x || (rOr s (rAdd s L x) l).2)
theorem rAdd_len (s : Int) (L : List Int) (i : Int) : (rAdd s L i).length ≤ L.length + 1 := by
  unfold rAdd
  split
  · rw [ins_len]; exact Nat.le_refl _
  · omega
theorem rOr_len (s : Int) : ∀ (l L : List Int), (rOr s L l).1.length ≤ L.length + l.length
  | [], _ => Nat.le_refl _
  | x :: l, L => by
    have h1 := rOr_len s l (rAdd s L x)
    have h2 := rAdd_len s L x
    unfold rOr
    simp only [List.length_cons]
    omega
theorem rOr_snoc (s : Int) (x : Int) : ∀ (l L : List Int), rOr s L (l ++ [x]) = (rAdd s (rOr s L l).1 x, (rOr s L l).2 || rAddOk s (rOr s L l).1 x)
  | [], L => by simp [rOr]
  | y :: l, L => by
    rw [List.cons_append]
    unfold rOr
    rw [rOr_snoc s x l]
    simp [Bool.or_assoc]
theorem rDel_len {L : List Int} (i : Int) : decide ((rDel L i).length < L.length) = decide (i ∈ L) := by
  unfold rDel
  rw [Bool.eq_iff_iff, decide_eq_true_eq, decide_eq_true_eq, List.length_filter_lt_length_iff_exists]
  simp
theorem find_of {i r : Int} : ∀ {L : List Int}, L.Pairwise (· < ·) → ((r = -1 ∧ ∀ x ∈ L, ¬ i ≤ x) ∨ (r ∈ L ∧ i ≤ r ∧ ∀ x ∈ L, i ≤ x → r ≤ x)) → (L.find? (fun x => decide (i ≤ x))).getD (-1) = r
  | [], _, h => by
    rcases h with h | h
    · simp [h.1]
    · simp at h
  | x :: L, hs, h => by
    obtain ⟨h1, h2⟩ := List.pairwise_cons.1 hs
    by_cases hx : i ≤ x
    · rcases h with h | h
      · exact absurd hx (h.2 x (by simp))
      · rw [List.find?_cons_of_pos (by simpa using hx)]
        have := h.2.2 x (by simp) hx
        rcases List.mem_cons.1 h.1 with rfl | h3
        · rfl
        · have := h1 r h3; omega
    · rw [List.find?_cons_of_neg (by simpa using hx)]
      refine find_of h2 ?_
      rcases h with h | h
      · exact .inl ⟨h.1, fun y hy => h.2 y (by simp [hy])⟩
      · refine .inr ⟨?_, h.2.1, fun y hy => h.2.2 y (by simp [hy])⟩
        rcases List.mem_cons.1 h.1 with rfl | h3
        · exact absurd h.2.1 hx
        · exact h3
theorem rAdd_rs {s : Int} {L : List Int} (h : L.Pairwise (· < ·)) (i : Int) : (rAdd s L i).Pairwise (· < ·) := by
  unfold rAdd
  split
  · rename_i h4; exact ins_rs _ _ h h4.2
  · exact h
theorem rAdd_mem {s : Int} {L : List Int} (i x : Int) : x ∈ rAdd s L i ↔ x ∈ L ∨ (x = i ∧ 0 ≤ i ∧ i < s) := by
  unfold rAdd
  split
  · rename_i h4
    rw [ins_mem]
    constructor
    · rintro (h | h)
      · exact .inr ⟨h, h4.1⟩
      · exact .inl h
    · rintro (h | h)
      · exact .inr h
      · exact .inl h.1
  · rename_i h4
    constructor
    · exact .inl
    · rintro (h | ⟨rfl, h⟩)
      · exact h
      · refine Classical.byContradiction fun h5 => h4 ⟨h, h5⟩
theorem rOr_rs (s : Int) : ∀ (l L : List Int), L.Pairwise (· < ·) → (rOr s L l).1.Pairwise (· < ·)
  | [], _, h => h
  | x :: l, L, h => rOr_rs s l _ (rAdd_rs h x)
theorem rOr_mem (s : Int) (x : Int) : ∀ (l L : List Int), x ∈ (rOr s L l).1 ↔ x ∈ L ∨ (x ∈ l ∧ 0 ≤ x ∧ x < s)
  | [], L => by simp [rOr]
  | y :: l, L => by
    unfold rOr
    dsimp only
    rw [rOr_mem s x l, rAdd_mem, List.mem_cons]
    constructor
    · rintro ((h | ⟨h, h2⟩) | ⟨h, h2⟩)
      · exact .inl h
      · subst h; exact .inr ⟨.inl rfl, h2⟩
      · exact .inr ⟨.inr h, h2⟩
    · rintro (h | ⟨h | h, h2⟩)
      · exact .inl (.inl h)
      · subst h; exact .inl (.inr ⟨rfl, h2⟩)
      · exact .inr ⟨h, h2⟩
theorem rOr_ok (s : Int) : ∀ (l L : List Int), (rOr s L l).2 = true ↔ ∃ x ∈ l, (0 ≤ x ∧ x < s) ∧ x ∉ L
  | [], L => by simp [rOr]
  | y :: l, L => by
    unfold rOr
    dsimp only
    rw [Bool.or_eq_true, rOr_ok s l]
    unfold rAddOk
    rw [decide_eq_true_eq]
    constructor
    · rintro (h | ⟨x, h1, h2, h3⟩)
      · exact ⟨y, by simp, h⟩
      · exact ⟨x, by simp [h1], h2, fun h => h3 ((rAdd_mem _ _).2 (.inl h))⟩
    · rintro ⟨x, h1, h2, h3⟩
      by_cases hy : (0 ≤ y ∧ y < s) ∧ y ∉ L
      · exact .inl hy
      · rcases List.mem_cons.1 h1 with rfl | h1
        · exact absurd ⟨h2, h3⟩ hy
        · refine .inr ⟨x, h1, h2, fun h => ?_⟩
          rcases (rAdd_mem _ _).1 h with h | ⟨rfl, h⟩
          · exact h3 h
          · exact hy ⟨h, h3⟩
theorem sub_len {A B : List Int} (hA : A.Pairwise (· < ·)) (hB : B.Pairwise (· < ·)) (h : ∀ x ∈ A, x ∈ B) : A.length ≤ B.length := by
  have e : B.filter (fun x => decide (x ∈ A)) = A := by
    refine strict_eq (List.Pairwise.filter _ hB) hA fun x => ?_
    rw [List.mem_filter, decide_eq_true_eq]
    exact ⟨fun h => h.2, fun hx => ⟨h x hx, hx⟩⟩
  rw [← e]
  exact List.length_filter_le _ _
theorem ins_last {x : Int} : ∀ {A : List Int}, (∀ y ∈ A, y < x) → ins x A = A ++ [x]
  | [], _ => rfl
  | a :: A, h => by
    have := h a (by simp)
    rw [ins_cons, if_neg (by omega), ins_last (fun y hy => h y (by simp [hy]))]
    rfl
end Go.Proofs.YtfdkbceponodmaaDoor
namespace Go.Proofs.YtfdkbceponodmaaDoor
open Go.RowKit
set_option linter.unusedVariables false
set_option linter.unusedSimpArgs false
set_option linter.unnecessarySimpa false
theorem rfHas {s : Int} {L : List Int} (hL : L.length ≤ 9000000) (i : Int) : fn_ref03_Has (s, L) i = some (rHas L i) := by
  unfold fn_ref03_Has
  rw [loop_some L (fun x => decide (x = i)) (.inr true) (.inl ()) (fun k hk => ?_) ?_]
  · have e : L.any (fun x => decide (x = i)) = rHas L i := by
      unfold rHas
      rw [Bool.eq_iff_iff]
      simp
    rw [e]
    cases rHas L i <;> rfl
  · unfold fn_ref03_Has_l1
    simp
  · unfold fn_ref03_Has_l1
    simp only [dlt hk, cond_true, getN hk, Option.bind_some, w64s hk (by omega)]
    by_cases h : L[k] = i <;> simp [h]
theorem rfAdd {s : Int} {L : List Int} (hL : L.length ≤ 9000000) (i : Int) : fn_ref03_Add (s, L) i = some (s, rAdd s L i, rAddOk s L i) := by
  have hcond : (cond ((decide (i < 0)) || (decide (s ≤ i))) (some (true)) ((fn_ref03_Has (s, L) i).bind fun t1352 => some (t1352))) = some (!rAddOk s L i) := by
    rw [rfHas hL]
    unfold rAddOk rHas
    by_cases h1 : i < 0
    · have h2 : ¬ 0 ≤ i := by omega
      simp [h1, h2]
    · by_cases h2 : s ≤ i
      · have h3 : ¬ i < s := by omega
        simp [h1, h2, h3]
      · have h3 : i < s := by omega
        have h4 : 0 ≤ i := by omega
        simp [h1, h2, h3, h4]
  unfold fn_ref03_Add
  dsimp only
  rw [hcond]
  simp only [Option.bind_some]
  cases ho : rAddOk s L i with
  | false =>
    have : ¬ ((0 ≤ i ∧ i < s) ∧ i ∉ L) := of_decide_eq_false ho
    unfold rAdd
    rw [if_neg this]
    rfl
  | true =>
    have hh : (0 ≤ i ∧ i < s) ∧ i ∉ L := of_decide_eq_true ho
    have he : rAdd s L i = ins i L := by unfold rAdd; rw [if_pos hh]
    have key := loop_inv (body := fn_ref03_Add_l1 (s, L) i) (fun q => ∃ k : Nat, k ≤ L.length ∧ q.2.2 = (k : Int) ∧ q.1.length ≤ k + (if q.2.1 then 1 else 0) ∧ (if q.2.1 then q.1 ++ L.drop k else q.1 ++ ins i (L.drop k)) = ins i L) (fun q => L.length - q.2.2.toNat)
      (Q := fun r => r.1.length ≤ L.length + 1 ∧ (if r.2 then r.1 else r.1 ++ [i]) = ins i L) ?_ (s := (([] : List Int), false, (0 : Int))) ⟨0, Nat.zero_le _, rfl, Nat.zero_le _, by simp⟩
    · obtain ⟨⟨l, t⟩, hlp, q1, q2⟩ := key
      rw [hlp]
      simp only [Bool.not_true, cond_false, Option.bind_some]
      have ha : app l [i] = some (l ++ [i]) := app_eq (by simp at q1 ⊢; omega)
      cases t with
      | true => simp only [if_true] at q2; rw [he, ← q2]; rfl
      | false => simp only [Bool.false_eq_true, if_false] at q2; rw [he, ← q2]; simp [ha]
    · rintro ⟨l, t, j⟩ ⟨k, hk, rfl, hl, hv⟩
      dsimp only at hl hv ⊢
      unfold fn_ref03_Add_l1
      by_cases hkl : k < L.length
      · left
        have hd : L.drop k = L[k] :: L.drop (k + 1) := List.drop_eq_getElem_cons hkl
        rw [hd] at hv
        simp only [dlt hkl, cond_true, getN hkl, Option.bind_some, w64s hkl (by omega)]
        cases t with
        | true =>
          simp only [if_true] at hv
          have ha : app l [L[k]] = some (l ++ [L[k]]) := app_eq (by simp at hl ⊢; omega)
          refine ⟨(l ++ [L[k]], true, ((k + 1 : Nat) : Int)), by simp [ha], ⟨k + 1, by omega, rfl, by simp at hl ⊢; omega, ?_⟩, ?_⟩
          · simp only [if_true]; rw [← hv]; simp
          · show L.length - ((k + 1 : Nat) : Int).toNat < L.length - ((k : Nat) : Int).toNat
            rw [Int.toNat_natCast, Int.toNat_natCast]; omega
        | false =>
          simp only [Bool.false_eq_true, if_false] at hv
          rw [ins_cons] at hv
          by_cases hx : i < L[k]
          · rw [if_pos hx] at hv
            have ha : app l [i] = some (l ++ [i]) := app_eq (by simp at hl ⊢; omega)
            have ha2 : app (l ++ [i]) [L[k]] = some (l ++ [i] ++ [L[k]]) := app_eq (by simp at hl ⊢; omega)
            refine ⟨(l ++ [i] ++ [L[k]], true, ((k + 1 : Nat) : Int)), by simp [hx, ha, ha2], ⟨k + 1, by omega, rfl, ?_, ?_⟩, ?_⟩
            · simp at hl ⊢; omega
            · simp only [if_true]; rw [← hv]; simp
            · show L.length - ((k + 1 : Nat) : Int).toNat < L.length - ((k : Nat) : Int).toNat
              rw [Int.toNat_natCast, Int.toNat_natCast]; omega
          · rw [if_neg hx] at hv
            have ha : app l [L[k]] = some (l ++ [L[k]]) := app_eq (by simp at hl ⊢; omega)
            refine ⟨(l ++ [L[k]], false, ((k + 1 : Nat) : Int)), by simp [hx, ha], ⟨k + 1, by omega, rfl, by simp at hl ⊢; omega, ?_⟩, ?_⟩
            · simp only [Bool.false_eq_true, if_false]; rw [← hv]; simp
            · show L.length - ((k + 1 : Nat) : Int).toNat < L.length - ((k : Nat) : Int).toNat
              rw [Int.toNat_natCast, Int.toNat_natCast]; omega
      · right
        have e : k = L.length := by omega
        subst e
        refine ⟨(l, t), by simp, by cases t <;> simp at hl ⊢ <;> omega, ?_⟩
        cases t with
        | true => simpa using hv
        | false => simpa [ins] using hv
theorem rfOr {s t : Int} {L l : List Int} (hL : L.length ≤ 4000000) (hl : l.length ≤ 4000000) : fn_ref03_Or (s, L) (t, l) = some (s, if s = t then (rOr s L l).1 else L, decide (s = t) && (rOr s L l).2) := by
  have hlp : loop (fn_ref03_Or_l1 (t, l)) (false, (0 : Int), s, L) = some ((rOr s L l).2, s, (rOr s L l).1) := by
    have := loop_nat (body := fn_ref03_Or_l1 (t, l)) (fun k : Nat => ((rOr s L (l.take k)).2, (k : Int), s, (rOr s L (l.take k)).1)) l.length (b := ((rOr s L l).2, s, (rOr s L l).1)) ?_ ?_
    · simpa [rOr] using this
    · intro k hk
      unfold fn_ref03_Or_l1
      have hle := rOr_len s (l.take k) L
      have h2 : (l.take k).length ≤ k := by simp; omega
      simp only [dlt hk, cond_true, getN hk, Option.bind_some, w64s hk (by omega), rfAdd (s := s) (L := (rOr s L (l.take k)).1) (by omega), agr_self]
      rw [take_snoc hk, rOr_snoc]
    · unfold fn_ref03_Or_l1
      simp
  unfold fn_ref03_Or
  dsimp only
  rw [hlp]
  by_cases h : s = t <;> simp [h]
theorem rfSame {A B : List Int} (hA : A.length ≤ 9000000) : fn_ref01_Same A B = some (decide (A = B)) := by
  unfold fn_ref01_Same
  by_cases hl : A.length = B.length
  · rw [loop_alike A B (.inr false) (.inl ()) hl (fun k hk => ?_) ?_]
    · rw [dlen hl]
      by_cases h : A = B <;> simp [h]
    · unfold fn_ref01_Same_l1
      simp
    · unfold fn_ref01_Same_l1
      have hk2 : k < B.length := by omega
      simp only [dlt hk, cond_true, getN hk, getN hk2, Option.bind_some, w64s hk (by omega)]
      by_cases h : A[k] = B[k] <;> simp [h]
  · rw [dlen' hl]
    have : A ≠ B := fun e => hl (by rw [e])
    simp [this]
end Go.Proofs.YtfdkbceponodmaaDoor
namespace Go.Proofs.YtfdkbceponodmaaDoor
open Go.RowKit
set_option linter.unusedVariables false
set_option linter.unusedSimpArgs false
set_option linter.unnecessarySimpa false
/-! ### Words and lists hold the same members. -/
structure Rp (n : Nat) (l : List Int) (L : List Int) : Prop where
  ds : Ds n l
  rs : L.Pairwise (· < ·)
  mm : ∀ x : Int, x ∈ L ↔ 0 ≤ x ∧ mem l x.toNat = true
theorem liN_mem (M : List Nat) (x : Int) : x ∈ liN M ↔ 0 ≤ x ∧ x.toNat ∈ M := by
  unfold liN
  rw [List.mem_map]
  constructor
  · rintro ⟨a, ha, rfl⟩
    exact ⟨Int.natCast_nonneg _, by simpa using ha⟩
  · rintro ⟨h1, h2⟩
    exact ⟨x.toNat, h2, Int.toNat_of_nonneg h1⟩
theorem lt_of_mem {n : Nat} {l : List Int} (h : Ds n l) {k : Nat} (hk : mem l k = true) : k < n := by
  rcases Nat.lt_or_ge k n with h1 | h1
  · exact h1
  · rw [h.top k h1] at hk; cases hk
theorem mems_mem {n : Nat} {l : List Int} (h : Ds n l) (k : Nat) : k ∈ mems n l ↔ mem l k = true := by
  unfold mems
  rw [List.mem_filter, List.mem_range]
  exact ⟨fun h => h.2, fun hk => ⟨lt_of_mem h hk, hk⟩⟩
theorem liN_rs (n : Nat) (l : List Int) : (liN (mems n l)).Pairwise (· < ·) := by
  unfold liN mems
  rw [List.pairwise_map]
  refine List.Pairwise.imp (fun h => ?_) (List.Pairwise.filter (mem l) (List.pairwise_lt_range (n := n)))
  exact Int.ofNat_lt.2 h
theorem Rp.eq {n : Nat} {l L : List Int} (h : Rp n l L) : liN (mems n l) = L :=
  strict_eq (liN_rs n l) h.rs (fun x => by rw [liN_mem, mems_mem h.ds, h.mm])
theorem Rp.len {n : Nat} {l L : List Int} (h : Rp n l L) : (mems n l).length = L.length := by
  rw [← h.eq]; simp [liN]
theorem Rp.le {n : Nat} {l L : List Int} (h : Rp n l L) : L.length ≤ n := by
  rw [← h.len]; exact filter_len _ _
theorem Rp_new {n : Nat} (h : n ≤ 1048576) : Rp n (List.replicate ((n + 63) / 64) 0) [] :=
  ⟨Ds_new h, List.Pairwise.nil, fun x => by simp [mem_rep]⟩
theorem Rp.has {n : Nat} {l L : List Int} (h : Rp n l L) (i : Int) : fn_dense_Set_Has (some ((n : Int), l)) i = some (rHas L i) := by
  rw [Has_some h.ds]
  congr 1
  unfold rHas
  rw [Bool.eq_iff_iff, Bool.and_eq_true, decide_eq_true_eq, decide_eq_true_eq, h.mm]
  constructor
  · exact fun h => ⟨h.1.1, h.2⟩
  · intro h2
    have := lt_of_mem h.ds h2.2
    exact ⟨⟨h2.1, by omega⟩, h2.2⟩
theorem Rp.add {n : Nat} {l L : List Int} (h : Rp n l L) (i : Int) : ∃ l', fn_dense_Set_Add_p0i_ir i n l = some (rAddOk n L i, l') ∧ Rp n l' (rAdd n L i) := by
  obtain ⟨l', h1, h2, h3⟩ := Add_some h.ds i
  have hm := h.mm i
  have e : (decide (0 ≤ i ∧ i < n) && !mem l i.toNat) = rAddOk n L i := by
    unfold rAddOk
    rw [Bool.eq_iff_iff, Bool.and_eq_true, decide_eq_true_eq, decide_eq_true_eq, hm]
    constructor
    · rintro ⟨h5, h6⟩
      exact ⟨h5, fun h7 => by rw [h7.2] at h6; cases h6⟩
    · rintro ⟨h5, h6⟩
      refine ⟨h5, ?_⟩
      cases h7 : mem l i.toNat with
      | false => rfl
      | true => exact absurd ⟨h5.1, h7⟩ h6
  refine ⟨l', by rw [h1, e], h2, ?_, fun x => ?_⟩
  · unfold rAdd
    split
    · rename_i h4
      exact ins_rs _ _ h.rs h4.2
    · exact h.rs
  · rw [h3]
    unfold rAdd
    split
    · rename_i h4
      rw [ins_mem, h.mm, Bool.or_eq_true, decide_eq_true_eq]
      constructor
      · rintro (rfl | h5)
        · exact ⟨h4.1.1, .inr ⟨h4.1, rfl⟩⟩
        · exact ⟨h5.1, .inl h5.2⟩
      · rintro ⟨h5, h6 | h6⟩
        · exact .inr ⟨h5, h6⟩
        · exact .inl (by omega)
    · rename_i h4
      rw [h.mm, Bool.or_eq_true, decide_eq_true_eq]
      constructor
      · exact fun h5 => ⟨h5.1, .inl h5.2⟩
      · rintro ⟨h5, h6 | h6⟩
        · exact ⟨h5, h6⟩
        · have hx : x = i := by omega
          subst hx
          refine ⟨h5, ?_⟩
          cases h7 : mem l x.toNat with
          | true => rfl
          | false => exact absurd ⟨h6.1, fun h8 => by rw [(hm.1 h8).2] at h7; cases h7⟩ h4
theorem Rp.count {n : Nat} {l L : List Int} (h : Rp n l L) : fn_dense_Set_Count (some ((n : Int), l)) = some ((L.length : Nat) : Int) := by
  rw [Count_some h.ds, h.len]
theorem Rp.list {n : Nat} {l L : List Int} (h : Rp n l L) : fn_dense_Set_List_p0_ir n l = some (L, l) := by
  rw [List_some h.ds, h.eq]
theorem dense_loop {n : Nat} {l L : List Int} (h : Rp n l L) {body : Int × List Int → Option ((Int × List Int) ⊕ List Int)}
    (hb : ∀ (c : List Int) (k : Nat), mem l k = true → body ((k : Int), c) = (app c [(k : Int)]).bind fun z => (fn_dense_Set_Next (some ((n : Int), l)) ((k : Int) + 1)).bind fun i => some (.inl (i, z))) (he : ∀ c, body (-1, c) = some (.inr c)) :
    ∃ r, fn_dense_Set_Next (some ((n : Int), l)) 0 = some r ∧ loop body (r, []) = some L := by
  have := gather h.ds hb he
  rw [h.eq] at this
  exact this
theorem Rp.next {n : Nat} {l L : List Int} (h : Rp n l L) (i : Int) : fn_dense_Set_Next (some ((n : Int), l)) i = some ((L.find? (fun x => decide (i ≤ x))).getD (-1)) := by
  obtain ⟨r, h1, h2⟩ := Next_some h.ds i
  rw [h1, find_of (r := r) h.rs]
  rcases h2 with ⟨rfl, h2⟩ | ⟨k, rfl, h2, h3, h4⟩
  · refine .inl ⟨rfl, fun x hx hi => ?_⟩
    have := (h.mm x).1 hx
    rw [h2 x.toNat (by omega)] at this
    cases this.2
  · refine .inr ⟨(h.mm _).2 ⟨Int.natCast_nonneg _, by simpa using h3⟩, h2, fun x hx hi => ?_⟩
    have := (h.mm x).1 hx
    rcases Nat.lt_or_ge x.toNat k with h5 | h5
    · rw [h4 x.toNat (by omega) h5] at this
      cases this.2
    · omega
end Go.Proofs.YtfdkbceponodmaaDoor
namespace Go.Proofs.YtfdkbceponodmaaDoor
open Go.RowKit
set_option linter.unusedVariables false
set_option linter.unusedSimpArgs false
set_option linter.unnecessarySimpa false
/-! ### How many are below. -/
def rk (L : List Int) (i : Int) : Nat := (L.filter (fun x => decide (x < i))).length
theorem rk_le (L : List Int) (i : Int) : rk L i ≤ L.length := List.length_filter_le _ _
theorem rk_split (i : Int) : ∀ {L : List Int}, L.Pairwise (· < ·) → ∀ k (hk : k < L.length), L[k] < i ↔ k < rk L i
  | [], _, k, hk => by simp at hk
  | x :: L, h, k, hk => by
    obtain ⟨h1, h2⟩ := List.pairwise_cons.1 h
    by_cases hx : x < i
    · have e : rk (x :: L) i = rk L i + 1 := by unfold rk; simp [hx]
      rw [e]
      cases k with
      | zero => simp [hx]
      | succ k =>
        have := rk_split i h2 k (by simpa using hk)
        simp only [List.getElem_cons_succ]
        rw [this]
        omega
    · have e : rk (x :: L) i = 0 := by
        unfold rk
        rw [List.length_eq_zero_iff, List.filter_eq_nil_iff]
        intro y hy
        rcases List.mem_cons.1 hy with rfl | hy
        · simpa using hx
        · have := h1 y hy
          simp
          omega
      rw [e]
      have : x ≤ (x :: L)[k] := by
        cases k with
        | zero => exact Int.le_refl _
        | succ k => exact Int.le_of_lt (h1 _ (by simp))
      omega
theorem rk_of {L : List Int} (h : L.Pairwise (· < ·)) {i : Int} {n : Nat} (hn : n ≤ L.length) (h1 : ∀ k (hk : k < L.length), k < n → L[k] < i) (h2 : ∀ k (hk : k < L.length), n ≤ k → ¬ L[k] < i) : rk L i = n := by
  have hl := rk_le L i
  rcases Nat.lt_trichotomy (rk L i) n with h3 | h3 | h3
  · have := (rk_split i h (rk L i) (by omega)).1 (h1 _ (by omega) h3)
    omega
  · exact h3
  · exact absurd ((rk_split i h n (by omega)).2 h3) (h2 n (by omega) (Nat.le_refl _))
theorem rk_next {L : List Int} (h : L.Pairwise (· < ·)) {k : Nat} (hk : k < L.length) : rk L (L[k] + 1) = k + 1 := by
  have hp := List.pairwise_iff_getElem.1 h
  refine rk_of h (by omega) (fun j hj hjk => ?_) (fun j hj hjk => ?_)
  · rcases Nat.lt_or_ge j k with h1 | h1
    · have := hp j k hj hk h1; omega
    · have : j = k := by omega
      subst this; omega
  · have := hp k j hk hj (by omega); omega
theorem rk_zero {L : List Int} (h : ∀ x ∈ L, 0 ≤ x) : rk L 0 = 0 := by
  unfold rk
  rw [List.length_eq_zero_iff, List.filter_eq_nil_iff]
  intro y hy
  have := h y hy
  simp
  omega
theorem rk_get {L : List Int} (h : L.Pairwise (· < ·)) {k : Nat} (hk : k < L.length) : rk L L[k] = k := by
  have hp := List.pairwise_iff_getElem.1 h
  refine rk_of h (by omega) (fun j hj hjk => hp j k hj hk hjk) (fun j hj hjk => ?_)
  rcases Nat.lt_or_ge k j with h1 | h1
  · have := hp k j hk hj h1; omega
  · have : j = k := by omega
    subst this; omega
theorem mem_rk {L : List Int} (h : L.Pairwise (· < ·)) (i : Int) : i ∈ L ↔ ∃ hk : rk L i < L.length, L[rk L i] = i := by
  constructor
  · intro hi
    obtain ⟨k, hk, rfl⟩ := List.getElem_of_mem hi
    have e := rk_get h hk
    exact ⟨by rw [e]; exact hk, by simp only [e]⟩
  · rintro ⟨hk, e⟩
    rw [← e]
    exact List.getElem_mem hk
/-! ### The search. -/
theorem Less_some (a b : Int) : fn_cmp_Less_int a b = some (decide (a < b)) := by
  unfold fn_cmp_Less_int fn_cmp_isNaN_int
  simp
theorem mid_eq (s : Nat) (h : s ≤ 4611686018427387904) : IntKind.wrap .i64 (Int.fdiv (IntKind.wrap .u64 (IntKind.wrap .i64 (s : Int))) (2 ^ (min (Int.toNat 1) (IntKind.bits .u64)))) = ((s / 2 : Nat) : Int) := by
  rw [w64 (x := (s : Int)) (by omega) (by omega)]
  have e1 : IntKind.wrap .u64 (s : Int) = (s : Int) := by rw [IntKind.wrap_u64]; omega
  rw [e1]
  have e2 : ((2 : Int) ^ (min (Int.toNat 1) (IntKind.bits .u64))) = ((2 : Nat) : Int) := rfl
  rw [e2, Int.fdiv_eq_ediv_of_nonneg _ (Int.natCast_nonneg _)]
  rw [show (s : Int) / ((2 : Nat) : Int) = ((s / 2 : Nat) : Int) from rfl]
  exact w64 (by omega) (by omega)
theorem bs_loop {L : List Int} (h : L.Pairwise (· < ·)) (hl : L.length ≤ 4000000) (x : Int) : loop (fn_slices_BinarySearch_int_int_l1 L x) ((0 : Int), ((L.length : Nat) : Int)) = some ((rk L x : Nat) : Int) := by
  refine loop_val (fun s => ∃ lo hi : Nat, s = ((lo : Int), (hi : Int)) ∧ lo ≤ hi ∧ hi ≤ L.length ∧ (∀ k (hk : k < L.length), k < lo → L[k] < x) ∧ (∀ k (hk : k < L.length), hi ≤ k → ¬ L[k] < x)) (fun s => s.2.toNat - s.1.toNat) ?_ ⟨0, L.length, rfl, Nat.zero_le _, Nat.le_refl _, fun k hk h => absurd h (by omega), fun k hk h => absurd h (by omega)⟩
  rintro s ⟨lo, hi, rfl, h1, h2, h3, h4⟩
  unfold fn_slices_BinarySearch_int_int_l1
  by_cases hlt : lo < hi
  · left
    have hm : (lo + hi) / 2 < L.length := by omega
    have hmid := mid_eq (lo + hi) (by omega)
    rw [Int.natCast_add] at hmid
    have hp := List.pairwise_iff_getElem.1 h
    simp only [dlt hlt, cond_true, hmid, getN hm, Option.bind_some, Less_some]
    by_cases hx : L[(lo + hi) / 2] < x
    · refine ⟨((((lo + hi) / 2 + 1 : Nat) : Int), (hi : Int)), ?_, ⟨_, hi, rfl, by omega, h2, fun k hk hkl => ?_, h4⟩, ?_⟩
      · rw [decide_eq_true hx, cond_true, w64s hm (by omega)]
      · rcases Nat.lt_or_ge k ((lo + hi) / 2) with h5 | h5
        · have := hp k _ hk hm h5; omega
        · have : k = (lo + hi) / 2 := by omega
          subst this; exact hx
      · show (hi : Int).toNat - (((lo + hi) / 2 + 1 : Nat) : Int).toNat < (hi : Int).toNat - (lo : Int).toNat
        rw [Int.toNat_natCast, Int.toNat_natCast, Int.toNat_natCast]; omega
    · refine ⟨((lo : Int), (((lo + hi) / 2 : Nat) : Int)), ?_, ⟨lo, _, rfl, by omega, by omega, h3, fun k hk hkl => ?_⟩, ?_⟩
      · rw [decide_eq_false hx, cond_false]
      · rcases Nat.lt_or_ge ((lo + hi) / 2) k with h5 | h5
        · have := hp _ k hm hk h5; omega
        · have : k = (lo + hi) / 2 := by omega
          subst this; exact hx
      · show (((lo + hi) / 2 : Nat) : Int).toNat - (lo : Int).toNat < (hi : Int).toNat - (lo : Int).toNat
        rw [Int.toNat_natCast, Int.toNat_natCast, Int.toNat_natCast]; omega
  · right
    have e : hi = lo := by omega
    subst e
    rw [rk_of h h2 h3 h4]
    simp only [dge hlt, cond_false]
theorem bs_some {L : List Int} (h : L.Pairwise (· < ·)) (hl : L.length ≤ 4000000) (x : Int) : fn_slices_BinarySearch_int_int L x = some (((rk L x : Nat) : Int), decide (x ∈ L)) := by
  unfold fn_slices_BinarySearch_int_int
  rw [bs_loop h hl]
  simp only [Option.bind_some]
  have hm := mem_rk h x
  by_cases hk : rk L x < L.length
  · simp only [dlt hk, cond_true, getN hk, Option.bind_some]
    by_cases hx : L[rk L x] = x
    · have : x ∈ L := hm.2 ⟨hk, hx⟩
      simp [hx, this]
    · have : ¬ x ∈ L := fun h => hx (hm.1 h).2
      simp [hx, this, fn_slices_isNaN_int]
  · have : ¬ x ∈ L := fun h => hk (hm.1 h).1
    simp only [dge hk, cond_false, Option.bind_some, decide_eq_false this]
theorem Rank_some {L : List Int} (h : L.Pairwise (· < ·)) (hl : L.length ≤ 4000000) (x : Int) : fn_sparse_Set_Rank (some L) x = some ((rk L x : Nat) : Int) := by
  unfold fn_sparse_Set_Rank
  simp only [Option.isNone_some, cond_false, Option.bind_some, bs_some h hl]
theorem At_nat {L : List Int} (k : Nat) : fn_sparse_Set_At (some L) (k : Int) = some (L.getD k 0, decide (k < L.length)) := by
  unfold fn_sparse_Set_At fn_sparse_Set_Len
  have h0 : ¬ ((k : Int) < 0) := by omega
  simp only [decide_eq_false h0, cond_false, Option.bind_some, Option.isNone_some]
  by_cases hk : k < L.length
  · have h1 : ¬ (((L.length : Nat) : Int) ≤ (k : Int)) := by omega
    simp only [decide_eq_false h1, cond_false, getN hk, Option.bind_some]
    simp [hk]
  · have h1 : (((L.length : Nat) : Int) ≤ (k : Int)) := by omega
    simp only [decide_eq_true h1, cond_true]
    simp [hk]
theorem At_neg {L : List Int} {i : Int} (h : i < 0) : fn_sparse_Set_At (some L) i = some (0, false) := by
  unfold fn_sparse_Set_At
  rw [decide_eq_true h]
  rfl
/-- A set of few: rising, of numbers that may be. -/
structure Sp (L : List Int) : Prop where
  rs : L.Pairwise (· < ·)
  bd : ∀ x ∈ L, 0 ≤ x ∧ x ≤ 2147483647
  ln : L.length ≤ 1000000
theorem Sp.rank {L : List Int} (h : Sp L) (x : Int) : fn_sparse_Set_Rank (some L) x = some ((rk L x : Nat) : Int) := Rank_some h.rs (Nat.le_trans h.ln (by decide)) x
theorem Sp.has {L : List Int} (h : Sp L) (x : Int) : fn_sparse_Set_Has (some L) x = some (decide (x ∈ L)) := by
  have hl := h.ln
  unfold fn_sparse_Set_Has
  rw [h.rank]
  simp only [Option.bind_some, At_nat]
  have hm := mem_rk h.rs x
  congr 1
  rw [Bool.eq_iff_iff, Bool.and_eq_true, decide_eq_true_eq, decide_eq_true_eq, decide_eq_true_eq, hm]
  constructor
  · rintro ⟨h1, h2⟩
    refine ⟨h1, ?_⟩
    simpa [h1] using h2
  · rintro ⟨h1, h2⟩
    refine ⟨h1, ?_⟩
    simpa [h1] using h2
/-- The members, one by one. -/
theorem step_rank {L : List Int} (h : Sp L) {k : Nat} (hk : k < L.length) : fn_sparse_Set_Rank (some L) (IntKind.wrap .i64 (L[k] + 1)) = some ((k + 1 : Nat) : Int) := by
  have hb := h.bd L[k] (List.getElem_mem hk)
  rw [w64 (by omega) (by omega), h.rank, rk_next h.rs hk]
theorem rk_lt {x i : Int} (L : List Int) (h : x < i) : rk (x :: L) i = rk L i + 1 := by unfold rk; simp [h]
theorem rk_ge {x i : Int} {L : List Int} (h : ¬ x < i) (hs : (x :: L).Pairwise (· < ·)) : rk (x :: L) i = 0 := by
  obtain ⟨h1, h2⟩ := List.pairwise_cons.1 hs
  unfold rk
  rw [List.length_eq_zero_iff, List.filter_eq_nil_iff]
  intro y hy
  rcases List.mem_cons.1 hy with rfl | hy
  · simpa using h
  · have := h1 y hy
    simp
    omega
theorem ins_rk (i : Int) : ∀ {L : List Int}, L.Pairwise (· < ·) → i ∉ L → L.take (rk L i) ++ [i] ++ L.drop (rk L i) = ins i L
  | [], _, _ => rfl
  | x :: L, hs, hi => by
    obtain ⟨h1, h2⟩ := List.pairwise_cons.1 hs
    have hne : i ≠ x := fun e => hi (by simp [e])
    by_cases hx : x < i
    · rw [rk_lt L hx, ins_cons, if_neg (by omega), ← ins_rk i h2 (fun h => hi (by simp [h]))]
      simp
    · rw [rk_ge hx hs, ins_cons, if_pos (by omega)]
      rfl
theorem del_rk (i : Int) : ∀ {L : List Int}, L.Pairwise (· < ·) → i ∈ L → L.take (rk L i) ++ L.drop (rk L i + 1) = rDel L i
  | [], _, hi => by simp at hi
  | x :: L, hs, hi => by
    obtain ⟨h1, h2⟩ := List.pairwise_cons.1 hs
    by_cases hx : x < i
    · have hm : i ∈ L := by
        rcases List.mem_cons.1 hi with h | h
        · omega
        · exact h
      have hne : ¬ x = i := by omega
      have ih := del_rk i h2 hm
      rw [rk_lt L hx]
      unfold rDel at ih ⊢
      simp only [List.take_succ_cons, List.drop_succ_cons, List.cons_append, ih]
      simp [hne]
    · have he : x = i := by
        rcases List.mem_cons.1 hi with h | h
        · exact h.symm
        · have := h1 i h; omega
      subst he
      rw [rk_ge hx hs]
      unfold rDel
      have : L.filter (fun y => !decide (y = x)) = L := by
        rw [List.filter_eq_self]
        intro y hy
        have := h1 y hy
        simp
        omega
      simp [this]
/-! ### Or: two rising lists laid into one. -/
def InSp (L M : List Int) (k j : Nat) (B : List Int) : Prop := B.Pairwise (· < ·) ∧ (∀ x, x ∈ B ↔ x ∈ L.take k ∨ x ∈ M.take j) ∧ (∀ x ∈ B, ∀ y ∈ L.drop k, x < y) ∧ B.length ≤ k + j
def un (L M : List Int) : List Int := (rOr 2147483648 L M).1
theorem un_mem {L M : List Int} (hM : Sp M) (x : Int) : x ∈ un L M ↔ x ∈ L ∨ x ∈ M := by
  unfold un
  rw [rOr_mem]
  constructor
  · rintro (h | h)
    · exact .inl h
    · exact .inr h.1
  · rintro (h | h)
    · exact .inl h
    · have := hM.bd x h
      exact .inr ⟨h, by omega, by omega⟩
theorem un_rs {L : List Int} (M : List Int) (h : L.Pairwise (· < ·)) : (un L M).Pairwise (· < ·) := rOr_rs _ _ _ h
theorem un_len (L M : List Int) : (un L M).length ≤ L.length + M.length := rOr_len _ _ _
theorem un_ok {L M : List Int} (hL : Sp L) (hM : Sp M) : (rOr 2147483648 L M).2 = decide (L.length < (un L M).length) := by
  rw [Bool.eq_iff_iff, decide_eq_true_eq, rOr_ok]
  have e : (un L M).filter (fun x => decide (x ∈ L)) = L := by
    refine strict_eq (List.Pairwise.filter _ (un_rs M hL.rs)) hL.rs fun x => ?_
    rw [List.mem_filter, un_mem hM, decide_eq_true_eq]
    exact ⟨fun h => h.2, fun h => ⟨.inl h, h⟩⟩
  have hlt := List.length_filter_lt_length_iff_exists (p := fun x => decide (x ∈ L)) (l := un L M)
  rw [e] at hlt
  rw [hlt]
  constructor
  · rintro ⟨x, h1, h2, h3⟩
    exact ⟨x, (un_mem hM x).2 (.inr h1), by simpa using h3⟩
  · rintro ⟨x, h1, h2⟩
    have h3 : ¬ x ∈ L := by simpa using h2
    rcases (un_mem hM x).1 h1 with h | h
    · exact absurd h h3
    · have := hM.bd x h
      exact ⟨x, h, ⟨by omega, by omega⟩, h3⟩
/-- Add. -/
theorem sAdd_some {L : List Int} (h : Sp L) (i : Int) (hl : L.length + 1 ≤ 1000000) : fn_sparse_Set_Add_p0i_r i L = some (rAddOk 2147483648 L i, rAdd 2147483648 L i) ∧ Sp (rAdd 2147483648 L i) := by
  refine ⟨?_, rAdd_rs h.rs i, fun x hx => ?_, Nat.le_trans (rAdd_len _ _ _) hl⟩
  · have hcond : (fn_sparse_mayBe i).bind (fun t380 => cond (!t380) (some (true)) ((fn_sparse_Set_Has (some L) i).bind fun t395 => some (t395))) = some (!rAddOk 2147483648 L i) := by
      rw [show fn_sparse_mayBe i = some ((decide (0 ≤ i)) && (decide (i ≤ 2147483647))) from rfl, h.has]
      unfold rAddOk
      by_cases h1 : 0 ≤ i
      · by_cases h2 : i ≤ 2147483647
        · have h3 : i < 2147483648 := by omega
          simp [h1, h2, h3]
        · have h3 : ¬ i < 2147483648 := by omega
          simp [h1, h2, h3]
      · simp [h1]
    unfold fn_sparse_Set_Add_p0i_r
    have hm : ∀ {β : Type} (k : Bool → Option β), ((fn_sparse_mayBe i).bind fun t380 => (cond (!t380) (some (true)) ((fn_sparse_Set_Has (some L) i).bind fun t395 => some (t395))).bind k) = k (!rAddOk 2147483648 L i) := fun k => by
      have := congrArg (fun z => Option.bind z k) hcond
      simpa [Option.bind_assoc] using this
    rw [hm]
    cases ho : rAddOk 2147483648 L i with
    | false =>
      have : ¬ ((0 ≤ i ∧ i < 2147483648) ∧ i ∉ L) := of_decide_eq_false ho
      unfold rAdd
      rw [if_neg this]
      rfl
    | true =>
      have hh : (0 ≤ i ∧ i < 2147483648) ∧ i ∉ L := of_decide_eq_true ho
      have he : rAdd 2147483648 L i = ins i L := by unfold rAdd; rw [if_pos hh]
      have hrk := rk_le L i
      have hi : insF L ((rk L i : Nat) : Int) [i] = some (ins i L) := by
        unfold insF
        rw [if_pos ⟨by omega, by omega, by simp, by simp; omega⟩, Int.toNat_natCast, ins_rk i h.rs hh.2]
      simp only [Bool.not_true, cond_false, h.rank, Option.bind_some, hi, agr_self, he]
  · rcases (rAdd_mem i x).1 hx with h1 | ⟨rfl, h2⟩
    · exact h.bd x h1
    · omega
/-! ### Of. -/
def srtd (l : List Int) : List Int := l.mergeSort fun x y => decide (x ≤ y)
theorem srt_eq {l : List Int} (h : l.length ≤ 1073741824) : srt l = some (srtd l) := by unfold srt; rw [if_pos h]; rfl
def cp (l : List Int) : List Int := Lib.compact (srtd l)
theorem srtd_le (l : List Int) : (srtd l).Pairwise (· ≤ ·) := by
  have := List.pairwise_mergeSort (le := fun x y : Int => decide (x ≤ y)) (fun a b c h1 h2 => by simp at *; omega) (fun a b => by simp; omega) l
  exact this.imp (fun h => by simpa using h)
theorem cp_lt (l : List Int) : (cp l).Pairwise (· < ·) := (compact_sorted (srtd_le l)).1
theorem cp_mem (l : List Int) (a : Int) : a ∈ cp l ↔ a ∈ l := by
  rw [cp, (compact_sorted (srtd_le l)).2 a]; unfold srtd; exact List.mem_mergeSort
theorem cp_len (l : List Int) : (cp l).length ≤ l.length := by
  have := Lib.compact_length_le (srtd l)
  unfold srtd at this
  rw [List.length_mergeSort] at this
  exact this
def okm (i : Int) : Bool := decide (0 ≤ i) && decide (i ≤ 2147483647)
def ofS (xa : List Int) : List Int := cp (xa.filter okm)
theorem Of_some {xa : List Int} (h : xa.length ≤ 1000000) : fn_sparse_Of xa = some (ofS xa) := by
  have hlp : loop (fn_sparse_Of_l1 xa) ((0 : Int), ([] : List Int)) = some (xa.filter okm) := by
    have := loop_nat (body := fn_sparse_Of_l1 xa) (fun k : Nat => ((k : Int), (xa.take k).filter okm)) xa.length (b := xa.filter okm) ?_ ?_
    · exact this
    · intro k hk
      unfold fn_sparse_Of_l1
      have hle := List.length_filter_le okm (xa.take k)
      have ha : app ((xa.take k).filter okm) [xa[k]] = some ((xa.take k).filter okm ++ [xa[k]]) := app_eq (by simp at hle ⊢; omega)
      have e : (xa.take (k + 1)).filter okm = (xa.take k).filter okm ++ (if okm xa[k] then [xa[k]] else []) := by
        rw [take_snoc hk, List.filter_append]
        cases hm : okm xa[k] <;> simp [hm]
      simp only [dlt hk, cond_true, getN hk, Option.bind_some, show ∀ i, fn_sparse_mayBe i = some (okm i) from fun _ => rfl, ha, e, w64s hk (by omega)]
      cases hm : okm xa[k] <;> simp
    · unfold fn_sparse_Of_l1
      simp
  unfold fn_sparse_Of
  rw [hlp]
  have hle := List.length_filter_le okm xa
  simp only [Option.bind_some, srt_eq (l := xa.filter okm) (by omega)]
  rfl
theorem ofS_mem (xa : List Int) (x : Int) : x ∈ ofS xa ↔ x ∈ xa ∧ 0 ≤ x ∧ x ≤ 2147483647 := by
  unfold ofS okm
  rw [cp_mem, List.mem_filter, Bool.and_eq_true, decide_eq_true_eq, decide_eq_true_eq]
theorem ofS_len (xa : List Int) : (ofS xa).length ≤ xa.length := Nat.le_trans (cp_len _) (List.length_filter_le _ _)
theorem ofS_sp {xa : List Int} (h : xa.length ≤ 1000000) : Sp (ofS xa) :=
  ⟨cp_lt _, fun x hx => ((ofS_mem xa x).1 hx).2, Nat.le_trans (ofS_len xa) h⟩
end Go.Proofs.YtfdkbceponodmaaDoor
namespace Go.Proofs.YtfdkbceponodmaaDoor
open Go.RowKit
set_option linter.unusedVariables false
set_option linter.unusedSimpArgs false
set_option linter.unnecessarySimpa false
structure Mx (n : Nat) (f : Option (List Int)) (b : Option (Int × List Int)) (L : List Int) : Prop where
  hn : n ≤ 1048576
  rs : L.Pairwise (· < ·)
  bd : ∀ x ∈ L, 0 ≤ x ∧ x < n
  st : (f = some L ∧ b = none ∧ L.length ≤ 8) ∨ ∃ w, f = none ∧ b = some ((n : Int), w) ∧ Rp n w L
theorem Rp.bd {n : Nat} {w L : List Int} (h : Rp n w L) : ∀ x ∈ L, 0 ≤ x ∧ x < n := fun x hx => by
  have := (h.mm x).1 hx
  have := lt_of_mem h.ds this.2
  omega
theorem sp_of {n : Nat} {L : List Int} (hn : n ≤ 1048576) (hr : L.Pairwise (· < ·)) (hb : ∀ x ∈ L, 0 ≤ x ∧ x < n) (hl : L.length ≤ 9) : Sp L :=
  ⟨hr, fun x hx => by have := hb x hx; omega, by omega⟩
theorem len_le {n : Nat} {L : List Int} (hr : L.Pairwise (· < ·)) (hb : ∀ x ∈ L, 0 ≤ x ∧ x < n) : L.length ≤ n := by
  have h2 : ((List.range n).map (fun k : Nat => (k : Int))).Pairwise (· < ·) := by
    rw [List.pairwise_map]
    exact List.Pairwise.imp (fun h => Int.ofNat_lt.2 h) (List.pairwise_lt_range (n := n))
  have := sub_len hr h2 (fun x hx => by
    have := hb x hx
    rw [List.mem_map]
    exact ⟨x.toNat, List.mem_range.2 (by omega), by omega⟩)
  simpa using this
theorem Mx.len {n : Nat} {f : Option (List Int)} {b : Option (Int × List Int)} {L : List Int} (h : Mx n f b L) : L.length ≤ n := len_le h.rs h.bd
theorem rAdd_in {n : Nat} {L : List Int} {i : Int} (hn : n ≤ 1048576) (hi : 0 ≤ i ∧ i < n) : rAdd 2147483648 L i = rAdd n L i ∧ rAddOk 2147483648 L i = rAddOk n L i := by
  have h1 : 0 ≤ i ∧ i < 2147483648 := by omega
  unfold rAdd rAddOk
  simp [h1, hi]
theorem rAdd_out {n : Nat} {L : List Int} {i : Int} (hi : ¬ (0 ≤ i ∧ i < n)) : rAdd n L i = L ∧ rAddOk n L i = false := by
  unfold rAdd rAddOk
  rw [if_neg (fun h => hi h.1), decide_eq_false (fun h => hi h.1)]
  exact ⟨rfl, rfl⟩
theorem rAdd_bd {n : Nat} {L : List Int} (i : Int) (hb : ∀ x ∈ L, 0 ≤ x ∧ x < n) : ∀ x ∈ rAdd n L i, 0 ≤ x ∧ x < n := fun x hx => by
  rcases (rAdd_mem i x).1 hx with h | ⟨rfl, h⟩
  · exact hb x h
  · exact h
theorem Dense_some (n : Int) (f : Option (List Int)) (b : Option (Int × List Int)) : fn_mixed_Set_Dense (some (n, f, b)) = some b.isSome := by
  unfold fn_mixed_Set_Dense
  cases b <;> rfl
/-- A list laid into bits. -/
theorem thick_some {n : Nat} {L : List Int} (hn : n ≤ 1048576) (h : Sp L) (hb : ∀ x ∈ L, 0 ≤ x ∧ x < n) (b : Option (Int × List Int)) : ∃ w, fn_mixed_Set_thicken_p0_iodod n (some L) b = some (some ((n : Int), w)) ∧ Rp n w L := by
  have hl := h.ln
  have hp := List.pairwise_iff_getElem.1 h.rs
  have key := loop_inv (body := fn_mixed_Set_thicken_p0_iodod_l2 n L) (fun s => ∃ k : Nat, k ≤ L.length ∧ s.1 = L.getD k 0 ∧ s.2.1 = decide (k < L.length) ∧ Rp n s.2.2 (L.take k)) (fun s => if s.2.1 then (L.filter (fun x => decide (s.1 ≤ x))).length else 0) (Q := fun w => Rp n w L) ?_ (s := (L.getD 0 0, decide (0 < L.length), List.replicate ((n + 63) / 64) (0 : Int))) ⟨0, Nat.zero_le _, rfl, rfl, Rp_new hn⟩
  · obtain ⟨w, k1, k2⟩ := key
    refine ⟨w, ?_, k2⟩
    unfold fn_mixed_Set_thicken_p0_iodod
    have h1 : ¬ ((n : Int) < 0) := by omega
    have h2 : ¬ (1048576 < (n : Int)) := by omega
    rw [New_some, if_neg h1, if_neg h2, Int.toNat_natCast]
    simp only [Option.bind_some, show fn_sparse_Set_All_p0_r L = some L from rfl]
    have at0 : fn_sparse_Set_At (some L) 0 = some (L.getD 0 0, decide (0 < L.length)) := At_nat 0
    rw [at0]
    simp only [Option.bind_some, k1]
  · rintro ⟨i, t, w⟩ ⟨k, hk, rfl, rfl, hw⟩
    dsimp only at hw ⊢
    unfold fn_mixed_Set_thicken_p0_iodod_l2
    by_cases hkl : k < L.length
    · left
      have hg : L.getD k 0 = L[k] := by simp [hkl]
      obtain ⟨w', a1, a2⟩ := hw.add L[k]
      have hbk := hb L[k] (List.getElem_mem hkl)
      have hlt : ∀ y ∈ L.take k, y < L[k] := fun y hy => by
        obtain ⟨j, hj, rfl⟩ := List.mem_take_iff_getElem.1 hy
        exact hp j k (by omega) hkl (by omega)
      have hni : L[k] ∉ L.take k := fun hm => by have := hlt _ hm; omega
      have e : rAdd n (L.take k) L[k] = L.take (k + 1) := by
        unfold rAdd
        rw [if_pos ⟨hbk, hni⟩, ins_last hlt, take_snoc hkl]
      rw [e] at a2
      refine ⟨(L.getD (k + 1) 0, decide (k + 1 < L.length), w'), ?_, ⟨k + 1, by omega, rfl, rfl, a2⟩, ?_⟩
      · simp only [decide_eq_true hkl, cond_true, hg, a1, Option.bind_some, step_rank h hkl, At_nat]
      · dsimp only
        rw [decide_eq_true hkl, if_pos rfl, hg]
        by_cases hk2 : k + 1 < L.length
        · have hg2 : L.getD (k + 1) 0 = L[k + 1] := by simp [hk2]
          rw [decide_eq_true hk2, if_pos rfl, hg2]
          have hs : (L.filter (fun x => decide (L[k + 1] ≤ x))) = (L.filter (fun x => decide (L[k] ≤ x))).filter (fun x => decide (L[k + 1] ≤ x)) := by
            rw [List.filter_filter]
            refine List.filter_congr fun x hx => ?_
            have := hp k (k + 1) hkl hk2 (by omega)
            by_cases h1 : L[k + 1] ≤ x
            · have h2 : L[k] ≤ x := by omega
              simp [h1, h2]
            · simp [h1]
          rw [hs, List.length_filter_lt_length_iff_exists]
          refine ⟨L[k], List.mem_filter.2 ⟨List.getElem_mem hkl, by simp⟩, ?_⟩
          have := hp k (k + 1) hkl hk2 (by omega)
          simp
          omega
        · rw [decide_eq_false hk2]
          simp only [Bool.false_eq_true, if_false]
          refine List.length_pos_of_mem (a := L[k]) (List.mem_filter.2 ⟨List.getElem_mem hkl, by simp⟩)
    · right
      have e : k = L.length := by omega
      subst e
      rw [List.take_length] at hw
      refine ⟨w, ?_, hw⟩
      simp
/-- Add. -/
theorem mAdd_some {n : Nat} {f : Option (List Int)} {b : Option (Int × List Int)} {L : List Int} (h : Mx n f b L) (i : Int) : ∃ f' b', fn_mixed_Set_Add_p0i_iodod i n f b = some (rAddOk n L i, f', b') ∧ Mx n f' b' (rAdd n L i) ∧ b'.isSome = (b.isSome || decide (8 < (rAdd n L i).length)) := by
  have hn := h.hn
  have hcond : (cond (decide (i < 0)) (some (true)) ((fn_mixed_Set_Size (some ((n : Int), f, b))).bind fun i173 => some (decide (i173 ≤ i)))) = some (!decide (0 ≤ i ∧ i < n)) := by
    rw [show fn_mixed_Set_Size (some ((n : Int), f, b)) = some (n : Int) from rfl]
    by_cases h1 : i < 0
    · have h2 : ¬ 0 ≤ i := by omega
      simp [h1, h2]
    · have h2 : 0 ≤ i := by omega
      by_cases h3 : (n : Int) ≤ i
      · have h4 : ¬ i < n := by omega
        simp [h1, h2, h3, h4]
      · have h4 : i < n := by omega
        simp [h1, h2, h3, h4]
  unfold fn_mixed_Set_Add_p0i_iodod
  rw [hcond]
  simp only [Option.bind_some]
  by_cases hi : 0 ≤ i ∧ i < (n : Int)
  · rw [decide_eq_true hi]
    simp only [Bool.not_true, cond_false, Dense_some, Option.bind_some]
    rcases h.st with ⟨rfl, rfl, h8⟩ | ⟨w, rfl, rfl, hw⟩
    · have hsp := sp_of hn h.rs h.bd (by omega)
      obtain ⟨a1, a2⟩ := sAdd_some hsp i (by omega)
      obtain ⟨e1, e2⟩ := rAdd_in (L := L) hn hi
      rw [e1, e2] at a1
      rw [e1] at a2
      have hl9 : (rAdd n L i).length ≤ 9 := by have := rAdd_len n L i; omega
      simp only [Option.isSome_none, cond_false, Option.bind_some, a1, show ∀ M : List Int, fn_sparse_Set_Len (some M) = some ((M.length : Nat) : Int) from fun _ => rfl, Bool.false_or]
      by_cases h9 : 8 < (rAdd n L i).length
      · have h9' : (8 : Int) < (((rAdd n L i).length : Nat) : Int) := by omega
        obtain ⟨w, t1, t2⟩ := thick_some hn a2 (rAdd_bd i h.bd) none
        rw [decide_eq_true h9', decide_eq_true h9]
        simp only [cond_true, t1, Option.bind_some]
        exact ⟨_, _, rfl, ⟨hn, a2.rs, rAdd_bd i h.bd, .inr ⟨w, rfl, rfl, t2⟩⟩, rfl⟩
      · have h9' : ¬ (8 : Int) < (((rAdd n L i).length : Nat) : Int) := by omega
        rw [decide_eq_false h9', decide_eq_false h9]
        simp only [cond_false]
        exact ⟨_, _, rfl, ⟨hn, a2.rs, rAdd_bd i h.bd, .inl ⟨rfl, rfl, by omega⟩⟩, rfl⟩
    · obtain ⟨w', a1, a2⟩ := hw.add i
      simp only [Option.isSome_some, cond_true, Option.bind_some, a1, Bool.true_or]
      exact ⟨_, _, rfl, ⟨hn, a2.rs, a2.bd, .inr ⟨w', rfl, rfl, a2⟩⟩, rfl⟩
  · rw [decide_eq_false hi]
    obtain ⟨e1, e2⟩ := rAdd_out (L := L) hi
    rw [e1, e2]
    refine ⟨f, b, rfl, h, ?_⟩
    rcases h.st with ⟨rfl, rfl, h8⟩ | ⟨w, rfl, rfl, hw⟩
    · rw [decide_eq_false (by omega : ¬ 8 < L.length)]; rfl
    · rfl
theorem Mx.has {n : Nat} {f : Option (List Int)} {b : Option (Int × List Int)} {L : List Int} (h : Mx n f b L) (i : Int) : fn_mixed_Set_Has (some ((n : Int), f, b)) i = some (decide (i ∈ L)) := by
  have hn := h.hn
  unfold fn_mixed_Set_Has
  rw [Dense_some]
  rcases h.st with ⟨rfl, rfl, h8⟩ | ⟨w, rfl, rfl, hw⟩
  · have hsp := sp_of hn h.rs h.bd (by omega)
    simp only [Option.isSome_none, Option.bind_some, cond_false, Option.isNone_some, Bool.not_false, cond_true, hsp.has]
  · simp only [Option.isSome_some, Option.bind_some, cond_true, hw.has]
    rfl
theorem Mx.size {n : Nat} {f : Option (List Int)} {b : Option (Int × List Int)} {L : List Int} (h : Mx n f b L) : fn_mixed_Set_Len (some ((n : Int), f, b)) = some ((L.length : Nat) : Int) := by
  unfold fn_mixed_Set_Len
  rw [Dense_some]
  rcases h.st with ⟨rfl, rfl, h8⟩ | ⟨w, rfl, rfl, hw⟩
  · rfl
  · simp only [Option.isSome_some, Option.bind_some, cond_true, hw.count]
theorem Mx.words {n : Nat} {f : Option (List Int)} {b : Option (Int × List Int)} {L : List Int} (h : Mx n f b L) : fn_mixed_Set_Words (some ((n : Int), f, b)) = some (if b.isSome then (((n + 63) / 64 : Nat) : Int) else ((L.length : Nat) : Int)) := by
  have hn := h.hn
  unfold fn_mixed_Set_Words
  rw [Dense_some, h.size]
  have e : IntKind.wrap .i64 (Int.tdiv (IntKind.wrap .i64 ((n : Int) + 63)) 64) = (((n + 63) / 64 : Nat) : Int) := by
    rw [w64 (x := (n : Int) + 63) (by omega) (by omega), show (n : Int) + 63 = ((n + 63 : Nat) : Int) by omega, show Int.tdiv ((n + 63 : Nat) : Int) 64 = (((n + 63) / 64 : Nat) : Int) from rfl]
    exact w64 (by omega) (by omega)
  cases b with
  | none => rfl
  | some x => simp only [Option.isSome_some, Option.bind_some, cond_true, e, if_true]
/-- Fill. -/
theorem mFill_some {n : Nat} {f : Option (List Int)} {b : Option (Int × List Int)} {L : List Int} (h : Mx n f b L) (lo hi : Int) : ∃ f' b' L', fn_mixed_Set_Fill_p0ii_iodod lo hi n f b = some (f', b') ∧ Mx n f' b' L' ∧ b'.isSome = (b.isSome || decide (8 < L'.length)) ∧ ∀ x, x ∈ L' ↔ x ∈ L ∨ (lo ≤ x ∧ x < hi ∧ 0 ≤ x ∧ x < n) := by
  have hn := h.hn
  have key := loop_inv (body := fn_mixed_Set_Fill_p0ii_iodod_l1 hi n) (fun s => ∃ L' : List Int, 0 ≤ s.1 ∧ lo ≤ s.1 ∧ Mx n s.2.1 s.2.2 L' ∧ s.2.2.isSome = (b.isSome || decide (8 < L'.length)) ∧ ∀ x, x ∈ L' ↔ x ∈ L ∨ (lo ≤ x ∧ x < s.1 ∧ x < hi ∧ 0 ≤ x ∧ x < n)) (fun s => n - s.1.toNat)
    (Q := fun r => ∃ L' : List Int, Mx n r.1 r.2 L' ∧ r.2.isSome = (b.isSome || decide (8 < L'.length)) ∧ ∀ x, x ∈ L' ↔ x ∈ L ∨ (lo ≤ x ∧ x < hi ∧ 0 ≤ x ∧ x < n)) ?_ (s := (if lo < 0 then 0 else lo, f, b)) ⟨L, ?_, ?_, h, ?_, fun x => ?_⟩
  · obtain ⟨⟨f', b'⟩, k1, L', k2, k3, k4⟩ := key
    refine ⟨f', b', L', ?_, k2, k3, k4⟩
    unfold fn_mixed_Set_Fill_p0ii_iodod
    rw [k1]
    rfl
  · rintro ⟨i, f1, b1⟩ ⟨L', h0, hlo, hm, hd, hx⟩
    dsimp only at h0 hlo hm hd hx ⊢
    unfold fn_mixed_Set_Fill_p0ii_iodod_l1
    simp only [show fn_mixed_Set_Size (some ((n : Int), f1, b1)) = some (n : Int) from rfl, Option.bind_some]
    by_cases hc : i < (if (n : Int) < hi then (n : Int) else hi)
    · left
      have hin : i < n ∧ i < hi := by split at hc <;> omega
      obtain ⟨f2, b2, a1, a2, a3⟩ := mAdd_some hm i
      refine ⟨(i + 1, f2, b2), ?_, ⟨rAdd n L' i, by dsimp only; omega, by dsimp only; omega, a2, ?_, fun x => ?_⟩, ?_⟩
      · rw [decide_eq_true hc]
        simp only [cond_true, a1, Option.bind_some, w64 (x := i + 1) (by omega) (by omega)]
      · dsimp only
        rw [a3, hd]
        have hle : L'.length ≤ (rAdd n L' i).length := sub_len hm.rs a2.rs (fun x hx => (rAdd_mem _ _).2 (.inl hx))
        by_cases h1 : 8 < L'.length
        · have h2 : 8 < (rAdd n L' i).length := by omega
          simp [h1, h2]
        · simp [h1]
      · dsimp only
        rw [rAdd_mem, hx]
        constructor
        · rintro ((h1 | h1) | ⟨rfl, h1⟩)
          · exact .inl h1
          · exact .inr ⟨h1.1, by omega, h1.2.2⟩
          · exact .inr ⟨hlo, by omega, hin.2, h1⟩
        · rintro (h1 | h1)
          · exact .inl (.inl h1)
          · by_cases h2 : x < i
            · exact .inl (.inr ⟨h1.1, h2, h1.2.2⟩)
            · exact .inr ⟨by omega, by omega, by omega⟩
      · show n - (i + 1).toNat < n - i.toNat
        omega
    · right
      refine ⟨(f1, b1), by rw [decide_eq_false hc]; rfl, L', hm, hd, fun x => ?_⟩
      rw [hx]
      constructor
      · rintro (h1 | h1)
        · exact .inl h1
        · exact .inr ⟨h1.1, h1.2.2⟩
      · rintro (h1 | h1)
        · exact .inl h1
        · exact .inr ⟨h1.1, by split at hc <;> omega, h1.2⟩
  · dsimp only; split <;> omega
  · dsimp only; split <;> omega
  · rcases h.st with ⟨rfl, rfl, h8⟩ | ⟨w, rfl, rfl, hw⟩
    · rw [decide_eq_false (by omega : ¬ 8 < L.length)]; rfl
    · rfl
  · dsimp only
    constructor
    · exact .inl
    · rintro (h1 | h1)
      · exact h1
      · exfalso
        have := h1.2.1
        split at this <;> omega
/-- List. -/
theorem mList_some {n : Nat} {f : Option (List Int)} {b : Option (Int × List Int)} {L : List Int} (h : Mx n f b L) : fn_mixed_Set_List_p0_iodod n f b = some (L, f, b) := by
  have hn := h.hn
  have hkind : fn_mixed_Set_kind_p0_iodod n f b = (cond b.isSome (b.bind fun y => some (.inl (f, y.1, y.2))) (f.bind fun y => some (.inr (b, y)))) := by
    unfold fn_mixed_Set_kind_p0_iodod
    rw [Dense_some]
    rfl
  unfold fn_mixed_Set_List_p0_iodod
  rw [show fn_mixed_Set_All_p0_iodod (n : Int) f b = some (f, b) from rfl]
  simp only [Option.bind_some, hkind]
  rcases h.st with ⟨rfl, rfl, h8⟩ | ⟨w, rfl, rfl, hw⟩
  · have hsp := sp_of hn h.rs h.bd (by omega)
    have at0 : fn_sparse_Set_At (some L) 0 = some (L.getD 0 0, decide (0 < L.length)) := At_nat 0
    have hlp : loop (fn_mixed_Set_List_p0_iodod_l2 L) (L.getD 0 0, decide (0 < L.length), ([] : List Int)) = some L := by
      have := loop_nat (body := fn_mixed_Set_List_p0_iodod_l2 L) (fun k : Nat => (L.getD k 0, decide (k < L.length), L.take k)) L.length (b := L) ?_ ?_
      · exact this
      · intro k hk
        unfold fn_mixed_Set_List_p0_iodod_l2
        have hg : L.getD k 0 = L[k] := by simp [hk]
        have ha : app (L.take k) [L[k]] = some (L.take (k + 1)) := by
          rw [app_eq (by simp; omega), take_snoc hk]
        simp only [decide_eq_true hk, cond_true, hg, ha, Option.bind_some, step_rank hsp hk, At_nat]
      · unfold fn_mixed_Set_List_p0_iodod_l2
        simp
    simp only [Option.isSome_none, cond_false, Option.bind_some, at0, hlp]
  · have hl := dense_loop hw (body := fn_mixed_Set_List_p0_iodod_l1 n w) (fun c k hk => by
      have hk2 := lt_of_mem hw.ds hk
      unfold fn_mixed_Set_List_p0_iodod_l1
      have h0 : decide (0 ≤ (k : Int)) = true := by simp
      simp only [h0, cond_true, w64 (x := (k : Int) + 1) (by omega) (by omega)]) (fun c => by
      unfold fn_mixed_Set_List_p0_iodod_l1
      rfl)
    obtain ⟨r, g1, g2⟩ := hl
    simp only [Option.isSome_some, cond_true, Option.bind_some, g1, g2]
theorem ofS_nil : ofS [] = [] := by
  have := ofS_len []
  exact List.length_eq_zero_iff.1 (by simpa using this)
theorem Of_nil : fn_sparse_Of [] = some [] := by rw [Of_some (by decide), ofS_nil]
theorem Mx_new {n : Nat} (h : n ≤ 1048576) : Mx n (some []) none [] := ⟨h, List.Pairwise.nil, by simp, .inl ⟨rfl, rfl, by decide⟩⟩
theorem mNew_some (n : Int) : fn_mixed_New n = if n < 0 then some (.inl 2) else if 1048576 < n then some (.inl 5) else some (.inr (0, some [])) := by
  unfold fn_mixed_New
  rw [Of_nil]
  by_cases h1 : n < 0
  · simp [h1]
  · by_cases h2 : 1048576 < n
    · simp [h1, h2]
    · simp [h1, h2]
end Go.Proofs.YtfdkbceponodmaaDoor
namespace Go.Proofs.YtfdkbceponodmaaDoor
open Go.RowKit
set_option linter.unusedVariables false
set_option linter.unusedSimpArgs false
set_option linter.unnecessarySimpa false
theorem awake05 : fn_law05_awake = some true := by
  have hnew : fn_mixed_New_c100 = some (.inr (0, some [])) := by
    unfold fn_mixed_New_c100
    rw [Of_nil]
    rfl
  obtain ⟨f, b, L, a1, a2, a3, a4⟩ := mFill_some (Mx_new (n := 100) (by decide)) 0 8
  have hL : L = [0, 1, 2, 3, 4, 5, 6, 7] := by
    refine strict_eq a2.rs (by decide) fun x => ?_
    rw [a4]
    simp
    omega
  subst hL
  obtain ⟨f2, b2, c1, c2, c3⟩ := mAdd_some a2 8
  have e : rAdd ((100 : Nat) : Int) [0, 1, 2, 3, 4, 5, 6, 7] 8 = [0, 1, 2, 3, 4, 5, 6, 7, 8] := by decide
  have e2 : rAddOk ((100 : Nat) : Int) [0, 1, 2, 3, 4, 5, 6, 7] 8 = true := by decide
  rw [e] at c2 c3
  rw [e2] at c1
  have hb : b.isSome = false := a3
  have hb2 : b2.isSome = true := by rw [c3, hb]; rfl
  have w := c2.words
  rw [hb2] at w
  have w2 : fn_mixed_Set_Words (some (100, f2, b2)) = some 2 := w
  have s2 : fn_mixed_Set_Len (some (100, f2, b2)) = some 9 := c2.size
  have a1' : fn_mixed_Set_Fill_p0ii_iodod 0 8 100 (some []) none = some (f, b) := a1
  have c1' : fn_mixed_Set_Add_p0i_iodod 8 100 f b = some (true, f2, b2) := c1
  unfold fn_law05_awake
  rw [hnew]
  simp only [Option.bind_some, a1', Dense_some, hb, c1', hb2, w2, s2]
  rfl
end Go.Proofs.YtfdkbceponodmaaDoor
namespace Go.Proofs.YtfdkbceponodmaaDoor
open Go.RowKit
set_option linter.unusedVariables false
set_option linter.unusedSimpArgs false
set_option linter.unnecessarySimpa false
theorem andn_word (x y : Nat) (hx : x < 18446744073709551616) (hy : y < 18446744073709551616) : IntKind.wrap .u64 ((BitVec.ofInt (IntKind.bits .u64) (x : Int) &&& ~~~BitVec.ofInt (IntKind.bits .u64) (y : Int)).toNat : Int) = 0 ↔ ∀ i, x.testBit i = true → y.testBit i = true := by
  have e : IntKind.wrap .u64 ((BitVec.ofInt (IntKind.bits .u64) (x : Int) &&& ~~~BitVec.ofInt (IntKind.bits .u64) (y : Int)).toNat : Int) = (((BitVec.ofNat 64 x &&& ~~~BitVec.ofNat 64 y).toNat : Nat) : Int) := by
    show IntKind.wrap .u64 ((BitVec.ofInt 64 (x : Int) &&& ~~~BitVec.ofInt 64 (y : Int)).toNat : Int) = _
    rw [ofInt_nat, ofInt_nat]
    exact wrapU _ (BitVec.isLt _)
  have hb : ∀ i, (BitVec.ofNat 64 x &&& ~~~BitVec.ofNat 64 y).toNat.testBit i = (x.testBit i && !y.testBit i) := fun i => by
    rw [BitVec.testBit_toNat, BitVec.getLsbD_and, BitVec.getLsbD_not, BitVec.getLsbD_ofNat, BitVec.getLsbD_ofNat]
    by_cases hj : i < 64
    · simp [hj]
    · have : x.testBit i = false := Nat.testBit_lt_two_pow (Nat.lt_of_lt_of_le hx (show 2 ^ 64 ≤ 2 ^ i from Nat.pow_le_pow_right (by decide) (by omega)))
      simp [hj, this]
  rw [e]
  constructor
  · intro h i hi
    have h0 : (BitVec.ofNat 64 x &&& ~~~BitVec.ofNat 64 y).toNat = 0 := by omega
    have := hb i
    rw [h0, Nat.zero_testBit, hi] at this
    cases hy : y.testBit i with
    | true => rfl
    | false => rw [hy] at this; cases this
  · intro h
    have h0 : (BitVec.ofNat 64 x &&& ~~~BitVec.ofNat 64 y).toNat = 0 := Nat.eq_of_testBit_eq fun i => by
      rw [hb, Nat.zero_testBit]
      cases hx : x.testBit i with
      | false => rfl
      | true => rw [h i hx]; rfl
    rw [h0]
    rfl
theorem mem_word {l : List Int} {q x : Nat} (h : l[q]? = some (x : Int)) (i : Nat) (hi : i < 64) : mem l (64 * q + i) = x.testBit i := by
  have h1 : (64 * q + i) / 64 = q := by omega
  have h2 : (64 * q + i) % 64 = i := by omega
  rw [mem_of (x := x) (by rw [h1]; exact h), h2]
/-- Or, of two sets of a size. -/
theorem Or_same {n : Nat} {l l' : List Int} (h : Ds n l) (h' : Ds n l') : ∃ c q, fn_dense_Set_Or_p0p1_ir_ir n l n l' = some (c, q, l') ∧ Ds n q ∧ (∀ j, mem q j = (mem l j || mem l' j)) ∧ (c = true ↔ ∃ j, mem l' j = true ∧ mem l j = false) := by
  have hn := h.hn
  have hl := h.len
  have hl' := h'.len
  have wordOf : ∀ {n : Nat} {l : List Int}, (∀ w ∈ l, Wd w) → ∀ (k : Nat) (hk : k < l.length), ∃ x : Nat, l[k] = (x : Int) ∧ x < 18446744073709551616 := fun hw k hk => by
    have := hw _ (List.getElem_mem hk)
    unfold Wd at this
    exact ⟨_, (Int.toNat_of_nonneg this.1).symm, by omega⟩
  have key := loop_inv (body := fn_dense_Set_Or_p0p1_ir_ir_l1 l') (fun s => ∃ k : Nat, k ≤ l'.length ∧ s.2.1 = (k : Int) ∧ s.2.2.length = l.length ∧ (∀ w ∈ s.2.2, Wd w) ∧ (∀ j, mem s.2.2 j = if j / 64 < k then mem l j || mem l' j else mem l j) ∧ (s.1 = true ↔ ∃ j, j / 64 < k ∧ mem l' j = true ∧ mem l j = false)) (fun s => l'.length - s.2.1.toNat)
    (Q := fun r => r.2.length = l.length ∧ (∀ w ∈ r.2, Wd w) ∧ (∀ j, mem r.2 j = (mem l j || mem l' j)) ∧ (r.1 = true ↔ ∃ j, mem l' j = true ∧ mem l j = false)) ?_ (s := (false, (0 : Int), l)) ⟨0, Nat.zero_le _, rfl, rfl, h.wd, fun j => by simp, by simp⟩
  · obtain ⟨⟨c, q⟩, hlp, q1, q2, q3, q4⟩ := key
    refine ⟨c, q, ?_, ⟨hn, by rw [q1]; exact hl, q2, fun j hj => ?_⟩, q3, q4⟩
    · unfold fn_dense_Set_Or_p0p1_ir_ir
      rw [hlp]
      simp
    · rw [q3, h.top j hj, h'.top j hj]; rfl
  · rintro ⟨c, i, q⟩ ⟨k, hk, rfl, g1, g2, g3, g4⟩
    dsimp only at g1 g2 g3 g4 ⊢
    unfold fn_dense_Set_Or_p0p1_ir_ir_l1
    by_cases hkl : k < l'.length
    · left
      have hkq : k < q.length := by omega
      obtain ⟨x, hx, hx2⟩ := wordOf (n := n) h'.wd k hkl
      obtain ⟨y, hy, hy2⟩ := wordOf (n := n) g2 k hkq
      have hxs : l'[k]? = some (x : Int) := by rw [List.getElem?_eq_getElem hkl, hx]
      have hys : q[k]? = some (y : Int) := by rw [List.getElem?_eq_getElem hkq, hy]
      have hmy : ∀ j, j / 64 = k → mem l j = y.testBit (j % 64) := fun j hj => by
        have := g3 j
        rw [if_neg (by omega), mem_of (by rw [hj]; exact hys)] at this
        exact this.symm
      have hmx : ∀ j, j / 64 = k → mem l' j = x.testBit (j % 64) := fun j hj => mem_of (by rw [hj]; exact hxs)
      have ha := andn_word x y hx2 hy2
      simp only [dlt hkl, cond_true, getN hkl, getN hkq, hx, hy, Option.bind_some, w64s hkl (by omega), Int.toNat_natCast]
      by_cases hz : IntKind.wrap .u64 ((BitVec.ofInt (IntKind.bits .u64) (x : Int) &&& ~~~BitVec.ofInt (IntKind.bits .u64) (y : Int)).toNat : Int) = 0
      · have hsub := ha.1 hz
        have hsub2 : ∀ j, j / 64 = k → mem l' j = true → mem l j = true := fun j hj hm => by
          rw [hmx j hj] at hm
          rw [hmy j hj]
          exact hsub _ hm
        refine ⟨(c, ((k + 1 : Nat) : Int), q), by rw [decide_eq_true hz]; rfl, ⟨k + 1, by omega, rfl, g1, g2, fun j => ?_, ?_⟩, ?_⟩
        · rw [g3]
          by_cases h1 : j / 64 < k
          · rw [if_pos h1, if_pos (by omega)]
          · rw [if_neg h1]
            by_cases h2 : j / 64 = k
            · rw [if_pos (by omega)]
              cases hm : mem l' j with
              | false => simp
              | true => rw [hsub2 j h2 hm]; rfl
            · rw [if_neg (by omega)]
        · rw [g4]
          constructor
          · rintro ⟨j, h1, h2⟩; exact ⟨j, by omega, h2⟩
          · rintro ⟨j, h1, h2, h3⟩
            by_cases h4 : j / 64 = k
            · rw [hsub2 j h4 h2] at h3; cases h3
            · exact ⟨j, by omega, h2, h3⟩
        · show l'.length - ((k + 1 : Nat) : Int).toNat < l'.length - ((k : Nat) : Int).toNat
          rw [Int.toNat_natCast, Int.toNat_natCast]; omega
      · have hw : IntKind.wrap .u64 ((BitVec.ofInt (IntKind.bits .u64) (y : Int) ||| BitVec.ofInt (IntKind.bits .u64) (x : Int)).toNat : Int) = ((y ||| x : Nat) : Int) := orU y x hy2 hx2
        have hex : ∃ i, x.testBit i = true ∧ y.testBit i = false := by
          refine Classical.byContradiction fun hc => hz (ha.2 fun i hi => ?_)
          cases hyi : y.testBit i with
          | true => rfl
          | false => exact absurd ⟨i, hi, hyi⟩ hc
        obtain ⟨i, hi1, hi2⟩ := hex
        have hi64 : i < 64 := by
          rcases Nat.lt_or_ge i 64 with h1 | h1
          · exact h1
          · rw [Nat.testBit_lt_two_pow (Nat.lt_of_lt_of_le hx2 (show 2 ^ 64 ≤ 2 ^ i from Nat.pow_le_pow_right (by decide) h1))] at hi1
            cases hi1
        refine ⟨(true, ((k + 1 : Nat) : Int), q.set k ((y ||| x : Nat) : Int)), by rw [decide_eq_false hz, hw]; rfl, ⟨k + 1, by omega, rfl, by rw [List.length_set]; exact g1, fun w hw => ?_, fun j => ?_, ?_⟩, ?_⟩
        · rcases List.mem_or_eq_of_mem_set hw with hw | rfl
          · exact g2 w hw
          · have := Nat.or_lt_two_pow (n := 64) hy2 hx2
            unfold Wd
            omega
        · dsimp only
          rw [mem_set hys]
          by_cases h2 : j / 64 = k
          · rw [if_pos h2, if_pos (by omega), Nat.testBit_or, hmy j h2, hmx j h2]
          · rw [if_neg h2, g3]
            by_cases h1 : j / 64 < k
            · rw [if_pos h1, if_pos (by omega)]
            · rw [if_neg h1, if_neg (by omega)]
        · refine ⟨fun _ => ⟨64 * k + i, by omega, ?_, ?_⟩, fun _ => rfl⟩
          · rw [hmx _ (by omega), show (64 * k + i) % 64 = i by omega]; exact hi1
          · rw [hmy _ (by omega), show (64 * k + i) % 64 = i by omega]; exact hi2
        · show l'.length - ((k + 1 : Nat) : Int).toNat < l'.length - ((k : Nat) : Int).toNat
          rw [Int.toNat_natCast, Int.toNat_natCast]; omega
    · right
      have e : k = l'.length := by omega
      subst e
      have hlt : ∀ j, mem l' j = true → j / 64 < l'.length := fun j hj => by
        have := lt_of_mem h' hj
        omega
      refine ⟨(c, q), by simp, g1, g2, fun j => ?_, ?_⟩
      · rw [g3]
        by_cases h1 : j / 64 < l'.length
        · rw [if_pos h1]
        · rw [if_neg h1]
          cases hm : mem l' j with
          | false => simp
          | true => exact absurd (hlt j hm) h1
      · rw [g4]
        constructor
        · rintro ⟨j, _, h2⟩; exact ⟨j, h2⟩
        · rintro ⟨j, h2⟩; exact ⟨j, hlt j h2.1, h2⟩
theorem Or_unlike {n m : Nat} (h : n ≠ m) (l l' : List Int) : fn_dense_Set_Or_p0p1_ir_ir n l m l' = some (false, l, l') := by
  unfold fn_dense_Set_Or_p0p1_ir_ir
  have : ¬ ((n : Int) = (m : Int)) := by omega
  simp [this]
/-- Or. -/
theorem Rp.or {n m : Nat} {l l' L L' : List Int} (h : Rp n l L) (h' : Rp m l' L') : ∃ q, fn_dense_Set_Or_p0p1_ir_ir n l m l' = some (decide ((n : Int) = (m : Int)) && (rOr n L L').2, q, l') ∧ Rp n q (if (n : Int) = (m : Int) then (rOr n L L').1 else L) := by
  by_cases e : n = m
  · subst e
    obtain ⟨c, q, h1, h2, h3, h4⟩ := Or_same h.ds h'.ds
    refine ⟨q, ?_, ?_⟩
    · rw [h1]
      have : c = (rOr n L L').2 := by
        rw [Bool.eq_iff_iff, h4, rOr_ok]
        constructor
        · rintro ⟨j, h5, h6⟩
          have := lt_of_mem h'.ds h5
          refine ⟨(j : Int), (h'.mm _).2 ⟨Int.natCast_nonneg _, by simpa using h5⟩, ⟨Int.natCast_nonneg _, by omega⟩, fun h7 => ?_⟩
          have := ((h.mm _).1 h7).2
          rw [Int.toNat_natCast, h6] at this
          cases this
        · rintro ⟨x, h5, h6, h7⟩
          refine ⟨x.toNat, ((h'.mm _).1 h5).2, ?_⟩
          cases h8 : mem l x.toNat with
          | false => rfl
          | true => exact absurd ((h.mm x).2 ⟨h6.1, h8⟩) h7
      rw [this]
      simp
    · rw [if_pos rfl]
      refine ⟨h2, rOr_rs _ _ _ h.rs, fun x => ?_⟩
      rw [rOr_mem, h3, Bool.or_eq_true, h.mm, h'.mm]
      constructor
      · rintro (h5 | ⟨h5, h6⟩)
        · exact ⟨h5.1, .inl h5.2⟩
        · exact ⟨h5.1, .inr h5.2⟩
      · rintro ⟨h5, h6 | h6⟩
        · exact .inl ⟨h5, h6⟩
        · have := lt_of_mem h'.ds h6
          exact .inr ⟨⟨h5, h6⟩, h5, by omega⟩
  · have e2 : ¬ ((n : Int) = (m : Int)) := by omega
    rw [Or_unlike e, if_neg e2, decide_eq_false e2]
    exact ⟨l, rfl, h⟩
end Go.Proofs.YtfdkbceponodmaaDoor
namespace Go.Proofs.YtfdkbceponodmaaDoor
open Go.RowKit
set_option linter.unusedVariables false
set_option linter.unusedSimpArgs false
set_option linter.unnecessarySimpa false
theorem Mx.flag {n : Nat} {f : Option (List Int)} {b : Option (Int × List Int)} {L : List Int} (h : Mx n f b L) : (b.isSome || decide (8 < L.length)) = b.isSome := by
  rcases h.st with ⟨rfl, rfl, h8⟩ | ⟨w, rfl, rfl, hw⟩
  · rw [decide_eq_false (by omega : ¬ 8 < L.length)]; rfl
  · rfl
/-- Or, of two sets of a size. -/
theorem mOr_same {n : Nat} {f f2 : Option (List Int)} {b b2 : Option (Int × List Int)} {L M : List Int} (h : Mx n f b L) (h2 : Mx n f2 b2 M) : ∃ f' b', fn_mixed_Set_Or_p0p1_iodod_iodod n f b n f2 b2 = some ((rOr n L M).2, f', b', f2, b2) ∧ Mx n f' b' (rOr n L M).1 ∧ b'.isSome = ((b.isSome || b2.isSome) || decide (8 < (rOr n L M).1.length)) := by
  have hn := h.hn
  unfold fn_mixed_Set_Or_p0p1_iodod_iodod
  simp only [decide_true, Bool.not_true, cond_false, Dense_some, Option.bind_some]
  rcases h2.st with ⟨rfl, rfl, h8⟩ | ⟨w2, rfl, rfl, hw2⟩
  · -- a few
    have hsp := sp_of hn h2.rs h2.bd (by omega)
    have at0 : fn_sparse_Set_At (some M) 0 = some (M.getD 0 0, decide (0 < M.length)) := At_nat 0
    have key : ∃ f' b', loop (fn_mixed_Set_Or_p0p1_iodod_iodod_l1 n M) (M.getD 0 0, decide (0 < M.length), f, b, false) = some (f', b', (rOr n L M).2) ∧ Mx n f' b' (rOr n L M).1 ∧ b'.isSome = (b.isSome || decide (8 < (rOr n L M).1.length)) := by
      have hind : ∀ d k, k + d = M.length → ∀ fk bk, Mx n fk bk (rOr n L (M.take k)).1 → bk.isSome = (b.isSome || decide (8 < (rOr n L (M.take k)).1.length)) →
          ∃ f' b', loop (fn_mixed_Set_Or_p0p1_iodod_iodod_l1 n M) (M.getD k 0, decide (k < M.length), fk, bk, (rOr n L (M.take k)).2) = some (f', b', (rOr n L M).2) ∧ Mx n f' b' (rOr n L M).1 ∧ b'.isSome = (b.isSome || decide (8 < (rOr n L M).1.length)) := by
        intro d
        induction d with
        | zero =>
          intro k hk fk bk m1 m2
          have e : k = M.length := by omega
          subst e
          rw [List.take_length] at m1 m2 ⊢
          refine ⟨fk, bk, loop_end ?_, m1, m2⟩
          unfold fn_mixed_Set_Or_p0p1_iodod_iodod_l1
          simp
        | succ d ih =>
          intro k hk fk bk m1 m2
          have hkl : k < M.length := by omega
          have hg : M.getD k 0 = M[k] := by simp [hkl]
          obtain ⟨f3, b3, a1, a2, a3⟩ := mAdd_some m1 M[k]
          have e1 : (rOr n L (M.take (k + 1))).1 = rAdd n (rOr n L (M.take k)).1 M[k] := by rw [take_snoc hkl, rOr_snoc]
          have e2 : (rOr n L (M.take (k + 1))).2 = ((rOr n L (M.take k)).2 || rAddOk n (rOr n L (M.take k)).1 M[k]) := by rw [take_snoc hkl, rOr_snoc]
          have hle : (rOr n L (M.take k)).1.length ≤ (rAdd n (rOr n L (M.take k)).1 M[k]).length := sub_len m1.rs a2.rs (fun x hx => (rAdd_mem _ _).2 (.inl hx))
          obtain ⟨f', b', c1, c2, c3⟩ := ih (k + 1) (by omega) f3 b3 (by rw [e1]; exact a2) (by
            rw [e1, a3, m2]
            by_cases h1 : 8 < (rOr n L (M.take k)).1.length
            · have h2 : 8 < (rAdd n (rOr n L (M.take k)).1 M[k]).length := by omega
              simp [h1, h2]
            · simp [h1])
          refine ⟨f', b', ?_, c2, c3⟩
          rw [← c1]
          refine loop_next ?_
          unfold fn_mixed_Set_Or_p0p1_iodod_iodod_l1
          simp only [decide_eq_true hkl, cond_true, hg, a1, Option.bind_some, step_rank hsp hkl, At_nat, e2]
          cases rAddOk n (rOr n L (M.take k)).1 M[k] <;> simp
      exact hind M.length 0 (by omega) f b h h.flag.symm
    obtain ⟨f', b', k1, k2, k3⟩ := key
    refine ⟨f', b', ?_, k2, by rw [k3]; simp⟩
    simp only [Option.isSome_none, cond_false, show fn_sparse_Set_All_p0_r M = some M from rfl, Option.bind_some, at0, k1]
  · -- bits
    have fin : ∀ (w : List Int), Rp n w L → ∃ q, fn_dense_Set_Or_p0p1_ir_ir n w n w2 = some ((rOr n L M).2, q, w2) ∧ Rp n q (rOr n L M).1 := fun w hw => by
      obtain ⟨q, o1, o2⟩ := hw.or hw2
      rw [if_pos rfl] at o2
      exact ⟨q, by rw [o1]; simp, o2⟩
    rcases h.st with ⟨rfl, rfl, h8⟩ | ⟨w, rfl, rfl, hw⟩
    · have hsp := sp_of hn h.rs h.bd (by omega)
      obtain ⟨w, t1, t2⟩ := thick_some hn hsp h.bd none
      obtain ⟨q, o1, o2⟩ := fin w t2
      refine ⟨none, some ((n : Int), q), ?_, ⟨hn, o2.rs, o2.bd, .inr ⟨q, rfl, rfl, o2⟩⟩, rfl⟩
      simp only [Option.isSome_none, Option.isSome_some, cond_true, Bool.not_false, t1, Option.bind_some, o1]
    · obtain ⟨q, o1, o2⟩ := fin w hw
      refine ⟨none, some ((n : Int), q), ?_, ⟨hn, o2.rs, o2.bd, .inr ⟨q, rfl, rfl, o2⟩⟩, rfl⟩
      simp only [Option.isSome_some, cond_true, Bool.not_true, cond_false, Option.bind_some, o1]
theorem mOr_some {n m : Nat} {f f2 : Option (List Int)} {b b2 : Option (Int × List Int)} {L M : List Int} (h : Mx n f b L) (h2 : Mx m f2 b2 M) : ∃ f' b', fn_mixed_Set_Or_p0p1_iodod_iodod n f b m f2 b2 = some (decide ((n : Int) = (m : Int)) && (rOr n L M).2, f', b', f2, b2) ∧ Mx n f' b' (if (n : Int) = (m : Int) then (rOr n L M).1 else L) ∧ b'.isSome = if (n : Int) = (m : Int) then ((b.isSome || b2.isSome) || decide (8 < (rOr n L M).1.length)) else b.isSome := by
  by_cases e : n = m
  · subst e
    obtain ⟨f', b', a1, a2, a3⟩ := mOr_same h h2
    refine ⟨f', b', by rw [a1]; simp, ?_, ?_⟩
    · rw [if_pos rfl]; exact a2
    · rw [if_pos rfl]; exact a3
  · have e2 : ¬ ((n : Int) = (m : Int)) := by omega
    refine ⟨f, b, ?_, ?_, ?_⟩
    · unfold fn_mixed_Set_Or_p0p1_iodod_iodod
      rw [decide_eq_false e2]
      rfl
    · rw [if_neg e2]; exact h
    · rw [if_neg e2]
end Go.Proofs.YtfdkbceponodmaaDoor
namespace Go.Proofs.YtfdkbceponodmaaDoor
open Go.RowKit
set_option linter.unusedVariables false
set_option linter.unusedSimpArgs false
set_option linter.unnecessarySimpa false
theorem rfadd5 {s : Int} {L : List Int} {d : Bool} (hL : L.length ≤ 9000000) (i : Int) : fn_ref05_add ((s, L), d) i = some (s, rAdd s L i, d || decide (8 < (rAdd s L i).length), rAddOk s L i) := by
  unfold fn_ref05_add
  dsimp only
  rw [rfAdd hL]
  simp only [Option.bind_some]
  have e : decide ((8 : Int) < (((rAdd s L i).length : Nat) : Int)) = decide (8 < (rAdd s L i).length) := by
    rw [decide_eq_decide]; omega
  rw [e]
theorem rfor5 {s t : Int} {L M : List Int} {d d2 : Bool} (hL : L.length ≤ 4000000) (hM : M.length ≤ 4000000) : fn_ref05_or ((s, L), d) ((t, M), d2) = some (s, if s = t then (rOr s L M).1 else L, if s = t then ((d || d2) || decide (8 < (rOr s L M).1.length)) else d, decide (s = t) && (rOr s L M).2) := by
  unfold fn_ref05_or
  dsimp only
  rw [rfOr hL hM]
  by_cases h : s = t
  · have e : decide ((8 : Int) < (((rOr s L M).1.length : Nat) : Int)) = decide (8 < (rOr s L M).1.length) := by
      rw [decide_eq_decide]; omega
    subst h
    simp only [decide_true, Bool.not_true, cond_false, Option.bind_some, if_true, Bool.true_and, e]
  · simp [h]
theorem rffill5 {n : Nat} {L : List Int} {d : Bool} (hn : n ≤ 200) (hr : L.Pairwise (· < ·)) (hb : ∀ x ∈ L, 0 ≤ x ∧ x < n) (hd : (d || decide (8 < L.length)) = d) (lo hi : Int) : ∃ L', fn_ref05_fill (((n : Int), L), d) lo hi = some ((n : Int), L', d || decide (8 < L'.length)) ∧ L'.Pairwise (· < ·) ∧ ∀ x, x ∈ L' ↔ x ∈ L ∨ (lo ≤ x ∧ x < hi ∧ 0 ≤ x ∧ x < n) := by
  have key := loop_inv (body := fn_ref05_fill_l1 lo hi) (fun s => ∃ (k : Nat) (L' : List Int), k ≤ n ∧ s = ((k : Int), (n : Int), L', d || decide (8 < L'.length)) ∧ L'.Pairwise (· < ·) ∧ (∀ x ∈ L', 0 ≤ x ∧ x < n) ∧ ∀ x, x ∈ L' ↔ x ∈ L ∨ (lo ≤ x ∧ x < hi ∧ 0 ≤ x ∧ x < k)) (fun s => n - s.1.toNat)
    (Q := fun r => ∃ L' : List Int, r = ((n : Int), L', d || decide (8 < L'.length)) ∧ L'.Pairwise (· < ·) ∧ ∀ x, x ∈ L' ↔ x ∈ L ∨ (lo ≤ x ∧ x < hi ∧ 0 ≤ x ∧ x < n)) ?_ (s := ((0 : Int), (n : Int), L, d)) ⟨0, L, Nat.zero_le _, by rw [hd]; rfl, hr, hb, fun x => ?_⟩
  · obtain ⟨r, k1, L', rfl, k2, k3⟩ := key
    refine ⟨L', ?_, k2, k3⟩
    unfold fn_ref05_fill
    dsimp only
    rw [k1]
    rfl
  · rintro s ⟨k, L', hk, rfl, h1, h2, h3⟩
    unfold fn_ref05_fill_l1
    have hlen := len_le h1 h2
    by_cases hkn : k < n
    · left
      have hkz : decide ((k : Int) < (n : Int)) = true := dlt hkn
      by_cases hin : lo ≤ (k : Int) ∧ (k : Int) < hi
      · have hx : ((decide (lo ≤ (k : Int))) && (decide ((k : Int) < hi))) = true := by simp [hin]
        have hle : L'.length ≤ (rAdd n L' k).length := sub_len h1 (rAdd_rs h1 _) (fun x hx => (rAdd_mem _ _).2 (.inl hx))
        refine ⟨(((k + 1 : Nat) : Int), (n : Int), rAdd n L' k, d || decide (8 < (rAdd n L' k).length)), ?_, ⟨k + 1, _, by omega, rfl, rAdd_rs h1 _, rAdd_bd _ h2, fun x => ?_⟩, ?_⟩
        · simp only [hkz, cond_true, hx, rfadd5 (s := (n : Int)) (L := L') (by omega), Option.bind_some, w64s hkn (by omega)]
          congr 4
          by_cases h8 : 8 < L'.length
          · have h9 : 8 < (rAdd n L' k).length := by omega
            simp [h8, h9]
          · simp [h8]
        · rw [rAdd_mem, h3]
          constructor
          · rintro ((h | h) | h)
            · exact .inl h
            · exact .inr (by omega)
            · exact .inr (by omega)
          · rintro (h | h)
            · exact .inl (.inl h)
            · by_cases hxk : x = (k : Int)
              · exact .inr ⟨hxk, by omega, by omega⟩
              · exact .inl (.inr (by omega))
        · show n - ((k + 1 : Nat) : Int).toNat < n - ((k : Nat) : Int).toNat
          rw [Int.toNat_natCast, Int.toNat_natCast]; omega
      · have hx : ((decide (lo ≤ (k : Int))) && (decide ((k : Int) < hi))) = false := by
          rw [Bool.eq_false_iff]
          simpa using hin
        refine ⟨(((k + 1 : Nat) : Int), (n : Int), L', d || decide (8 < L'.length)), ?_, ⟨k + 1, _, by omega, rfl, h1, h2, fun x => ?_⟩, ?_⟩
        · simp only [hkz, cond_true, hx, cond_false, w64s hkn (by omega)]
        · rw [h3]
          constructor
          · rintro (h | h)
            · exact .inl h
            · exact .inr (by omega)
          · rintro (h | h)
            · exact .inl h
            · by_cases hxk : x = (k : Int)
              · exfalso; subst hxk; exact hin ⟨h.1, h.2.1⟩
              · exact .inr (by omega)
        · show n - ((k + 1 : Nat) : Int).toNat < n - ((k : Nat) : Int).toNat
          rw [Int.toNat_natCast, Int.toNat_natCast]; omega
    · right
      have e : k = n := by omega
      subst e
      refine ⟨_, ?_, L', rfl, h1, h3⟩
      simp only [dge hkn, cond_false]
  · constructor
    · exact .inl
    · rintro (h | h)
      · exact h
      · omega
/-- One act, on both sides. -/
theorem Do5_sim {n m : Nat} {f f2 : Option (List Int)} {b b2 : Option (Int × List Int)} {L M : List Int} (h : Mx n f b L) (h2 : Mx m f2 b2 M) (hn : n ≤ 200) (hm : m ≤ 200) (a : Int × Int × Int) :
    ∃ L1 M1 ok f1 b1 f3 b3, fn_ref05_Do (((n : Int), L), b.isSome) (((m : Int), M), b2.isSome) a = some ((n : Int), L1, b1.isSome, (m : Int), M1, b3.isSome, ok) ∧ fn_law05_does_p0p1a_iodod_iodod a n f b m f2 b2 = some (ok, f1, b1, f3, b3) ∧ Mx n f1 b1 L1 ∧ Mx m f3 b3 M1 := by
  have l1 := h.len
  have l2 := h2.len
  obtain ⟨fa, ba, a1, a2, a3⟩ := mAdd_some h a.2.1
  obtain ⟨fb, bb, a4, a5, a6⟩ := mAdd_some h2 a.2.1
  obtain ⟨fc, bc, a7, a8, a9⟩ := mOr_some h h2
  obtain ⟨fd, bd, a10, a11, a12⟩ := mOr_some h2 h
  obtain ⟨fe, be, Le, a13, a14, a15, a16⟩ := mFill_some h a.2.1 a.2.2
  obtain ⟨ff, bf, Lf, a17, a18, a19, a20⟩ := mFill_some h2 a.2.1 a.2.2
  obtain ⟨Lr, r1, r2, r3⟩ := rffill5 hn h.rs h.bd h.flag a.2.1 a.2.2
  obtain ⟨Ls, r4, r5, r6⟩ := rffill5 hm h2.rs h2.bd h2.flag a.2.1 a.2.2
  have er : Lr = Le := strict_eq r2 a14.rs (fun x => by rw [r3, a16])
  have es : Ls = Lf := strict_eq r5 a18.rs (fun x => by rw [r6, a20])
  subst er
  subst es
  unfold fn_ref05_Do fn_law05_does_p0p1a_iodod_iodod
  dsimp only
  rw [rfadd5 (by omega), rfadd5 (by omega), rfor5 (by omega) (by omega), rfor5 (by omega) (by omega), r1, r4, a1, a4, a7, a10, a13, a17, ← a3, ← a6, ← a9, ← a12, ← a15, ← a19]
  simp only [Option.bind_some]
  by_cases h0 : a.1 = 0
  · rw [decide_eq_true h0]; exact ⟨_, _, _, _, _, _, _, rfl, rfl, a2, h2⟩
  by_cases h1 : a.1 = 1
  · rw [decide_eq_false h0, decide_eq_true h1]; exact ⟨_, _, _, _, _, _, _, rfl, rfl, h, a5⟩
  by_cases h2' : a.1 = 2
  · rw [decide_eq_false h0, decide_eq_false h1, decide_eq_true h2']; exact ⟨_, _, _, _, _, _, _, rfl, rfl, a8, h2⟩
  by_cases h3 : a.1 = 3
  · rw [decide_eq_false h0, decide_eq_false h1, decide_eq_false h2', decide_eq_true h3]; exact ⟨_, _, _, _, _, _, _, rfl, rfl, h, a11⟩
  by_cases h4 : a.1 = 4
  · rw [decide_eq_false h0, decide_eq_false h1, decide_eq_false h2', decide_eq_false h3, decide_eq_true h4]; exact ⟨_, _, _, _, _, _, _, rfl, rfl, a14, h2⟩
  by_cases h5 : a.1 = 5
  · rw [decide_eq_false h0, decide_eq_false h1, decide_eq_false h2', decide_eq_false h3, decide_eq_false h4, decide_eq_true h5]; exact ⟨_, _, _, _, _, _, _, rfl, rfl, h, a18⟩
  · rw [decide_eq_false h0, decide_eq_false h1, decide_eq_false h2', decide_eq_false h3, decide_eq_false h4, decide_eq_false h5]; exact ⟨_, _, _, _, _, _, _, rfl, rfl, h, h2⟩
theorem tells5_true {n : Nat} {f : Option (List Int)} {b : Option (Int × List Int)} {L : List Int} (h : Mx n f b L) (hn : n ≤ 200) (i : Int) : fn_law05_tells_p0ai_iodod (((n : Int), L), b.isSome) i n f b = some (true, f, b) := by
  have hl := h.len
  have hw : fn_ref05_Words (((n : Int), L), b.isSome) = some (if b.isSome then (((n + 63) / 64 : Nat) : Int) else ((L.length : Nat) : Int)) := by
    unfold fn_ref05_Words
    have e : IntKind.wrap .i64 (Int.tdiv (IntKind.wrap .i64 ((n : Int) + 63)) 64) = (((n + 63) / 64 : Nat) : Int) := by
      rw [w64 (x := (n : Int) + 63) (by omega) (by omega), show (n : Int) + 63 = ((n + 63 : Nat) : Int) by omega, show Int.tdiv ((n + 63 : Nat) : Int) 64 = (((n + 63) / 64 : Nat) : Int) from rfl]
      exact w64 (by omega) (by omega)
    dsimp only
    rw [e]
    cases b.isSome <;> rfl
  unfold fn_law05_tells_p0ai_iodod
  dsimp only
  rw [show fn_mixed_Set_Size (some ((n : Int), f, b)) = some (n : Int) from rfl, h.size, h.has, Dense_some, h.words, hw, mList_some h, rfHas (by omega)]
  unfold rHas
  simp only [Option.bind_some, decide_true, cond_true, beq_self_eq_true]
  rw [rfSame (by omega)]
  simp
theorem MixedPlays_true (xa : Int) (xb : Int) (xc : (List (Int × Int × Int))) (xd : Int) (k0 : Tp.Ok (.int .i64) xa) (k1 : Tp.Ok (.int .i64) xb) (k2 : Tp.Ok (.sl (.cons (.int .i64) (.cons (.int .i64) (.one (.int .i64))))) xc) (k3 : Tp.Ok (.int .i64) xd) : fn_law05_MixedPlays xa xb xc xd = some true := by
  unfold fn_law05_MixedPlays
  rw [awake05]
  by_cases hg : (((((decide (30 < (((xc.length : Nat) : Int)))) || ((decide (200 < xa)) && (decide (xa ≤ 1048576)))) || (decide (xb < 0))) || (decide (200 < xb)))) = true
  · rw [hg]; rfl
  · rw [Bool.eq_false_iff.2 hg]
    simp only [Bool.or_eq_true, Bool.and_eq_true, decide_eq_true_eq, not_or, not_and] at hg
    obtain ⟨⟨⟨g1, g2⟩, g3⟩, g4⟩ := hg
    rw [cond_false, mNew_some, mNew_some]
    have e2 : ¬ xb < 0 := g3
    have e3 : ¬ 1048576 < xb := by omega
    rw [if_neg e2, if_neg e3]
    by_cases hneg : xa < 0
    · rw [if_pos hneg]
      simp [hneg]
    · rw [if_neg hneg]
      by_cases hbig : 1048576 < xa
      · rw [if_pos hbig]
        simp [hneg, hbig]
      · rw [if_neg hbig]
        have ha : xa ≤ 200 := by
          refine Classical.byContradiction fun h => ?_
          exact g2 (by omega) (by omega)
        obtain ⟨n, rfl⟩ := Int.eq_ofNat_of_zero_le (by omega : 0 ≤ xa)
        obtain ⟨m, rfl⟩ := Int.eq_ofNat_of_zero_le (by omega : 0 ≤ xb)
        have hn : n ≤ 200 := by omega
        have hm : m ≤ 200 := by omega
        have hlp : loop (fn_law05_MixedPlays_l1 n m xc xd) ((0 : Int), some ([] : List Int), (none : Option (Int × List Int)), some ([] : List Int), (none : Option (Int × List Int)), (n : Int), ([] : List Int), false, (m : Int), ([] : List Int), false) = some (.inl ()) := by
          refine loop_val (fun s => ∃ (k : Nat) (f : Option (List Int)) (b : Option (Int × List Int)) (f2 : Option (List Int)) (b2 : Option (Int × List Int)) (L M : List Int), k ≤ xc.length ∧ s = ((k : Int), f, b, f2, b2, (n : Int), L, b.isSome, (m : Int), M, b2.isSome) ∧ Mx n f b L ∧ Mx m f2 b2 M) (fun s => xc.length - s.1.toNat) ?_ ⟨0, _, _, _, _, _, _, Nat.zero_le _, rfl, Mx_new (by omega), Mx_new (by omega)⟩
          rintro s ⟨k, f, b, f2, b2, L, M, hk, rfl, r1, r2⟩
          unfold fn_law05_MixedPlays_l1
          by_cases hkl : k < xc.length
          · left
            obtain ⟨L1, M1, ok, f1, b1, f3, b3, d1, d2, d3, d4⟩ := Do5_sim r1 r2 hn hm xc[k]
            refine ⟨(((k + 1 : Nat) : Int), f1, b1, f3, b3, (n : Int), L1, b1.isSome, (m : Int), M1, b3.isSome), ?_, ⟨k + 1, f1, b1, f3, b3, L1, M1, by omega, rfl, d3, d4⟩, ?_⟩
            · simp only [dlt hkl, cond_true, getN hkl, Option.bind_some, d1, d2, agr_self, beq_self_eq_true, Bool.not_true, cond_false, tells5_true d3 hn, tells5_true d4 hm, w64s hkl (by omega)]
            · show xc.length - ((k + 1 : Nat) : Int).toNat < xc.length - ((k : Nat) : Int).toNat
              rw [Int.toNat_natCast, Int.toNat_natCast]; omega
          · right
            simp only [dge hkl, cond_false]
        have f1 : ¬ ((n : Int) < 0) := by omega
        simp only [Option.bind_some, decide_eq_false f1, decide_eq_false hbig, cond_false, decide_true, Bool.not_true, Bool.or_self, hlp]
theorem MixedSame_true (xa : Int) (xb : (List Int)) (k0 : Tp.Ok (.int .i64) xa) (k1 : Tp.Ok (.sl (.int .i64)) xb) : fn_law05_MixedSame xa xb = some true := by
  unfold fn_law05_MixedSame
  rw [awake05]
  by_cases hg : (((decide (40 < (((xb.length : Nat) : Int)))) || (decide (xa < 0))) || (decide (200 < xa))) = true
  · rw [hg]; rfl
  · rw [Bool.eq_false_iff.2 hg]
    simp only [Bool.or_eq_true, decide_eq_true_eq, not_or] at hg
    obtain ⟨⟨g1, g2⟩, g3⟩ := hg
    obtain ⟨n, rfl⟩ := Int.eq_ofNat_of_zero_le (by omega : 0 ≤ xa)
    have hn : n ≤ 200 := by omega
    have h2 : ¬ 1048576 < (n : Int) := by omega
    rw [cond_false, mNew_some, if_neg g2, if_neg h2, New_some, if_neg g2, if_neg h2, Int.toNat_natCast]
    have hlp : ∃ f b w L, loop (fn_law05_MixedSame_l1 n xb) ((0 : Int), some ([] : List Int), (none : Option (Int × List Int)), List.replicate ((n + 63) / 64) (0 : Int)) = some (.inl (f, b, w)) ∧ Mx n f b L ∧ Rp n w L := by
      have key := loop_inv (body := fn_law05_MixedSame_l1 n xb) (fun s => ∃ (k : Nat) (L : List Int), k ≤ xb.length ∧ s.1 = (k : Int) ∧ Mx n s.2.1 s.2.2.1 L ∧ Rp n s.2.2.2 L) (fun s => xb.length - s.1.toNat) (Q := fun r => ∃ f b w L, r = .inl (f, b, w) ∧ Mx n f b L ∧ Rp n w L) ?_ (s := ((0 : Int), some ([] : List Int), (none : Option (Int × List Int)), List.replicate ((n + 63) / 64) (0 : Int))) ⟨0, [], Nat.zero_le _, rfl, Mx_new (by omega), Rp_new (by omega)⟩
      · obtain ⟨r, k1, f, b, w, L, rfl, k2, k3⟩ := key
        exact ⟨f, b, w, L, k1, k2, k3⟩
      · rintro ⟨i, f, b, w⟩ ⟨k, L, hk, rfl, hM, hR⟩
        dsimp only at hM hR ⊢
        unfold fn_law05_MixedSame_l1
        by_cases hkl : k < xb.length
        · left
          obtain ⟨f2, b2, a1, a2, _⟩ := mAdd_some hM xb[k]
          obtain ⟨w2, c1, c2⟩ := hR.add xb[k]
          refine ⟨(((k + 1 : Nat) : Int), f2, b2, w2), ?_, ⟨k + 1, _, by omega, rfl, a2, c2⟩, ?_⟩
          · have hh := c2.has xb[k]
            unfold rHas at hh
            simp only [dlt hkl, cond_true, getN hkl, Option.bind_some, a1, c1, beq_self_eq_true, Bool.not_true, cond_false, a2.size, c2.count, decide_true, a2.has, hh, w64s hkl (by omega)]
          · show xb.length - ((k + 1 : Nat) : Int).toNat < xb.length - ((k : Nat) : Int).toNat
            rw [Int.toNat_natCast, Int.toNat_natCast]; omega
        · right
          exact ⟨_, by simp only [dge hkl, cond_false], f, b, w, L, rfl, hM, hR⟩
    obtain ⟨f, b, w, L, l1, l2, l3⟩ := hlp
    have hl := l2.len
    have fz : fn_mixed_Set_Fill_zii 0 5 = some () := by
      unfold fn_mixed_Set_Fill_zii
      rw [loop_end (b := ()) (by rfl)]
      rfl
    have az : fn_mixed_Set_Add_zi 1 = some false := rfl
    have lz : fn_mixed_Set_List_z = some [] := by
      unfold fn_mixed_Set_List_z fn_mixed_Set_kind_z
      rw [Of_nil]
      simp only [show fn_mixed_Set_All_z = some () from rfl, show fn_mixed_Set_Dense none = some false from rfl, Option.bind_some, cond_false, show fn_sparse_Set_All_p0_r [] = some [] from rfl, show fn_sparse_Set_At (some []) 0 = some (0, false) from rfl]
      rw [loop_end (b := []) (by rfl)]
      rfl
    simp only [Option.bind_some, decide_true, Bool.not_true, Bool.or_self, cond_false, l1, fz, mList_some l2, l3.list]
    rw [rfSame (by omega)]
    simp only [Option.bind_some, decide_true, cond_true, show fn_mixed_Set_Size none = some 0 from rfl, az, Bool.not_false, show fn_mixed_Set_Or_zp0_iodod (n : Int) f b = some (false, f, b) from rfl, show fn_mixed_Set_Or_p0z_iodod (n : Int) f b = some (false, f, b) from rfl, show fn_mixed_Set_Len none = some 0 from rfl, show fn_mixed_Set_Dense none = some false from rfl, show fn_mixed_Set_Words none = some 0 from rfl, show fn_mixed_Set_Has none 0 = some false from rfl, lz, List.length_nil]
    rfl
end Go.Proofs.YtfdkbceponodmaaDoor
namespace Go.Proofs.YtfdkbceponodmaaDoor
open Go.RowKit
set_option linter.unusedVariables false
set_option linter.unnecessarySimpa false
set_option linter.unusedSimpArgs false
set_option maxRecDepth 20000
theorem MixedSame_walk {H : Type} (enc : TypeId × Value → H) (W : World) (base : Nat) {v0 v1 : Value} {d0 d1 : DataW H} {p0 p1 : List MemPlace}
    (h0 : DataW.Trod enc Tryd.prog W 0 (fun _ => true) true 3 v0 d0 p0) (h1 : DataW.Trod enc Tryd.prog W 0 (fun _ => true) true 28 v1 d1 p1)
    (o0 : Value.okWide Tryd.prog W .any base 3 v0) (o1 : Value.okWide Tryd.prog W .any base 28 v1)
    (hgk : tzGk (Hp.of W)) :
    Calls Tryd.prog 4 #[v0, v1] W fun e W' => e = .returned (.bool true) ∧ Below W.heap.size W W' := by
  obtain ⟨xa, i0, k0⟩ := Tp.arg (.int .i64) (by kernel_rfl) o0 h0
  obtain ⟨xb, i1, k1⟩ := Tp.arg (.sl (.int .i64)) (by kernel_rfl) o1 h1
  exact walkX (s := sp_law05_MixedSame) (x := (xa, xb)) (args := [v0, v1]) law05_MixedSame_is (MixedSame_true xa xb k0 k1) hgk rfl rfl ⟨_, _, rfl, of_rel _ i0, _, _, rfl, of_rel _ i1, rfl⟩
end Go.Proofs.YtfdkbceponodmaaDoor
namespace Go.Proofs.YtfdkbceponodmaaDoor
open Go.RowKit
theorem tz_tab : ∀ j, j < 64 → (Lib.deBruijn64tab.map Int.ofNat).getD j 0 = ((Lib.deBruijn64tab.getD j 0 : Nat) : Int) := by decide +kernel
theorem tzGk_of {W : World} {rest : List (String × DataW Unit)} (h : laidMet Tryd.prog (("math/bits.deBruijn64tab", Rows.laid_math_bits_deBruijn64tab) :: rest) W) : tzGk (Hp.of W) := by
  have hg : Tryd.prog.globalNamed "math/bits.deBruijn64tab" = some 0 := by kernel_rfl
  have hT : Lib.TabIs Tryd.prog W "math/bits.deBruijn64tab" .u8 (Lib.deBruijn64tab.map Int.ofNat) :=
    Lib.tabIs_of_head (t := 95) (e := 5) (n := 64) hg (by kernel_rfl) (by kernel_rfl) (by kernel_rfl) (by kernel_rfl) (by kernel_rfl) h
  intro j hj
  rw [← tz_tab j hj]
  exact cellK_of (hT.cell hg j (by simpa [Lib.deBruijn64tab] using hj))
end Go.Proofs.YtfdkbceponodmaaDoor
namespace Go.Proofs.YtfdkbceponodmaaDoor.mixedSameFrame
set_option maxRecDepth 40000
open Go.ChangeShapes Go.WideShapes Go.ChangeAt Go.RowKit
theorem own : ownKnob Tryd.prog.godebug = none := by kernel_rfl
theorem contract (H : Type) (enc : TypeId × Value → H) (W : World) (base : Nat) (args : Array Value) (ds gs : List (DataW H)) (before : List MemPlace)
    (hval : ∀ (j : Nat) t v, Tryd.f4.params[j]? = some t → args[j]? = some v → Value.okWide Tryd.prog W .any base t v)
    (hW : DataW.Whole enc Tryd.prog Tryd.f4.params.toList Rows.mixedSameSpec.vars false W args.toList ds gs before) (hgk : tzGk (Hp.of W)) :
    Calls Tryd.prog 4 args W fun e W' => ∃ v, e = .returned v ∧ Rows.mixedSameSpec.post enc Tryd.prog Tryd.f4 false true false false W args v W' := by
  have hW' := hW
  obtain ⟨p, q, hA0, hV, rfl, hfz, hnd⟩ := hW
  have hA : DataW.TrodAll enc Tryd.prog W 0 (fun _ => true) true Tryd.f4.params.toList args.toList ds p := hA0
  rw [Tryd.params4] at hA hval
  obtain ⟨v0, vs0, d0, ds0, p0, q0, hargs, rfl, rfl, h0, r0⟩ := trodAll_cons hA
  obtain ⟨v1, vs1, d1, ds1, p1, q1, rfl, rfl, rfl, h1, r1⟩ := trodAll_cons r0
  obtain ⟨rfl, rfl, rfl⟩ := trodAll_nil r1
  obtain rfl : args = #[v0, v1] := by cases args; simp_all
  refine (MixedSame_walk enc W base h0 h1 (hval 0 _ v0 rfl rfl) (hval 1 _ v1 rfl rfl) hgk).mono fun e W' ⟨he, hb⟩ => ?_
  subst he
  exact ⟨_, rfl, law_post (tb := _) rfl hW' rfl rfl (by kernel_rfl) (by kernel_rfl) (of_decide_eq_true (by kernel_rfl)) hb⟩
noncomputable def world (os : Os) : World := World.laidAll Tryd.prog os Rows.mixedSameRow.laid
theorem reads (os : Os) {H : Type} (enc : TypeId × Value → H) : ∃ x, DataW.whole enc Tryd.prog ((world os).forCall (fun _ _ => 0) ⟨#[], #[.int .i64 0, .slice none 0 0], []⟩).memory Tryd.f4.params.toList Rows.mixedSameSpec.vars false (#[.int .i64 0, .slice none 0 0] : Array Value).toList 8 = some x :=
  Option.isSome_iff_exists.1 (by kernel_rfl)
set_option maxRecDepth 100000 in
theorem lifted (os : Os) (started : os.Started) (H : Type) (enc : TypeId × Value → H) (F : Stop.Interp) :
    ReturnsInHanded {} Tryd.checked os 4 .any ((OpenSpec.ofChange Rows.mixedSameSpec).preRow enc Tryd.prog Tryd.f4 Rows.mixedSameRow.domain false Rows.mixedSameRow.laid) (((OpenSpec.ofChange Rows.mixedSameSpec).at F).post enc Tryd.prog Tryd.f4 false true false false) := by
  obtain ⟨x, hx⟩ := reads os enc
  refine returnsInHanded_of_row (C := Tryd.checked) (s := OpenSpec.ofChange Rows.mixedSameSpec) own started (by kernel_rfl) Tryd.func4
    ⟨world os, fun _ _ => 0, ⟨#[], #[.int .i64 0, .slice none 0 0], []⟩, World.laidAll_os _ _ _, World.shaped_of_ZipB (by kernel_rfl) (by kernel_rfl), rfl, (Input.okWide_of_okWideB (by kernel_rfl)).2,
      OpenSpec.preRow_of_cond 8 hx (by kernel_rfl) (fun k hk => by cases hk) (by kernel_rfl) (by rw [MakeChecks.laidMetH_plain _ _ _ (by kernel_rfl)]; exact laidMet_laidAll _ (by kernel_rfl) (by kernel_rfl)),
      by simp only [Assume.holds]; exact ⟨by simp, by simp, by simp, by simp, by simp⟩⟩ ?_
  intro W base args ds gs before hval hW _ _ _ hL _ _
  exact contract H enc W base args ds gs before hval hW (tzGk_of (rest := []) (by rw [MakeChecks.laidMetH_plain _ _ _ (by kernel_rfl)] at hL; exact hL))
theorem proved : Rows.MixedSameSaid :=
  OpenClaim.holds_of_cond 4 Tryd.f4 rfl rfl rfl rfl rfl rfl rfl ⟨rfl, rfl, rfl, rfl, rfl⟩ rfl rfl rfl rfl rfl (by kernel_rfl) Tryd.func4 (by kernel_rfl)
    (of_decide_eq_true (by kernel_rfl)) (by unfold Func.isWrapper; first | (rw [if_pos (by decide +kernel)]; kernel_rfl) | (rw [if_neg (by decide +kernel)]; exact ⟨rfl, rfl⟩))
    (fun os started H enc _ F => by rw [OpenClaim.pre_eq_preRow]; exact lifted os started H enc F)
theorem card : Rows.MixedSameCardSaid :=
  Claim7.holds_tied_plain_at .later [] [.data] true (true, "84b8374cf6c0bf8d40be1590f52befa2c12af58ad26dfbd500969a1d63f8c128") false proved (fun _ h => by cases h) (by kernel_rfl) (fun _ h => by cases h) mixedSame_row_tie rfl ⟨rfl, rfl⟩ (by kernel_rfl) rfl
    (fun f fn hf hfn => by
      obtain rfl : f = 4 := Option.some.inj ((show Tryd.prog.funcNamed "easement/easementlaw05.MixedSame" = some 4 by kernel_rfl).symm.trans hf) |>.symm
      obtain rfl : fn = Tryd.f4 := (Option.some.inj (Tryd.func4.symm.trans hfn)).symm
      exact ⟨by kernel_rfl, fun j t ht => by
        rw [Tryd.params4] at ht
        have hm : t ∈ [3, 28] := by simpa using Array.mem_of_getElem? ht
        have hall : ([3, 28].all fun u => !Tryd.prog.wantsStandIn u) = true := by kernel_rfl
        exact (show Tryd.prog.wantsStandIn t = false by simpa using List.all_eq_true.1 hall t hm)⟩)
    (by kernel_rfl)
end Go.Proofs.YtfdkbceponodmaaDoor.mixedSameFrame
