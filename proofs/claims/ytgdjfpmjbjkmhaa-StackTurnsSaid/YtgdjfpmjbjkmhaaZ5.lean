/- 'easement/easementlaw07.StackTurns' returns true for every input, and each argument reads afterwards as it read before: the row's frame round the walk. -/
import Derived.Test.YtgdjfpmjbjkmhaaZ4
namespace Go.Proofs.Ytgdjfpmjbjkmhaa
set_option linter.unusedVariables false
theorem bind_of {α β : Type} {m : Option α} {f : α → Option β} {y : β} {Q : α → Prop} (h : ∃ r, m = some r ∧ Q r) (k : ∀ r, Q r → f r = some y) : m.bind f = some y := by
  obtain ⟨r, rfl, h2⟩ := h; exact k r h2
theorem bind_ex {α β : Type} {m : Option α} {f : α → Option β} {Q : α → Prop} {R : β → Prop} (h : ∃ r, m = some r ∧ Q r) (k : ∀ r, Q r → ∃ y, f r = some y ∧ R y) : ∃ y, m.bind f = some y ∧ R y := by
  obtain ⟨r, rfl, h2⟩ := h; exact k r h2
theorem getZ {α : Type} {l : List α} {i : Int} (h0 : 0 ≤ i) (h1 : i < (l.length : Nat)) : getI l i = some (l[i.toNat]'(by omega)) := by
  unfold getI; rw [if_pos h0]; simp
theorem getN1 {α : Type} {l : List α} {k : Nat} (h : k + 1 < l.length) : getI l ((k : Int) + 1) = some l[k + 1] := getI_eq rfl h
theorem dlt {k n : Nat} (h : k < n) : decide ((k : Int) < (n : Int)) = true := by simp; omega
theorem dge {k n : Nat} (h : ¬ k < n) : decide ((k : Int) < (n : Int)) = false := by simp; omega
theorem beq_dec {α : Type} [DecidableEq α] (a b : α) : (a == b) = decide (a = b) := Bool.beq_eq_decide_eq a b
section
variable {α β γ σ : Type}
/-- Counted from 0 to n, with a way out. -/
theorem loop_stop {body : σ → Option (σ ⊕ β)} (n : Nat) (st : Nat → σ) (stop : Nat → Option β) (e : β) (h : ∀ k, k < n → body (st k) = some (match stop k with | none => .inl (st (k + 1)) | some b => .inr b)) (he : body (st n) = some (.inr e)) :
    loop body (st 0) = some (((List.range n).findSome? stop).getD e) := by
  rcases loop_find (fun k => (stop k).isSome = true) st n (fun k => (stop k).getD e) e (fun k hk hp => by
      rw [h k hk]; cases hs : stop k with
      | none => rfl
      | some b => simp [hs] at hp) (fun k hk hp => by
      rw [h k hk]; cases hs : stop k with
      | none => simp [hs] at hp
      | some b => rfl) he with ⟨k, h1, h2, h3, h4⟩ | ⟨h1, h2⟩
  · rw [h4]
    obtain ⟨b, hb⟩ := Option.isSome_iff_exists.1 h2
    have : (List.range n).findSome? stop = some b := by
      rw [List.findSome?_eq_some_iff]
      refine ⟨List.range k, k, (List.range' (k + 1) (n - k - 1)), ?_, hb, fun a ha => ?_⟩
      · rw [List.range_eq_range', List.range_eq_range', ← List.range'_succ (s := k) (n := n - k - 1)]
        rw [show n - k - 1 + 1 = n - k by omega]
        have := List.range'_append_1 (s := 0) (m := k) (n := n - k)
        rw [Nat.zero_add, show k + (n - k) = n by omega] at this
        exact this.symm
      · have := h3 a (List.mem_range.1 ha)
        cases hs : stop a with
        | none => rfl
        | some b => simp [hs] at this
    rw [this, hb]
  · rw [h2]
    have : (List.range n).findSome? stop = none := by
      rw [List.findSome?_eq_none_iff]
      intro a ha
      have := h1 a (List.mem_range.1 ha)
      cases hs : stop a with
      | none => rfl
      | some b => simp [hs] at this
    rw [this]; rfl
/-- A list searched: where the first hit lies. -/
theorem loop_search {body : Int → Option (Int ⊕ β)} (xa : List α) (t : α → Bool) (hit : Nat → β) (e : β) (hb : ∀ (k : Nat) (h : k < xa.length), body (k : Int) = some (if t xa[k] then .inr (hit k) else .inl ((k + 1 : Nat) : Int))) (he : body (xa.length : Int) = some (.inr e)) :
    loop body 0 = some (match xa.findIdx? t with | some k => hit k | none => e) := by
  rcases loop_find (fun k => ∃ h : k < xa.length, t xa[k] = true) (fun k : Nat => (k : Int)) xa.length hit e (fun k hk hp => by
      rw [hb k hk, if_neg (fun h => hp ⟨hk, h⟩)]) (fun k hk ⟨_, hp⟩ => by rw [hb k hk, if_pos hp]) he with ⟨k, h1, ⟨_, h2⟩, h3, h4⟩ | ⟨h1, h2⟩
  · rw [show ((0 : Int)) = ((0 : Nat) : Int) from rfl, h4]
    have : xa.findIdx? t = some k := by
      rw [List.findIdx?_eq_some_iff_getElem]
      exact ⟨h1, h2, fun j hj => fun hc => h3 j hj ⟨by omega, by simpa using hc⟩⟩
    rw [this]
  · rw [show ((0 : Int)) = ((0 : Nat) : Int) from rfl, h2]
    have : xa.findIdx? t = none := by
      rw [List.findIdx?_eq_none_iff]
      intro x hx
      obtain ⟨k, hk, rfl⟩ := List.getElem_of_mem hx
      cases hc : t xa[k] with
      | false => rfl
      | true => exact absurd ⟨hk, hc⟩ (h1 k hk)
    rw [this]
theorem loop_some {body : Int → Option (Int ⊕ β)} (xa : List α) (t : α → Bool) (hit e : β) (hb : ∀ (k : Nat) (h : k < xa.length), body (k : Int) = some (if t xa[k] then .inr hit else .inl ((k + 1 : Nat) : Int))) (he : body (xa.length : Int) = some (.inr e)) :
    loop body 0 = some (if xa.any t then hit else e) := by
  rw [loop_search xa t (fun _ => hit) e hb he]
  cases h : xa.findIdx? t with
  | none =>
    have : xa.any t = false := by
      rw [List.any_eq_false]; intro x hx; have := List.findIdx?_eq_none_iff.1 h x hx; simp [this]
    rw [this]; rfl
  | some k =>
    obtain ⟨hk, h1, _⟩ := List.findIdx?_eq_some_iff_getElem.1 h
    have : xa.any t = true := List.any_eq_true.2 ⟨_, List.getElem_mem hk, h1⟩
    rw [this]; rfl
/-- A list gone through, with what is carried along. -/
theorem loop_carry {δ : Type} {body : (γ × Int) → Option ((γ × Int) ⊕ δ)} (xa : List α) (acc : Nat → γ) (out : δ) (hb : ∀ (k : Nat) (h : k < xa.length), body (acc k, (k : Int)) = some (.inl (acc (k + 1), ((k + 1 : Nat) : Int)))) (he : body (acc xa.length, (xa.length : Int)) = some (.inr out)) :
    loop body (acc 0, 0) = some out := loop_nat (fun k => (acc k, (k : Int))) xa.length hb he
/-- Two lists held against each other, place by place. -/
theorem loop_alike [DecidableEq α] {body : Int → Option (Int ⊕ β)} (xa xb : List α) (hit e : β) (hl : xa.length = xb.length) (hb : ∀ (k : Nat) (h : k < xa.length), body (k : Int) = some (if xa[k] = (xb[k]'(by omega)) then .inl ((k + 1 : Nat) : Int) else .inr hit)) (he : body (xa.length : Int) = some (.inr e)) :
    loop body 0 = some (if xa = xb then e else hit) := by
  rw [loop_search (List.range xa.length) (fun k => decide (xa[k]? ≠ xb[k]?)) (fun _ => hit) e (fun k h => by
      simp at h
      rw [hb k h]
      have h2 : k < xb.length := by omega
      by_cases hq : xa[k] = xb[k] <;> simp [h, h2, hq]) (by simpa using he)]
  by_cases hq : xa = xb
  · subst hq
    have : (List.range xa.length).findIdx? (fun k => decide (xa[k]? ≠ xa[k]?)) = none := by rw [List.findIdx?_eq_none_iff]; simp
    rw [this]; simp
  · cases h : (List.range xa.length).findIdx? (fun k => decide (xa[k]? ≠ xb[k]?)) with
    | some k => simp [hq]
    | none =>
      exfalso; apply hq
      rw [List.findIdx?_eq_none_iff] at h
      apply List.ext_getElem?
      intro k
      by_cases hk : k < xa.length
      · simpa using h k (List.mem_range.2 hk)
      · rw [List.getElem?_eq_none (by omega), List.getElem?_eq_none (by omega)]
theorem take_snoc {l : List α} {k : Nat} (h : k < l.length) : l.take (k + 1) = l.take k ++ [l[k]] := List.take_succ_eq_append_getElem h
theorem dlen {a b : Nat} (h : a = b) : (!decide ((a : Int) = (b : Int))) = false := by simp [h]
theorem dlen' {a b : Nat} (h : ¬ a = b) : (!decide ((a : Int) = (b : Int))) = true := by simp; omega
end
theorem ok64 {x : Int} (h : Tp.Ok (.int .i64) x) : -9223372036854775808 ≤ x ∧ x ≤ 9223372036854775807 := by
  have h' : (Lit.int .i64 x).wf = true := h
  simp only [Lit.wf, IntKind.min, IntKind.max, IntKind.signed, IntKind.bits, Bool.and_eq_true, decide_eq_true_eq] at h'
  simp at h'; omega
theorem sub1 {α : Type} {l : List α} (h : 1 ≤ l.length) : subL l 1 ((l.length : Nat) : Int) = some (l.drop 1) := by
  rw [subL_eq (by omega) (by omega) (by omega)]; simp
end Go.Proofs.Ytgdjfpmjbjkmhaa
namespace Go.Proofs.Ytgdjfpmjbjkmhaa
open Go.RowKit
set_option linter.unusedVariables false
set_option linter.unusedSimpArgs false
set_option linter.unnecessarySimpa false
/-- A ring holds a list from a place on. -/
structure Qr {α : Type} (ring : List α) (f m : Int) (l : List α) : Prop where
  m_ : m = ((l.length : Nat) : Int)
  f0 : 0 ≤ f
  fl : (ring = [] ∧ f = 0) ∨ f < ((ring.length : Nat) : Int)
  le : l.length ≤ ring.length
  sz : ring.length ≤ 1000000
  at_ : ∀ i x, l[i]? = some x → ring[(f.toNat + i) % ring.length]? = some x
theorem Qr.nil {α : Type} : Qr ([] : List α) 0 0 [] := ⟨rfl, Int.le_refl 0, .inl ⟨rfl, rfl⟩, Nat.le_refl _, by simp, fun i x h => by simp at h⟩
section
variable {α β : Type} {ring : List α} {f m : Int} {l : List α}
theorem cpy_front (z : α) (a : List α) (k : Nat) (h : a.length ≤ k) : cpy (List.replicate k z) 0 (a.take k) = a ++ List.replicate (k - a.length) z := by
  unfold cpy
  rw [List.take_of_length_le h]
  simp
theorem grow_eval (z : α) (h0 : 0 ≤ f) (h1 : f ≤ ((ring.length : Nat) : Int)) (hs : ring.length ≤ 1000000) (K : List α → Option β) :
    (mk (IntKind.wrap .i64 ((IntKind.wrap .i64 (2 * (((ring.length : Nat) : Int)))) + 1)) (IntKind.wrap .i64 ((IntKind.wrap .i64 (2 * (((ring.length : Nat) : Int)))) + 1)) z : Option (List α)).bind (fun z15 => (subL ring f (((ring.length : Nat) : Int))).bind fun _ => (some (cpy z15 ((0 : Int).toNat) ((List.drop (f : Int).toNat (List.take (((ring.length : Nat) : Int) : Int).toNat ring)).take (z15.length - (0 : Int).toNat)))).bind fun z20 => (subL z20 (((min (List.drop (f : Int).toNat (List.take (((ring.length : Nat) : Int) : Int).toNat ring)).length (z15.length - (0 : Int).toNat) : Nat) : Int)) (((z15.length : Nat) : Int))).bind fun _ => (subL ring 0 f).bind fun _ => (some (cpy z20 ((((min (List.drop (f : Int).toNat (List.take (((ring.length : Nat) : Int) : Int).toNat ring)).length (z15.length - (0 : Int).toNat) : Nat) : Int) : Int).toNat) ((List.drop (0 : Int).toNat (List.take (f : Int).toNat ring)).take (((((z15.length : Nat) : Int) : Int).toNat) - (((min (List.drop (f : Int).toNat (List.take (((ring.length : Nat) : Int) : Int).toNat ring)).length (z15.length - (0 : Int).toNat) : Nat) : Int) : Int).toNat)))).bind fun z22 => K z22)
      = K (ring.drop f.toNat ++ (ring.take f.toNat ++ List.replicate (ring.length + 1) z)) := by
  have w1 : IntKind.wrap .i64 (2 * (((ring.length : Nat) : Int))) = 2 * ((ring.length : Nat) : Int) := w64 (by omega) (by omega)
  have w2 : IntKind.wrap .i64 (2 * ((ring.length : Nat) : Int) + 1) = ((2 * ring.length + 1 : Nat) : Int) := by rw [w64 (by omega) (by omega)]; omega
  obtain ⟨k, rfl⟩ := Int.eq_ofNat_of_zero_le h0
  have hk : k ≤ ring.length := by omega
  have hmk : mk ((2 * ring.length + 1 : Nat) : Int) ((2 * ring.length + 1 : Nat) : Int) z = some (List.replicate (2 * ring.length + 1) z) := by
    unfold mk
    rw [if_pos ⟨by omega, Int.le_refl _, by omega⟩, Int.toNat_natCast]
  rw [w1, w2, hmk]
  simp only [Option.bind_some, Int.toNat_natCast, Int.toNat_zero, List.take_length, Nat.sub_zero, List.length_replicate, List.drop_zero, List.length_drop]
  have hmin : min (ring.length - k) (2 * ring.length + 1) = ring.length - k := by omega
  rw [hmin, subL_eq (by omega) (by omega) (by omega)]
  simp only [Option.bind_some]
  have hl : (ring.drop k).length ≤ 2 * ring.length + 1 := by rw [List.length_drop]; omega
  rw [cpy_front z (ring.drop k) _ hl, subL_eq (by omega) (by omega) (by simp; omega), subL_eq (by omega) (by omega) (by omega)]
  simp only [Option.bind_some, Int.toNat_natCast]
  congr 1
  unfold cpy
  have hd : (ring.drop k).length = ring.length - k := List.length_drop
  have ht : (ring.take k).length = k := by rw [List.length_take]; omega
  rw [List.take_of_length_le (l := ring.take k) (by rw [ht]; omega), ht, List.take_append_of_le_length (by rw [hd]; exact Nat.le_refl _), List.take_of_length_le (l := ring.drop k) (by rw [hd]; exact Nat.le_refl _), List.drop_append, List.drop_of_length_le (l := ring.drop k) (by rw [hd]; omega), hd, List.nil_append, List.drop_replicate]
  congr 3
  omega
theorem Qr.grow (z : α) (h : Qr ring f m l) (he : m = ((ring.length : Nat) : Int)) (hl : l.length ≤ 10000) : Qr (ring.drop f.toNat ++ (ring.take f.toNat ++ List.replicate (ring.length + 1) z)) 0 m l ∧ l.length < (ring.drop f.toNat ++ (ring.take f.toNat ++ List.replicate (ring.length + 1) z)).length := by
  have hn : l.length = ring.length := by have := h.m_; omega
  have hf : f.toNat ≤ ring.length := by rcases h.fl with ⟨h1, h2⟩ | h1 <;> omega
  have hlen : (ring.drop f.toNat ++ (ring.take f.toNat ++ List.replicate (ring.length + 1) z)).length = 2 * ring.length + 1 := by simp; omega
  refine ⟨⟨h.m_, Int.le_refl 0, .inr (by rw [hlen]; omega), by rw [hlen]; omega, by rw [hlen]; omega, fun i x hx => ?_⟩, by rw [hlen]; omega⟩
  have hi : i < l.length := (List.getElem?_eq_some_iff.1 hx).1
  have h1 := h.at_ i x hx
  rw [hlen, Int.toNat_zero, Nat.zero_add, Nat.mod_eq_of_lt (by omega)]
  by_cases hc : f.toNat + i < ring.length
  · rw [Nat.mod_eq_of_lt hc] at h1
    rw [List.getElem?_append_left (by rw [List.length_drop]; omega), List.getElem?_drop]
    exact h1
  · rw [Nat.mod_eq_sub_mod (by omega), Nat.mod_eq_of_lt (by omega)] at h1
    rw [List.getElem?_append_right (by rw [List.length_drop]; omega), List.length_drop, List.getElem?_append_left (by rw [List.length_take]; omega), List.getElem?_take, if_pos (by omega)]
    rw [← h1]
    congr 1
    omega
theorem tmod_nat (a b : Nat) : Int.tmod (a : Int) (b : Int) = ((a % b : Nat) : Int) := rfl
/-- One more, behind. -/
theorem Qr.push (x : α) (h : Qr ring f m l) (hl : l.length < ring.length) : Int.tmod (IntKind.wrap .i64 (f + m)) ((ring.length : Nat) : Int) = (((f.toNat + l.length) % ring.length : Nat) : Int) ∧ (f.toNat + l.length) % ring.length < ring.length ∧ IntKind.wrap .i64 (m + 1) = ((l.length + 1 : Nat) : Int) ∧ Qr (ring.set ((f.toNat + l.length) % ring.length) x) f ((l.length + 1 : Nat) : Int) (l ++ [x]) := by
  have hm := h.m_
  have hf := h.f0
  have hs := h.sz
  have hfl : f < ((ring.length : Nat) : Int) := by rcases h.fl with ⟨h1, _⟩ | h1; (subst h1; simp at hl); exact h1
  have hp : 0 < ring.length := by omega
  have hlt := Nat.mod_lt (f.toNat + l.length) hp
  refine ⟨?_, hlt, ?_, ⟨by simp, hf, .inr (by rw [List.length_set]; exact hfl), by rw [List.length_set]; simp; omega, by rw [List.length_set]; exact hs, fun i y hy => ?_⟩⟩
  · rw [hm, w64 (by omega) (by omega)]
    obtain ⟨k, rfl⟩ := Int.eq_ofNat_of_zero_le hf
    rw [← Int.natCast_add]
    exact tmod_nat _ _
  · rw [hm, w64 (by omega) (by omega)]; omega
  · rw [List.length_set, List.getElem?_set]
    rcases Nat.lt_trichotomy i l.length with hi | hi | hi
    · rw [List.getElem?_append_left hi] at hy
      have hne : ¬ (f.toNat + l.length) % ring.length = (f.toNat + i) % ring.length := fun e => by
        have hf' : f.toNat < ring.length := by omega
        by_cases c1 : f.toNat + l.length < ring.length
        · rw [Nat.mod_eq_of_lt c1, Nat.mod_eq_of_lt (by omega)] at e; omega
        · rw [Nat.mod_eq_sub_mod (by omega), Nat.mod_eq_of_lt (by omega)] at e
          by_cases c2 : f.toNat + i < ring.length
          · rw [Nat.mod_eq_of_lt c2] at e; omega
          · rw [Nat.mod_eq_sub_mod (by omega), Nat.mod_eq_of_lt (by omega)] at e; omega
      rw [if_neg hne]
      exact h.at_ i y hy
    · subst hi
      rw [List.getElem?_append_right (Nat.le_refl _), Nat.sub_self] at hy
      rw [if_pos rfl, if_pos hlt]
      simpa using hy
    · rw [List.getElem?_eq_none (by simp; omega)] at hy; cases hy
/-- The first one goes. -/
theorem Qr.pop (z x : α) {l' : List α} (h : Qr ring f m (x :: l')) : m ≠ 0 ∧ getI ring f = some x ∧ nz ((ring.length : Nat) : Int) = some () ∧ IntKind.wrap .i64 (m - 1) = ((l'.length : Nat) : Int) ∧ Qr (ring.set f.toNat z) (Int.tmod (IntKind.wrap .i64 (f + 1)) ((ring.length : Nat) : Int)) ((l'.length : Nat) : Int) l' := by
  have hm := h.m_
  have hf := h.f0
  have hs := h.sz
  have hle := h.le
  simp only [List.length_cons] at hm hle
  have hfl : f < ((ring.length : Nat) : Int) := by rcases h.fl with ⟨h1, _⟩ | h1; (subst h1; simp at hle); exact h1
  have h0 := h.at_ 0 x rfl
  rw [Nat.add_zero, Nat.mod_eq_of_lt (by omega)] at h0
  have hmod : Int.tmod (IntKind.wrap .i64 (f + 1)) ((ring.length : Nat) : Int) = (((f.toNat + 1) % ring.length : Nat) : Int) := by
    rw [w64 (by omega) (by omega)]
    obtain ⟨k, rfl⟩ := Int.eq_ofNat_of_zero_le hf
    exact tmod_nat (k + 1) _
  refine ⟨by omega, by unfold getI; rw [if_pos hf]; exact h0, nz_eq (by omega), by rw [w64 (by omega) (by omega)]; omega, ?_⟩
  rw [hmod]
  have hlt := Nat.mod_lt (f.toNat + 1) (show 0 < ring.length by omega)
  refine ⟨rfl, by omega, .inr (by rw [List.length_set]; omega), by rw [List.length_set]; omega, by rw [List.length_set]; exact hs, fun i y hy => ?_⟩
  have hi : i < l'.length := (List.getElem?_eq_some_iff.1 hy).1
  have h1 := h.at_ (i + 1) y (by simpa using hy)
  rw [List.length_set, Int.toNat_natCast, List.getElem?_set]
  have e1 : ((f.toNat + 1) % ring.length + i) % ring.length = (f.toNat + (i + 1)) % ring.length := by
    rw [Nat.mod_add_mod]; congr 1; omega
  rw [e1]
  have hne : ¬ f.toNat = (f.toNat + (i + 1)) % ring.length := fun e => by
    by_cases c : f.toNat + (i + 1) < ring.length
    · rw [Nat.mod_eq_of_lt c] at e; omega
    · rw [Nat.mod_eq_sub_mod (by omega), Nat.mod_eq_of_lt (by omega)] at e; omega
  rw [if_neg hne]
  exact h1
end
end Go.Proofs.Ytgdjfpmjbjkmhaa
namespace Go.Proofs.Ytgdjfpmjbjkmhaa
open Go.RowKit
set_option linter.unusedVariables false
set_option linter.unusedSimpArgs false
set_option linter.unnecessarySimpa false
section
variable {ring : List (Int)} {f m : Int} {l : List (Int)}
theorem grow_int (h0 : 0 ≤ f) (h1 : f ≤ ((ring.length : Nat) : Int)) (hs : ring.length ≤ 1000000) : fn_stack_Queue_int_grow_p0_rii ring f m = some (ring.drop f.toNat ++ (ring.take f.toNat ++ List.replicate (ring.length + 1) 0)) := by
  unfold fn_stack_Queue_int_grow_p0_rii
  exact grow_eval 0 h0 h1 hs (fun z => some z)
theorem push1_int (xb : List (Int)) (i : Nat) (hi : i < xb.length) (hx : xb.length ≤ 10000) (h : Qr ring f m l) (hl : l.length ≤ 10000) : ∃ r f', fn_stack_Queue_int_Push_p0k_rii_l1 xb ((i : Int), ring, f, m) = some (.inl (((i + 1 : Nat) : Int), r, f', ((l.length + 1 : Nat) : Int))) ∧ Qr r f' ((l.length + 1 : Nat) : Int) (l ++ [xb[i]]) := by
  have hf := h.f0
  have hfl : f ≤ ((ring.length : Nat) : Int) := by rcases h.fl with ⟨h1, h2⟩ | h1 <;> omega
  have hle := h.le
  have hm := h.m_
  by_cases hc : m = ((ring.length : Nat) : Int)
  · obtain ⟨hq, hq2⟩ := Qr.grow 0 h hc hl
    have hg := grow_int (m := m) hf hfl h.sz
    generalize (ring.drop f.toNat ++ (ring.take f.toNat ++ List.replicate (ring.length + 1) 0)) = r at hq hq2 hg
    obtain ⟨p1, p2, p3, p4⟩ := hq.push xb[i] hq2
    rw [Int.zero_add] at p1
    refine ⟨_, 0, ?_, p4⟩
    unfold fn_stack_Queue_int_Push_p0k_rii_l1
    simp only [dlt hi, cond_true, getN hi, Option.bind_some, hc, decide_true]
    rw [← hc, hg]
    simp only [Option.bind_some, Int.zero_add]
    rw [nz_eq (by omega)]
    simp only [Option.bind_some, p1, getN p2, Int.toNat_natCast, p3, w64s hi (by omega)]
  · have hq2 : l.length < ring.length := by omega
    obtain ⟨p1, p2, p3, p4⟩ := h.push xb[i] hq2
    refine ⟨_, f, ?_, p4⟩
    unfold fn_stack_Queue_int_Push_p0k_rii_l1
    simp only [dlt hi, cond_true, getN hi, Option.bind_some, hc, decide_false, cond_false]
    rw [nz_eq (by omega)]
    simp only [Option.bind_some, p1, getN p2, Int.toNat_natCast, p3, w64s hi (by omega)]
theorem push_int (xb : List (Int)) (h : Qr ring f m l) (hl : l.length + xb.length ≤ 10000) : ∃ r f', fn_stack_Queue_int_Push_p0k_rii xb ring f m = some (r, f', ((l.length + xb.length : Nat) : Int)) ∧ Qr r f' ((l.length + xb.length : Nat) : Int) (l ++ xb) := by
  obtain ⟨b, h1, h2⟩ := loop_inv (body := fn_stack_Queue_int_Push_p0k_rii_l1 xb) (fun s => ∃ k : Nat, k ≤ xb.length ∧ s.1 = (k : Int) ∧ s.2.2.2 = ((l.length + k : Nat) : Int) ∧ Qr s.2.1 s.2.2.1 s.2.2.2 (l ++ xb.take k)) (fun s => xb.length - s.1.toNat) (Q := fun b => ∃ r f', b = (r, f', ((l.length + xb.length : Nat) : Int)) ∧ Qr r f' ((l.length + xb.length : Nat) : Int) (l ++ xb)) (fun s hs => by
    obtain ⟨i, r, f', m'⟩ := s
    obtain ⟨k, hk, e1, e2, hq⟩ := hs
    dsimp only at e1 e2 hq
    subst e1
    by_cases hc : k < xb.length
    · obtain ⟨r2, f2, g1, g2⟩ := push1_int xb k hc (by omega) hq (by simp; omega)
      refine .inl ⟨_, g1, ⟨k + 1, hc, rfl, by simp; omega, ?_⟩, by dsimp only; rw [Int.toNat_natCast, Int.toNat_natCast]; omega⟩
      have e3 : l ++ xb.take (k + 1) = (l ++ xb.take k) ++ [xb[k]] := by rw [take_snoc hc, List.append_assoc]
      dsimp only
      rw [e3]
      exact g2
    · obtain rfl : k = xb.length := by omega
      refine .inr ⟨(r, f', m'), ?_, r, f', by rw [e2], ?_⟩
      · unfold fn_stack_Queue_int_Push_p0k_rii_l1
        simp only [dge hc, cond_false]
      · rw [← e2]; simpa using hq) (s := (0, ring, f, m)) ⟨0, Nat.zero_le _, rfl, by simpa using h.m_, by simpa using h⟩
  obtain ⟨r, f', rfl, hq⟩ := h2
  refine ⟨r, f', ?_, hq⟩
  unfold fn_stack_Queue_int_Push_p0k_rii
  rw [h1]
  rfl
theorem popE_int (h : Qr ring f m []) : fn_stack_Queue_int_Pop_p0_rii ring f m = some (0, false, ring, f, m) := by
  obtain rfl : m = 0 := h.m_
  unfold fn_stack_Queue_int_Pop_p0_rii fn_stack_Queue_int_Len_p0_rii
  rfl
theorem popC_int {x : Int} (h : Qr ring f m (x :: l)) : ∃ r f', fn_stack_Queue_int_Pop_p0_rii ring f m = some (x, true, r, f', ((l.length : Nat) : Int)) ∧ Qr r f' ((l.length : Nat) : Int) l := by
  obtain ⟨h1, h2, h3, h4, h5⟩ := h.pop 0 x
  refine ⟨_, _, ?_, h5⟩
  unfold fn_stack_Queue_int_Pop_p0_rii fn_stack_Queue_int_Len_p0_rii
  simp only [Option.bind_some, h1, decide_false, cond_false, h2, h3, h4]
theorem qlen_int : fn_stack_Queue_int_Len_p0_rii ring f m = some (m, ring) := rfl
end
section
variable {ring : List (Int)} {f m : Int} {l : List (Int)}
theorem grow_intW {w : (Option (List ((Int) × Int)))} (h0 : 0 ≤ f) (h1 : f ≤ ((ring.length : Nat) : Int)) (hs : ring.length ≤ 1000000) : fn_stack_Queue_int_grow_p0_riiod ring f m w = some (ring.drop f.toNat ++ (ring.take f.toNat ++ List.replicate (ring.length + 1) 0), w) := by
  unfold fn_stack_Queue_int_grow_p0_riiod
  exact grow_eval 0 h0 h1 hs (fun z => some (z, w))
theorem push1_intW {w : (Option (List ((Int) × Int)))} (xb : List (Int)) (i : Nat) (hi : i < xb.length) (hx : xb.length ≤ 10000) (h : Qr ring f m l) (hl : l.length ≤ 10000) : ∃ r f', fn_stack_Queue_int_Push_p0k_riiod_l1 xb ((i : Int), ring, f, m, w) = some (.inl (((i + 1 : Nat) : Int), r, f', ((l.length + 1 : Nat) : Int), w)) ∧ Qr r f' ((l.length + 1 : Nat) : Int) (l ++ [xb[i]]) := by
  have hf := h.f0
  have hfl : f ≤ ((ring.length : Nat) : Int) := by rcases h.fl with ⟨h1, h2⟩ | h1 <;> omega
  have hle := h.le
  have hm := h.m_
  by_cases hc : m = ((ring.length : Nat) : Int)
  · obtain ⟨hq, hq2⟩ := Qr.grow 0 h hc hl
    have hg := grow_intW (w := w) (m := m) hf hfl h.sz
    generalize (ring.drop f.toNat ++ (ring.take f.toNat ++ List.replicate (ring.length + 1) 0)) = r at hq hq2 hg
    obtain ⟨p1, p2, p3, p4⟩ := hq.push xb[i] hq2
    rw [Int.zero_add] at p1
    refine ⟨_, 0, ?_, p4⟩
    unfold fn_stack_Queue_int_Push_p0k_riiod_l1
    simp only [dlt hi, cond_true, getN hi, Option.bind_some, hc, decide_true]
    rw [← hc, hg]
    simp only [Option.bind_some, Int.zero_add]
    rw [nz_eq (by omega)]
    simp only [Option.bind_some, p1, getN p2, Int.toNat_natCast, p3, w64s hi (by omega)]
  · have hq2 : l.length < ring.length := by omega
    obtain ⟨p1, p2, p3, p4⟩ := h.push xb[i] hq2
    refine ⟨_, f, ?_, p4⟩
    unfold fn_stack_Queue_int_Push_p0k_riiod_l1
    simp only [dlt hi, cond_true, getN hi, Option.bind_some, hc, decide_false, cond_false]
    rw [nz_eq (by omega)]
    simp only [Option.bind_some, p1, getN p2, Int.toNat_natCast, p3, w64s hi (by omega)]
theorem push_intW {w : (Option (List ((Int) × Int)))} (xb : List (Int)) (h : Qr ring f m l) (hl : l.length + xb.length ≤ 10000) : ∃ r f', fn_stack_Queue_int_Push_p0k_riiod xb ring f m w = some (r, f', ((l.length + xb.length : Nat) : Int), w) ∧ Qr r f' ((l.length + xb.length : Nat) : Int) (l ++ xb) := by
  obtain ⟨b, h1, h2⟩ := loop_inv (body := fn_stack_Queue_int_Push_p0k_riiod_l1 xb) (fun s => ∃ k : Nat, k ≤ xb.length ∧ s.1 = (k : Int) ∧ s.2.2.2.1 = ((l.length + k : Nat) : Int) ∧ Qr s.2.1 s.2.2.1 s.2.2.2.1 (l ++ xb.take k) ∧ w = s.2.2.2.2) (fun s => xb.length - s.1.toNat) (Q := fun b => ∃ r f', b = (r, f', ((l.length + xb.length : Nat) : Int), w) ∧ Qr r f' ((l.length + xb.length : Nat) : Int) (l ++ xb)) (fun s hs => by
    obtain ⟨i, r, f', m', w'⟩ := s
    obtain ⟨k, hk, e1, e2, hq, hw⟩ := hs
    dsimp only at e1 e2 hq hw
    subst e1 hw
    by_cases hc : k < xb.length
    · obtain ⟨r2, f2, g1, g2⟩ := push1_intW (w := w) xb k hc (by omega) hq (by simp; omega)
      refine .inl ⟨_, g1, ⟨k + 1, hc, rfl, by simp; omega, ?_, rfl⟩, by dsimp only; rw [Int.toNat_natCast, Int.toNat_natCast]; omega⟩
      have e3 : l ++ xb.take (k + 1) = (l ++ xb.take k) ++ [xb[k]] := by rw [take_snoc hc, List.append_assoc]
      dsimp only
      rw [e3]
      exact g2
    · obtain rfl : k = xb.length := by omega
      refine .inr ⟨(r, f', m', w), ?_, r, f', by rw [e2], ?_⟩
      · unfold fn_stack_Queue_int_Push_p0k_riiod_l1
        simp only [dge hc, cond_false]
      · rw [← e2]; simpa using hq) (s := (0, ring, f, m, w)) ⟨0, Nat.zero_le _, rfl, by simpa using h.m_, by simpa using h, rfl⟩
  obtain ⟨r, f', rfl, hq⟩ := h2
  refine ⟨r, f', ?_, hq⟩
  unfold fn_stack_Queue_int_Push_p0k_riiod
  rw [h1]
  rfl
theorem popE_intW {w : (Option (List ((Int) × Int)))} (h : Qr ring f m []) : fn_stack_Queue_int_Pop_p0_riiod ring f m w = some (0, false, ring, f, m, w) := by
  obtain rfl : m = 0 := h.m_
  unfold fn_stack_Queue_int_Pop_p0_riiod fn_stack_Queue_int_Len_p0_riiod
  rfl
theorem popC_intW {w : (Option (List ((Int) × Int)))} {x : Int} (h : Qr ring f m (x :: l)) : ∃ r f', fn_stack_Queue_int_Pop_p0_riiod ring f m w = some (x, true, r, f', ((l.length : Nat) : Int), w) ∧ Qr r f' ((l.length : Nat) : Int) l := by
  obtain ⟨h1, h2, h3, h4, h5⟩ := h.pop 0 x
  refine ⟨_, _, ?_, h5⟩
  unfold fn_stack_Queue_int_Pop_p0_riiod fn_stack_Queue_int_Len_p0_riiod
  simp only [Option.bind_some, h1, decide_false, cond_false, h2, h3, h4]
theorem qlen_intW {w : (Option (List ((Int) × Int)))} : fn_stack_Queue_int_Len_p0_riiod ring f m w = some (m, ring, w) := rfl
end
section
variable {ring : List (List UInt8)} {f m : Int} {l : List (List UInt8)}
theorem grow_string (h0 : 0 ≤ f) (h1 : f ≤ ((ring.length : Nat) : Int)) (hs : ring.length ≤ 1000000) : fn_stack_Queue_string_grow_p0_rii ring f m = some (ring.drop f.toNat ++ (ring.take f.toNat ++ List.replicate (ring.length + 1) ([] : List UInt8))) := by
  unfold fn_stack_Queue_string_grow_p0_rii
  exact grow_eval ([] : List UInt8) h0 h1 hs (fun z => some z)
theorem push1_string (xb : List (List UInt8)) (i : Nat) (hi : i < xb.length) (hx : xb.length ≤ 10000) (h : Qr ring f m l) (hl : l.length ≤ 10000) : ∃ r f', fn_stack_Queue_string_Push_p0k_rii_l1 xb ((i : Int), ring, f, m) = some (.inl (((i + 1 : Nat) : Int), r, f', ((l.length + 1 : Nat) : Int))) ∧ Qr r f' ((l.length + 1 : Nat) : Int) (l ++ [xb[i]]) := by
  have hf := h.f0
  have hfl : f ≤ ((ring.length : Nat) : Int) := by rcases h.fl with ⟨h1, h2⟩ | h1 <;> omega
  have hle := h.le
  have hm := h.m_
  by_cases hc : m = ((ring.length : Nat) : Int)
  · obtain ⟨hq, hq2⟩ := Qr.grow ([] : List UInt8) h hc hl
    have hg := grow_string (m := m) hf hfl h.sz
    generalize (ring.drop f.toNat ++ (ring.take f.toNat ++ List.replicate (ring.length + 1) ([] : List UInt8))) = r at hq hq2 hg
    obtain ⟨p1, p2, p3, p4⟩ := hq.push xb[i] hq2
    rw [Int.zero_add] at p1
    refine ⟨_, 0, ?_, p4⟩
    unfold fn_stack_Queue_string_Push_p0k_rii_l1
    simp only [dlt hi, cond_true, getN hi, Option.bind_some, hc, decide_true]
    rw [← hc, hg]
    simp only [Option.bind_some, Int.zero_add]
    rw [nz_eq (by omega)]
    simp only [Option.bind_some, p1, getN p2, Int.toNat_natCast, p3, w64s hi (by omega)]
  · have hq2 : l.length < ring.length := by omega
    obtain ⟨p1, p2, p3, p4⟩ := h.push xb[i] hq2
    refine ⟨_, f, ?_, p4⟩
    unfold fn_stack_Queue_string_Push_p0k_rii_l1
    simp only [dlt hi, cond_true, getN hi, Option.bind_some, hc, decide_false, cond_false]
    rw [nz_eq (by omega)]
    simp only [Option.bind_some, p1, getN p2, Int.toNat_natCast, p3, w64s hi (by omega)]
theorem push_string (xb : List (List UInt8)) (h : Qr ring f m l) (hl : l.length + xb.length ≤ 10000) : ∃ r f', fn_stack_Queue_string_Push_p0k_rii xb ring f m = some (r, f', ((l.length + xb.length : Nat) : Int)) ∧ Qr r f' ((l.length + xb.length : Nat) : Int) (l ++ xb) := by
  obtain ⟨b, h1, h2⟩ := loop_inv (body := fn_stack_Queue_string_Push_p0k_rii_l1 xb) (fun s => ∃ k : Nat, k ≤ xb.length ∧ s.1 = (k : Int) ∧ s.2.2.2 = ((l.length + k : Nat) : Int) ∧ Qr s.2.1 s.2.2.1 s.2.2.2 (l ++ xb.take k)) (fun s => xb.length - s.1.toNat) (Q := fun b => ∃ r f', b = (r, f', ((l.length + xb.length : Nat) : Int)) ∧ Qr r f' ((l.length + xb.length : Nat) : Int) (l ++ xb)) (fun s hs => by
    obtain ⟨i, r, f', m'⟩ := s
    obtain ⟨k, hk, e1, e2, hq⟩ := hs
    dsimp only at e1 e2 hq
    subst e1
    by_cases hc : k < xb.length
    · obtain ⟨r2, f2, g1, g2⟩ := push1_string xb k hc (by omega) hq (by simp; omega)
      refine .inl ⟨_, g1, ⟨k + 1, hc, rfl, by simp; omega, ?_⟩, by dsimp only; rw [Int.toNat_natCast, Int.toNat_natCast]; omega⟩
      have e3 : l ++ xb.take (k + 1) = (l ++ xb.take k) ++ [xb[k]] := by rw [take_snoc hc, List.append_assoc]
      dsimp only
      rw [e3]
      exact g2
    · obtain rfl : k = xb.length := by omega
      refine .inr ⟨(r, f', m'), ?_, r, f', by rw [e2], ?_⟩
      · unfold fn_stack_Queue_string_Push_p0k_rii_l1
        simp only [dge hc, cond_false]
      · rw [← e2]; simpa using hq) (s := (0, ring, f, m)) ⟨0, Nat.zero_le _, rfl, by simpa using h.m_, by simpa using h⟩
  obtain ⟨r, f', rfl, hq⟩ := h2
  refine ⟨r, f', ?_, hq⟩
  unfold fn_stack_Queue_string_Push_p0k_rii
  rw [h1]
  rfl
theorem popE_string (h : Qr ring f m []) : fn_stack_Queue_string_Pop_p0_rii ring f m = some (([] : List UInt8), false, ring, f, m) := by
  obtain rfl : m = 0 := h.m_
  unfold fn_stack_Queue_string_Pop_p0_rii fn_stack_Queue_string_Len_p0_rii
  rfl
theorem popC_string {x : List UInt8} (h : Qr ring f m (x :: l)) : ∃ r f', fn_stack_Queue_string_Pop_p0_rii ring f m = some (x, true, r, f', ((l.length : Nat) : Int)) ∧ Qr r f' ((l.length : Nat) : Int) l := by
  obtain ⟨h1, h2, h3, h4, h5⟩ := h.pop ([] : List UInt8) x
  refine ⟨_, _, ?_, h5⟩
  unfold fn_stack_Queue_string_Pop_p0_rii fn_stack_Queue_string_Len_p0_rii
  simp only [Option.bind_some, h1, decide_false, cond_false, h2, h3, h4]
theorem qlen_string : fn_stack_Queue_string_Len_p0_rii ring f m = some (m, ring) := rfl
end
section
variable {ring : List (List UInt8)} {f m : Int} {l : List (List UInt8)}
theorem grow_stringW {w : (Option (List ((List UInt8) × Int)))} (h0 : 0 ≤ f) (h1 : f ≤ ((ring.length : Nat) : Int)) (hs : ring.length ≤ 1000000) : fn_stack_Queue_string_grow_p0_riiod ring f m w = some (ring.drop f.toNat ++ (ring.take f.toNat ++ List.replicate (ring.length + 1) ([] : List UInt8)), w) := by
  unfold fn_stack_Queue_string_grow_p0_riiod
  exact grow_eval ([] : List UInt8) h0 h1 hs (fun z => some (z, w))
theorem push1_stringW {w : (Option (List ((List UInt8) × Int)))} (xb : List (List UInt8)) (i : Nat) (hi : i < xb.length) (hx : xb.length ≤ 10000) (h : Qr ring f m l) (hl : l.length ≤ 10000) : ∃ r f', fn_stack_Queue_string_Push_p0k_riiod_l1 xb ((i : Int), ring, f, m, w) = some (.inl (((i + 1 : Nat) : Int), r, f', ((l.length + 1 : Nat) : Int), w)) ∧ Qr r f' ((l.length + 1 : Nat) : Int) (l ++ [xb[i]]) := by
  have hf := h.f0
  have hfl : f ≤ ((ring.length : Nat) : Int) := by rcases h.fl with ⟨h1, h2⟩ | h1 <;> omega
  have hle := h.le
  have hm := h.m_
  by_cases hc : m = ((ring.length : Nat) : Int)
  · obtain ⟨hq, hq2⟩ := Qr.grow ([] : List UInt8) h hc hl
    have hg := grow_stringW (w := w) (m := m) hf hfl h.sz
    generalize (ring.drop f.toNat ++ (ring.take f.toNat ++ List.replicate (ring.length + 1) ([] : List UInt8))) = r at hq hq2 hg
    obtain ⟨p1, p2, p3, p4⟩ := hq.push xb[i] hq2
    rw [Int.zero_add] at p1
    refine ⟨_, 0, ?_, p4⟩
    unfold fn_stack_Queue_string_Push_p0k_riiod_l1
    simp only [dlt hi, cond_true, getN hi, Option.bind_some, hc, decide_true]
    rw [← hc, hg]
    simp only [Option.bind_some, Int.zero_add]
    rw [nz_eq (by omega)]
    simp only [Option.bind_some, p1, getN p2, Int.toNat_natCast, p3, w64s hi (by omega)]
  · have hq2 : l.length < ring.length := by omega
    obtain ⟨p1, p2, p3, p4⟩ := h.push xb[i] hq2
    refine ⟨_, f, ?_, p4⟩
    unfold fn_stack_Queue_string_Push_p0k_riiod_l1
    simp only [dlt hi, cond_true, getN hi, Option.bind_some, hc, decide_false, cond_false]
    rw [nz_eq (by omega)]
    simp only [Option.bind_some, p1, getN p2, Int.toNat_natCast, p3, w64s hi (by omega)]
theorem push_stringW {w : (Option (List ((List UInt8) × Int)))} (xb : List (List UInt8)) (h : Qr ring f m l) (hl : l.length + xb.length ≤ 10000) : ∃ r f', fn_stack_Queue_string_Push_p0k_riiod xb ring f m w = some (r, f', ((l.length + xb.length : Nat) : Int), w) ∧ Qr r f' ((l.length + xb.length : Nat) : Int) (l ++ xb) := by
  obtain ⟨b, h1, h2⟩ := loop_inv (body := fn_stack_Queue_string_Push_p0k_riiod_l1 xb) (fun s => ∃ k : Nat, k ≤ xb.length ∧ s.1 = (k : Int) ∧ s.2.2.2.1 = ((l.length + k : Nat) : Int) ∧ Qr s.2.1 s.2.2.1 s.2.2.2.1 (l ++ xb.take k) ∧ w = s.2.2.2.2) (fun s => xb.length - s.1.toNat) (Q := fun b => ∃ r f', b = (r, f', ((l.length + xb.length : Nat) : Int), w) ∧ Qr r f' ((l.length + xb.length : Nat) : Int) (l ++ xb)) (fun s hs => by
    obtain ⟨i, r, f', m', w'⟩ := s
    obtain ⟨k, hk, e1, e2, hq, hw⟩ := hs
    dsimp only at e1 e2 hq hw
    subst e1 hw
    by_cases hc : k < xb.length
    · obtain ⟨r2, f2, g1, g2⟩ := push1_stringW (w := w) xb k hc (by omega) hq (by simp; omega)
      refine .inl ⟨_, g1, ⟨k + 1, hc, rfl, by simp; omega, ?_, rfl⟩, by dsimp only; rw [Int.toNat_natCast, Int.toNat_natCast]; omega⟩
      have e3 : l ++ xb.take (k + 1) = (l ++ xb.take k) ++ [xb[k]] := by rw [take_snoc hc, List.append_assoc]
      dsimp only
      rw [e3]
      exact g2
    · obtain rfl : k = xb.length := by omega
      refine .inr ⟨(r, f', m', w), ?_, r, f', by rw [e2], ?_⟩
      · unfold fn_stack_Queue_string_Push_p0k_riiod_l1
        simp only [dge hc, cond_false]
      · rw [← e2]; simpa using hq) (s := (0, ring, f, m, w)) ⟨0, Nat.zero_le _, rfl, by simpa using h.m_, by simpa using h, rfl⟩
  obtain ⟨r, f', rfl, hq⟩ := h2
  refine ⟨r, f', ?_, hq⟩
  unfold fn_stack_Queue_string_Push_p0k_riiod
  rw [h1]
  rfl
theorem popE_stringW {w : (Option (List ((List UInt8) × Int)))} (h : Qr ring f m []) : fn_stack_Queue_string_Pop_p0_riiod ring f m w = some (([] : List UInt8), false, ring, f, m, w) := by
  obtain rfl : m = 0 := h.m_
  unfold fn_stack_Queue_string_Pop_p0_riiod fn_stack_Queue_string_Len_p0_riiod
  rfl
theorem popC_stringW {w : (Option (List ((List UInt8) × Int)))} {x : List UInt8} (h : Qr ring f m (x :: l)) : ∃ r f', fn_stack_Queue_string_Pop_p0_riiod ring f m w = some (x, true, r, f', ((l.length : Nat) : Int), w) ∧ Qr r f' ((l.length : Nat) : Int) l := by
  obtain ⟨h1, h2, h3, h4, h5⟩ := h.pop ([] : List UInt8) x
  refine ⟨_, _, ?_, h5⟩
  unfold fn_stack_Queue_string_Pop_p0_riiod fn_stack_Queue_string_Len_p0_riiod
  simp only [Option.bind_some, h1, decide_false, cond_false, h2, h3, h4]
theorem qlen_stringW {w : (Option (List ((List UInt8) × Int)))} : fn_stack_Queue_string_Len_p0_riiod ring f m w = some (m, ring, w) := rfl
end
end Go.Proofs.Ytgdjfpmjbjkmhaa
namespace Go.Proofs.Ytgdjfpmjbjkmhaa
open Go.RowKit
set_option linter.unusedVariables false
set_option linter.unusedSimpArgs false
set_option linter.unnecessarySimpa false
section
variable {α : Type} [DecidableEq α]
theorem mfind_succ (k : α) : ∀ (l : List (α × Int)) (i : Nat), mfind k l (i + 1) = (mfind k l i).map (fun q => (q.1 + 1, q.2))
  | [], i => rfl
  | p :: l, i => by
    unfold mfind
    by_cases h : p.1 = k
    · simp [h]
    · simp only [h, if_false]
      exact mfind_succ k l (i + 1)
theorem mget_nil (k : α) : mget k [] = 0 := rfl
theorem mget_cons (k : α) (p : α × Int) (l : List (α × Int)) : mget k (p :: l) = if p.1 = k then p.2 else mget k l := by
  unfold mget
  by_cases h : p.1 = k
  · simp [mfind, h]
  · rw [show mfind k (p :: l) 0 = mfind k l (0 + 1) by simp [mfind, h], mfind_succ, if_neg h]
    cases mfind k l 0 <;> rfl
theorem mset_nil (k : α) (v : Int) : mset k v [] = [(k, v)] := rfl
theorem mset_cons (k : α) (v : Int) (p : α × Int) (l : List (α × Int)) : mset k v (p :: l) = if p.1 = k then (p.1, v) :: l else p :: mset k v l := by
  unfold mset
  by_cases h : p.1 = k
  · simp [mfind, h]
  · rw [show mfind k (p :: l) 0 = mfind k l (0 + 1) by simp [mfind, h], mfind_succ, if_neg h]
    cases mfind k l 0 <;> simp
theorem mdel_nil (k : α) : mdel k ([] : List (α × Int)) = [] := rfl
theorem mdel_cons (k : α) (p : α × Int) (l : List (α × Int)) : mdel k (p :: l) = if p.1 = k then l else p :: mdel k l := by
  unfold mdel
  by_cases h : p.1 = k
  · simp [mfind, h]
  · rw [show mfind k (p :: l) 0 = mfind k l (0 + 1) by simp [mfind, h], mfind_succ, if_neg h]
    cases mfind k l 0 <;> simp
theorem mget_set (k k' : α) (v : Int) : ∀ l : List (α × Int), mget k' (mset k v l) = if k' = k then v else mget k' l
  | [] => by
    rw [mset_nil, mget_cons, mget_nil]
    by_cases h : k' = k
    · simp [h]
    · have h2 : ¬ k = k' := fun e => h e.symm
      simp [h, h2]
  | p :: l => by
    rw [mset_cons]
    by_cases h : p.1 = k
    · rw [if_pos h, mget_cons, mget_cons]
      by_cases h2 : k' = k
      · simp [h, h2]
      · have h3 : ¬ p.1 = k' := fun e => h2 (by rw [← e, h])
        simp [h2, h3]
    · rw [if_neg h, mget_cons, mget_cons, mget_set k k' v l]
      by_cases h2 : k' = k
      · have h3 : ¬ p.1 = k' := fun e => h (by rw [e, h2])
        simp [h2, h]
      · simp [h2]
theorem mem_set (k x : α) (v : Int) : ∀ l : List (α × Int), x ∈ (mset k v l).map (·.1) ↔ x ∈ l.map (·.1) ∨ x = k
  | [] => by simp [mset_nil]
  | p :: l => by
    rw [mset_cons]
    by_cases h : p.1 = k
    · rw [if_pos h]; simp only [List.map_cons, List.mem_cons]
      constructor
      · exact fun h1 => .inl h1
      · rintro (h1 | h1)
        · exact h1
        · exact .inl (h1.trans h.symm)
    · rw [if_neg h]; simp only [List.map_cons, List.mem_cons, mem_set k x v l, or_assoc]
theorem nodup_set (k : α) (v : Int) : ∀ l : List (α × Int), (l.map (·.1)).Nodup → ((mset k v l).map (·.1)).Nodup
  | [], _ => by simp [mset_nil]
  | p :: l, hn => by
    rw [mset_cons]
    simp only [List.map_cons, List.nodup_cons] at hn
    by_cases h : p.1 = k
    · rw [if_pos h]; simp only [List.map_cons, List.nodup_cons]; exact hn
    · rw [if_neg h]; simp only [List.map_cons, List.nodup_cons]
      refine ⟨fun hm => ?_, nodup_set k v l hn.2⟩
      rcases (mem_set k p.1 v l).1 hm with h1 | h1
      · exact hn.1 h1
      · exact h h1
theorem mget_out {k : α} : ∀ {l : List (α × Int)}, k ∉ l.map (·.1) → mget k l = 0
  | [], _ => rfl
  | p :: l, h => by
    simp only [List.map_cons, List.mem_cons, not_or] at h
    rw [mget_cons, if_neg (fun e => h.1 e.symm)]
    exact mget_out h.2
theorem mget_del (k k' : α) : ∀ l : List (α × Int), (l.map (·.1)).Nodup → mget k' (mdel k l) = if k' = k then 0 else mget k' l
  | [], _ => by rw [mdel_nil, mget_nil]; simp
  | p :: l, hn => by
    simp only [List.map_cons, List.nodup_cons] at hn
    rw [mdel_cons]
    by_cases h : p.1 = k
    · rw [if_pos h, mget_cons]
      by_cases h2 : k' = k
      · rw [if_pos h2]; exact mget_out (by rw [h2, ← h]; exact hn.1)
      · rw [if_neg h2, if_neg (fun e => h2 (by rw [← e, h]))]
    · rw [if_neg h, mget_cons, mget_cons, mget_del k k' l hn.2]
      by_cases h2 : k' = k
      · simp [h2, h]
      · simp [h2]
theorem nodup_del (k : α) : ∀ l : List (α × Int), (l.map (·.1)).Nodup → ((mdel k l).map (·.1)).Nodup ∧ ∀ x, x ∈ (mdel k l).map (·.1) → x ∈ l.map (·.1)
  | [], h => ⟨h, fun _ h => h⟩
  | p :: l, hn => by
    simp only [List.map_cons, List.nodup_cons] at hn
    rw [mdel_cons]
    by_cases h : p.1 = k
    · rw [if_pos h]; exact ⟨hn.2, fun x hx => List.mem_cons_of_mem _ hx⟩
    · obtain ⟨h1, h2⟩ := nodup_del k l hn.2
      rw [if_neg h]; simp only [List.map_cons, List.nodup_cons, List.mem_cons]
      exact ⟨⟨fun hm => hn.1 (h2 _ hm), h1⟩, fun x hx => hx.imp id (h2 x)⟩
theorem markB_eq (k : α) (x : Option (List (α × Int))) : markB k x = !decide (mget k (x.getD []) > 0) := by cases x <;> rfl
theorem markL_eq (k : α) (x : Option (List (α × Int))) : markL k x = if mget k (x.getD []) > 0 then x.getD [] else mset k (wrap64 (mget k (x.getD []) + 1)) (x.getD []) := by cases x <;> rfl
/-- A worklist holds a list: each once, and counted. -/
structure Wr (ring : List α) (f m : Int) (w : Option (List (α × Int))) (l : List α) : Prop where
  q : Qr ring f m l
  nd : l.Nodup
  ks : ((w.getD []).map (·.1)).Nodup
  c : ∀ k, mget k (w.getD []) = if k ∈ l then 1 else 0
theorem Wr.nil : Wr ([] : List α) 0 0 none [] := ⟨Qr.nil, List.nodup_nil, List.nodup_nil, fun k => rfl⟩
end
section
variable {ring : List (Int)} {f m : Int} {l : List (Int)} {w : Option (List ((Int) × Int))}
theorem wpush_int (k : Int) (h : Wr ring f m w l) (hl : l.length ≤ 9000) : ∃ r f' w', fn_stack_Work_int_Push_p0i_riiod k ring f m w = some (!decide (k ∈ l), r, f', (((if k ∈ l then l else l ++ [k]).length : Nat) : Int), w') ∧ Wr r f' (((if k ∈ l then l else l ++ [k]).length : Nat) : Int) w' (if k ∈ l then l else l ++ [k]) := by
  have hc := h.c k
  unfold fn_stack_Work_int_Push_p0i_riiod markF_int
  rw [markB_eq, markL_eq]
  by_cases hk : k ∈ l
  · rw [if_pos hk] at hc
    have hm := h.q.m_
    simp only [hc, if_pos hk, hk, decide_true, Bool.not_true, Option.bind_some, show (1 : Int) > 0 by omega, if_true, Bool.not_false, cond_true]
    rw [hm]
    exact ⟨_, _, _, rfl, ⟨hm ▸ h.q, h.nd, by simpa using h.ks, by simpa using h.c⟩⟩
  · rw [if_neg hk] at hc
    have h0 : ¬ ((0 : Int) > 0) := by omega
    have h1 : wrap64 (0 + 1) = 1 := IntWalk.wrap64_in (0 + 1) (by decide)
    obtain ⟨r, f', g1, g2⟩ := push_intW (w := some (mset k 1 (w.getD []))) [k] h.q (by simp; omega)
    simp only [hc, if_neg hk, hk, decide_false, Bool.not_false, Option.bind_some, h0, h1, if_false, Bool.not_true, cond_false]
    rw [g1]
    refine ⟨r, f', some (mset k 1 (w.getD [])), ?_, ⟨?_, ?_, ?_, fun k' => ?_⟩⟩
    · simp
    · simpa using g2
    · exact List.nodup_append.2 ⟨h.nd, by simp, fun a ha b hb e => by simp at hb; subst hb; subst e; exact hk ha⟩
    · exact nodup_set k 1 _ h.ks
    · show mget k' (mset k 1 (w.getD [])) = _
      rw [mget_set, h.c k']
      by_cases h2 : k' = k <;> simp [h2]
theorem wpopE_int (h : Wr ring f m w []) : fn_stack_Work_int_Pop_p0_riiod ring f m w = some (0, false, ring, f, m, w) := by
  unfold fn_stack_Work_int_Pop_p0_riiod
  rw [popE_intW h.q]
  rfl
theorem wpopC_int {x : Int} (h : Wr ring f m w (x :: l)) : ∃ r f' w', fn_stack_Work_int_Pop_p0_riiod ring f m w = some (x, true, r, f', ((l.length : Nat) : Int), w') ∧ Wr r f' ((l.length : Nat) : Int) w' l := by
  obtain ⟨r, f', g1, g2⟩ := popC_intW (w := w) h.q
  refine ⟨r, f', w.map (mdel x), ?_, ⟨g2, (List.nodup_cons.1 h.nd).2, ?_, fun k => ?_⟩⟩
  · unfold fn_stack_Work_int_Pop_p0_riiod
    rw [g1]
    rfl
  · cases w with
    | none => exact List.nodup_nil
    | some w => exact (nodup_del x w h.ks).1
  · have hx := (List.nodup_cons.1 h.nd).1
    have hc := h.c k
    cases w with
    | none =>
      have hx0 := h.c x
      rw [if_pos (by simp)] at hx0
      exact absurd (show (0 : Int) = 1 from hx0) (by decide)
    | some w =>
      show mget k (mdel x w) = _
      have hc : mget k w = _ := hc
      rw [mget_del x k w h.ks, hc]
      by_cases h2 : k = x
      · subst h2; simp [hx]
      · simp [h2]
theorem wlen_int (h : Wr ring f m w l) : fn_stack_Work_int_Len_p0_riiod ring f m w = some (((l.length : Nat) : Int), ring, w) := by
  unfold fn_stack_Work_int_Len_p0_riiod fn_stack_Queue_int_Len_p0_riiod
  rw [h.q.m_]; rfl
end
section
variable {ring : List (List UInt8)} {f m : Int} {l : List (List UInt8)} {w : Option (List ((List UInt8) × Int))}
theorem wpush_string (k : List UInt8) (h : Wr ring f m w l) (hl : l.length ≤ 9000) : ∃ r f' w', fn_stack_Work_string_Push_p0s_riiod k ring f m w = some (!decide (k ∈ l), r, f', (((if k ∈ l then l else l ++ [k]).length : Nat) : Int), w') ∧ Wr r f' (((if k ∈ l then l else l ++ [k]).length : Nat) : Int) w' (if k ∈ l then l else l ++ [k]) := by
  have hc := h.c k
  unfold fn_stack_Work_string_Push_p0s_riiod markF_str
  rw [markB_eq, markL_eq]
  by_cases hk : k ∈ l
  · rw [if_pos hk] at hc
    have hm := h.q.m_
    simp only [hc, if_pos hk, hk, decide_true, Bool.not_true, Option.bind_some, show (1 : Int) > 0 by omega, if_true, Bool.not_false, cond_true]
    rw [hm]
    exact ⟨_, _, _, rfl, ⟨hm ▸ h.q, h.nd, by simpa using h.ks, by simpa using h.c⟩⟩
  · rw [if_neg hk] at hc
    have h0 : ¬ ((0 : Int) > 0) := by omega
    have h1 : wrap64 (0 + 1) = 1 := IntWalk.wrap64_in (0 + 1) (by decide)
    obtain ⟨r, f', g1, g2⟩ := push_stringW (w := some (mset k 1 (w.getD []))) [k] h.q (by simp; omega)
    simp only [hc, if_neg hk, hk, decide_false, Bool.not_false, Option.bind_some, h0, h1, if_false, Bool.not_true, cond_false]
    rw [g1]
    refine ⟨r, f', some (mset k 1 (w.getD [])), ?_, ⟨?_, ?_, ?_, fun k' => ?_⟩⟩
    · simp
    · simpa using g2
    · exact List.nodup_append.2 ⟨h.nd, by simp, fun a ha b hb e => by simp at hb; subst hb; subst e; exact hk ha⟩
    · exact nodup_set k 1 _ h.ks
    · show mget k' (mset k 1 (w.getD [])) = _
      rw [mget_set, h.c k']
      by_cases h2 : k' = k <;> simp [h2]
theorem wpopE_string (h : Wr ring f m w []) : fn_stack_Work_string_Pop_p0_riiod ring f m w = some (([] : List UInt8), false, ring, f, m, w) := by
  unfold fn_stack_Work_string_Pop_p0_riiod
  rw [popE_stringW h.q]
  rfl
theorem wpopC_string {x : List UInt8} (h : Wr ring f m w (x :: l)) : ∃ r f' w', fn_stack_Work_string_Pop_p0_riiod ring f m w = some (x, true, r, f', ((l.length : Nat) : Int), w') ∧ Wr r f' ((l.length : Nat) : Int) w' l := by
  obtain ⟨r, f', g1, g2⟩ := popC_stringW (w := w) h.q
  refine ⟨r, f', w.map (mdel x), ?_, ⟨g2, (List.nodup_cons.1 h.nd).2, ?_, fun k => ?_⟩⟩
  · unfold fn_stack_Work_string_Pop_p0_riiod
    rw [g1]
    rfl
  · cases w with
    | none => exact List.nodup_nil
    | some w => exact (nodup_del x w h.ks).1
  · have hx := (List.nodup_cons.1 h.nd).1
    have hc := h.c k
    cases w with
    | none =>
      have hx0 := h.c x
      rw [if_pos (by simp)] at hx0
      exact absurd (show (0 : Int) = 1 from hx0) (by decide)
    | some w =>
      show mget k (mdel x w) = _
      have hc : mget k w = _ := hc
      rw [mget_del x k w h.ks, hc]
      by_cases h2 : k = x
      · subst h2; simp [hx]
      · simp [h2]
theorem wlen_string (h : Wr ring f m w l) : fn_stack_Work_string_Len_p0_riiod ring f m w = some (((l.length : Nat) : Int), ring, w) := by
  unfold fn_stack_Work_string_Len_p0_riiod fn_stack_Queue_string_Len_p0_riiod
  rw [h.q.m_]; rfl
end
end Go.Proofs.Ytgdjfpmjbjkmhaa
namespace Go.Proofs.Ytgdjfpmjbjkmhaa
open Go.RowKit
set_option linter.unusedVariables false
theorem same01_eq (xa xb : List Int) (hn : xa.length ≤ 1073741824) : fn_ref01_Same xa xb = some (decide (xa = xb)) := by
  unfold fn_ref01_Same
  by_cases hl : xa.length = xb.length
  · rw [dlen hl, cond_false, loop_alike (body := fn_ref01_Same_l1 xa xb) xa xb (.inr false) (.inl ()) hl ?_ ?_]
    · by_cases h : xa = xb <;> simp [h]
    · intro k h; unfold fn_ref01_Same_l1
      have h2 : k < xb.length := by omega
      by_cases q : xa[k] = xb[k] <;> simp [getN h, getN h2, h, q, w64s h (by omega)]
    · simp [fn_ref01_Same_l1]
  · rw [dlen' hl, cond_true]
    have : ¬ xa = xb := fun h => hl (by rw [h])
    simp [this]
end Go.Proofs.Ytgdjfpmjbjkmhaa
namespace Go.Proofs.Ytgdjfpmjbjkmhaa
open Go.RowKit
set_option linter.unusedVariables false
set_option linter.unusedSimpArgs false
set_option linter.unnecessarySimpa false
theorem awake07 : fn_law07_awake = some true := by
  unfold fn_law07_awake
  obtain ⟨r1, f1, w1, g1, h1⟩ := wpush_string [97] Wr.nil (by simp)
  simp only [List.not_mem_nil, if_false, List.nil_append, decide_false, Bool.not_false] at g1 h1
  obtain ⟨r2, f2, w2, g2, h2⟩ := wpush_string [98] h1 (by simp)
  simp only [show ¬ ([98] : List UInt8) ∈ [[97]] by decide, if_false, decide_false, Bool.not_false, List.cons_append, List.nil_append] at g2 h2
  obtain ⟨r3, f3, w3, g3, h3⟩ := wpush_string [97] h2 (by simp)
  simp only [show ([97] : List UInt8) ∈ [[97], [98]] by decide, if_true, decide_true, Bool.not_true] at g3 h3
  obtain ⟨r4, f4, w4, g4, h4⟩ := wpopC_string h3
  obtain ⟨r5, f5, w5, g5, h5⟩ := wpush_string [97] h4 (by simp)
  simp only [show ¬ ([97] : List UInt8) ∈ [[98]] by decide, if_false, decide_false, Bool.not_false, List.cons_append, List.nil_append] at g5 h5
  rw [g1]; simp only [Option.bind_some]
  rw [g2]; simp only [Option.bind_some]
  rw [g3]; simp only [Option.bind_some]
  rw [g4]; simp only [Option.bind_some, Bool.not_false, Bool.and_true, decide_true, cond_true]
  rw [g5]; simp only [Option.bind_some, cond_true]
  rw [wlen_string h5]
  rfl
/-- The last of a list. -/
def lastv (s : List Int) : Int × Bool := match s.getLast? with | some x => (x, true) | none => (0, false)
theorem lastv_snoc (s : List Int) (x : Int) : lastv (s ++ [x]) = (x, true) := by simp [lastv]
theorem popF_eq (s : List Int) : popF_int s = some ((lastv s).1, (lastv s).2, s.dropLast) := by
  unfold popF_int lastv
  rcases List.eq_nil_or_concat s with rfl | ⟨l, x, h⟩
  · rfl
  · obtain rfl : s = l ++ [x] := by simpa using h
    simp
theorem Last_eq (s : List Int) (hs : s.length ≤ 1000000) : fn_ref07_Last s = some (s.dropLast, (lastv s).1, (lastv s).2) := by
  unfold fn_ref07_Last
  rcases List.eq_nil_or_concat s with rfl | ⟨l, x, h⟩
  · rfl
  · obtain rfl : s = l ++ [x] := by simpa using h
    have h1 : ((l ++ [x]).length : Int) = (l.length : Int) + 1 := by simp
    have h2 : IntKind.wrap .i64 (((l ++ [x]).length : Int) - 1) = (l.length : Int) := by
      have : (l ++ [x]).length = l.length + 1 := by simp
      rw [w64 (by omega) (by omega)]; omega
    have h3 : ¬ ((l ++ [x]).length : Int) = 0 := by omega
    simp only [h3, decide_false, cond_false, h2]
    rw [subL_eq (by omega) (by omega) (by simp; omega), getI_eq rfl (by simp), lastv_snoc]
    simp
theorem Len_eq (s : List Int) : fn_stack_Stack_int_Len (some s) = some ((s.length : Nat) : Int) := rfl
theorem Top_eq (s : List Int) (hs : s.length ≤ 1000000) : fn_stack_Stack_int_Top (some s) = some ((lastv s).1, (lastv s).2) := by
  unfold fn_stack_Stack_int_Top
  rw [Len_eq]
  rcases List.eq_nil_or_concat s with rfl | ⟨l, x, h⟩
  · rfl
  · obtain rfl : s = l ++ [x] := by simpa using h
    have h2 : IntKind.wrap .i64 (((l ++ [x]).length : Int) - 1) = (l.length : Int) := by
      have : (l ++ [x]).length = l.length + 1 := by simp
      rw [w64 (by omega) (by omega)]; omega
    have h3 : ¬ ((l ++ [x]).length : Int) = 0 := by simp; omega
    simp only [Option.bind_some, h3, decide_false, cond_false, h2]
    rw [getI_eq rfl (by simp), lastv_snoc]
    simp
theorem Put_eq (s : List Int) (x : Int) (hs : s.length ≤ 1000000) : fn_ref07_Put s x = some (s ++ [x]) := by
  unfold fn_ref07_Put
  rw [app_eq (by simp; omega)]
  simp only [Option.bind_some, List.nil_append]
  rw [app_eq (by simp; omega)]
  rfl
theorem lastv_take (s : List Int) (j : Nat) (h : j < s.length) : (s.take (j + 1)).dropLast = s.take j ∧ lastv (s.take (j + 1)) = (s[j], true) := by
  rw [List.take_succ_eq_append_getElem h]
  exact ⟨List.dropLast_concat, lastv_snoc _ _⟩
theorem drop_rev (s : List Int) (j : Nat) (h : j < s.length) : (s.drop (j + 1)).reverse ++ [s[j]] = (s.drop j).reverse := by
  rw [List.drop_eq_getElem_cons h, List.reverse_cons]
theorem refCut_eq (s : List Int) (n : Int) (hs : s.length ≤ 1000000) : fn_ref07_Cut s n = some (s.take (min s.length n.toNat), (s.drop (min s.length n.toNat)).reverse) := by
  unfold fn_ref07_Cut
  rw [loop_val (body := fn_ref07_Cut_l1 n) (fun q => ∃ j : Nat, j ≤ s.length ∧ min s.length n.toNat ≤ j ∧ q = (s.take j, (s.drop j).reverse)) (fun q => q.1.length) (b := (s.take (min s.length n.toNat), (s.drop (min s.length n.toNat)).reverse)) ?_ (s := (s, [])) ⟨s.length, Nat.le_refl _, Nat.min_le_left _ _, by simp⟩]
  · rfl
  · rintro q ⟨j, hj, hm, rfl⟩
    have hl : (s.take j).length = j := by rw [List.length_take]; omega
    unfold fn_ref07_Cut_l1
    by_cases hc : 0 < j ∧ n < (j : Int)
    · obtain ⟨i, rfl⟩ : ∃ i, j = i + 1 := ⟨j - 1, by omega⟩
      obtain ⟨t1, t2⟩ := lastv_take s i (by omega)
      refine .inl ⟨(s.take i, (s.drop i).reverse), ?_, ⟨i, by omega, by omega, rfl⟩, by simp; omega⟩
      simp only [hl]
      rw [show decide ((0 : Int) < ((i + 1 : Nat) : Int)) = true from decide_eq_true (by omega), show decide (n < ((i + 1 : Nat) : Int)) = true by simp; omega, Last_eq _ (by rw [hl]; omega), t1, t2]
      simp only [Bool.and_self, cond_true, Option.bind_some]
      rw [app_eq (by simp; omega), drop_rev s i (by omega)]
      rfl
    · right
      have hj2 : j = min s.length n.toNat := by
        rcases Nat.eq_zero_or_pos j with h | h
        · omega
        · have : ¬ n < (j : Int) := fun h2 => hc ⟨h, h2⟩
          omega
      have hb : (decide ((0 : Int) < (((s.take j).length : Nat) : Int)) && decide (n < (((s.take j).length : Nat) : Int))) = false := by
        rw [hl, Bool.and_eq_false_iff]
        by_cases h0 : 0 < j
        · right; simp; have : ¬ n < (j : Int) := fun h2 => hc ⟨h0, h2⟩; omega
        · left; simp; omega
      dsimp only
      rw [hb, cond_false, ← hj2]
theorem stCut_eq (s : List Int) (n : Int) (hs : s.length ≤ 1000000) : fn_stack_Stack_int_Cut_p0i_r n s = some ((s.drop (min s.length n.toNat)).reverse, s.take (min s.length n.toNat)) := by
  unfold fn_stack_Stack_int_Cut_p0i_r
  rw [loop_val (body := fn_stack_Stack_int_Cut_p0i_r_l1 n) (fun q => ∃ j : Nat, j ≤ s.length ∧ min s.length n.toNat ≤ j ∧ q = ((s.drop j).reverse, s.take j)) (fun q => q.2.length) (b := ((s.drop (min s.length n.toNat)).reverse, s.take (min s.length n.toNat))) ?_ (s := ([], s)) ⟨s.length, Nat.le_refl _, Nat.min_le_left _ _, by simp⟩]
  · rfl
  · rintro q ⟨j, hj, hm, rfl⟩
    have hl : (s.take j).length = j := by rw [List.length_take]; omega
    unfold fn_stack_Stack_int_Cut_p0i_r_l1
    by_cases hc : (if n < 0 then 0 else n) < (j : Int)
    · obtain ⟨i, rfl⟩ : ∃ i, j = i + 1 := ⟨j - 1, by split at hc <;> omega⟩
      obtain ⟨t1, t2⟩ := lastv_take s i (by omega)
      refine .inl ⟨((s.drop i).reverse, s.take i), ?_, ⟨i, by omega, by split at hc <;> omega, rfl⟩, by simp; omega⟩
      dsimp only
      rw [Len_eq, hl]
      simp only [Option.bind_some, hc, decide_true, cond_true]
      rw [popF_eq, t1, t2]
      simp only [Option.bind_some]
      rw [app_eq (by simp; omega), drop_rev s i (by omega)]
      rfl
    · right
      have hj2 : j = min s.length n.toNat := by split at hc <;> omega
      dsimp only
      rw [Len_eq, hl]
      simp only [Option.bind_some, hc, decide_false, cond_false]
      rw [← hj2]
theorem Push_eq (s xs : List Int) (hs : s.length + xs.length ≤ 1000000) : fn_stack_Stack_int_Push_p0k_r xs s = some (s ++ xs) := by
  unfold fn_stack_Stack_int_Push_p0k_r
  rw [app_eq (by omega)]
  rfl
theorem plays_tail (s : List Int) (k n : Nat) (hk : k < n) (hn : n ≤ 60) (hs : s.length ≤ 1000000) :
    ((fn_ref07_Last s).bind fun (l4342, i4343, t4344) => (fn_stack_Stack_int_Top (some s)).bind fun (i4353, t4354) => (fn_stack_Stack_int_Len (some s)).bind fun i4360 => cond (((!decide (i4360 = (((s.length : Nat) : Int)))) || (!decide (i4353 = i4343))) || (!(t4354 == t4344))) (some (.inr ((.inr (false))))) (some (.inl ((s, IntKind.wrap .i64 ((k : Int) + 1), s)))) : Option ((List Int × Int × List Int) ⊕ (Unit ⊕ Bool))) = some (.inl (s, ((k + 1 : Nat) : Int), s)) := by
  rw [Last_eq s hs, Top_eq s hs, Len_eq, w64s hk (by omega)]
  simp
theorem StackPlays_true (xa : (List (Int × Int))) (k0 : Tp.Ok (.sl (.cons (.int .i64) (.one (.int .i64)))) xa) : fn_law07_StackPlays xa = some true := by
  unfold fn_law07_StackPlays
  by_cases hl : 60 < xa.length
  · rw [show decide ((60 : Int) < ((xa.length : Nat) : Int)) = true by simp; omega, cond_true, awake07]; rfl
  rw [show decide ((60 : Int) < ((xa.length : Nat) : Int)) = false by simp; omega, cond_false]
  rw [loop_val (body := fn_law07_StackPlays_l1 xa) (fun q => ∃ k : Nat, k ≤ xa.length ∧ q.2.1 = (k : Int) ∧ q.1 = q.2.2 ∧ q.1.length ≤ 2 * k) (fun q => xa.length - q.2.1.toNat) (b := .inl ()) ?_ (s := ([], 0, [])) ⟨0, Nat.zero_le _, rfl, rfl, by simp⟩]
  · simp only [Option.bind_some, awake07]
  · rintro ⟨s, i, s'⟩ ⟨k, hk, e1, e2, hs⟩
    dsimp only at hs e1 e2
    subst e1 e2
    unfold fn_law07_StackPlays_l1
    by_cases hc : k < xa.length
    · left
      simp only [dlt hc, cond_true, getN hc, Option.bind_some]
      by_cases c0 : xa[k].1 = 0
      · refine ⟨(s ++ [xa[k].2, (k : Int)], ((k + 1 : Nat) : Int), s ++ [xa[k].2, (k : Int)]), ?_, ⟨k + 1, hc, rfl, rfl, by simp; omega⟩, by dsimp only; rw [Int.toNat_natCast, Int.toNat_natCast]; omega⟩
        simp only [c0, decide_true, cond_true]
        rw [Push_eq _ _ (by simp; omega), Put_eq _ _ (by omega)]
        simp only [Option.bind_some]
        rw [Put_eq _ _ (by simp; omega)]
        simp only [Option.bind_some, List.append_assoc, List.cons_append, List.nil_append]
        exact plays_tail _ k xa.length hc (by omega) (by simp; omega)
      · simp only [c0, decide_false, cond_false]
        by_cases c1 : xa[k].1 = 1
        · refine ⟨(s.dropLast, ((k + 1 : Nat) : Int), s.dropLast), ?_, ⟨k + 1, hc, rfl, rfl, by simp; omega⟩, by dsimp only; rw [Int.toNat_natCast, Int.toNat_natCast]; omega⟩
          simp only [c1, decide_true, cond_true]
          rw [Last_eq _ (by omega), popF_eq]
          simp only [Option.bind_some, decide_true, Bool.not_true, Bool.false_or, beq_self_eq_true, cond_false]
          exact plays_tail _ k xa.length hc (by omega) (by simp; omega)
        · simp only [c1, decide_false, cond_false]
          by_cases c2 : xa[k].1 = 2
          · refine ⟨(s.take (min s.length xa[k].2.toNat), ((k + 1 : Nat) : Int), s.take (min s.length xa[k].2.toNat)), ?_, ⟨k + 1, hc, rfl, rfl, by simp; omega⟩, by dsimp only; rw [Int.toNat_natCast, Int.toNat_natCast]; omega⟩
            simp only [c2, decide_true, cond_true]
            rw [refCut_eq _ _ (by omega), stCut_eq _ _ (by omega)]
            simp only [Option.bind_some]
            rw [same01_eq _ _ (by simp; omega)]
            simp only [Option.bind_some, decide_true, Bool.not_true, cond_false]
            exact plays_tail _ k xa.length hc (by omega) (by simp; omega)
          · refine ⟨(s, ((k + 1 : Nat) : Int), s), ?_, ⟨k + 1, hc, rfl, rfl, by simp; omega⟩, by dsimp only; rw [Int.toNat_natCast, Int.toNat_natCast]; omega⟩
            simp only [c2, decide_false, cond_false, Option.bind_some]
            exact plays_tail _ k xa.length hc (by omega) (by omega)
    · right
      simp only [dge hc, cond_false]
end Go.Proofs.Ytgdjfpmjbjkmhaa
namespace Go.Proofs.Ytgdjfpmjbjkmhaa
open Go.RowKit
set_option linter.unusedVariables false
set_option linter.unusedSimpArgs false
set_option linter.unnecessarySimpa false
theorem popS_snoc (l : List (List UInt8)) (x : List UInt8) : popF_str (l ++ [x]) = some (x, true, l) := by unfold popF_str; simp
theorem LenS_eq (s : List (List UInt8)) : fn_stack_Stack_string_Len (some s) = some ((s.length : Nat) : Int) := rfl
theorem PushS_eq (s xs : List (List UInt8)) (hs : s.length + xs.length ≤ 1000000) : fn_stack_Stack_string_Push_p0k_r xs s = some (s ++ xs) := by
  unfold fn_stack_Stack_string_Push_p0k_r
  rw [app_eq (by omega)]
  rfl
theorem CutS_eq (s : List (List UInt8)) (hs : s.length ≤ 1000000) : fn_stack_Stack_string_Cut_p0i_r 0 s = some (s.reverse, []) := by
  unfold fn_stack_Stack_string_Cut_p0i_r
  rw [loop_val (body := fn_stack_Stack_string_Cut_p0i_r_l1 0) (fun q => ∃ j : Nat, j ≤ s.length ∧ q = ((s.drop j).reverse, s.take j)) (fun q => q.2.length) (b := (s.reverse, [])) ?_ (s := ([], s)) ⟨s.length, Nat.le_refl _, by simp⟩]
  · rfl
  · rintro q ⟨j, hj, rfl⟩
    have hl : (s.take j).length = j := by rw [List.length_take]; omega
    unfold fn_stack_Stack_string_Cut_p0i_r_l1
    cases j with
    | zero =>
      right
      dsimp only
      rw [LenS_eq]
      simp
    | succ i =>
      refine .inl ⟨((s.drop i).reverse, s.take i), ?_, ⟨i, by omega, rfl⟩, by simp; omega⟩
      dsimp only
      rw [LenS_eq, hl]
      have hlt : (if (0 : Int) < 0 then (0 : Int) else 0) < ((i + 1 : Nat) : Int) := by simp
      simp only [Option.bind_some, hlt, decide_true, cond_true]
      rw [List.take_succ_eq_append_getElem (by omega : i < s.length), popS_snoc]
      simp only [Option.bind_some]
      rw [app_eq (by simp; omega)]
      have e : (s.drop (i + 1)).reverse ++ [s[i]] = (s.drop i).reverse := by rw [List.drop_eq_getElem_cons (by omega : i < s.length), List.reverse_cons]
      rw [e]
      rfl
theorem cutN_eq : fn_stack_Stack_int_Cut_zi 0 = some [] := by
  unfold fn_stack_Stack_int_Cut_zi
  rw [loop_end (body := fn_stack_Stack_int_Cut_zi_l1 0) (b := []) (s := []) (by
    unfold fn_stack_Stack_int_Cut_zi_l1 fn_stack_Stack_int_Len
    simp)]
  rfl
theorem StackTurns_true (xa : (List (List UInt8))) (k0 : Tp.Ok (.sl .str) xa) : fn_law07_StackTurns xa = some true := by
  unfold fn_law07_StackTurns
  by_cases hl : 100 < xa.length
  · rw [show decide ((100 : Int) < ((xa.length : Nat) : Int)) = true by simp; omega, cond_true, awake07]; rfl
  rw [show decide ((100 : Int) < ((xa.length : Nat) : Int)) = false by simp; omega, cond_false]
  rw [loop_some (body := fn_law07_StackTurns_l1 xa) xa (fun x => decide ((50 : Int) < ((x.length : Nat) : Int))) (.inr true) (.inl ()) ?_ ?_]
  · by_cases hany : xa.any (fun x => decide ((50 : Int) < ((x.length : Nat) : Int))) = true
    · simp only [hany, if_true, Option.bind_some]
    · simp only [hany, if_false, Option.bind_some]
      obtain ⟨r, f', g1, q1⟩ := push_string xa Qr.nil (by simp; omega)
      simp only [List.length_nil, Nat.zero_add, List.nil_append] at g1 q1
      rw [PushS_eq _ _ (by simp; omega)]
      simp only [Option.bind_some, List.nil_append]
      rw [g1]
      simp only [Option.bind_some]
      rw [CutS_eq _ (by omega)]
      simp only [Option.bind_some]
      rw [PushS_eq _ _ (by simp; omega)]
      simp only [Option.bind_some, List.nil_append]
      obtain ⟨b, h1, r2, f2, m2, rfl, q2⟩ := loop_inv (body := fn_law07_StackTurns_l2 xa) (fun s => ∃ k : Nat, k ≤ xa.length ∧ s.1 = (k : Int) ∧ s.2.1 = (xa.drop k).reverse ∧ Qr s.2.2.1 s.2.2.2.1 s.2.2.2.2 (xa.drop k)) (fun s => xa.length - s.1.toNat) (Q := fun b => ∃ r2 f2 m2, b = .inl ([], r2, f2, m2) ∧ Qr r2 f2 m2 ([] : List (List UInt8))) (fun s hs => by
        obtain ⟨i, bs, r2, f2, m2⟩ := s
        obtain ⟨k, hk, e1, e2, hq⟩ := hs
        dsimp only at e1 e2 hq
        subst e1 e2
        unfold fn_law07_StackTurns_l2
        by_cases hc : k < xa.length
        · rw [List.drop_eq_getElem_cons hc] at hq
          obtain ⟨r3, f3, g3, q3⟩ := popC_string hq
          refine .inl ⟨(((k + 1 : Nat) : Int), (xa.drop (k + 1)).reverse, r3, f3, _), ?_, ⟨k + 1, hc, rfl, rfl, q3⟩, by dsimp only; rw [Int.toNat_natCast, Int.toNat_natCast]; omega⟩
          simp only [dlt hc, cond_true]
          rw [List.drop_eq_getElem_cons hc, List.reverse_cons, popS_snoc]
          simp only [Option.bind_some]
          rw [g3]
          simp only [Option.bind_some, getN hc, decide_true, Bool.not_true, cond_false, Bool.false_or, w64s hc (by omega)]
        · obtain rfl : k = xa.length := by omega
          refine .inr ⟨.inl ([], r2, f2, m2), ?_, r2, f2, m2, rfl, by simpa using hq⟩
          simp only [dge hc, cond_false, List.drop_length, List.reverse_nil]) (s := (0, xa.reverse, r, f', ((xa.length : Nat) : Int))) ⟨0, Nat.zero_le _, rfl, rfl, q1⟩
      rw [h1]
      obtain rfl : m2 = 0 := q2.m_
      simp only [Option.bind_some, LenS_eq, List.length_nil, fn_stack_Stack_int_Push_zk, fn_stack_Queue_int_Push_zk, popN_int, fn_stack_Queue_int_Pop_z, fn_stack_Queue_int_Len_z, fn_stack_Work_int_Pop_z, fn_stack_Stack_int_Top, fn_stack_Stack_int_Len, Option.isNone_none, cond_true, decide_true, qlen_string, fn_stack_Work_int_Push_zi, fn_stack_Work_int_Len_z, cutN_eq, awake07, Int.natCast_zero, Bool.not_false, Bool.and_self, Int.ofNat_zero]
      try rfl
  · intro k h
    unfold fn_law07_StackTurns_l1
    simp only [dlt h, cond_true, getN h, Option.bind_some]
    by_cases q : (50 : Int) < ((xa[k].length : Nat) : Int) <;> simp [q, awake07, w64s h (by omega)]
  · unfold fn_law07_StackTurns_l1
    simp
end Go.Proofs.Ytgdjfpmjbjkmhaa
namespace Go.Proofs.Ytgdjfpmjbjkmhaa
open Go.RowKit
set_option linter.unusedVariables false
set_option linter.unnecessarySimpa false
set_option linter.unusedSimpArgs false
set_option maxRecDepth 20000
theorem StackTurns_walk {H : Type} (enc : TypeId × Value → H) (W : World) (base : Nat) {v0 : Value} {d0 : DataW H} {p0 : List MemPlace}
    (h0 : DataW.Trod enc Try.prog W 0 (fun _ => true) true 48 v0 d0 p0)
    (o0 : Value.okWide Try.prog W .any base 48 v0) :
    Calls Try.prog 5 #[v0] W fun e W' => e = .returned (.bool true) ∧ Below W.heap.size W W' := by
  obtain ⟨xa, i0, k0⟩ := Tp.arg (.sl .str) (by kernel_rfl) o0 h0
  exact walkX (s := sp_law07_StackTurns) (x := xa) (args := [v0]) law07_StackTurns_is (StackTurns_true xa k0) trivial rfl rfl ⟨_, _, rfl, of_rel _ i0, rfl⟩
end Go.Proofs.Ytgdjfpmjbjkmhaa
namespace Go.Proofs.Ytgdjfpmjbjkmhaa.stackTurnsFrame
set_option maxRecDepth 40000
open Go.ChangeShapes Go.WideShapes Go.ChangeAt Go.RowKit
theorem own : ownKnob Try.prog.godebug = none := by kernel_rfl
theorem contract (H : Type) (enc : TypeId × Value → H) (W : World) (base : Nat) (args : Array Value) (ds gs : List (DataW H)) (before : List MemPlace)
    (hval : ∀ (j : Nat) t v, Try.f5.params[j]? = some t → args[j]? = some v → Value.okWide Try.prog W .any base t v)
    (hW : DataW.Whole enc Try.prog Try.f5.params.toList Rows.stackTurnsSpec.vars false W args.toList ds gs before) :
    Calls Try.prog 5 args W fun e W' => ∃ v, e = .returned v ∧ Rows.stackTurnsSpec.post enc Try.prog Try.f5 false true false false W args v W' := by
  have hW' := hW
  obtain ⟨p, q, hA0, hV, rfl, hfz, hnd⟩ := hW
  have hA : DataW.TrodAll enc Try.prog W 0 (fun _ => true) true Try.f5.params.toList args.toList ds p := hA0
  rw [Try.params5] at hA hval
  obtain ⟨v0, vs0, d0, ds0, p0, q0, hargs, rfl, rfl, h0, r0⟩ := trodAll_cons hA
  obtain ⟨rfl, rfl, rfl⟩ := trodAll_nil r0
  obtain rfl : args = #[v0] := by cases args; simp_all
  refine (StackTurns_walk enc W base h0 (hval 0 _ v0 rfl rfl)).mono fun e W' ⟨he, hb⟩ => ?_
  subst he
  exact ⟨_, rfl, law_post (tb := _) rfl hW' rfl rfl (by kernel_rfl) (by kernel_rfl) (of_decide_eq_true (by kernel_rfl)) hb⟩
noncomputable def world (os : Os) : World := World.holding Try.prog os ⟨#[], #[], []⟩
theorem reads (os : Os) {H : Type} (enc : TypeId × Value → H) : ∃ x, DataW.whole enc Try.prog ((world os).forCall (fun _ _ => 0) ⟨#[], #[.slice none 0 0], []⟩).memory Try.f5.params.toList Rows.stackTurnsSpec.vars false (#[.slice none 0 0] : Array Value).toList 8 = some x :=
  Option.isSome_iff_exists.1 (by kernel_rfl)
set_option maxRecDepth 100000 in
theorem lifted (os : Os) (started : os.Started) (H : Type) (enc : TypeId × Value → H) (F : Stop.Interp) :
    ReturnsInHanded {} Try.checked os 5 .any ((OpenSpec.ofChange Rows.stackTurnsSpec).preRow enc Try.prog Try.f5 Rows.stackTurnsRow.domain false Rows.stackTurnsRow.laid) (((OpenSpec.ofChange Rows.stackTurnsSpec).at F).post enc Try.prog Try.f5 false true false false) := by
  obtain ⟨x, hx⟩ := reads os enc
  refine returnsInHanded_of_row (C := Try.checked) (s := OpenSpec.ofChange Rows.stackTurnsSpec) own started (by kernel_rfl) Try.func5
    (witness_row_at (enc := enc) (C := Try.checked) false (world os) #[.slice none 0 0] rfl (by kernel_rfl) (by kernel_rfl) (by kernel_rfl)
      (OpenSpec.preRow_of_cond 8 hx (by kernel_rfl) (fun k hk => by cases hk) (by kernel_rfl) (laidMet_of_run' 8 (by kernel_rfl) (by kernel_rfl)))) ?_
  intro W base args ds gs before hval hW _ _ _ hL _ _
  exact contract H enc W base args ds gs before hval hW
theorem proved : Rows.StackTurnsSaid :=
  OpenClaim.holds_of_cond 5 Try.f5 rfl rfl rfl rfl rfl rfl rfl ⟨rfl, rfl, rfl, rfl, rfl⟩ rfl rfl rfl rfl rfl (by kernel_rfl) Try.func5 (by kernel_rfl)
    (of_decide_eq_true (by kernel_rfl)) (by unfold Func.isWrapper; first | (rw [if_pos (by decide +kernel)]; kernel_rfl) | (rw [if_neg (by decide +kernel)]; exact ⟨rfl, rfl⟩))
    (fun os started H enc _ F => by rw [OpenClaim.pre_eq_preRow]; exact lifted os started H enc F)
end Go.Proofs.Ytgdjfpmjbjkmhaa.stackTurnsFrame
