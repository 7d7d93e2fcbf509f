/- Slices of values of k cells each: those that are read, and those that a call has made itself. Nothing of the program is here. -/
import Derived.Test.YtaokbmfhobbmaaaDoorRead
import Derived.Deep.AppendLies
namespace Go.Proofs.YtaokbmfhobbmaaaDoor
open Go.RowKit
set_option linter.unusedVariables false
section
variable {α : Type}
/-- A slice that reads as l, each value as the cells that f gives. -/
def Sl (f : α → List Value) (k : Nat) (w : World) (v : Value) (l : List α) : Prop :=
  ∃ ad cap, (v = .slice ad l.length cap) ∧ l.length ≤ cap ∧ cap ≤ 9223372036854775807 ∧ (l.length ≠ 0 → ∃ b o, ad = some ⟨b, o, none⟩ ∧ b < w.heap.size ∧ ∀ i x, l[i]? = some x → ∀ j, j < k → w.cell? ⟨b, o + i * k + j, none⟩ = (f x)[j]?)
theorem Sl.nil (f : α → List Value) (k : Nat) (w : World) (cap : Nat) (ad : Option Addr) (h : cap ≤ 9223372036854775807) : Sl f k w (.slice ad 0 cap) [] := ⟨ad, cap, rfl, by simp, h, fun h => absurd rfl h⟩
theorem Sl.keep {f : α → List Value} {k : Nat} {w w' : World} {v : Value} {l : List α} (h : Sl f k w v l) (fr : Fr [] w w') : Sl f k w' v l := by
  obtain ⟨ad, cap, rfl, h1, h2, hc⟩ := h
  refine ⟨ad, cap, rfl, h1, h2, fun h0 => ?_⟩
  obtain ⟨b, o, rfl, hb, hc⟩ := hc h0
  refine ⟨b, o, rfl, Nat.lt_of_lt_of_le hb fr.size, fun i x hx j hj => ?_⟩
  rw [fr.cell (p := ⟨b, _, none⟩) hb (by simp)]
  exact hc i x hx j hj
/-- A slice's shape, and its cells where it has any. -/
theorem Sl.open {f : α → List Value} {k : Nat} {w : World} {v : Value} {l : List α} (h : Sl f k w v l) : ∃ ad cap, v = .slice ad l.length cap ∧ l.length ≤ cap ∧ cap ≤ 9223372036854775807 := by
  obtain ⟨ad, cap, h, h1, h2, _⟩ := h
  exact ⟨ad, cap, h, h1, h2⟩
theorem Sl.at {f : α → List Value} {k : Nat} {w : World} {ad : Option Addr} {n cap : Nat} {l : List α} (h : Sl f k w (.slice ad n cap) l) (i : Nat) (x : α) (hx : l[i]? = some x) :
    ∃ b o, ad = some ⟨b, o, none⟩ ∧ b < w.heap.size ∧ ∀ j, j < k → w.cell? ⟨b, o + i * k + j, none⟩ = (f x)[j]? := by
  obtain ⟨ad', cap', h0, h1, h2, hc⟩ := h
  have hi : i < l.length := (List.getElem?_eq_some_iff.1 hx).1
  simp only [Value.slice.injEq] at h0
  obtain ⟨rfl, rfl, rfl⟩ := h0
  obtain ⟨b, o, rfl, hb, hc⟩ := hc (by omega)
  exact ⟨b, o, rfl, hb, fun j hj => hc i x hx j hj⟩
theorem Sl.drop {f : α → List Value} {k : Nat} {w : World} {b o : Nat} {n cap : Nat} {l : List α} (h : Sl f k w (.slice (some ⟨b, o, none⟩) n cap) l) (m : Nat) (hm : m ≤ n) : Sl f k w (.slice (some ⟨b, o + m * k, none⟩) (n - m) (cap - m)) (l.drop m) := by
  obtain ⟨ad, cap', h0, h1, h2, hc⟩ := h
  simp only [Value.slice.injEq] at h0
  obtain ⟨rfl, rfl, rfl⟩ := h0
  refine ⟨_, _, by rw [List.length_drop], by rw [List.length_drop]; omega, by omega, fun h0 => ?_⟩
  rw [List.length_drop] at h0
  obtain ⟨b', o', e, hb, hc⟩ := hc (by omega)
  simp at e
  obtain ⟨rfl, rfl⟩ := e
  refine ⟨b, _, rfl, hb, fun i x hx j hj => ?_⟩
  rw [List.getElem?_drop] at hx
  have := hc (m + i) x hx j hj
  rw [Nat.add_mul] at this
  rw [← this]
  congr 2
  omega
theorem Sl.tail {f : α → List Value} {k : Nat} {w : World} {b o n cap : Nat} {x : α} {l : List α} (h : Sl f k w (.slice (some ⟨b, o, none⟩) n cap) (x :: l)) : Sl f k w (.slice (some ⟨b, o + k, none⟩) (n - 1) (cap - 1)) l := by
  have hn : 1 ≤ n := by
    obtain ⟨ad, cap', h0, _⟩ := h
    simp only [Value.slice.injEq] at h0
    obtain ⟨_, rfl, _⟩ := h0
    simp
  have := h.drop 1 hn
  simpa using this
theorem Sl.take {f : α → List Value} {k : Nat} {w : World} {ad : Option Addr} {n cap : Nat} {l : List α} (h : Sl f k w (.slice ad n cap) l) (m c : Nat) (hm : m ≤ n) (hc : m ≤ c) (hc' : c ≤ 9223372036854775807) : Sl f k w (.slice ad m c) (l.take m) := by
  obtain ⟨ad', cap', h0, h1, h2, hc⟩ := h
  simp only [Value.slice.injEq] at h0
  obtain ⟨rfl, rfl, rfl⟩ := h0
  refine ⟨_, _, by rw [List.length_take, Nat.min_eq_left hm], by rw [List.length_take]; omega, hc', fun h0 => ?_⟩
  rw [List.length_take] at h0
  obtain ⟨b, o, rfl, hb, hc⟩ := hc (by omega)
  exact ⟨b, o, rfl, hb, fun i x hx j hj => hc i x (by rw [List.getElem?_take] at hx; split at hx <;> simp_all) j hj⟩
/-- A slice that a call has made since block B. -/
def Own (e : TypeId) (f : α → List Value) (k : Nat) (B : Nat) (w : World) (v : Value) (l : List α) : Prop := w.ownsRow B e k v l.length (l.flatMap f) ∧ l.length ≤ 9223372036854775807
theorem flatMap_length (f : α → List Value) (k : Nat) (hf : ∀ x, (f x).length = k) (l : List α) : (l.flatMap f).length = l.length * k := by
  induction l with
  | nil => simp
  | cons a r ih => simp [ih, hf, Nat.add_mul]; omega
theorem flatMap_get (f : α → List Value) (k : Nat) (hf : ∀ x, (f x).length = k) : ∀ (l : List α) (i : Nat) (x : α), l[i]? = some x → ∀ j, j < k → (l.flatMap f)[i * k + j]? = (f x)[j]?
  | [], i, x, h, j, hj => by simp at h
  | a :: r, 0, x, h, j, hj => by
    simp at h; subst h
    rw [List.flatMap_cons, List.getElem?_append_left (by rw [hf]; omega)]; simp
  | a :: r, i + 1, x, h, j, hj => by
    rw [List.flatMap_cons, List.getElem?_append_right (by rw [hf]; rw [Nat.add_mul]; omega), hf]
    have : (i + 1) * k + j - k = i * k + j := by rw [Nat.add_mul]; omega
    rw [this]
    exact flatMap_get f k hf r i x (by simpa using h) j hj
theorem Own.nil (e : TypeId) (f : α → List Value) (k : Nat) (B : Nat) (w : World) : Own e f k B w (.slice none 0 0) [] := ⟨World.ownsRow_nil _ _ _ _, by simp⟩
theorem Own.lit (e : TypeId) (f : α → List Value) (k : Nat) (hf : ∀ x, (f x).length = k) (w : World) (l : List α) (cs : Array Value) (hcs : cs.toList = l.flatMap f) (B : Nat) (hB : B ≤ w.heap.size) (hl : l.length ≤ 9223372036854775807) :
    Own e f k B (w.alloc (.cells cs e)) (.slice (some ⟨w.heap.size, 0, none⟩) l.length l.length) l := by
  have := World.ownsRow_lit (size := k) (base := B) (e := e) w cs l.length hB (by unfold maxLen; omega) (by rw [← Array.length_toList, hcs, flatMap_length f k hf])
  rw [hcs] at this
  exact ⟨this, hl⟩
theorem Own.lit_at (e : TypeId) (f : α → List Value) (k : Nat) (hf : ∀ x, (f x).length = k) (w : World) (l : List α) (cs : Array Value) (hcs : cs.toList = l.flatMap f) (B n m : Nat) (hn : w.heap.size = n) (hB : B ≤ n) (hm : l.length = m) (hl : m ≤ 9223372036854775807) :
    Own e f k B (w.alloc (.cells cs e)) (.slice (some ⟨n, 0, none⟩) m m) l := by
  subst hn; subst hm; exact Own.lit e f k hf w l cs hcs B hB hl
theorem Own.sl {e : TypeId} {f : α → List Value} {k : Nat} (hf : ∀ x, (f x).length = k) {B : Nat} {w : World} {v : Value} {l : List α} (h : Own e f k B w v l) : Sl f k w v l := by
  obtain ⟨h, hl⟩ := h
  have h' := h
  rcases h.2 with ⟨rfl, h0⟩ | ⟨g, cap, cur, rfl, hb, hg, hn, hm, hs, ht⟩
  · obtain rfl : l = [] := List.length_eq_zero_iff.1 h0
    exact Sl.nil f k w 0 none (by omega)
  · refine ⟨_, cap, rfl, hn, by unfold maxLen at hm; omega, fun h0 => ⟨g, 0, rfl, lt_of_block hg, fun i x hx j hj => ?_⟩⟩
    have hi : i < l.length := (List.getElem?_eq_some_iff.1 hx).1
    have := h'.cellAt (i * k + j) (by
      have : (i + 1) * k ≤ l.length * k := Nat.mul_le_mul_right k (by omega)
      rw [Nat.add_mul] at this; omega)
    rw [Nat.zero_add, this]
    exact flatMap_get f k hf l i x hx j hj
/-- The cells of a slice, as an append asks for them. -/
theorem Sl.news {f : α → List Value} {k : Nat} (hf : ∀ x, (f x).length = k) (hk : 0 < k) {w : World} {a : Addr} {n cap : Nat} {l : List α} (h : Sl f k w (.slice (some a) n cap) l) : ∀ j u, (l.flatMap f)[j]? = some u → w.cell? (a.add j) = some u := by
  intro j u hu
  have hj : j < (l.flatMap f).length := (List.getElem?_eq_some_iff.1 hu).1
  rw [flatMap_length f k hf] at hj
  have hi : j / k < l.length := Nat.div_lt_of_lt_mul (by rw [Nat.mul_comm]; exact hj)
  have hx : l[j / k]? = some l[j / k] := List.getElem?_eq_getElem hi
  obtain ⟨b, o, e, hb, hc⟩ := h.at (j / k) _ hx
  obtain rfl := Option.some.inj e
  have hm : j % k < k := Nat.mod_lt _ hk
  have hd : j / k * k + j % k = j := by rw [Nat.mul_comm]; exact Nat.div_add_mod j k
  have g := flatMap_get f k hf l (j / k) _ hx (j % k) hm
  rw [hd, hu] at g
  rw [g, ← hc (j % k) hm, Nat.add_assoc, hd]
  unfold Addr.add
  split
  · rename_i h0; subst h0; rfl
  · rfl
theorem Own.base {e : TypeId} {f : α → List Value} {k B : Nat} {w : World} {v : Value} {l : List α} (h : Own e f k B w v l) : ∀ x, v.ownBlock = some x → B ≤ x ∧ x < w.heap.size := h.1.lt
/-- What others do leaves it alone, unless they write to its block. -/
theorem Own.keep {e : TypeId} {f : α → List Value} {k B : Nat} {w w' : World} {v : Value} {l : List α} {S : List Nat} (h : Own e f k B w v l) (fr : Fr S w w') (hS : ∀ x, v.ownBlock = some x → x ∉ S) : Own e f k B w' v l := by
  obtain ⟨⟨h1, h2⟩, hl⟩ := h
  refine ⟨⟨h1, ?_⟩, hl⟩
  rcases h2 with hn | ⟨g, cap, cur, rfl, hb, hg, rest⟩
  · exact .inl hn
  · exact .inr ⟨g, cap, cur, rfl, hb, fr.keeps hg (hS g rfl), rest⟩
theorem Own.keep0 {e : TypeId} {f : α → List Value} {k B : Nat} {w w' : World} {v : Value} {l : List α} (h : Own e f k B w v l) (fr : Fr [] w w') : Own e f k B w' v l := h.keep fr (fun _ _ => by simp)
theorem Own.store {e : TypeId} {f : α → List Value} {k B : Nat} {w : World} {v : Value} {l : List α} (h : Own e f k B w v l) (p : Addr) (u : Value) (hp : p.block < B) : Own e f k B (w.setCell p u) v l :=
  h.keep (S := [p.block]) ((Fr.refl _ _).setCell _ (.inl (by simp)) _) (fun x hx => by have := (h.base x hx).1; simp; omega)
theorem Own.down {e : TypeId} {f : α → List Value} {k B B' : Nat} {w : World} {v : Value} {l : List α} (h : Own e f k B w v l) (hB : B' ≤ B) : Own e f k B' w v l := by
  obtain ⟨⟨h1, h2⟩, hl⟩ := h
  refine ⟨⟨h1, ?_⟩, hl⟩
  rcases h2 with hn | ⟨g, cap, cur, rfl, hb, rest⟩
  · exact .inl hn
  · exact .inr ⟨g, cap, cur, rfl, Nat.le_trans hB hb, rest⟩
theorem Own.drew {e : TypeId} {f : α → List Value} {k B : Nat} {w : World} {v : Value} {l : List α} (h : Own e f k B w v l) : Own e f k B w.drew v l := h
/-- Behind an append. -/
theorem Own.snoc {e : TypeId} {f : α → List Value} {k B : Nat} {w : World} {v : Value} {l m : List α} {n : Nat} (h : w.ownsRow B e k v n (l.flatMap f ++ m.flatMap f)) (hn : n = l.length + m.length) (hl : n ≤ 9223372036854775807) : Own e f k B w v (l ++ m) := by
  subst hn
  exact ⟨by simpa using h, by simpa using hl⟩
theorem Fr.of_grown {w w' : World} {v : Value} (h : w.grownBy w' v.ownBlock) {S : List Nat} {w0 : World} (h0 : Fr S w0 w) (hv : ∀ x, v.ownBlock = some x → x ∈ S ∨ w0.heap.size ≤ x) : Fr S w0 w' := by
  refine ⟨h.os.trans h0.os, h.tape.trans h0.tape, h.output.trans h0.output, Nat.le_trans h0.size h.size, fun i hi hS => ?_⟩
  rw [h.block i (Nat.lt_of_lt_of_le hi h0.size) (fun e => by
    rcases hv i e.symm with h1 | h1
    · exact hS h1
    · omega)]
  exact h0.block i hi hS
/-- 'append(s, y)' onto a slice of the call's own: y lies in a new block n. -/
theorem append1 {P : Program} {ops : Array Oper} {rest : List Oper} {o : Oper} {a : Act} {w : World} {Q : Exit → Act → World → Prop} (hgd : o.guard = none) (s x : Operand) (t : TypeId)
    (ho : o.op = .call { callee := .builtin .append, args := #[s, x], argTypes := #[t, t] })
    {e : TypeId} {f : α → List Value} {k : Nat} (hf : ∀ x, (f x).length = k) (h1 : ∀ y, ∀ u ∈ f y, u.oneCell' = true) (i : TypeInfo) (z : Value) (bytes : Nat) (ht : P.underlying t = some (.slice e)) (hi : P.info? e = some i) (hz : i.zero = some z)
    (hsize : i.size = k) (hby : i.bytes = bytes) (hzs : z.cells.size = k) (hsz : 0 < k)
    {B : Nat} {v : Value} {l : List α} (hs : a.eval s = v) (hown : Own e f k B w v l)
    (n : Nat) (y : α) (hx : a.eval x = .slice (some ⟨n, 0, none⟩) 1 1) (cs : Array Value) (te : TypeId) (hblk : w.heap[n]? = some (.cells cs te (0, 0))) (hcs : cs.toList = f y)
    (hlen : l.length ≤ 1000000000) (hbytes : bytes ≤ 1000) (hbase : B ≤ w.heap.size)
    (h : ∀ v' w', Own e f k B w' v' (l ++ [y]) → w.grownBy w' v.ownBlock → wpList P ops Q rest (a.put o.dst v') w') : wpList P ops Q (o :: rest) a w := by
  have hm : (l.length + 1) * bytes ≤ 1000000001 * 1000 := Nat.mul_le_mul (by omega) hbytes
  refine wpList_append_own w hgd s x t ho B e i z k bytes ht hi hz hsize hby hzs hsz v l.length (l.flatMap f) hs hown.1 ⟨n, 0, none⟩ 1 1 (f y) hx (by rw [hf]; omega) ?_ (h1 y) (by unfold maxLen; omega) (by omega) hbase ?_
  · intro j u hj
    have : w.cell? ⟨n, j, none⟩ = some u := by
      simp only [World.cell?, hblk]
      rw [← hcs] at hj
      simpa using hj
    unfold Addr.add
    split
    · rename_i h0; subst h0; exact this
    · simpa using this
  · intro v' w' h2 h3 _
    exact h v' w' (Own.snoc (m := [y]) (by simpa using h2) rfl (by simp; omega)) h3
/-- Where it lies. -/
theorem Own.place {e : TypeId} {f : α → List Value} {k B : Nat} {w : World} {v : Value} {l : List α} (h : Own e f k B w v l) (hn : l ≠ []) : ∃ g cap, v = .slice (some ⟨g, 0, none⟩) l.length cap ∧ B ≤ g ∧ g < w.heap.size ∧ l.length ≤ cap ∧ cap ≤ 9223372036854775807 := by
  obtain ⟨⟨h1, h2⟩, hl⟩ := h
  rcases h2 with ⟨_, hn'⟩ | ⟨g, cap, cur, rfl, hb, hg, h3, h4, _⟩
  · exact absurd (List.length_eq_zero_iff.1 hn') hn
  · exact ⟨g, cap, rfl, hb, lt_of_block hg, h3, by unfold maxLen at h4; omega⟩
theorem flatMap_set (f : α → List Value) (k : Nat) (hf : ∀ x, (f x).length = k) : ∀ (l : List α) (i : Nat) (x y : α), l[i]? = some x → ∀ (j : Nat) (u : Value), j < k → (f x).set j u = f y → (l.set i y).flatMap f = (l.flatMap f).set (i * k + j) u
  | [], i, x, y, hx, j, u, hj, he => by simp at hx
  | z :: l, 0, x, y, hx, j, u, hj, he => by
      simp at hx
      subst hx
      simp only [List.set_cons_zero, List.flatMap_cons, Nat.zero_mul, Nat.zero_add]
      rw [List.set_append_left _ _ (by rw [hf]; exact hj), he]
  | z :: l, i + 1, x, y, hx, j, u, hj, he => by
      have ih := flatMap_set f k hf l i x y (by simpa using hx) j u hj he
      simp only [List.set_cons_succ, List.flatMap_cons]
      rw [ih, List.set_append_right _ _ (by rw [hf, Nat.succ_mul]; omega), hf]
      congr 2
      rw [Nat.succ_mul]; omega
/-- One cell of an element written. -/
theorem Own.set1 {e : TypeId} {f : α → List Value} {k B : Nat} (hf : ∀ x, (f x).length = k) {w : World} {g n cap : Nat} {l : List α} (h : Own e f k B w (.slice (some ⟨g, 0, none⟩) n cap) l) (i : Nat) (x y : α) (hx : l[i]? = some x) (j : Nat) (hj : j < k) (u : Value) (he : (f x).set j u = f y) :
    Own e f k B (w.setCell ⟨g, i * k + j, none⟩ u) (.slice (some ⟨g, 0, none⟩) n cap) (l.set i y) := by
  obtain ⟨⟨h1, h2⟩, hl⟩ := h
  rcases h2 with ⟨hn, _⟩ | ⟨g', cap', cur, hv, hb, hg, h3, h4, h5, h6⟩
  · cases hn
  cases hv
  refine ⟨⟨?_, .inr ⟨g, cap, cur.setIfInBounds (i * k + j) u, by simp, hb, block_setCell hg _ _, by simpa using h3, h4, by simpa using h5, ?_⟩⟩, by simpa using hl⟩
  · rw [flatMap_length _ _ hf]
  · rw [flatMap_set f k hf l i x y hx j u hj he, Array.toList_setIfInBounds, List.length_set, List.take_set, h6]
theorem Own.free {e : TypeId} {f : α → List Value} {k B : Nat} {w : World} {g n cap : Nat} {l : List α} (h : Own e f k B w (.slice (some ⟨g, 0, none⟩) n cap) l) (o : Nat) : w.frozen? ⟨g, o, none⟩ = false := by
  obtain ⟨⟨h1, h2⟩, hl⟩ := h
  rcases h2 with ⟨hn, _⟩ | ⟨g', cap', cur, hv, hb, hg, _⟩
  · cases hn
  cases hv
  simp [World.frozen?, hg]
/-- A row of ints. -/
def num (n : Int) : List Value := [.int .i64 n]
theorem num_len (n : Int) : (num n).length = 1 := rfl
theorem num_one1 (n : Int) : ∀ u ∈ num n, u.oneCell' = true := by intro u hu; simp [num] at hu; subst hu; rfl
theorem flatMap_num (l : List Int) : l.flatMap num = l.map (Value.int .i64) := by
  induction l with
  | nil => rfl
  | cons a l ih => simp [num, ← ih]
/-- 'append(s, y)', as an operation by itself. -/
theorem append1_wp {P : Program} {o : Oper} {a : Act} {w : World} {K : Act → World → Prop} {Q : Exit → Act → World → Prop} (s x : Operand) (t : TypeId)
    (ho : o.op = .call { callee := .builtin .append, args := #[s, x], argTypes := #[t, t] })
    {e : TypeId} {f : α → List Value} {k : Nat} (hf : ∀ x, (f x).length = k) (h1 : ∀ y, ∀ u ∈ f y, u.oneCell' = true) (i : TypeInfo) (z : Value) (bytes : Nat) (ht : P.underlying t = some (.slice e)) (hi : P.info? e = some i) (hz : i.zero = some z)
    (hsize : i.size = k) (hby : i.bytes = bytes) (hzs : z.cells.size = k) (hsz : 0 < k)
    {B : Nat} {v : Value} {l : List α} (hs : a.eval s = v) (hown : Own e f k B w v l)
    (n : Nat) (y : α) (hx : a.eval x = .slice (some ⟨n, 0, none⟩) 1 1) (cs : Array Value) (te : TypeId) (hblk : w.heap[n]? = some (.cells cs te (0, 0))) (hcs : cs.toList = f y)
    (hlen : l.length ≤ 1000000000) (hbytes : bytes ≤ 1000) (hbase : B ≤ w.heap.size)
    (h : ∀ g cap w', Own e f k B w' (.slice (some ⟨g, 0, none⟩) (l.length + 1) cap) (l ++ [y]) → w.grownBy w' v.ownBlock → K (a.put o.dst (.slice (some ⟨g, 0, none⟩) (l.length + 1) cap)) w') : o.wp P a w K Q := by
  have hm : (l.length + 1) * bytes ≤ 1000000001 * 1000 := Nat.mul_le_mul (by omega) hbytes
  refine wp_append_lies w s x t ho B e i z k bytes ht hi hz hsize hby hzs hsz v l.length (l.flatMap f) hs hown.1 ⟨n, 0, none⟩ 1 1 (f y) hx (by rw [hf]; omega) ?_ (h1 y) (by omega) (by unfold maxLen; omega) (by omega) hbase _ rfl ?_
  · intro j u hj
    have : w.cell? ⟨n, j, none⟩ = some u := by
      simp only [World.cell?, hblk]
      rw [← hcs] at hj
      simpa using hj
    unfold Addr.add
    split
    · rename_i h0; subst h0; exact this
    · simpa using this
  · intro g cap w' h2 h3 _ _
    exact h g cap w' (Own.snoc (m := [y]) (by simpa using h2) rfl (by simp; omega)) h3
theorem num_at {w : World} {ad : Option Addr} {n cap : Nat} {l : List Int} (h : Sl num 1 w (.slice ad n cap) l) (i : Nat) (hi : i < l.length) :
    ∃ b o, ad = some ⟨b, o, none⟩ ∧ b < w.heap.size ∧ w.cell? ⟨b, o + i, none⟩ = some (.int .i64 (l.getD i 0)) := by
  obtain ⟨b, o, e, hb, hc⟩ := h.at i l[i] (List.getElem?_eq_getElem hi)
  refine ⟨b, o, e, hb, ?_⟩
  have := hc 0 (by decide)
  simp only [Nat.mul_one, Nat.add_zero] at this
  rw [this]
  simp [num, List.getD, List.getElem?_eq_getElem hi]
end
end Go.Proofs.YtaokbmfhobbmaaaDoor
