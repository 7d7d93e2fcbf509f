/- What an argument's reading says of the cells, for every type made of ints, bools, strings, slices and structs. -/
import Derived.Test.YtbaaamdljojknaaKit
import Derived.Deep.Slices
namespace Go.Proofs.Ytbaaamdljojknaa
open Go.ChangeShapes Go.WideShapes Go.RowKit Go.Deep
open Go.ChangeMaps (open_string)
set_option linter.unusedVariables false
inductive Ty where
  | int (k : IntKind)
  | bool
  | str
  | sl (e : Ty)
  | emp
  | cons (a r : Ty)
namespace Ty
abbrev den : Ty → Type
  | .int _ => Int
  | .bool => Bool
  | .str => ByteArray
  | .sl e => List e.den
  | .emp => Unit
  | .cons a r => a.den × r.den
def size : Ty → Nat
  | .emp => 0
  | .cons a r => a.size + r.size
  | _ => 1
mutual
def has (P : Program) : Ty → TypeId → Bool
  | .int k, t => match P.underlying t with | some (.int k') => decide (k' = k) | _ => false
  | .bool, t => match P.underlying t with | some .bool => true | _ => false
  | .str, t => match P.underlying t with | some .string => true | _ => false
  | .sl e, t => match P.underlying t with | some (.slice e') => has P e e' && decide (P.cellsOf e' = e.size) && decide (0 < e.size) | _ => false
  | .emp, t => match P.underlying t with | some (.struct fs) => fs.toList.isEmpty && decide (P.cellsOf t = 0) | _ => false
  | .cons a r, t => match P.underlying t with
    | some (.struct fs) => (match fs.toList with | f :: fs => decide (f.offset = 0) && decide (P.cellsOf f.type = a.size) && has P a f.type && hasAll P a.size r fs | [] => false) && decide (P.cellsOf t = a.size + r.size)
    | _ => false
def hasAll (P : Program) : Nat → Ty → List Field → Bool
  | _, .emp, [] => true
  | o, .cons a r, f :: fs => decide (f.offset = o) && decide (P.cellsOf f.type = a.size) && has P a f.type && hasAll P (o + a.size) r fs
  | _, _, _ => false
end
/-- The cells hold the datum. -/
def Is (W : World) : (t : Ty) → List Value → t.den → Prop
  | .int k, cs, n => cs = [.int k n] ∧ (Lit.int k n).wf = true
  | .bool, cs, b => cs = [.bool b]
  | .str, cs, s => cs = [.string s] ∧ s.size ≤ maxLen
  | .sl e, cs, l => ∃ ad cap, cs = [.slice ad l.length cap] ∧ l.length ≤ maxLen ∧ (ad = none → l = [] ∧ cap = 0) ∧ (l ≠ [] → ∃ b o, ad = some ⟨b, o, none⟩ ∧ b < W.heap.size ∧
      ∀ k x, l[k]? = some x → ∃ es, es.length = e.size ∧ Is W e es x ∧ ∀ j, j < e.size → W.cell? ⟨b, o + k * e.size + j, none⟩ = es[j]?)
  | .emp, cs, _ => cs = []
  | .cons a r, cs, d => ∃ c1 c2, cs = c1 ++ c2 ∧ c1.length = a.size ∧ Is W a c1 d.1 ∧ Is W r c2 d.2
theorem Is.len {W : World} : ∀ {t : Ty} {cs : List Value} {d : t.den}, Is W t cs d → cs.length = t.size
  | .int _, cs, d, h => by simp only [Is] at h; rw [h.1]; rfl
  | .bool, cs, d, h => by simp only [Is] at h; rw [h]; rfl
  | .str, cs, d, h => by simp only [Is] at h; rw [h.1]; rfl
  | .sl e, cs, d, h => by simp only [Is] at h; obtain ⟨_, _, h, _⟩ := h; rw [h]; rfl
  | .emp, cs, d, h => by simp only [Is] at h; rw [h]; rfl
  | .cons a r, cs, d, h => by
    simp only [Is] at h
    obtain ⟨c1, c2, rfl, h1, _, h2⟩ := h
    simp [Ty.size, h1, Is.len h2]
theorem Is.keep {W W' : World} (f : Fr [] W W') : ∀ {t : Ty} {cs : List Value} {d : t.den}, Is W t cs d → Is W' t cs d
  | .int _, cs, d, h => h
  | .bool, cs, d, h => h
  | .str, cs, d, h => h
  | .emp, cs, d, h => h
  | .sl e, cs, d, h => by
    simp only [Is] at h ⊢
    obtain ⟨ad, cap, h1, h2, h3, h4⟩ := h
    refine ⟨ad, cap, h1, h2, h3, fun hne => ?_⟩
    obtain ⟨b, o, hb, hlt, hk⟩ := h4 hne
    refine ⟨b, o, hb, Nat.lt_of_lt_of_le hlt f.size, fun k x hx => ?_⟩
    obtain ⟨es, hl, hi, hj⟩ := hk k x hx
    refine ⟨es, hl, Is.keep f hi, fun j hjl => ?_⟩
    rw [f.cell (p := ⟨b, _, none⟩) hlt (by simp)]
    exact hj j hjl
  | .cons a r, cs, d, h => by
    simp only [Is] at h ⊢
    obtain ⟨c1, c2, rfl, h1, h2, h3⟩ := h
    exact ⟨c1, c2, rfl, h1, Is.keep f h2, Is.keep f h3⟩
theorem exists_list {α : Type} {R : Nat → α → Prop} : ∀ n : Nat, (∀ k, k < n → ∃ x, R k x) → ∃ l : List α, l.length = n ∧ ∀ k x, l[k]? = some x → R k x
  | 0, _ => ⟨[], rfl, fun k x h => by simp at h⟩
  | n + 1, h => by
    obtain ⟨l, hl, hr⟩ := exists_list n (fun k hk => h k (by omega))
    obtain ⟨x, hx⟩ := h n (by omega)
    refine ⟨l ++ [x], by simp [hl], fun k y hy => ?_⟩
    rcases Nat.lt_trichotomy k n with hk | hk | hk
    · rw [List.getElem?_append_left (by omega)] at hy; exact hr k y hy
    · subst hk; subst hl; simp at hy; subst hy; exact hx
    · rw [List.getElem?_eq_none (by simp; omega)] at hy; simp at hy
section
variable {H : Type} {enc : TypeId × Value → H} {P : Program} {W : World} {base : Nat} {spare : Nat → Bool} {held : Bool}
mutual
theorem read : ∀ (ty : Ty) {t : TypeId} {fuel : Nat} {cs : List Value} {x : DataW H × List MemPlace}, ty.has P t = true → DataW.trod enc P W base spare held fuel t cs = some x → ∃ d : ty.den, Is W ty cs d
  | .int k, t, fuel, cs, x, hh, h => by
    unfold has at hh
    split at hh
    · rename_i k' ht
      simp at hh; subst hh
      obtain ⟨n, rfl, _, hw⟩ := DataW.trod_int ht h
      exact ⟨n, rfl, hw⟩
    · simp at hh
  | .bool, t, fuel, cs, x, hh, h => by
    unfold has at hh
    split at hh
    · rename_i ht
      obtain ⟨b, rfl, _⟩ := DataW.trod_bool ht h
      exact ⟨b, rfl⟩
    · simp at hh
  | .str, t, fuel, cs, x, hh, h => by
    unfold has at hh
    split at hh
    · rename_i ht
      obtain ⟨s, rfl, _, hs⟩ := DataW.trod_string ht h
      exact ⟨s, rfl, hs⟩
    · simp at hh
  | .sl e, t, fuel, cs, x, hh, h => by
    unfold has at hh
    split at hh
    · rename_i e' ht
      simp only [Bool.and_eq_true, decide_eq_true_eq] at hh
      obtain ⟨⟨he, hc⟩, h0⟩ := hh
      rcases open_slice ht h with ⟨rfl, _⟩ | ⟨a, len, cap, m, n, D, Pl, rfl, hb, hl, hm, hmm, _, hi⟩
      · exact ⟨[], none, 0, rfl, by simp, fun _ => ⟨rfl, rfl⟩, fun h => absurd rfl h⟩
      · rw [hc] at hi
        have hall : ∀ k, k < len → ∃ x : e.den, ∃ es, es.length = e.size ∧ Is W e es x ∧ ∀ j, j < e.size → W.cell? (a.add (k * e.size + j)) = es[j]? := fun k hk => by
          have hkm : k < m := by rw [hmm]; split <;> omega
          obtain ⟨cs', hcs, ht'⟩ := hi k hkm
          obtain ⟨d, hd⟩ := read e he ht'
          obtain ⟨_, hlen, hcell⟩ := World.cells?_some hcs
          refine ⟨d, cs', hlen, hd, fun j hj => ?_⟩
          rw [← hcell j hj, Go.Deep.add_add]
        obtain ⟨l, hlen, hl'⟩ := exists_list len hall
        refine ⟨l, some a, cap, by rw [hlen], by omega, fun h => by simp at h, fun hne => ?_⟩
        have hpos : 0 < len := by rw [← hlen]; exact List.length_pos_iff.2 hne
        obtain ⟨x0, es0, hes, _, hc0⟩ := hall 0 hpos
        have hc00 := hc0 0 h0
        have hsome : ∃ v, W.cell? a = some v := by
          refine ⟨es0[0]'(by omega), ?_⟩
          have : a.add (0 * e.size + 0) = a := by simp [Addr.add]
          rw [this, List.getElem?_eq_getElem (by omega)] at hc00
          exact hc00
        obtain ⟨v0, hv0⟩ := hsome
        have hspot : a.spot = none := by
          cases hs : a.spot with
          | none => rfl
          | some s => simp [World.cell?, hs] at hv0; split at hv0 <;> simp at hv0
        have hlt : a.block < W.heap.size := by
          rcases Nat.lt_or_ge a.block W.heap.size with h | h
          · exact h
          · simp [World.cell?, Array.getElem?_eq_none h] at hv0
        obtain ⟨b, o, s⟩ := a
        simp only at hspot hlt
        subst hspot
        refine ⟨b, o, rfl, hlt, fun k x hx => ?_⟩
        obtain ⟨es, h1, h2, h3⟩ := hl' k x hx
        refine ⟨es, h1, h2, fun j hj => ?_⟩
        rw [← h3 j hj]
        simp only [Addr.add]
        split
        · congr 2; omega
        · congr 2; omega
    · simp at hh
  | .emp, t, fuel, cs, x, hh, h => by
    unfold has at hh
    split at hh
    · rename_i fs ht
      simp only [Bool.and_eq_true, decide_eq_true_eq] at hh
      obtain ⟨_, _, _, _, hlen, _⟩ := DataW.trod_struct ht h
      exact ⟨(), List.length_eq_zero_iff.1 (by omega)⟩
    · simp at hh
  | .cons a r, t, fuel, cs, x, hh, h => by
    unfold has at hh
    split at hh
    · rename_i fs ht
      simp only [Bool.and_eq_true, decide_eq_true_eq] at hh
      obtain ⟨hh, hC⟩ := hh
      split at hh
      · rename_i f fs' hfs
        simp only [Bool.and_eq_true, decide_eq_true_eq] at hh
        obtain ⟨⟨⟨h1, h2⟩, h3⟩, h4⟩ := hh
        obtain ⟨xs, n, _, _, hlen, hxl, hf⟩ := DataW.trod_struct ht h
        have hsz : fs.size = fs'.length + 1 := by rw [← Array.length_toList, hfs]; simp
        have hget : ∀ i, fs[i]? = (f :: fs')[i]? := fun i => by rw [← hfs, Array.getElem?_toList]
        have t0 := hf 0 f (by rw [hget]; rfl)
        rw [h1, h2, List.drop_zero, List.getElem?_eq_getElem (by omega)] at t0
        obtain ⟨d0, hd0⟩ := read a h3 t0
        obtain ⟨d1, hd1⟩ := readAll a.size r fs' (cs := cs.drop a.size) (all := cs) h4 (by rw [List.length_drop]; omega) (fun i g hg => by
          have t1 := hf (i + 1) g (by rw [hget]; exact hg)
          have hi : i < fs'.length := (List.getElem?_eq_some_iff.1 hg).1
          rw [List.getElem?_eq_getElem (by omega)] at t1
          exact ⟨n, _, t1⟩) rfl
        exact ⟨(d0, d1), cs.take a.size, cs.drop a.size, (List.take_append_drop _ _).symm, by rw [List.length_take]; omega, hd0, hd1⟩
      · simp at hh
    · simp at hh
theorem readAll : ∀ (o : Nat) (ty : Ty) (fs : List Field) {cs all : List Value}, ty.hasAll P o fs = true → cs.length = ty.size →
    (∀ (i : Nat) (f : Field), fs[i]? = some f → ∃ n x, DataW.trod enc P W base spare held n f.type ((all.drop f.offset).take (P.cellsOf f.type)) = some x) → cs = all.drop o → ∃ d : ty.den, Is W ty cs d
  | o, .emp, [], cs, all, hh, hl, hf, hc => ⟨(), List.length_eq_zero_iff.1 hl⟩
  | o, .cons a r, f :: fs, cs, all, hh, hl, hf, hc => by
    unfold hasAll at hh
    simp only [Bool.and_eq_true, decide_eq_true_eq] at hh
    obtain ⟨⟨⟨h1, h2⟩, h3⟩, h4⟩ := hh
    obtain ⟨n, x, t0⟩ := hf 0 f rfl
    rw [h1, h2, ← hc] at t0
    obtain ⟨d0, hd0⟩ := read a h3 t0
    have hl' : cs.length = a.size + r.size := hl
    obtain ⟨d1, hd1⟩ := readAll (o + a.size) r fs (cs := cs.drop a.size) (all := all) h4 (by simp; omega) (fun i g hg => hf (i + 1) g hg) (by rw [hc, List.drop_drop])
    exact ⟨(d0, d1), cs.take a.size, cs.drop a.size, by simp, by simp; omega, hd0, hd1⟩
  | _, .int _, _, _, _, hh, _, _, _ => by simp [hasAll] at hh
  | _, .bool, _, _, _, hh, _, _, _ => by simp [hasAll] at hh
  | _, .str, _, _, _, hh, _, _, _ => by simp [hasAll] at hh
  | _, .sl _, _, _, _, hh, _, _, _ => by simp [hasAll] at hh
  | _, .emp, _ :: _, _, _, hh, _, _, _ => by simp [hasAll] at hh
  | _, .cons _ _, [], _, _, hh, _, _, _ => by simp [hasAll] at hh
end
end
section
variable {H : Type} {enc : TypeId × Value → H} {P : Program} {W : World} {base b : Nat} {spare : Nat → Bool} {held : Bool} {r : Reach} {t : TypeId} {v : Value} {d : DataW H} {p : List MemPlace}
end
abbrev pair : Ty := .cons (.int .i64) (.cons (.int .i64) .emp)
end Ty
/-- A slice of ints. -/
def IsInts (w : World) (v : Value) (l : List Int) : Prop :=
  ∃ ad cap, (v = .slice ad l.length cap) ∧ l.length ≤ 9223372036854775807 ∧ (∀ k, In64 (l.getD k 0)) ∧ (l.length ≠ 0 → ∃ b o, ad = some ⟨b, o, none⟩ ∧ b < w.heap.size ∧ ∀ k, k < l.length → w.cell? ⟨b, o + k, none⟩ = some (.int .i64 (l.getD k 0)))
theorem IsInts.keep {w w' : World} {v : Value} {l : List Int} (h : IsInts w v l) (f : Fr [] w w') : IsInts w' v l := by
  obtain ⟨ad, cap, rfl, hlen, h64, hc⟩ := h
  refine ⟨ad, cap, rfl, hlen, h64, fun h0 => ?_⟩
  obtain ⟨b, o, rfl, hb, hc⟩ := hc h0
  refine ⟨b, o, rfl, Nat.lt_of_lt_of_le hb f.size, fun k hk => ?_⟩
  rw [f.cell (p := ⟨b, _, none⟩) hb (by simp)]
  exact hc k hk
theorem IsInts.of {W : World} {v : Value} {l : List Int} (h : Ty.Is W (.sl (.int .i64)) [v] l) : IsInts W v l := by
  simp only [Ty.Is] at h
  obtain ⟨ad, cap, h1, h2, h3, h4⟩ := h
  simp at h1
  have hg : ∀ k, k < l.length → ∃ b o, ad = some ⟨b, o, none⟩ ∧ b < W.heap.size ∧ W.cell? ⟨b, o + k, none⟩ = some (.int .i64 (l.getD k 0)) ∧ In64 (l.getD k 0) := fun k hk => by
    obtain ⟨b, o, rfl, hb, hc⟩ := h4 (by intro e; rw [e] at hk; simp at hk)
    obtain ⟨es, hl, ⟨rfl, w1⟩, hj⟩ := hc k l[k] (List.getElem?_eq_getElem hk)
    have j0 := hj 0 (by decide)
    refine ⟨b, o, rfl, hb, ?_, ?_⟩
    · simpa [Ty.size, List.getD, List.getElem?_eq_getElem hk] using j0
    · simpa [List.getD, List.getElem?_eq_getElem hk] using in64_of_wf w1
  refine ⟨ad, cap, h1, by unfold maxLen at h2; omega, fun k => ?_, fun h0 => ?_⟩
  · rcases Nat.lt_or_ge k l.length with hk | hk
    · obtain ⟨_, _, _, _, _, h⟩ := hg k hk; exact h
    · simp only [List.getD, List.getElem?_eq_none hk]; exact ⟨by simp, by simp⟩
  · obtain ⟨b, o, rfl, hb, _⟩ := hg 0 (by omega)
    refine ⟨b, o, rfl, hb, fun k hk => ?_⟩
    obtain ⟨b', o', e, _, h, _⟩ := hg k hk
    simp at e
    obtain ⟨rfl, rfl⟩ := e
    exact h
/-- A slice of structs of two ints. -/
def IsPairs (w : World) (v : Value) (a : List (Int × Int)) : Prop :=
  ∃ ad cap, (v = .slice ad a.length cap) ∧ a.length ≤ 9223372036854775807 ∧ (∀ k, In64 (a.getD k (0, 0)).1 ∧ In64 (a.getD k (0, 0)).2) ∧ (a.length ≠ 0 → ∃ b o, ad = some ⟨b, o, none⟩ ∧ b < w.heap.size ∧ ∀ k, k < a.length →
    w.cell? ⟨b, o + k * 2, none⟩ = some (.int .i64 (a.getD k (0, 0)).1) ∧ w.cell? ⟨b, o + k * 2 + 1, none⟩ = some (.int .i64 (a.getD k (0, 0)).2))
theorem IsPairs.keep {w w' : World} {v : Value} {a : List (Int × Int)} (h : IsPairs w v a) (f : Fr [] w w') : IsPairs w' v a := by
  obtain ⟨ad, cap, rfl, hlen, h64, hc⟩ := h
  refine ⟨ad, cap, rfl, hlen, h64, fun h0 => ?_⟩
  obtain ⟨b, o, rfl, hb, hc⟩ := hc h0
  refine ⟨b, o, rfl, Nat.lt_of_lt_of_le hb f.size, fun k hk => ?_⟩
  rw [f.cell (p := ⟨b, _, none⟩) hb (by simp), f.cell (p := ⟨b, _, none⟩) hb (by simp)]
  exact hc k hk
theorem IsPairs.of {W : World} {v : Value} {l : List (Ty.den Ty.pair)} (h : Ty.Is W (.sl Ty.pair) [v] l) : IsPairs W v (l.map fun x => (x.1, x.2.1)) := by
  simp only [Ty.Is] at h
  obtain ⟨ad, cap, h1, h2, h3, h4⟩ := h
  simp at h1
  have hz : In64 0 ∧ In64 0 := ⟨⟨by omega, by omega⟩, ⟨by omega, by omega⟩⟩
  have hg : ∀ k, k < l.length → ∃ b o, ad = some ⟨b, o, none⟩ ∧ b < W.heap.size ∧ W.cell? ⟨b, o + k * 2, none⟩ = some (.int .i64 ((l.map fun x => (x.1, x.2.1)).getD k (0, 0)).1) ∧
      W.cell? ⟨b, o + k * 2 + 1, none⟩ = some (.int .i64 ((l.map fun x => (x.1, x.2.1)).getD k (0, 0)).2) ∧ In64 ((l.map fun x => (x.1, x.2.1)).getD k (0, 0)).1 ∧ In64 ((l.map fun x => (x.1, x.2.1)).getD k (0, 0)).2 := fun k hk => by
    obtain ⟨b, o, rfl, hb, hc⟩ := h4 (by intro e; rw [e] at hk; simp at hk)
    obtain ⟨es, hl, he, hj⟩ := hc k l[k] (List.getElem?_eq_getElem hk)
    obtain ⟨c1, c2, rfl, _, ⟨rfl, w1⟩, c3, c4, rfl, _, ⟨rfl, w2⟩, rfl⟩ := he
    have j0 := hj 0 (by decide)
    have j1 := hj 1 (by decide)
    refine ⟨b, o, rfl, hb, ?_, ?_, ?_, ?_⟩
    · simpa [Ty.size, List.getD, List.getElem?_eq_getElem hk] using j0
    · simpa [Ty.size, List.getD, List.getElem?_eq_getElem hk] using j1
    · simpa [List.getD, List.getElem?_eq_getElem hk] using in64_of_wf w1
    · simpa [List.getD, List.getElem?_eq_getElem hk] using in64_of_wf w2
  refine ⟨ad, cap, by simpa using h1, by simp; unfold maxLen at h2; omega, fun k => ?_, fun h0 => ?_⟩
  · rcases Nat.lt_or_ge k l.length with hk | hk
    · obtain ⟨_, _, _, _, _, _, h⟩ := hg k hk; exact h
    · simpa [List.getD, List.getElem?_eq_none (show (l.map fun x => (x.1, x.2.1)).length ≤ k by simpa using hk)] using hz
  · simp at h0
    obtain ⟨b, o, rfl, hb, _⟩ := hg 0 (List.length_pos_iff.2 h0)
    refine ⟨b, o, rfl, hb, fun k hk => ?_⟩
    obtain ⟨b', o', e, _, h, h', _⟩ := hg k (by simpa using hk)
    simp at e
    obtain ⟨rfl, rfl⟩ := e
    exact ⟨h, h'⟩
end Go.Proofs.Ytbaaamdljojknaa
