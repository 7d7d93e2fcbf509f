/- The library's sort and compact at ints, judged. -/
import Derived.Test.YtbennpandomacaaGreatOx
import Derived.Test.YtbennpandomacaaGreatShelf
import Derived.Sort.OwnSortedInts
namespace Go.Proofs.YtbennpandomacaaGreat
open Go.RowKit
set_option linter.unusedVariables false
def srt (xs : List Int) : Option (List Int) := if xs.length ≤ 1073741824 then some (xs.mergeSort fun x y => decide (x ≤ y)) else none
theorem srt_some {xs r : List Int} (h : srt xs = some r) : xs.length ≤ 1073741824 ∧ xs.mergeSort (fun x y => decide (x ≤ y)) = r := by
  unfold srt at h; split at h
  · rename_i hh; cases h; exact ⟨hh, rfl⟩
  · cases h
theorem els_ints (K : Hp) : ∀ xs : List Int, Els K (.int .i64) (xs.map (Value.int .i64)) xs
  | [] => rfl
  | x :: xs => ⟨[.int .i64 x], _, rfl, rfl, els_ints K xs⟩
theorem els_ints_eq {K : Hp} : ∀ {xs : List Int} {cs : List Value}, Els K (.int .i64) cs xs → cs = xs.map (Value.int .i64)
  | [], cs, h => h
  | x :: xs, cs, h => by
    obtain ⟨es, r, rfl, h1, h2⟩ := h
    obtain rfl : es = [.int .i64 x] := h1
    rw [els_ints_eq h2]; rfl
theorem slices_Sort_ok {K : Hp} {ad : Option Addr} {m cap : Nat} {xs r : List Int} (h : srt xs = some r) :
    Tr Tryz.prog 46 #[.slice ad m cap] K [Row Hp.nil 3 (.int .i64) (.slice ad m cap) xs] (fun v K' L' => (∃ (l : List Int), l = r ∧ v = .tuple #[] ∧ L' = [Row Hp.nil 3 (.int .i64) (.slice ad m cap) l]) ∧ K = K') := by
  obtain ⟨hl, rfl⟩ := srt_some h
  refine Tr.k (fun E w F hs => ?_)
  have hs' := hs
  obtain ⟨h0, ⟨cs, h1, h2⟩, hd, hs2⟩ := hs
  have hle : h0.le (Hp.of w) := fun n o e => hs2.sub n o (Hp.join_right e (hd n o e))
  obtain rfl := els_ints_eq h1
  have h2' := h2
  obtain ⟨h3, h4⟩ := h2
  rcases h4 with ⟨h5, h6, _⟩ | ⟨g, cp, cur, h5, rfl, h6, h7, h8, h9⟩
  · cases h5
    obtain rfl : xs = [] := List.length_eq_zero_iff.1 h6
    refine (Tryz.slices_Sort_int_none none 0 w).mono ?_
    rintro e w' ⟨rfl, rfl⟩
    exact ⟨_, K, _, rfl, ⟨_, rfl, rfl, rfl⟩, Hp.le_refl K, by simpa using hs'⟩
  · cases h5
    have hb := hle g _ (one_of g _)
    have ht : cur.toList.take xs.length = xs.map (Value.int .i64) := by simpa [Tp.size] using h9
    refine (Tryz.slices_Sort_int g 0 cap xs w (holds_of_blockI hb ht) (lt_of_block hb) (by omega)).mono ?_
    rintro e w' ⟨rfl, n, os, rfl⟩
    have hlen : (xs.mergeSort fun x y => decide (x ≤ y)).length = xs.length := List.length_mergeSort xs
    have ho := ownsRow_sortedI (n := n) (os := os) (base := 0) (cap := cap) hlen (Nat.zero_le g) hb h6 h7 (by simpa [Tp.size] using h8)
    refine ⟨_, K, [Row Hp.nil 3 (.int .i64) (.slice (some ⟨g, 0, none⟩) xs.length cap) (xs.mergeSort fun x y => decide (x ≤ y))], rfl, ⟨_, rfl, rfl, rfl⟩, Hp.le_refl K, ?_⟩
    exact hs'.grown hlen.symm (by simpa [hlen, Tp.size] using ho) (els_ints _ _) (grownBy_sortedI _) (.inl rfl)
def cmpt (xs : List Int) : Option (List Int) := some (Lib.compact xs)
theorem slices_Compact_ok {K : Hp} {ad : Option Addr} {m cap : Nat} {xs r : List Int} (h : cmpt xs = some r) :
    Tr Tryz.prog 47 #[.slice ad m cap] K [Row Hp.nil 3 (.int .i64) (.slice ad m cap) xs] (fun v K' L' => (∃ (l : List Int) (ad1 : Option Addr) (cp1 : Nat), l = r ∧ v = .slice ad1 l.length cp1 ∧ L' = [Row Hp.nil 3 (.int .i64) (.slice ad1 l.length cp1) l]) ∧ K = K') := by
  cases h
  refine Tr.k (fun E w F hs => ?_)
  have hs' := hs
  obtain ⟨h0, ⟨cs, h1, h2⟩, hd, hs2⟩ := hs
  have hle : h0.le (Hp.of w) := fun n o e => hs2.sub n o (Hp.join_right e (hd n o e))
  obtain rfl := els_ints_eq h1
  obtain ⟨h3, h4⟩ := h2
  rcases h4 with ⟨h5, h6, _⟩ | ⟨g, cp, cur, h5, rfl, h6, h7, h8, h9⟩
  · cases h5
    obtain rfl : xs = [] := List.length_eq_zero_iff.1 h6
    refine (Tryz.slices_Compact_int_empty none 0 w).mono ?_
    rintro e w' ⟨rfl, rfl⟩
    exact ⟨_, K, _, rfl, ⟨_, none, 0, rfl, rfl, rfl⟩, Hp.le_refl K, hs'⟩
  · cases h5
    have hb := hle g _ (one_of g _)
    have ht : cur.toList.take xs.length = xs.map (Value.int .i64) := by simpa [Tp.size] using h9
    have hcl : (Lib.compact xs).length ≤ xs.length := Lib.compact_length_le xs
    refine (Tryz.slices_Compact_int g 0 cap xs w (holds_of_blockI hb ht) (by unfold maxLen at h7; omega) h6).mono ?_
    rintro e w' ⟨rfl, q, rfl⟩
    have hlen : (Lib.compact xs ++ List.replicate (xs.length - (Lib.compact xs).length) (0 : Int)).length = xs.length := by simp; omega
    have ho := ownsRow_sortedI (n := q) (os := #[]) (base := 0) (cap := cap) hlen (Nat.zero_le g) hb h6 h7 (by simpa [Tp.size] using h8)
    have hg := grownBy_sortedI (w := w) (g := g) (n := q) (os := #[]) (Lib.compact xs ++ List.replicate (xs.length - (Lib.compact xs).length) (0 : Int)).toArray
    rw [show ∀ W : World, Sort.grow W #[] = W from fun W => by simp [Sort.grow]] at ho hg
    refine ⟨_, K, [Row Hp.nil 3 (.int .i64) (.slice (some ⟨g, 0, none⟩) (Lib.compact xs).length cap) (Lib.compact xs)], rfl, ⟨_, _, _, rfl, rfl, rfl⟩, Hp.le_refl K, ?_⟩
    refine hs'.grown rfl ?_ (els_ints _ _) hg (.inl rfl)
    obtain ⟨o1, o2⟩ := ho
    refine ⟨by simp [Tp.size], ?_⟩
    rcases o2 with ⟨o2, _⟩ | ⟨g', cp', cur', o2, o3, o4, o5, o6, o7, o8⟩
    · cases o2
    · simp only [Value.slice.injEq, Option.some.injEq, Addr.mk.injEq, and_true] at o2
      obtain ⟨rfl, _, rfl⟩ := o2
      refine .inr ⟨g, cap, cur', rfl, Nat.zero_le _, o4, by omega, o6, by simpa [Tp.size] using o7, ?_⟩
      have : cur'.toList.take (Lib.compact xs).length = (cur'.toList.take xs.length).take (Lib.compact xs).length := by rw [List.take_take, Nat.min_eq_left hcl]
      simp only [Nat.mul_one] at o8
      have hsz : (Tp.int IntKind.i64).size = 1 := rfl
      rw [hsz, Nat.mul_one, this, o8, List.map_append, List.take_append_of_le_length (by simp), List.take_of_length_le (by simp)]
end Go.Proofs.YtbennpandomacaaGreat
