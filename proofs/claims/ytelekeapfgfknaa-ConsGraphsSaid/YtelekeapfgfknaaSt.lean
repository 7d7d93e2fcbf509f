/- The library's Cut, Split and Join, judged; what a global holds. -/
import Derived.Test.YtelekeapfgfknaaOx
import Derived.Test.YtelekeapfgfknaaShelf
import Derived.Shelf.Vars
namespace Go.Proofs.Ytelekeapfgfknaa
open Go.RowKit
set_option linter.unusedVariables false
set_option linter.unusedSimpArgs false
set_option linter.unnecessarySimpa false
theorem Sep.ofBelow {E : En} {K : Hp} {L : List Atom} {w w' : World} (h : Sep E K L w) (b : Below w.heap.size w w') : Sep E K L w' := h.fr (Fr.of_below b)
/-- What is known of the globals. -/
def Gk (K : Hp) : Prop := ∃ m : Int, cellK K 0 0 = some (.int .i64 m)
theorem Gk.mono {K K' : Hp} (h : Gk K) (f : K.le K') : Gk K' := let ⟨m, h⟩ := h; ⟨m, cellK_le f h⟩
theorem Gk.of {W : World} (h : W.ShapedOpen Try.prog) : Gk (Hp.of W) :=
  let ⟨m, hm⟩ := Go.Proofs.cell_of_shapedOpen_int (zero := #[.int .i64 0]) (t := 3) h (of_decide_eq_true (by kernel_rfl)) (by kernel_rfl) rfl (by kernel_rfl) (by kernel_rfl) Try.underlying3
  ⟨m, cellK_of hm⟩
def joinF (xs : List (List UInt8)) (sep : List UInt8) : Option (List UInt8) := if (Lib.join xs sep).length ≤ 140737488355328 ∧ xs.length ≤ 140737488355328 then some (Lib.join xs sep) else none
theorem els_strs_eq {K : Hp} : ∀ {xs : List (List UInt8)} {cs : List Value}, Els K .str cs xs → cs = xs.map fun x => Value.string ⟨x.toArray⟩
  | [], cs, h => h
  | x :: xs, cs, h => by
    obtain ⟨es, r, rfl, h1, h2⟩ := h
    simp only [Is] at h1
    subst h1
    rw [els_strs_eq h2]; rfl
theorem strings_Join_ok {K : Hp} {xa : List (List UInt8)} {xb : List UInt8} {ad : Option Addr} {cp : Nat} (fa : Is K (.sl .str) [.slice ad xa.length cp] xa) {r : List UInt8} (h : joinF xa xb = some r) :
    Tr Try.prog 34 #[.slice ad xa.length cp, .string ⟨xb.toArray⟩] K [] (fun v K' L' => (∃ s1 : List UInt8, s1 = r ∧ v = .string ⟨s1.toArray⟩ ∧ L' = []) ∧ K = K') := by
  refine Tr.k (fun E w F hs => ?_)
  unfold joinF at h
  split at h
  · rename_i hlt
    cases h
    by_cases hx : xa = []
    · subst hx
      refine (Try.strings_Join_none ad cp ⟨xb.toArray⟩ w).mono ?_
      rintro e w' ⟨rfl, rfl⟩
      exact ⟨_, K, [], rfl, ⟨[], rfl, rfl, rfl⟩, Hp.le_refl K, hs⟩
    · have fa' := fa
      simp only [Is] at fa
      obtain ⟨ad', cp', e0, a1, a2, a3⟩ := fa
      simp only [List.cons.injEq, Value.slice.injEq, and_true] at e0
      obtain ⟨rfl, _, rfl⟩ := e0
      obtain ⟨b, o, rfl, a4⟩ := a3 hx
      obtain ⟨cs, c1, c2, c3⟩ := fa'.cells (by decide)
      obtain rfl := els_strs_eq c1
      have hc : ∀ (j : Nat) x, (xa.map fun x => (⟨x.toArray⟩ : ByteArray))[j]? = some x → w.cell? ⟨b, o + j, none⟩ = some (.string x) := fun j x hj => by
        have := c3 w hs.sub j (.string x) (by rw [List.getElem?_map] at hj ⊢; cases hq : xa[j]? with
          | none => rw [hq] at hj; simp at hj
          | some q => rw [hq] at hj; simp at hj ⊢; exact hj)
        rwa [addr_add] at this
      have hb : b < w.heap.size := by
        cases xa with
        | nil => exact absurd rfl hx
        | cons q xs =>
          have := hc 0 _ rfl
          unfold World.cell? at this
          simp only at this
          split at this
          · rename_i e; exact lt_of_block e
          · cases this
      have hm : (xa.map fun x => (⟨x.toArray⟩ : ByteArray)).map (·.data.toList) = xa := by simp [Function.comp_def]
      have hl : (xa.map fun x => (⟨x.toArray⟩ : ByteArray)).length = xa.length := by simp
      have := Try.strings_Join b o cp (xa.map fun x => (⟨x.toArray⟩ : ByteArray)) ⟨xb.toArray⟩ w hc hb (by rw [hl]; exact hlt.2) (by rw [hl]; exact a1) (by rw [hm]; exact hlt.1)
      rw [hl, hm] at this
      refine this.mono ?_
      rintro e w' ⟨rfl, hbl⟩
      exact ⟨_, K, [], rfl, ⟨_, rfl, rfl, rfl⟩, Hp.le_refl K, hs.ofBelow hbl⟩
  · cases h
end Go.Proofs.Ytelekeapfgfknaa
