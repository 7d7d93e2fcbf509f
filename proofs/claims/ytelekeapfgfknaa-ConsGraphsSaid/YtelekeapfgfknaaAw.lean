/- Arrays that are written at places that are not fixed: rows of cells. Nothing of the program is here. -/
import Derived.Test.YtelekeapfgfknaaAr
namespace Go.Proofs.Ytelekeapfgfknaa
open Go.RowKit
set_option linter.unusedVariables false
set_option linter.unusedSimpArgs false
set_option linter.unnecessarySimpa false
section
variable {E : En} {K K0 : Hp} {L : List Atom} {w : World}
theorem Sep.arr {b : Nat} {e : TypeId} {t : Tp} {m : Nat} {cs : List Value} {xs : List t.den} (he : Els Hp.nil t cs xs) (hl : xs.length = m) (hm : Nat.ble m 1048576 = true) (hs : Sep E K (Cl b e cs :: L) w) : Sep E K (Row Hp.nil e t (.slice (some ⟨b, 0, none⟩) m m) xs :: L) w := by
  have hm := Nat.le_of_ble_eq_true hm
  subst hl
  refine hs.mono (fun h ha => ?_)
  obtain rfl : h = _ := ha
  exact ⟨cs, he, he.len, .inr ⟨b, xs.length, cs.toArray, rfl, rfl, Nat.le_refl _, by unfold maxLen; omega, by rw [List.size_toArray]; exact he.len, by simp [← he.len]⟩⟩
end
section
variable {P : Program} {K0 : Hp}
/-- A part of an array. -/
theorem V.subA {tx e : TypeId} {tp : Tp} {b m : Nat} {s z : List tp.den} {l h : Int} (ht : P.underlying tx = some (.array m e)) (hz : (P.info? e).map (·.size) = some tp.size) (hl : s.length = m) (hs : Is K0 (.sl tp) [.slice (some ⟨b, 0, none⟩) m m] s) (hy : subL s l h = some z) :
    ∃ ad' cp', (∀ {n : Nat} {C : World → Prop} {ρ : Sl0} {d : Option Nat} {t : TypeId} {pos : String} {af : Array Edge} {g : Option (Nat × Bool)} {x : Operand} {lo hi : Option Operand}, ev n ρ x = .pointer (some ⟨b, 0, none⟩) → (∀ q, lo = some q → ∃ k, ev n ρ q = .int k l) → (lo = none → l = 0) → (∀ q, hi = some q → ∃ k, ev n ρ q = .int k h) → (hi = none → h = (m : Nat)) →
      Val P n C ρ ⟨d, .slice tx x lo hi none, t, pos, af, g⟩ (.slice ad' z.length cp')) ∧ Is K0 (.sl tp) [.slice ad' z.length cp'] z := by
  subst hl
  obtain ⟨a1, a2, a3, rfl⟩ := subL_some hy
  obtain ⟨l, rfl⟩ := Int.eq_ofNat_of_zero_le a1
  obtain ⟨h, rfl⟩ := Int.eq_ofNat_of_zero_le (show 0 ≤ h by omega)
  have b1 : l ≤ h := by omega
  have b2 : h ≤ s.length := by omega
  simp only [Int.toNat_natCast]
  have hlen : ((s.take h).drop l).length = h - l := by rw [List.length_drop, List.length_take]; omega
  refine ⟨some (if s.length = l then ⟨b, 0, none⟩ else ⟨b, 0 + l * tp.size, none⟩), s.length - l, ?_, by rw [hlen]; exact hs.part l h b1 b2⟩
  intro n C ρ d t pos af g x lo hi hx hl hl0 hh hh0 w _
  rw [hlen]
  cases hi' : P.info? e with
  | none => rw [hi'] at hz; simp at hz
  | some i' =>
    rw [hi'] at hz
    simp at hz
    cases lo with
    | none =>
      have := hl0 rfl
      obtain rfl : l = 0 := by omega
      cases hi with
      | none =>
        have := hh0 rfl
        obtain rfl : h = s.length := by omega
        simp [execOp, hx, Instr.sliceAt, run_underlying ht, Instr.sureAddr, Instr.sliceBounds, sizeOf, typeInfo, hi', hz, addr_add]
      | some q =>
        obtain ⟨k, hq⟩ := hh q rfl
        simp [execOp, hx, hq, Instr.sliceAt, run_underlying ht, Instr.sureAddr, Instr.sliceBounds, Instr.sliceBound, asIntOf, b2, sizeOf, typeInfo, hi', hz, addr_add]
        try (by_cases q : s.length = 0 <;> simp [q])
    | some ql =>
      obtain ⟨k1, hq1⟩ := hl ql rfl
      cases hi with
      | none =>
        have := hh0 rfl
        obtain rfl : h = s.length := by omega
        simp [execOp, hx, hq1, Instr.sliceAt, run_underlying ht, Instr.sureAddr, Instr.sliceBounds, Instr.sliceBound, asIntOf, b1, sizeOf, typeInfo, hi', hz, addr_add]
        try (by_cases q : s.length = l <;> simp [q])
      | some q =>
        obtain ⟨k, hq⟩ := hh q rfl
        simp [execOp, hx, hq, hq1, Instr.sliceAt, run_underlying ht, Instr.sureAddr, Instr.sliceBounds, Instr.sliceBound, asIntOf, b1, b2, sizeOf, typeInfo, hi', hz, addr_add]
        try (by_cases q : s.length = l <;> simp [q])
theorem lt_cap {α : Type} {xs : List α} {i : Int} {m : Nat} (h : i < (xs.length : Nat)) (hl : xs.length = m) : i < (m : Nat) := by subst hl; exact h
end
end Go.Proofs.Ytelekeapfgfknaa
