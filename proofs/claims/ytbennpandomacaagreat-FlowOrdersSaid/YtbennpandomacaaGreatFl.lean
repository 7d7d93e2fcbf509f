/- Lists of functions that are known at once; loops walked round by round. Nothing of the program is here. -/
import Derived.Test.YtbennpandomacaaGreatSh
namespace Go.Proofs.YtbennpandomacaaGreat
open Go.RowKit
set_option linter.unusedVariables false
section
variable {P : Program} {E : En} {n : Nat} {Φ : Post} {ρ : Sl0} {K : Hp} {L : List Atom}
/-- So many rounds of a loop at most. -/
def RJ (P : Program) (E : En) (n : Nat) (c : Code) (Φ : Post) : Nat → Sl0 → Hp → List Atom → Prop
  | 0, _, _, _ => False
  | m + 1, ρ, K, L => CJ P E n c (Post.then (RJ P E n c Φ m) Φ) ρ K L
theorem RJ.next {m : Nat} {c : Code} (h : CJ P E n c (Post.then (RJ P E n c Φ m) Φ) ρ K L) : RJ P E n c Φ (m + 1) ρ K L := h
theorem CJ.unroll (m : Nat) {c : Code} (h : RJ P E n c Φ m ρ K L) : CJ P E n (.loop c) Φ ρ K L := by
  refine ⟨fun w hs => wp_loop_rounds m ?_⟩
  induction m generalizing ρ K L w with
  | zero => exact h.elim
  | succ m ih =>
    rw [rounds_succ]
    refine wp_mono (CJ.go h w hs) ?_
    rintro e a' w'' ⟨ρ', K', L', rfl, hs', hΦ⟩
    cases e with
    | normal => exact ih hΦ w'' hs'
    | _ => exact ⟨ρ', K', L', rfl, hs', hΦ⟩
end
section
variable {P : Program} {E : En} {n : Nat} {ρ : Sl0} {K : Hp} {L : List Atom} {d : Nat} {t : TypeId} {pos : String} {af : Array Edge} {g : Option (Nat × Bool)} {x y c : Operand} {u v : Value}
/-- A slice literal, as the block of its cells. -/
theorem A.litC {s e : TypeId} {z : Value} {sz bt len : Nat} {parts : Array (Nat × Operand)} {cs : List Value} (hs : P.underlying s = some (.slice e)) (hi : Inf P e z sz bt) (hbig : len * sz ≤ 16777216)
    (hzs : z.cells.size = sz) (hc0 : fillL (fun i => some (i * sz, sz)) (zrow len z.cells.toList) (parts.toList.map fun (i, x) => (i, ev n ρ x)) = some cs) (hpos : 0 < len * sz) :
    Ao P E n ⟨some d, .buildSlice s len parts, t, pos, af, g⟩ ρ K L (fun ρ' K' L' => ∃ b, ρ' = upd ρ d (.slice (some ⟨b, 0, none⟩) len len) ∧ K = K' ∧ L' = Cl b e cs :: L) :=
  Ao.of rfl (fun w hsep => by
    obtain ⟨i, h1, h2, h3, _⟩ := hi.open
    have h0 : 0 < sz := Nat.pos_of_ne_zero (fun h => by rw [h, Nat.mul_zero] at hpos; omega)
    have hc : Instr.fill (fun i => some (i * sz, sz)) ((Array.range (len * sz)).map (z.cells[· % z.cells.size]!)) (parts.map fun (i, x) => (i, ev n ρ x)).toList = some cs.toArray := by
      have e := zrow_eq z.cells (by omega) len
      rw [hzs] at e
      simp only [hzs]
      rw [e]
      apply fill_of
      simpa using hc0
    refine ⟨.slice (some ⟨w.heap.size, 0, none⟩) len len, _, K, _, ?_, Sep.alloc hsep e cs.toArray, w.heap.size, rfl, rfl, by simp⟩
    have hb : ¬ (2 ^ 24 < len * sz) := by omega
    have hc' : Instr.fill (fun i => some (i * sz, sz)) ((Array.range (len * sz)).map (z.cells[· % z.cells.size]!)) (List.map (fun x => (x.1, ev n ρ x.2)) parts.toList) = some cs.toArray := by simpa using hc
    have hm : len ≠ 0 ∧ sz ≠ 0 := ⟨fun h => by rw [h, Nat.zero_mul] at hpos; omega, by omega⟩
    have hn : ¬ len * sz = 0 := by omega
    simp [execOp, Instr.buildSlice, run_underlying hs, sizeOf, typeInfo, h1, h2, h3, zeroValue, newRow, hb, hc']
    try (intro h; exact absurd h hn))
end
end Go.Proofs.YtbennpandomacaaGreat
