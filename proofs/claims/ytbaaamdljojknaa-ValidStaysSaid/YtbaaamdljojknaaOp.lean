/- What each operation does, judged. Nothing of the program is here. -/
import Derived.Test.YtbaaamdljojknaaTy
import Derived.Test.YtbaaamdljojknaaLp
import Derived.Maps.AppendAt
namespace Go.Proofs.Ytbaaamdljojknaa
open Go.RowKit
set_option linter.unusedVariables false
section
variable {P : Program} {n : Nat} {C : World → Prop} {ρ : Sl0} {d : Option Nat} {t : TypeId} {pos : String} {af : Array Edge} {g : Option (Nat × Bool)} {x y c : Operand} {u v : Value}
theorem V.mv (hx : ev n ρ x = v) : Val P n C ρ ⟨d, .move x, t, pos, af, g⟩ v := fun w _ => by subst hx; rfl
theorem V.as (hx : ev n ρ x = v) : Val P n C ρ ⟨d, .assign x, t, pos, af, g⟩ v := fun w _ => by subst hx; rfl
theorem V.pick {b : Bool} (hc : ev n ρ c = .bool b) (hv : (bif b then ev n ρ x else ev n ρ y) = v) : Val P n C ρ ⟨d, .pick c x y, t, pos, af, g⟩ v := fun w _ => by
  subst hv; cases b <;> simp [execOp, hc, asBool]
theorem V.pickT {b : Bool} (hc : ev n ρ c = .bool b) (hb : b = true) (hv : ev n ρ x = v) : Val P n C ρ ⟨d, .pick c x y, t, pos, af, g⟩ v := V.pick hc (by rw [hb]; exact hv)
theorem V.pickF {b : Bool} (hc : ev n ρ c = .bool b) (hb : b = false) (hv : ev n ρ y = v) : Val P n C ρ ⟨d, .pick c x y, t, pos, af, g⟩ v := V.pick hc (by rw [hb]; exact hv)
section
variable {k : IntKind} {a b : Int} {tx ty : TypeId}
theorem V.add (hx : ev n ρ x = .int k a) (hy : ev n ρ y = .int k b) : Val P n C ρ ⟨d, .binOp .add tx x y ty, t, pos, af, g⟩ (.int k (k.wrap (a + b))) := fun w _ => by
  simp [execOp, eqGuard, binOp, hx, hy, Op.intArith]
theorem V.sub (hx : ev n ρ x = .int k a) (hy : ev n ρ y = .int k b) : Val P n C ρ ⟨d, .binOp .sub tx x y ty, t, pos, af, g⟩ (.int k (k.wrap (a - b))) := fun w _ => by
  simp [execOp, eqGuard, binOp, hx, hy, Op.intArith]
theorem V.mul (hx : ev n ρ x = .int k a) (hy : ev n ρ y = .int k b) : Val P n C ρ ⟨d, .binOp .mul tx x y ty, t, pos, af, g⟩ (.int k (k.wrap (a * b))) := fun w _ => by
  simp [execOp, eqGuard, binOp, hx, hy, Op.intArith]
theorem V.and (hx : ev n ρ x = .int k a) (hy : ev n ρ y = .int k b) : Val P n C ρ ⟨d, .binOp .and tx x y ty, t, pos, af, g⟩ (.int k (k.wrap ((BitVec.ofInt k.bits a &&& BitVec.ofInt k.bits b).toNat : Int))) := fun w _ => by
  simp [execOp, eqGuard, binOp, hx, hy, Op.intBits]
theorem V.or (hx : ev n ρ x = .int k a) (hy : ev n ρ y = .int k b) : Val P n C ρ ⟨d, .binOp .or tx x y ty, t, pos, af, g⟩ (.int k (k.wrap ((BitVec.ofInt k.bits a ||| BitVec.ofInt k.bits b).toNat : Int))) := fun w _ => by
  simp [execOp, eqGuard, binOp, hx, hy, Op.intBits]
theorem V.lss (hx : ev n ρ x = .int k a) (hy : ev n ρ y = .int k b) : Val P n C ρ ⟨d, .binOp .lss tx x y ty, t, pos, af, g⟩ (.bool (decide (a < b))) := fun w _ => by
  simp [execOp, eqGuard, binOp, hx, hy, Op.intCmp]
theorem V.leq (hx : ev n ρ x = .int k a) (hy : ev n ρ y = .int k b) : Val P n C ρ ⟨d, .binOp .leq tx x y ty, t, pos, af, g⟩ (.bool (decide (a ≤ b))) := fun w _ => by
  simp [execOp, eqGuard, binOp, hx, hy, Op.intCmp]
theorem V.gtr (hx : ev n ρ x = .int k a) (hy : ev n ρ y = .int k b) : Val P n C ρ ⟨d, .binOp .gtr tx x y ty, t, pos, af, g⟩ (.bool (decide (b < a))) := fun w _ => by
  simp [execOp, eqGuard, binOp, hx, hy, Op.intCmp]
theorem V.geq (hx : ev n ρ x = .int k a) (hy : ev n ρ y = .int k b) : Val P n C ρ ⟨d, .binOp .geq tx x y ty, t, pos, af, g⟩ (.bool (decide (b ≤ a))) := fun w _ => by
  simp [execOp, eqGuard, binOp, hx, hy, Op.intCmp]
theorem V.eql (hx : ev n ρ x = .int k a) (hy : ev n ρ y = .int k b) : Val P n C ρ ⟨d, .binOp .eql tx x y ty, t, pos, af, g⟩ (.bool (decide (a = b))) := fun w _ => by
  simp [execOp, eqGuard, binOp, hx, hy, Op.intCmp]
  exact Bool.beq_eq_decide_eq a b
theorem V.neq (hx : ev n ρ x = .int k a) (hy : ev n ρ y = .int k b) : Val P n C ρ ⟨d, .binOp .neq tx x y ty, t, pos, af, g⟩ (.bool (!decide (a = b))) := fun w _ => by
  simp [execOp, eqGuard, binOp, hx, hy, Op.intCmp]
  rw [bne, Bool.beq_eq_decide_eq]
end
section
variable {a b : Bool} {tx ty : TypeId}
theorem V.not (hx : ev n ρ x = .bool a) : Val P n C ρ ⟨d, .unOp .not tx x, t, pos, af, g⟩ (.bool (!a)) := fun w _ => by
  simp [execOp, Op.unary, hx]
theorem V.eqb (ht : P.underlying tx = some .bool) (hx : ev n ρ x = .bool a) (hy : ev n ρ y = .bool b) : Val P n C ρ ⟨d, .binOp .eql tx x y ty, t, pos, af, g⟩ (.bool (a == b)) := fun w _ => by
  have := run_eql_bool (P := P) (w := w) tx a b ht
  simp only [execOp, hx, hy]
  simp [eqGuard, this]
theorem V.neb (ht : P.underlying tx = some .bool) (hx : ev n ρ x = .bool a) (hy : ev n ρ y = .bool b) : Val P n C ρ ⟨d, .binOp .neq tx x y ty, t, pos, af, g⟩ (.bool (!(a == b))) := fun w _ => by
  have := run_neq_bool (P := P) (w := w) tx a b ht
  simp only [execOp, hx, hy]
  simp [eqGuard, this]
end
section
variable {a b : List UInt8} {tx ty : TypeId}
theorem bsl (a : List UInt8) : (⟨a.toArray⟩ : ByteArray).toList = a := by rw [ByteArray.toList_eq]
theorem V.eqs (hx : ev n ρ x = .string ⟨a.toArray⟩) (hy : ev n ρ y = .string ⟨b.toArray⟩) : Val P n C ρ ⟨d, .binOp .eql tx x y ty, t, pos, af, g⟩ (.bool (decide (a = b))) := fun w _ => by
  simp [execOp, eqGuard, binOp, hx, hy, Op.stringOp]
  exact Bool.beq_eq_decide_eq a b
theorem V.cat {z : List UInt8} (hx : ev n ρ x = .string ⟨a.toArray⟩) (hy : ev n ρ y = .string ⟨b.toArray⟩) (hz : app a b = some z) : Val P n C ρ ⟨d, .binOp .add tx x y ty, t, pos, af, g⟩ (.string ⟨z.toArray⟩) := fun w _ => by
  obtain ⟨h, rfl⟩ := app_some hz
  have h1 : ¬ ((9223372036854775807 : Int) < (a.length : Int) + (b.length : Int)) := by omega
  have h2 : (⟨a.toArray⟩ ++ ⟨b.toArray⟩ : ByteArray) = ⟨(a ++ b).toArray⟩ := ba_append a b
  have h3 : ((IntKind.i64.max : Int)) = 9223372036854775807 := rfl
  simp [execOp, eqGuard, binOp, hx, hy, Op.stringOp, ByteArray.size, h1, h2, h3]
end
theorem V.len {tx e : TypeId} {ad : Option Addr} {m cp : Nat} (ht : P.underlying tx = some (.slice e)) (hx : ev n ρ x = .slice ad m cp) : Val P n C ρ ⟨d, .call ⟨.builtin .len, #[x], #[tx]⟩, t, pos, af, g⟩ (.int .i64 (m : Nat)) := fun w _ => by
  simp [execOp, resolve, invoke, builtin, hx, Builtin.len_, run_underlying ht, goInt]
theorem V.ext {i : Nat} {vs : Array Value} (hx : ev n ρ x = .tuple vs) (hv : vs[i]? = some v) : Val P n C ρ ⟨d, .extract x i, t, pos, af, g⟩ v := fun w _ => by
  simp [execOp, hx, Instr.extract, hv]
theorem addr_add (b o m : Nat) : (⟨b, o, none⟩ : Addr).add m = ⟨b, o + m, none⟩ := by
  unfold Addr.add; split
  · rename_i h; subst h; rfl
  · rfl
theorem V.fad {s : TypeId} {fs : Array Field} {f : Field} {i b o : Nat} (hs : P.underlying s = some (.struct fs)) (hf : fs[i]? = some f) (hz : P.cellsOf f.type ≠ 0) (hx : ev n ρ x = .pointer (some ⟨b, o, none⟩)) :
    Val P n C ρ ⟨d, .fieldAddr s x i, t, pos, af, g⟩ (.pointer (some ⟨b, o + f.offset, none⟩)) := fun w _ => by
  unfold Program.cellsOf at hz
  cases hi : P.info? f.type with
  | none => rw [hi] at hz; simp at hz
  | some i' =>
    rw [hi] at hz
    simp at hz
    simp [execOp, hx, Instr.fieldAt, run_underlying hs, hf, Instr.sureAddr, fieldPlace, sizeOf, typeInfo, hi, hz, addr_add]
theorem V.iad {tx e : TypeId} {ad : Option Addr} {b o m cp : Nat} {i : Int} {k : IntKind} {sz : Nat} (ht : P.underlying tx = some (.slice e)) (hz : (P.info? e).map (·.size) = some sz) (hx : ev n ρ x = .slice ad m cp) (he : ad = some ⟨b, o, none⟩) (hy : ev n ρ y = .int k i) (h0 : 0 ≤ i) (h1 : i < (m : Int)) :
    Val P n C ρ ⟨d, .indexAddr tx x y, t, pos, af, g⟩ (.pointer (some ⟨b, o + i.toNat * sz, none⟩)) := fun w _ => by
  subst he
  cases hi : P.info? e with
  | none => rw [hi] at hz; simp at hz
  | some i' =>
    rw [hi] at hz
    simp at hz
    simp [execOp, hx, hy, Instr.indexAt, asIntOf, run_underlying ht, h0, h1, sizeOf, typeInfo, hi, hz, addr_add]
/-- Slices of slices. -/
theorem V.slc {tx e : TypeId} {lo hi : Option Operand} {b o m cp l h sz : Nat} (ht : P.underlying tx = some (.slice e)) (hz : (P.info? e).map (·.size) = some sz) (hx : ev n ρ x = .slice (some ⟨b, o, none⟩) m cp)
    (hl : ∀ q, lo = some q → ∃ k, ev n ρ q = .int k (l : Nat)) (hl0 : lo = none → l = 0) (hh : ∀ q, hi = some q → ∃ k, ev n ρ q = .int k (h : Nat)) (hh0 : hi = none → h = m) (h1 : l ≤ h) (h2 : h ≤ m) (h3 : m ≤ cp) :
    Val P n C ρ ⟨d, .slice tx x lo hi none, t, pos, af, g⟩ (.slice (some (if cp = l then ⟨b, o, none⟩ else ⟨b, o + l * sz, none⟩)) (h - l) (cp - l)) := fun w _ => by
  cases hi' : P.info? e with
  | none => rw [hi'] at hz; simp at hz
  | some i' =>
    rw [hi'] at hz
    simp at hz
    have a2 : h ≤ cp := by omega
    cases lo with
    | none =>
      obtain rfl := hl0 rfl
      cases hi with
      | none =>
        obtain rfl := hh0 rfl
        simp [execOp, hx, Instr.sliceAt, run_underlying ht, Instr.slice, Instr.sliceBounds, sizeOf, typeInfo, hi', addr_add]
      | some q =>
        obtain ⟨k, hq⟩ := hh q rfl
        simp [execOp, hx, hq, Instr.sliceAt, run_underlying ht, Instr.slice, Instr.sliceBounds, Instr.sliceBound, asIntOf, a2, sizeOf, typeInfo, hi', addr_add]
        try (by_cases q : cp = l <;> simp [q])
    | some ql =>
      obtain ⟨k1, hq1⟩ := hl ql rfl
      cases hi with
      | none =>
        obtain rfl := hh0 rfl
        simp [execOp, hx, hq1, Instr.sliceAt, run_underlying ht, Instr.slice, Instr.sliceBounds, Instr.sliceBound, asIntOf, h1, sizeOf, typeInfo, hi', hz, addr_add]
        try (by_cases q : cp = l <;> simp [q])
      | some q =>
        obtain ⟨k, hq⟩ := hh q rfl
        simp [execOp, hx, hq, hq1, Instr.sliceAt, run_underlying ht, Instr.slice, Instr.sliceBounds, Instr.sliceBound, asIntOf, h1, a2, sizeOf, typeInfo, hi', hz, addr_add]
        try (by_cases q : cp = l <;> simp [q])
theorem V.mkf {f : FuncId} {xs : Array Operand} {caps : Array Value} (h' : xs.toList.map (ev n ρ) = caps.toList) : Val P n C ρ ⟨d, .makeFunc (.func f) #[] xs, t, pos, af, g⟩ (.func (.func f) #[] caps) := fun w _ => by
  have h : xs.map (ev n ρ) = caps := Array.ext' (by simpa using h')
  simp [execOp, Instr.makeFunc, h]
theorem pointee_of {P : Program} {tx e : TypeId} (ht : P.underlying tx = some (.pointer e)) : P.underlying tx = some (.pointer (P.pointee tx)) := by
  rw [ht]; simp [Program.pointee, ht]
theorem V.pn_neq {tx ty e : TypeId} {p : Option Addr} (ht : P.underlying tx = some (.pointer e)) (hx : ev n ρ x = .pointer p) (hy : ev n ρ y = .pointer none) : Val P n C ρ ⟨d, .binOp .neq tx x y ty, t, pos, af, g⟩ (.bool (!p.isNone)) := fun w _ => by
  have := run_neq_pointer_nil (P := P) (w := w) tx p (pointee_of ht)
  simp only [execOp, hx, hy]
  simp [eqGuard, this]
end
end Go.Proofs.Ytbaaamdljojknaa
