/- Functions held against nil; slices made, cut, copied; texts and bytes. Nothing of the program is here. -/
import Derived.Test.YtbaaamdljojknaaOy
import Derived.Laws.BytesString
import Derived.Laws.MakeOwn
namespace Go.Proofs.Ytbaaamdljojknaa
open Go.RowKit
set_option linter.unusedVariables false
section
variable {P : Program} {n : Nat} {C : World → Prop} {ρ : Sl0} {d : Option Nat} {t : TypeId} {pos : String} {af : Array Edge} {g : Option (Nat × Bool)} {x y : Operand} {tx ty : TypeId}
end
/-! ### What comes with fuel enough. -/
/-! ### Made rows. -/
def mk {α : Type} (len cap : Int) (z : α) : Option (List α) := if 0 ≤ len ∧ len ≤ cap ∧ cap ≤ 1073741824 then some (List.replicate len.toNat z) else none
theorem mk_some {α : Type} {len cap : Int} {z : α} {r : List α} (h : mk len cap z = some r) : 0 ≤ len ∧ len ≤ cap ∧ cap ≤ 1073741824 ∧ List.replicate len.toNat z = r := by
  unfold mk at h; split at h
  · rename_i hh; cases h; exact ⟨hh.1, hh.2.1, hh.2.2, rfl⟩
  · cases h
theorem Els.zrow {K : Hp} {t : Tp} {z : List Value} {x : t.den} (h : Is K t z x) : ∀ n, Els K t (zrow n z) (List.replicate n x)
  | 0 => rfl
  | n + 1 => ⟨z, _, rfl, h, Els.zrow h n⟩
theorem zrow_take (z : List Value) : ∀ (n m : Nat), n ≤ m → (zrow m z).take (n * z.length) = zrow n z
  | 0, m, _ => by simp [zrow]
  | n + 1, m + 1, h => by
    unfold zrow
    rw [Nat.succ_mul, Nat.add_comm, List.take_length_add_append, zrow_take z n m (by omega)]
section
variable {P : Program} {E : En} {n : Nat} {ρ : Sl0} {K : Hp} {L : List Atom} {d : Nat} {t : TypeId} {pos : String} {af : Array Edge} {g : Option (Nat × Bool)} {x y c : Operand} {u v : Value}
theorem A.make {s e : TypeId} {z : Value} {sz bt : Nat} {len cap : Int} {k1 k2 : IntKind} {K0 : Hp} {ty : Tp} {x0 : ty.den} (hs : P.underlying s = some (.slice e)) (hi : Inf P e z sz bt) (hty : ty.size = sz) (hz0 : Is K0 ty z.cells.toList x0) (hpos : 0 < sz) (hbt : bt ≤ 100000)
    (hx : ev n ρ x = .int k1 len) (hy : ev n ρ y = .int k2 cap) {zs : List ty.den} (hz : mk len cap x0 = some zs) :
    Ao P E n ⟨some d, .makeSlice s x y, t, pos, af, g⟩ ρ K L (fun ρ' K' L' => ∃ b, ρ' = upd ρ d (.slice (some ⟨b, 0, none⟩) zs.length cap.toNat) ∧ K = K' ∧ L' = Row K0 e ty (.slice (some ⟨b, 0, none⟩) zs.length cap.toNat) zs :: L) :=
  Ao.of rfl (fun w hsep => by
    obtain ⟨h1, h2, h3, rfl⟩ := mk_some hz
    obtain ⟨i, i1, i2, i3, i4⟩ := hi.open
    have hzl : z.cells.toList.length = sz := by rw [hz0.len, hty]
    have hb : (i.bytes : Int) * cap ≤ 281474976710656 := by
      have a1 : (i.bytes : Int) ≤ 100000 := by omega
      have a2 : (i.bytes : Int) * cap ≤ 100000 * cap := Int.mul_le_mul_of_nonneg_right a1 (by omega)
      omega
    have hr := run_make (P := P) w s e i z hs i1 i2 k1 k2 len cap h1 h2 hb (by omega)
    have hc : madeCells z.cells (cap.toNat * i.size) = (zrow cap.toNat z.cells.toList).toArray := by
      have e := zrow_eq z.cells (by rw [← Array.length_toList]; omega) cap.toNat
      unfold madeCells
      rw [i3]
      rw [show sz = z.cells.size by rw [← Array.length_toList]; omega]
      exact e
    rw [hc] at hr
    have hsz : i.size = sz := i3
    have hrow : Sep E K (Row K0 e ty (.slice (some ⟨w.heap.size, 0, none⟩) (List.replicate len.toNat x0).length cap.toNat) (List.replicate len.toNat x0) :: L) (w.alloc (.cells (zrow cap.toNat z.cells.toList).toArray e)) := by
      refine (Sep.alloc hsep e (zrow cap.toNat z.cells.toList).toArray).mono (fun h hh => ?_)
      obtain rfl : h = _ := hh
      refine ⟨zrow len.toNat z.cells.toList, Els.zrow hz0 _, by rw [zrow_len, List.length_replicate, hzl, hty], .inr ⟨w.heap.size, cap.toNat, (zrow cap.toNat z.cells.toList).toArray, by simp, by simp, by simp; omega, by unfold maxLen; omega, by rw [List.size_toArray, zrow_len, hzl, hty], ?_⟩⟩
      rw [List.length_replicate, hty, ← hzl]
      exact zrow_take _ _ _ (by omega)
    refine ⟨.slice (some ⟨w.heap.size, 0, none⟩) len.toNat cap.toNat, _, K, _, ?_, hrow, w.heap.size, by simp, rfl, rfl⟩
    simp [execOp, hx, hy, hr])
end
/-- One element in the place of another, whole. -/
theorem Els.put {K : Hp} {t : Tp} : ∀ {xs : List t.den} {cs : List Value}, Els K t cs xs → ∀ (i : Nat) (y : t.den) (ds : List Value), i < xs.length → Is K t ds y → Els K t (cs.take (i * t.size) ++ ds ++ cs.drop (i * t.size + t.size)) (xs.set i y)
  | [], cs, h, i, y, ds, hi, _ => by simp at hi
  | z :: xs, cs, h, 0, y, ds, hi, hd => by
    obtain ⟨es, r, rfl, h1, h2⟩ := h
    refine ⟨ds, r, ?_, hd, h2⟩
    rw [Nat.zero_mul, Nat.zero_add, List.take_zero, List.nil_append, ← h1.len, List.drop_left]
  | z :: xs, cs, h, i + 1, y, ds, hi, hd => by
    obtain ⟨es, r, rfl, h1, h2⟩ := h
    refine ⟨es, _, ?_, h1, Els.put h2 i y ds (by simpa using hi) hd⟩
    have e : (i + 1) * t.size = es.length + i * t.size := by rw [h1.len, Nat.succ_mul, Nat.add_comm]
    rw [e, List.take_length_add_append, Nat.add_assoc, ← List.drop_drop (i := i * t.size + t.size) (j := es.length), List.drop_left]
    simp only [List.append_assoc]
section
variable {P : Program} {E : En} {n : Nat} {ρ : Sl0} {K : Hp} {L : List Atom} {d : Nat} {t : TypeId} {pos : String} {af : Array Edge} {g : Option (Nat × Bool)} {x y c : Operand} {u v : Value}
end
/-! ### Texts and bytes. -/
section
variable {P : Program} {E : En} {n : Nat} {C : World → Prop} {ρ : Sl0} {K K0 : Hp} {R L : List Atom} {d : Option Nat} {t : TypeId} {pos : String} {af : Array Edge} {g : Option (Nat × Bool)} {x y c : Operand} {u v : Value}
end
/-! ### Pointers to what is known, or nil. -/
section
variable {P : Program} {E : En} {n : Nat} {Φ : Post} {N : Sl0 → Hp → List Atom → Prop} {ρ : Sl0} {K K0 : Hp} {L R : List Atom} {ops : Array Oper} {C : World → Prop} {X : Act → World → Prop} {e : TypeId} {t : Tp} {b : Nat} {cs : List Value} {x : t.den}
end
section
variable {P : Program} {n : Nat} {C : World → Prop} {ρ : Sl0} {d : Option Nat} {t : TypeId} {pos : String} {af : Array Edge} {g : Option (Nat × Bool)} {x y : Operand} {tx ty e : TypeId} {K : Hp} {tp : Tp} {v : Value}
end
end Go.Proofs.Ytbaaamdljojknaa
