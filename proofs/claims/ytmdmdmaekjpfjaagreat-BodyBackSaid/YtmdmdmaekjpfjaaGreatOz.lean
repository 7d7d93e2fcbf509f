import Derived.Test.YtmdmdmaekjpfjaaGreatOy
import Derived.Laws.BytesString
import Derived.Laws.MakeOwn
namespace Go.Proofs.YtmdmdmaekjpfjaaGreat
open Go.RowKit
set_option linter.unusedVariables false
section
variable {P : Program} {n : Nat} {C : World → Prop} {ρ : Sl0} {d : Option Nat} {t : TypeId} {pos : String} {af : Array Edge} {g : Option (Nat × Bool)} {x y : Operand} {tx ty : TypeId}
end
/-! ### What comes with fuel enough. -/
noncomputable def lev {α : Type} (g : Nat → Option α) : Option α := open Classical in if h : ∃ r N, ∀ n, N ≤ n → g n = some r then some h.choose else none
theorem lev_some {α : Type} {g : Nat → Option α} {r : α} (h : lev g = some r) : ∃ n, g n = some r := by
  unfold lev at h
  split at h
  · rename_i hex
    obtain ⟨N, hN⟩ := hex.choose_spec
    exact ⟨N, (hN N (Nat.le_refl _)).trans h⟩
  · cases h
theorem lev_eq {α : Type} {g : Nat → Option α} {r : α} (N : Nat) (h : ∀ n, N ≤ n → g n = some r) : lev g = some r := by
  unfold lev
  have hex : ∃ r N, ∀ n, N ≤ n → g n = some r := ⟨r, N, h⟩
  rw [dif_pos hex]
  obtain ⟨M, hM⟩ := hex.choose_spec
  have h1 := hM (max N M) (Nat.le_max_right _ _)
  rw [h (max N M) (Nat.le_max_left _ _)] at h1
  exact h1.symm
/-! ### Made rows. -/
def mk {α : Type} (len cap : Int) (z : α) : Option (List α) := if 0 ≤ len ∧ len ≤ cap ∧ cap ≤ 1073741824 then some (List.replicate len.toNat z) else none
section
variable {P : Program} {E : En} {n : Nat} {ρ : Sl0} {K : Hp} {L : List Atom} {d : Nat} {t : TypeId} {pos : String} {af : Array Edge} {g : Option (Nat × Bool)} {x y c : Operand} {u v : Value}
end
section
variable {P : Program} {E : En} {n : Nat} {ρ : Sl0} {K : Hp} {L : List Atom} {d : Nat} {t : TypeId} {pos : String} {af : Array Edge} {g : Option (Nat × Bool)} {x y c : Operand} {u v : Value}
end
/-! ### Texts and bytes. -/
def toU8 (l : List Int) : List UInt8 := l.map fun n => UInt8.ofNat n.toNat
theorem foldl_push8 : ∀ (ns : List Int) (s : ByteArray), ns.foldl (fun r n => r.push (UInt8.ofNat n.toNat)) s = ⟨s.data ++ (toU8 ns).toArray⟩
  | [], s => by simp [toU8]
  | n :: ns, s => by
    rw [List.foldl_cons, foldl_push8 ns]
    simp [ByteArray.push, toU8]
theorem els_u8 {K : Hp} {k : IntKind} : ∀ {cs : List Value} {xs : List Int}, Els K (.int k) cs xs → cs = xs.map (Value.int k)
  | cs, [], h => h
  | cs, x :: xs, h => by
    obtain ⟨es, r, rfl, h1, h2⟩ := h
    simp only [Is] at h1
    subst h1
    rw [els_u8 h2]; rfl
section
variable {P : Program} {E : En} {n : Nat} {C : World → Prop} {ρ : Sl0} {K K0 : Hp} {R L : List Atom} {d : Option Nat} {t : TypeId} {pos : String} {af : Array Edge} {g : Option (Nat × Bool)} {x y c : Operand} {u v : Value}
theorem run_b2s {w : World} {src dst e : TypeId} {ad : Option Addr} {m cp : Nat} {xs : List Int} (hs : P.underlying src = some (.slice e)) (he : P.underlying e = some (.int .u8)) (hd : P.underlying dst = some .string) (hl : m = xs.length)
    (h : ∀ b, ad = some b → ∀ j u, (xs.map (Value.int .u8))[j]? = some u → w.cell? (b.add j) = some u) (hn : ad = none → xs = []) : (convert src dst (.slice ad m cp)).run P w = .ok (.string ⟨(toU8 xs).toArray⟩) w := by
  rw [run_convert_bytes_string w src dst e ad m cp hs he hd]
  cases ad with
  | none => rw [hn rfl]; rfl
  | some b =>
    have h1 := run_loadCells_list (P := P) w b (xs.map (Value.int .u8)) (fun j u hj => h b rfl j u hj)
    rw [List.length_map, ← hl] at h1
    rw [run_bytesToString w b m cp xs h1, foldl_push8]
    simp
theorem V.b2sR (i : Nat) {src dst e e2 : TypeId} {ad : Option Addr} {m cp : Nat} {xs : List Int} (hi : R[i]? = some (Row K0 e2 (.int .u8) (.slice ad m cp) xs)) (hs : P.underlying src = some (.slice e)) (he : P.underlying e = some (.int .u8)) (hd : P.underlying dst = some .string) (hx : ev n ρ x = .slice ad m cp) :
    Val P n (Hold E K R) ρ ⟨d, .convert src dst x, t, pos, af, g⟩ (.string ⟨(toU8 xs).toArray⟩) := fun w ⟨K', L', h1, h2⟩ => by
  obtain ⟨h0, hr, h5, h6⟩ := Sep.front i (by rw [List.getElem?_append_left (List.getElem?_eq_some_iff.1 hi).1]; exact hi) h2
  obtain ⟨ad', cap', hv, _, _, hne⟩ := Row.form h0 hr
  simp only [Value.slice.injEq] at hv
  obtain ⟨rfl, rfl, rfl⟩ := hv
  obtain ⟨cs, a1, a2⟩ := hr
  obtain rfl := els_u8 a1
  have hc : ∀ b, ad = some b → ∀ j u, (xs.map (Value.int .u8))[j]? = some u → w.cell? (b.add j) = some u := fun b hb j u hj => by
    obtain ⟨g, cap, hv, hcell⟩ := a2.cells j u hj
    simp only [Value.slice.injEq] at hv
    rw [hb] at hv
    obtain ⟨hv, _⟩ := hv
    cases hv
    rw [addr_add, Nat.zero_add]
    exact cellK_world h6.sub (cellK_le (fun n o e => Hp.join_right e (h5 n o e)) hcell)
  have := run_b2s (P := P) (w := w) (cp := cp) hs he hd rfl hc (fun e => by
    subst e
    cases hxs : xs with
    | nil => rfl
    | cons a l => obtain ⟨g, hg⟩ := hne (by simp [hxs]); cases hg)
  simp [execOp, hx, this]
end
/-! ### Pointers to what is known, or nil. -/
section
variable {P : Program} {E : En} {n : Nat} {Φ : Post} {N : Sl0 → Hp → List Atom → Prop} {ρ : Sl0} {K K0 : Hp} {L R : List Atom} {ops : Array Oper} {C : World → Prop} {X : Act → World → Prop} {e : TypeId} {t : Tp} {b : Nat} {cs : List Value} {x : t.den}
end
section
variable {P : Program} {n : Nat} {C : World → Prop} {ρ : Sl0} {d : Option Nat} {t : TypeId} {pos : String} {af : Array Edge} {g : Option (Nat × Bool)} {x y : Operand} {tx ty e : TypeId} {K : Hp} {tp : Tp} {v : Value}
end
end Go.Proofs.YtmdmdmaekjpfjaaGreat
