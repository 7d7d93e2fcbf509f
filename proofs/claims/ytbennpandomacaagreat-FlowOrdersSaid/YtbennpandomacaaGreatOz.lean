/- Functions held against nil; slices made, cut, copied; texts and bytes. Nothing of the program is here. -/
import Derived.Test.YtbennpandomacaaGreatOy
import Derived.Laws.BytesString
import Derived.Laws.MakeOwn
namespace Go.Proofs.YtbennpandomacaaGreat
open Go.RowKit
set_option linter.unusedVariables false
section
variable {P : Program} {n : Nat} {C : World → Prop} {ρ : Sl0} {d : Option Nat} {t : TypeId} {pos : String} {af : Array Edge} {g : Option (Nat × Bool)} {x y : Operand} {tx ty : TypeId}
end
/-! ### What comes with fuel enough. -/
noncomputable def lev {α : Type} (g : Nat → Option α) : Option α := open Classical in if h : ∃ r N, ∀ n, N ≤ n → g n = some r then some h.choose else none
theorem lev_some {α : Type} {g : Nat → Option α} {r : α} (h : lev g = some r) : ∃ n, g n = some r := by
  unfold lev at h
  split at h
  · rename_i hex
    obtain ⟨N, hN⟩ := hex.choose_spec
    exact ⟨N, (hN N (Nat.le_refl _)).trans h⟩
  · cases h
theorem lev_eq {α : Type} {g : Nat → Option α} {r : α} (N : Nat) (h : ∀ n, N ≤ n → g n = some r) : lev g = some r := by
  unfold lev
  have hex : ∃ r N, ∀ n, N ≤ n → g n = some r := ⟨r, N, h⟩
  rw [dif_pos hex]
  obtain ⟨M, hM⟩ := hex.choose_spec
  have h1 := hM (max N M) (Nat.le_max_right _ _)
  rw [h (max N M) (Nat.le_max_left _ _)] at h1
  exact h1.symm
/-! ### Made rows. -/
def mk {α : Type} (len cap : Int) (z : α) : Option (List α) := if 0 ≤ len ∧ len ≤ cap ∧ cap ≤ 1073741824 then some (List.replicate len.toNat z) else none
theorem mk_some {α : Type} {len cap : Int} {z : α} {r : List α} (h : mk len cap z = some r) : 0 ≤ len ∧ len ≤ cap ∧ cap ≤ 1073741824 ∧ List.replicate len.toNat z = r := by
  unfold mk at h; split at h
  · rename_i hh; cases h; exact ⟨hh.1, hh.2.1, hh.2.2, rfl⟩
  · cases h
theorem mk_eq {α : Type} {len cap : Int} {z : α} (h1 : 0 ≤ len) (h2 : len ≤ cap) (h3 : cap ≤ 1073741824) : mk len cap z = some (List.replicate len.toNat z) := by unfold mk; rw [if_pos ⟨h1, h2, h3⟩]
theorem mkN {α : Type} {k : Nat} {z : α} (h : k ≤ 1073741824) : mk (k : Int) (k : Int) z = some (List.replicate k z) := by rw [mk_eq (by omega) (by omega) (by omega)]; simp
theorem Els.zrow {K : Hp} {t : Tp} {z : List Value} {x : t.den} (h : Is K t z x) : ∀ n, Els K t (zrow n z) (List.replicate n x)
  | 0 => rfl
  | n + 1 => ⟨z, _, rfl, h, Els.zrow h n⟩
theorem zrow_take (z : List Value) : ∀ (n m : Nat), n ≤ m → (zrow m z).take (n * z.length) = zrow n z
  | 0, m, _ => by simp [zrow]
  | n + 1, m + 1, h => by
    unfold zrow
    rw [Nat.succ_mul, Nat.add_comm, List.take_length_add_append, zrow_take z n m (by omega)]
section
variable {P : Program} {E : En} {n : Nat} {ρ : Sl0} {K : Hp} {L : List Atom} {d : Nat} {t : TypeId} {pos : String} {af : Array Edge} {g : Option (Nat × Bool)} {x y c : Operand} {u v : Value}
theorem A.make {s e : TypeId} {z : Value} {sz bt : Nat} {len cap : Int} {k1 k2 : IntKind} {K0 : Hp} {ty : Tp} {x0 : ty.den} (hs : P.underlying s = some (.slice e)) (hi : Inf P e z sz bt) (hty : ty.size = sz) (hz0 : Is K0 ty z.cells.toList x0) (hpos : 0 < sz) (hbt : bt ≤ 100000)
    (hx : ev n ρ x = .int k1 len) (hy : ev n ρ y = .int k2 cap) {zs : List ty.den} (hz : mk len cap x0 = some zs) :
    Ao P E n ⟨some d, .makeSlice s x y, t, pos, af, g⟩ ρ K L (fun ρ' K' L' => ∃ b, ρ' = upd ρ d (.slice (some ⟨b, 0, none⟩) zs.length cap.toNat) ∧ K = K' ∧ L' = Row K0 e ty (.slice (some ⟨b, 0, none⟩) zs.length cap.toNat) zs :: L) :=
  Ao.of rfl (fun w hsep => by
    obtain ⟨h1, h2, h3, rfl⟩ := mk_some hz
    obtain ⟨i, i1, i2, i3, i4⟩ := hi.open
    have hzl : z.cells.toList.length = sz := by rw [hz0.len, hty]
    have hb : (i.bytes : Int) * cap ≤ 281474976710656 := by
      have a1 : (i.bytes : Int) ≤ 100000 := by omega
      have a2 : (i.bytes : Int) * cap ≤ 100000 * cap := Int.mul_le_mul_of_nonneg_right a1 (by omega)
      omega
    have hr := run_make (P := P) w s e i z hs i1 i2 k1 k2 len cap h1 h2 hb (by omega)
    have hc : madeCells z.cells (cap.toNat * i.size) = (zrow cap.toNat z.cells.toList).toArray := by
      have e := zrow_eq z.cells (by rw [← Array.length_toList]; omega) cap.toNat
      unfold madeCells
      rw [i3]
      rw [show sz = z.cells.size by rw [← Array.length_toList]; omega]
      exact e
    rw [hc] at hr
    have hsz : i.size = sz := i3
    have hrow : Sep E K (Row K0 e ty (.slice (some ⟨w.heap.size, 0, none⟩) (List.replicate len.toNat x0).length cap.toNat) (List.replicate len.toNat x0) :: L) (w.alloc (.cells (zrow cap.toNat z.cells.toList).toArray e)) := by
      refine (Sep.alloc hsep e (zrow cap.toNat z.cells.toList).toArray).mono (fun h hh => ?_)
      obtain rfl : h = _ := hh
      refine ⟨zrow len.toNat z.cells.toList, Els.zrow hz0 _, by rw [zrow_len, List.length_replicate, hzl, hty], .inr ⟨w.heap.size, cap.toNat, (zrow cap.toNat z.cells.toList).toArray, by simp, by simp, by simp; omega, by unfold maxLen; omega, by rw [List.size_toArray, zrow_len, hzl, hty], ?_⟩⟩
      rw [List.length_replicate, hty, ← hzl]
      exact zrow_take _ _ _ (by omega)
    refine ⟨.slice (some ⟨w.heap.size, 0, none⟩) len.toNat cap.toNat, _, K, _, ?_, hrow, w.heap.size, by simp, rfl, rfl⟩
    simp [execOp, hx, hy, hr])
end
/-- One element in the place of another, whole. -/
theorem Els.put {K : Hp} {t : Tp} : ∀ {xs : List t.den} {cs : List Value}, Els K t cs xs → ∀ (i : Nat) (y : t.den) (ds : List Value), i < xs.length → Is K t ds y → Els K t (cs.take (i * t.size) ++ ds ++ cs.drop (i * t.size + t.size)) (xs.set i y)
  | [], cs, h, i, y, ds, hi, _ => by simp at hi
  | z :: xs, cs, h, 0, y, ds, hi, hd => by
    obtain ⟨es, r, rfl, h1, h2⟩ := h
    refine ⟨ds, r, ?_, hd, h2⟩
    rw [Nat.zero_mul, Nat.zero_add, List.take_zero, List.nil_append, ← h1.len, List.drop_left]
  | z :: xs, cs, h, i + 1, y, ds, hi, hd => by
    obtain ⟨es, r, rfl, h1, h2⟩ := h
    refine ⟨es, _, ?_, h1, Els.put h2 i y ds (by simpa using hi) hd⟩
    have e : (i + 1) * t.size = es.length + i * t.size := by rw [h1.len, Nat.succ_mul, Nat.add_comm]
    rw [e, List.take_length_add_append, Nat.add_assoc, ← List.drop_drop (i := i * t.size + t.size) (j := es.length), List.drop_left]
    simp only [List.append_assoc]
section
variable {P : Program} {E : En} {n : Nat} {ρ : Sl0} {K : Hp} {L : List Atom} {d : Nat} {t : TypeId} {pos : String} {af : Array Edge} {g : Option (Nat × Bool)} {x y c : Operand} {u v : Value}
theorem A.storeE {s e : TypeId} {ad : Option Addr} {b j m cap sz : Nat} {K0 Kr : Hp} {ty : Tp} {xs : List ty.den} {x0 y0 : ty.den} {o : Nat} {ds : List Value} (hz : (P.info? s).map (·.size) = some sz) (hx : ev n ρ x = .pointer (some ⟨b, o, none⟩)) (hy : ev n ρ y = v) (hl : v.cells.toList = ds) (h1' : ds.all (fun u => u.oneCell') = true) (he : ad = some ⟨b, 0, none⟩)
    (hj : xs[j]? = some x0) (ho : o = j * ty.size) (hsz : sz = ty.size) (hd : Is Kr ty ds y0) (f0 : ∀ {xs cs}, Els K0 ty cs xs → Els Kr ty cs xs) {zs : List ty.den} (hzs : xs.set j y0 = zs) :
    Ao P E n ⟨none, .store s x y, t, pos, af, g⟩ ρ K (Row K0 e ty (.slice ad m cap) xs :: L) (fun ρ' K' L' => ρ = ρ' ∧ K = K' ∧ L' = Row Kr e ty (.slice ad m cap) zs :: L) :=
  Ao.ofU rfl (fun w hsep => by
    subst hzs
    subst he
    have h1 : ∀ u ∈ ds, u.oneCell' = true := List.all_eq_true.1 h1'
    obtain ⟨h, ⟨cs, h2, hlen, h3⟩, hd0, hs2⟩ := hsep
    rcases h3 with ⟨h3, _⟩ | ⟨gb, cp, cur, h3, rfl, h4, h5, h6, h7⟩
    · cases h3
    simp only [Value.slice.injEq, Option.some.injEq, Addr.mk.injEq, and_true] at h3
    obtain ⟨rfl, hm, rfl⟩ := h3
    have hblk : w.heap[b]? = some (.cells cur e (0, 0)) := hs2.sub b _ (Hp.join_right (one_of b _) (hd0 b _ (one_of b _)))
    have hjx : j < xs.length := (List.getElem?_eq_some_iff.1 hj).1
    have hle : (j + 1) * ty.size ≤ xs.length * ty.size := Nat.mul_le_mul_right _ (by omega)
    have hle2 : xs.length * ty.size ≤ cap * ty.size := Nat.mul_le_mul_right _ (by omega)
    rw [Nat.succ_mul] at hle
    have hdl : ds.length = ty.size := hd.len
    have hcl : cs.length = xs.length * ty.size := hlen
    have hcz : cur.toList.length = cap * ty.size := by rw [Array.length_toList]; exact h6
    have L1 : (cur.toList.take (j * ty.size)).length = j * ty.size := by rw [List.length_take, hcz]; omega
    have L2 : (cs.take (j * ty.size)).length = j * ty.size := by rw [List.length_take, hcl]; omega
    have hvs : v.cells.size = ds.length := by rw [← hl, Array.length_toList]
    subst hsz
    subst ho
    cases hi : P.info? s with
    | none => rw [hi] at hz; simp at hz
    | some i' =>
      rw [hi] at hz
      simp at hz
      have h8 := run_storeCells_at P b (j * ty.size) e ds 0 cur w hblk (by rw [hdl, ← Array.length_toList, hcz]; omega) h1
      simp only [Nat.add_zero] at h8
      refine ⟨w.setRow b (cur.toList.take (j * ty.size) ++ ds ++ cur.toList.drop (j * ty.size + ds.length)).toArray, K, _, ?_, ?_, rfl, rfl, rfl⟩
      · simp [execOp, hx, hy, Instr.storeAt, Instr.sureAddr, storeVar, sizeOf, typeInfo, hi, hz, hvs, hdl, hl]
        rw [hdl] at h8
        rw [h8]; simp
      · refine Sep.turn (A := fun h => h = one b (.cells cur e (0, 0))) ⟨_, rfl, hd0, hs2⟩ (fun e => e) (fun h0 ha _ => ?_)
        obtain rfl : h0 = _ := ha
        refine ⟨one b (.cells (cur.toList.take (j * ty.size) ++ ds ++ cur.toList.drop (j * ty.size + ds.length)).toArray e (0, 0)), ⟨cs.take (j * ty.size) ++ ds ++ cs.drop (j * ty.size + ty.size), (f0 h2).put j y0 ds hjx hd, ?_, .inr ⟨b, cap, _, by simp [hm], rfl, by simpa using h4, h5, ?_, ?_⟩⟩, fun n o' e' => ?_, fun n o' e' h1 => ?_⟩
        · rw [List.length_append, List.length_append, L2, List.length_drop, hcl, hdl, List.length_set]; omega
        · rw [List.size_toArray, List.length_append, List.length_append, L1, List.length_drop, hcz, hdl]; omega
        · rw [List.length_set, ← h7]
          rw [List.take_take, Nat.min_eq_left (by omega), List.append_assoc, List.take_append, List.take_append, L1, List.take_take, Nat.min_eq_right (by omega), List.take_of_length_le (l := ds) (by omega), List.drop_take, hdl, List.append_assoc, Nat.sub_sub]
        · obtain ⟨rfl, rfl⟩ := one_some e'
          exact ⟨setRow_heap w n _ _ e (0, 0) hblk, fun h => by rw [one_of] at h; cases h⟩
        · have hn : n ≠ b := fun e => by subst e; rw [one_of] at h1; cases h1
          rw [setRow_other w b n _ hn]; exact e')
end
/-! ### Texts and bytes. -/
section
variable {P : Program} {E : En} {n : Nat} {C : World → Prop} {ρ : Sl0} {K K0 : Hp} {R L : List Atom} {d : Option Nat} {t : TypeId} {pos : String} {af : Array Edge} {g : Option (Nat × Bool)} {x y c : Operand} {u v : Value}
end
/-! ### Pointers to what is known, or nil. -/
theorem Is.psome {K : Hp} {t : Tp} {x : Option t.den} {y : t.den} : ∀ {v : Value}, Is K (.ptr t) [v] x → x = some y → ∃ b o, v = .pointer (some ⟨b, o, none⟩) ∧ At K t b o y := fun h e => by subst e; exact h.ptr
theorem Is.ptr_nil {K : Hp} {t : Tp} : Is K (.ptr t) [.pointer none] (none : Option t.den) := .inl ⟨rfl, rfl⟩
theorem At.is_ptr {K : Hp} {t : Tp} {b o : Nat} {y : t.den} (h : At K t b o y) : Is K (.ptr t) [.pointer (some ⟨b, o, none⟩)] (some y) := by
  obtain ⟨es, h1, h2, h3⟩ := h
  exact .inr ⟨y, b, o, rfl, rfl, es, h1, h2, h3⟩
/-- A block whose cells hold a datum is made known for good. -/
theorem Sep.persistAt {E : En} {K : Hp} {L : List Atom} {w : World} {b : Nat} {e : TypeId} {t : Tp} {cs : List Value} {x : t.den} (h : Is K t cs x) (hs : Sep E K (Cl b e cs :: L) w) : ∃ K', K.le K' ∧ At K' t b 0 x ∧ Sep E K' L w := by
  obtain ⟨K', h1, h2, h3⟩ := hs.persistCl
  refine ⟨K', h1, ⟨cs, h.len, h.mono h1, fun j hj => ?_⟩, h3⟩
  have hj' : j < cs.length := by rw [h.len]; exact hj
  rw [List.getElem?_eq_getElem hj', Nat.zero_add]
  exact h2 j _ (List.getElem?_eq_getElem hj')
section
variable {P : Program} {E : En} {n : Nat} {Φ : Post} {N : Sl0 → Hp → List Atom → Prop} {ρ : Sl0} {K K0 : Hp} {L R : List Atom} {ops : Array Oper} {C : World → Prop} {X : Act → World → Prop} {e : TypeId} {t : Tp} {b : Nat} {cs : List Value} {x : t.den}
theorem J.persistAt {l : List Oper} (k : Is K t cs x) (h : ∀ K', K.le K' → At K' t b 0 x → J P E n ops l Φ ρ K' L) : J P E n ops l Φ ρ K (Cl b e cs :: L) := ⟨fun w hs => let ⟨K', h1, h2, h3⟩ := hs.persistAt k; (h K' h1 h2).go w h3⟩
theorem CJ.persistAt {c : Code} (k : Is K t cs x) (h : ∀ K', K.le K' → At K' t b 0 x → CJ P E n c Φ ρ K' L) : CJ P E n c Φ ρ K (Cl b e cs :: L) := ⟨fun w hs => let ⟨K', h1, h2, h3⟩ := hs.persistAt k; (h K' h1 h2).go w h3⟩
theorem PJ.persistAt (k : Is K t cs x) (h : ∀ K', K.le K' → At K' t b 0 x → PJ E N ρ K' L) : PJ E N ρ K (Cl b e cs :: L) := ⟨fun w hs => let ⟨K', h1, h2, h3⟩ := hs.persistAt k; (h K' h1 h2).go w h3⟩
theorem JA.persistAt {o : Oper} {r : List (List Oper × Oper)} (k : Is K t cs x) (h : ∀ K', K.le K' → At K' t b 0 x → JA P E n ops C X o r ρ K' L) : JA P E n ops C X o r ρ K (Cl b e cs :: L) := ⟨fun w hs => let ⟨K', h1, h2, h3⟩ := hs.persistAt k; (h K' h1 h2).go w h3⟩
end
section
variable {P : Program} {n : Nat} {C : World → Prop} {ρ : Sl0} {d : Option Nat} {t : TypeId} {pos : String} {af : Array Edge} {g : Option (Nat × Bool)} {x y : Operand} {tx ty e : TypeId} {K : Hp} {tp : Tp} {v : Value}
theorem V.kp_eql {q : Option tp.den} (ht : P.underlying tx = some (.pointer e)) (h : Is K (.ptr tp) [v] q) (hx : ev n ρ x = v) (hy : ev n ρ y = .pointer none) : Val P n C ρ ⟨d, .binOp .eql tx x y ty, t, pos, af, g⟩ (.bool q.isNone) := by
  cases q with
  | none => obtain rfl := h.ptr0; exact V.pn_eql ht hx hy
  | some z => obtain ⟨b, o, rfl, _⟩ := h.ptr; exact V.pn_eql ht hx hy
end
end Go.Proofs.YtbennpandomacaaGreat
