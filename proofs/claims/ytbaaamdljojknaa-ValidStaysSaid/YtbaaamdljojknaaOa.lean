/- Operations that make, write or call, judged. Nothing of the program is here. -/
import Derived.Test.YtbaaamdljojknaaOm
import Derived.Laws.CopyRow
import Derived.Laws.MakeOwn
import Derived.Shelf.Abstract
namespace Go.Proofs.Ytbaaamdljojknaa
open Go.RowKit
set_option linter.unusedVariables false
def Inf (P : Program) (e : TypeId) (z : Value) (size bytes : Nat) : Prop := (P.info? e).map (fun i => (i.zero, i.size, i.bytes)) = some (some z, size, bytes)
theorem Inf.open {P : Program} {e : TypeId} {z : Value} {size bytes : Nat} (h : Inf P e z size bytes) : ∃ i, P.info? e = some i ∧ i.zero = some z ∧ i.size = size ∧ i.bytes = bytes := by
  unfold Inf at h
  cases hi : P.info? e with
  | none => rw [hi] at h; simp at h
  | some i => rw [hi] at h; simp at h; exact ⟨i, rfl, h⟩
theorem Is.one' {K : Hp} : ∀ {t : Tp} {cs : List Value} {d : t.den}, Is K t cs d → ∀ u ∈ cs, u.oneCell' = true
  | .int _, cs, d, h => by simp only [Is] at h; subst h; intro u hu; simp at hu; subst hu; rfl
  | .bool, cs, d, h => by simp only [Is] at h; subst h; intro u hu; simp at hu; subst hu; rfl
  | .str, cs, d, h => by simp only [Is] at h; subst h; intro u hu; simp at hu; subst hu; rfl
  | .sl e, cs, d, h => by simp only [Is] at h; obtain ⟨_, _, rfl, _⟩ := h; intro u hu; simp at hu; subst hu; rfl
  | .ptr e, cs, d, h => by simp only [Is] at h; rcases h with ⟨_, rfl⟩ | ⟨_, _, _, _, rfl, _⟩ <;> (intro u hu; simp at hu; subst hu; rfl)
  | .emp, cs, d, h => by simp only [Is] at h; subst h; intro u hu; simp at hu
  | .one a, cs, d, h => Is.one' (t := a) (by simpa only [Is] using h)
  | .cons a r, cs, d, h => by
    simp only [Is] at h
    obtain ⟨c1, c2, rfl, h1, h2, h3⟩ := h
    intro u hu
    rcases List.mem_append.1 hu with hu | hu
    · exact Is.one' h2 u hu
    · exact Is.one' h3 u hu
theorem Els.one' {K : Hp} {t : Tp} : ∀ {xs : List t.den} {cs : List Value}, Els K t cs xs → ∀ u ∈ cs, u.oneCell' = true
  | [], cs, h => by subst h; intro u hu; simp at hu
  | x :: xs, cs, h => by
    obtain ⟨es, r, rfl, h1, h2⟩ := h
    intro u hu
    rcases List.mem_append.1 hu with hu | hu
    · exact h1.one' u hu
    · exact Els.one' h2 u hu
section
variable {E : En} {L : List Atom} {K : Hp} {w : World}
theorem one_of (b : Nat) (o : Obj) : one b o b = some o := by simp [one]
theorem Sep.setRow {b : Nat} {t : TypeId} {cs : List Value} (h : Sep E K (Cl b t cs :: L) w) (ds : List Value) : Sep E K (Cl b t ds :: L) (w.setRow b ds.toArray) := by
  have hb := h.cl
  refine Sep.turn h (fun e => e) (fun h0 ha _ => ?_)
  obtain rfl : h0 = _ := ha
  refine ⟨_, rfl, fun n o e => ?_, fun n o e h1 => ?_⟩
  · obtain ⟨rfl, rfl⟩ := one_some e
    exact ⟨setRow_heap w n _ _ t (0, 0) hb, fun h => by rw [one_of] at h; cases h⟩
  · have hn : n ≠ b := fun e => by subst e; rw [one_of] at h1; cases h1
    rw [setRow_other w b n _ hn]; exact e
end
/-! ### Filling, by lists. -/
def setAll : List Value → Nat → List Value → List Value
  | cs, _, [] => cs
  | cs, o, v :: vs => setAll (cs.set o v) (o + 1) vs
def fillL (place : Nat → Option (Nat × Nat)) : List Value → List (Nat × Value) → Option (List Value)
  | cs, [] => some cs
  | cs, (i, v) :: r => match place i with
    | none => none
    | some (off, size) => bif Nat.beq v.cells.toList.length size && Nat.ble (off + v.cells.toList.length) cs.length then fillL place (setAll cs off v.cells.toList) r else none
theorem setAll_foldl (off : Nat) : ∀ (vs : List Value) (k : Nat) (cells : Array Value), ((vs.zipIdx k).foldl (fun cs x => cs.setIfInBounds (off + x.2) x.1) cells).toList = setAll cells.toList (off + k) vs
  | [], k, cells => rfl
  | v :: vs, k, cells => by
    rw [List.zipIdx_cons, List.foldl_cons, setAll_foldl off vs (k + 1)]
    simp [setAll, Nat.add_assoc]
theorem fill_of {place : Nat → Option (Nat × Nat)} : ∀ {parts : List (Nat × Value)} {cells : Array Value} {ds : List Value}, fillL place cells.toList parts = some ds → Instr.fill place cells parts = some ds.toArray
  | [], cells, ds, h => by
    unfold fillL at h
    cases h
    unfold Instr.fill; simp
  | (i, v) :: r, cells, ds, h => by
    unfold fillL at h
    unfold Instr.fill
    cases hp : place i with
    | none => rw [hp] at h; cases h
    | some q =>
      obtain ⟨off, size⟩ := q
      rw [hp] at h
      simp only at h ⊢
      cases hb : (Nat.beq v.cells.toList.length size && Nat.ble (off + v.cells.toList.length) cells.toList.length) with
      | false => rw [hb] at h; cases h
      | true =>
        rw [hb] at h
        simp only [cond_true] at h
        rw [Bool.and_eq_true] at hb
        have h1 := Nat.eq_of_beq_eq_true hb.1
        have h2 := Nat.le_of_ble_eq_true hb.2
        simp only [Array.length_toList] at h1 h2
        have hn : ¬ ((decide (v.cells.size ≠ size) || decide (off + v.cells.size > cells.size)) = true) := by simp; omega
        rw [if_neg hn]
        apply fill_of
        have e : (Array.foldl (fun cs (x : Value × Nat) => cs.setIfInBounds (off + x.2) x.1) cells v.cells.zipIdx).toList = setAll cells.toList off v.cells.toList := by
          rw [← Array.foldl_toList, Array.toList_zipIdx]
          exact setAll_foldl off v.cells.toList 0 cells
        rw [e]
        exact h
def zrow : Nat → List Value → List Value
  | 0, _ => []
  | n + 1, z => z ++ zrow n z
theorem zrow_len (z : List Value) : ∀ n, (zrow n z).length = n * z.length
  | 0 => by simp [zrow]
  | n + 1 => by simp [zrow, zrow_len z n, Nat.succ_mul]; omega
theorem zrow_get (z : List Value) (hz : 0 < z.length) : ∀ (n i : Nat), i < n * z.length → (zrow n z)[i]? = z[i % z.length]?
  | 0, i, h => by simp at h
  | n + 1, i, h => by
    unfold zrow
    rw [Nat.succ_mul] at h
    rcases Nat.lt_or_ge i z.length with hi | hi
    · rw [List.getElem?_append_left hi, Nat.mod_eq_of_lt hi]
    · rw [List.getElem?_append_right hi, zrow_get z hz n (i - z.length) (by omega), Nat.mod_eq_sub_mod hi]
theorem zrow_eq (z : Array Value) (hz : 0 < z.size) (n : Nat) : (Array.range (n * z.size)).map (z[· % z.size]!) = (zrow n z.toList).toArray := by
  have hl : (zrow n z.toList).length = n * z.size := by rw [zrow_len, Array.length_toList]
  apply Array.ext
  · simp [hl]
  · intro i h1 h2
    simp at h1
    have h3 := zrow_get z.toList (by simpa using hz) n i (by simpa using h1)
    have hm : i % z.size < z.size := Nat.mod_lt _ hz
    simp only [Array.length_toList, Array.getElem?_toList, Array.getElem?_eq_getElem hm, List.getElem?_eq_getElem (show i < (zrow n z.toList).length by omega)] at h3
    simp only [Array.getElem_map, Array.getElem_range, List.getElem_toArray]
    rw [getElem!_pos z (i % z.size) hm]
    exact (Option.some.inj h3).symm
section
variable {P : Program} {E : En} {n : Nat} {ρ : Sl0} {K : Hp} {L : List Atom} {d : Nat} {t : TypeId} {pos : String} {af : Array Edge} {g : Option (Nat × Bool)} {x y c : Operand} {u v : Value}
/-- The form of all: the run hands a value and another world. -/
theorem Ao.of {o : Oper} {N : Sl0 → Hp → List Atom → Prop} (ho : o.dst = some d) (h : ∀ w, Sep E K L w → ∃ v w' K' L', (execOp (ev n ρ) o).run P w = .ok (.value v) w' ∧ Sep E K' L' w' ∧ N (upd ρ d v) K' L') : Ao P E n o ρ K L N := by
  refine ⟨fun w hs X Q hX => ?_⟩
  obtain ⟨v, w', K', L', h1, h2, h3⟩ := h w hs
  unfold Oper.wp
  rw [eval_act, h1, Oper.upon_value, ho, put_act]
  exact hX _ _ _ _ h3 h2
theorem A.alloc {e : TypeId} {z : Value} {sz bt : Nat} {cs : List Value} (hi : Inf P e z sz bt) (hcs : z.cells.toList = cs) : Ao P E n ⟨some d, .alloc e, t, pos, af, g⟩ ρ K L (fun ρ' K' L' => ∃ b, ρ' = upd ρ d (.pointer (some ⟨b, 0, none⟩)) ∧ K = K' ∧ L' = Cl b e cs :: L) :=
  Ao.of rfl (fun w hs => by
    subst hcs
    obtain ⟨i, h1, h2, _, _⟩ := hi.open
    refine ⟨_, _, K, _, ?_, Sep.alloc hs e z.cells, w.heap.size, rfl, rfl, rfl⟩
    simp [execOp, Instr.alloc, zeroValue, typeInfo, h1, h2, newVar, newRow])
theorem A.box {e : TypeId} {cs : List Value} (hx : ev n ρ x = v) (hcs : v.cells.toList = cs) : Ao P E n ⟨some d, .box e x, t, pos, af, g⟩ ρ K L (fun ρ' K' L' => ∃ b, ρ' = upd ρ d (.pointer (some ⟨b, 0, none⟩)) ∧ K = K' ∧ L' = Cl b e cs :: L) :=
  Ao.of rfl (fun w hs => by
    subst hcs
    refine ⟨_, _, K, _, ?_, Sep.alloc hs e v.cells, w.heap.size, rfl, rfl, rfl⟩
    simp [execOp, Instr.box, hx, newVar, newRow])
/-- A store into a block that is held. -/
theorem Ao.ofU {o : Oper} {N : Sl0 → Hp → List Atom → Prop} (ho : o.dst = none) (h : ∀ w, Sep E K L w → ∃ w' K' L', (execOp (ev n ρ) o).run P w = .ok .skip w' ∧ Sep E K' L' w' ∧ N ρ K' L') : Ao P E n o ρ K L N := by
  refine ⟨fun w hs X Q hX => ?_⟩
  obtain ⟨w', K', L', h1, h2, h3⟩ := h w hs
  unfold Oper.wp
  rw [eval_act, h1, Oper.upon_skip, ho]
  exact hX _ _ _ _ h3 h2
theorem A.store {s e : TypeId} {b o sz : Nat} {cs : List Value} (hz : (P.info? s).map (·.size) = some sz) (hx : ev n ρ x = .pointer (some ⟨b, o, none⟩)) (hy : ev n ρ y = v) (hl : v.cells.size = sz) (hl2' : Nat.ble (o + sz) cs.length = true) (h1' : v.cells.toList.all (fun u => u.oneCell') = true) {cs' : List Value} (hcs : cs.take o ++ v.cells.toList ++ cs.drop (o + sz) = cs') :
    Ao P E n ⟨none, .store s x y, t, pos, af, g⟩ ρ K (Cl b e cs :: L) (fun ρ' K' L' => ρ = ρ' ∧ K = K' ∧ L' = Cl b e cs' :: L) := by
  subst hcs
  have hl2 := Nat.le_of_ble_eq_true hl2'
  have h1 : ∀ u ∈ v.cells.toList, u.oneCell' = true := List.all_eq_true.1 h1'
  exact Ao.ofU rfl (fun w hs => by
    refine ⟨_, K, _, ?_, Sep.setRow hs _, rfl, rfl, rfl⟩
    cases hi : P.info? s with
    | none => rw [hi] at hz; simp at hz
    | some i' =>
      rw [hi] at hz
      simp at hz
      have h2 := run_storeCells_at P b o e v.cells.toList 0 cs.toArray w hs.cl (by simp [hl]; omega) h1
      simp only [Nat.add_zero, Array.length_toList, hl] at h2
      simp [execOp, hx, hy, Instr.storeAt, Instr.sureAddr, storeVar, sizeOf, typeInfo, hi, hz, hl, h2])
theorem A.store1 {s e : TypeId} {b o : Nat} {cs : List Value} (hz : (P.info? s).map (·.size) = some 1) (hx : ev n ρ x = .pointer (some ⟨b, o, none⟩)) (hy : ev n ρ y = v) (hl : v.cells = #[v]) (h1 : v.oneCell' = true) (hl2 : Nat.blt o cs.length = true) {cs' : List Value} (hcs : cs.set o v = cs') :
    Ao P E n ⟨none, .store s x y, t, pos, af, g⟩ ρ K (Cl b e cs :: L) (fun ρ' K' L' => ρ = ρ' ∧ K = K' ∧ L' = Cl b e cs' :: L) := by
  subst hcs
  rw [Nat.blt_eq] at hl2
  have h := A.store (P := P) (E := E) (n := n) (ρ := ρ) (K := K) (L := L) (t := t) (pos := pos) (af := af) (g := g) (e := e) (cs := cs) hz hx hy (by rw [hl]; rfl) (Nat.ble_eq_true_of_le (by omega)) (by rw [hl]; simp [h1]) rfl
  have e : cs.take o ++ v.cells.toList ++ cs.drop (o + 1) = cs.set o v := by
    rw [hl, List.set_eq_take_append_cons_drop, if_pos hl2]; simp
  rw [e] at h
  exact h
/-- A store of one cell into a row that is held. -/
theorem A.storeR {s e : TypeId} {ad : Option Addr} {b q j m cap : Nat} {K0 : Hp} {ty : Tp} {xs : List ty.den} {x0 y0 : ty.den} {o : Nat} (hz : (P.info? s).map (·.size) = some 1) (hx : ev n ρ x = .pointer (some ⟨b, o, none⟩)) (hy : ev n ρ y = v) (hl : v.cells = #[v]) (h1 : v.oneCell' = true) (he : ad = some ⟨b, 0, none⟩)
    (hj : xs[j]? = some x0) (ho : o = j * ty.size + q) (hq : q < ty.size) (hs : ∀ es, Is K0 ty es x0 → Is K0 ty (es.set q v) y0) {zs : List ty.den} (hz : xs.set j y0 = zs) :
    Ao P E n ⟨none, .store s x y, t, pos, af, g⟩ ρ K (Row K0 e ty (.slice ad m cap) xs :: L) (fun ρ' K' L' => ρ = ρ' ∧ K = K' ∧ L' = Row K0 e ty (.slice ad m cap) zs :: L) :=
  Ao.ofU rfl (fun w hsep => by
    subst hz
    subst he
    obtain ⟨h, ⟨cs, h2, hlen, h3⟩, hd, hs2⟩ := hsep
    rcases h3 with ⟨h3, _⟩ | ⟨gb, cp, cur, h3, rfl, h4, h5, h6, h7⟩
    · cases h3
    simp only [Value.slice.injEq, Option.some.injEq, Addr.mk.injEq, and_true] at h3
    obtain ⟨rfl, hm, rfl⟩ := h3
    have hblk : w.heap[b]? = some (.cells cur e (0, 0)) := hs2.sub b _ (Hp.join_right (one_of b _) (hd b _ (one_of b _)))
    have hjx : j < xs.length := (List.getElem?_eq_some_iff.1 hj).1
    have hle : (j + 1) * ty.size ≤ xs.length * ty.size := Nat.mul_le_mul_right _ (by omega)
    have hle2 : xs.length * ty.size ≤ cap * ty.size := Nat.mul_le_mul_right _ (by omega)
    rw [Nat.succ_mul] at hle
    have hoc : o < cur.size := by omega
    refine ⟨w.setRow b (cur.set o v hoc), K, _, ?_, ?_, rfl, rfl, rfl⟩
    · cases hi : P.info? s with
      | none => rw [hi] at hz; simp at hz
      | some i' =>
        rw [hi] at hz
        simp at hz
        have h8 := run_storeCells_at P b o e [v] 0 cur w hblk (by simp; omega) (by intro u hu; simp at hu; subst hu; exact h1)
        have h9 : (cur.toList.take o ++ [v] ++ cur.toList.drop (o + 1)).toArray = cur.set o v hoc := by
          apply Array.ext'
          rw [Array.toList_set, List.set_eq_take_append_cons_drop, if_pos (by simpa using hoc)]
          simp
        simp only [Nat.add_zero, List.length_cons, List.length_nil, Nat.zero_add] at h8
        rw [h9] at h8
        simp [execOp, hx, hy, Instr.storeAt, Instr.sureAddr, storeVar, sizeOf, typeInfo, hi, hz, hl, h8]
    · refine Sep.turn (A := fun h => h = one b (.cells cur e (0, 0))) ⟨_, rfl, hd, hs2⟩ (fun e => e) (fun h0 ha _ => ?_)
      obtain rfl : h0 = _ := ha
      refine ⟨one b (.cells (cur.set o v hoc) e (0, 0)), ⟨cs.set o v, ?_, by simp [hlen], .inr ⟨b, cap, _, by simp [hm], rfl, by simpa using h4, h5, by simpa using h6, ?_⟩⟩, fun n o' e' => ?_, fun n o' e' h1 => ?_⟩
      · rw [ho]; exact h2.set j x0 y0 hj q v hq hs
      · rw [List.length_set, Array.toList_set, List.take_set, h7]
      · obtain ⟨rfl, rfl⟩ := one_some e'
        exact ⟨setRow_heap w n _ _ e (0, 0) hblk, fun h => by rw [one_of] at h; cases h⟩
      · have hn : n ≠ b := fun e => by subst e; rw [one_of] at h1; cases h1
        rw [setRow_other w b n _ hn]; exact e')
/-- A slice literal. -/
theorem A.lit {s e : TypeId} {z : Value} {sz bt len : Nat} {parts : Array (Nat × Operand)} {cs0 : List Value} {K0 : Hp} {ty : Tp} {xs : List ty.den} (hs : P.underlying s = some (.slice e)) (hi : Inf P e z sz bt) (hty : ty.size = sz) (hbig : len * sz ≤ 16777216)
    (hzs : z.cells.size = sz) (hc0 : fillL (fun i => some (i * sz, sz)) (zrow len z.cells.toList) (parts.toList.map fun (i, x) => (i, ev n ρ x)) = some cs0) (hcs0 : cs0.length = len * sz) (he0 : Els K0 ty cs0 xs) (hlen : xs.length = len) (hpos : 0 < sz) :
    Ao P E n ⟨some d, .buildSlice s len parts, t, pos, af, g⟩ ρ K L (fun ρ' K' L' => ∃ b, ρ' = upd ρ d (.slice (some ⟨b, 0, none⟩) xs.length len) ∧ K = K' ∧ L' = Row K0 e ty (.slice (some ⟨b, 0, none⟩) xs.length len) xs :: L) :=
  Ao.of rfl (fun w hsep => by
    obtain ⟨i, h1, h2, h3, _⟩ := hi.open
    obtain ⟨cs, hcs', hcs, he⟩ : ∃ cs : Array Value, cs = cs0.toArray ∧ cs.size = len * sz ∧ Els K0 ty cs.toList xs := ⟨_, rfl, by simpa using hcs0, by simpa using he0⟩
    have hc : Instr.fill (fun i => some (i * sz, sz)) ((Array.range (len * sz)).map (z.cells[· % z.cells.size]!)) (parts.map fun (i, x) => (i, ev n ρ x)).toList = some cs := by
      have e := zrow_eq z.cells (by omega) len
      rw [hzs] at e
      simp only [hzs]
      rw [e, hcs']
      apply fill_of
      simpa using hc0
    refine ⟨.slice (some ⟨w.heap.size, 0, none⟩) xs.length len, _, K, _, ?_, (Sep.alloc hsep e cs).mono (fun h hh => ?_), w.heap.size, rfl, rfl, rfl⟩
    · have hb : ¬ (2 ^ 24 < len * sz) := by omega
      by_cases h0 : len * sz = 0
      · have hl0 : len = 0 := by rcases Nat.mul_eq_zero.1 h0 with h | h <;> omega
        subst hl0
        simp only [Nat.zero_mul] at hc
        have : Instr.fill (fun i => some (i * sz, sz)) #[] (List.map (fun x => (x.1, ev n ρ x.2)) parts.toList) = some cs := by simpa [Array.range] using hc
        simp [execOp, Instr.buildSlice, run_underlying hs, sizeOf, typeInfo, h1, h3, newRow, hlen, this, (show Array.range 0 = #[] from rfl)]
      · have hc' : Instr.fill (fun i => some (i * sz, sz)) ((Array.range (len * sz)).map (z.cells[· % z.cells.size]!)) (List.map (fun x => (x.1, ev n ρ x.2)) parts.toList) = some cs := by simpa using hc
        have hm : len ≠ 0 ∧ sz ≠ 0 := ⟨fun h => h0 (by simp [h]), fun h => h0 (by simp [h])⟩
        simp [execOp, Instr.buildSlice, run_underlying hs, sizeOf, typeInfo, h1, h2, h3, zeroValue, newRow, hlen, hb, hc']
        try (intro h; exact absurd h h0)
    · obtain rfl : h = _ := hh
      exact ⟨cs.toList, he, by simp [hcs, hlen, hty], .inr ⟨w.heap.size, len, cs, rfl, by simp, by omega, by unfold maxLen; have : len ≤ len * sz := Nat.le_mul_of_pos_right _ hpos; omega, by rw [hcs, hty], by rw [hlen, hty, ← hcs, ← Array.length_toList, List.take_length]⟩⟩)
end
end Go.Proofs.Ytbaaamdljojknaa
