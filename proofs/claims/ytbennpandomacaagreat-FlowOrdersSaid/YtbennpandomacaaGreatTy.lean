/- Data of ints, bools, strings, slices, structs and pointers to what does not change: what cells hold them, and that an argument's reading gives them. Nothing of the program is here. -/
import Derived.Test.YtbennpandomacaaGreatSj
import Derived.Deep.Slices
namespace Go.Proofs.YtbennpandomacaaGreat
open Go.ChangeShapes Go.WideShapes Go.RowKit Go.Deep
open Go.ChangeMaps (open_string)
set_option linter.unusedVariables false
inductive Tp where
  | int (k : IntKind)
  | bool
  | str
  | sl (e : Tp)
  | ptr (e : Tp)
  | emp
  | one (a : Tp)
  | cons (a r : Tp)
namespace Tp
abbrev den : Tp → Type
  | .int _ => Int
  | .bool => Bool
  | .str => List UInt8
  | .sl e => List e.den
  | .ptr e => Option e.den
  | .emp => Unit
  | .one a => a.den
  | .cons a r => a.den × r.den
def size : Tp → Nat
  | .emp => 0
  | .one a => a.size
  | .cons a r => a.size + r.size
  | _ => 1
mutual
def has (P : Program) : Tp → TypeId → Bool
  | .int k, t => match P.underlying t with | some (.int k') => decide (k' = k) | _ => false
  | .bool, t => match P.underlying t with | some .bool => true | _ => false
  | .str, t => match P.underlying t with | some .string => true | _ => false
  | .sl e, t => match P.underlying t with | some (.slice e') => has P e e' && decide (P.cellsOf e' = e.size) && decide (0 < e.size) | _ => false
  | .ptr _, _ => false
  | .emp, t => match P.underlying t with | some (.struct fs) => fs.toList.isEmpty && decide (P.cellsOf t = 0) | _ => false
  | .one a, t => match P.underlying t with
    | some (.struct fs) => (match fs.toList with | [f] => decide (f.offset = 0) && decide (P.cellsOf f.type = a.size) && has P a f.type | _ => false) && decide (P.cellsOf t = a.size)
    | _ => false
  | .cons a r, t => match P.underlying t with
    | some (.struct fs) => (match fs.toList with | f :: fs => decide (f.offset = 0) && decide (P.cellsOf f.type = a.size) && has P a f.type && hasAll P a.size r fs | [] => false) && decide (P.cellsOf t = a.size + r.size)
    | _ => false
def hasAll (P : Program) : Nat → Tp → List Field → Bool
  | _, .emp, [] => true
  | o, .one a, [f] => decide (f.offset = o) && decide (P.cellsOf f.type = a.size) && has P a f.type
  | o, .cons a r, f :: fs => decide (f.offset = o) && decide (P.cellsOf f.type = a.size) && has P a f.type && hasAll P (o + a.size) r fs
  | _, _, _ => false
end
/-- Ints are in range. -/
def Ok : (t : Tp) → t.den → Prop
  | .int k, n => (Lit.int k n).wf = true
  | .bool, _ => True
  | .str, s => s.length ≤ maxLen
  | .sl e, l => l.length ≤ maxLen ∧ ∀ x ∈ l, Ok e x
  | .ptr e, o => ∀ x, o = some x → Ok e x
  | .emp, _ => True
  | .one a, d => Ok a d
  | .cons a r, d => Ok a d.1 ∧ Ok r d.2
end Tp
def cellK (K : Hp) (b o : Nat) : Option Value := match K b with | some (.cells c _ _) => c[o]? | _ => none
theorem cellK_le {K K' : Hp} (h : K.le K') {b o : Nat} {v : Value} (k : cellK K b o = some v) : cellK K' b o = some v := by
  unfold cellK at *
  cases hK : K b with
  | none => rw [hK] at k; cases k
  | some x => rw [h b x hK]; rw [hK] at k; exact k
theorem cellK_world {K : Hp} {w : World} (h : K.le (Hp.of w)) {b o : Nat} {v : Value} (k : cellK K b o = some v) : w.cell? ⟨b, o, none⟩ = some v := by
  unfold cellK at k
  cases hK : K b with
  | none => rw [hK] at k; cases k
  | some x =>
    rw [hK] at k
    have := h b x hK
    unfold Hp.of at this
    cases x <;> simp_all [World.cell?]
theorem cellK_of {w : World} {b o : Nat} {v : Value} (k : w.cell? ⟨b, o, none⟩ = some v) : cellK (Hp.of w) b o = some v := by
  unfold World.cell? at k
  unfold cellK Hp.of
  simp only at k ⊢
  split at k
  · rename_i e; rw [e]; simpa using k
  · cases k
/-- The cells hold the datum. -/
def Is (K : Hp) : (t : Tp) → List Value → t.den → Prop
  | .int k, cs, n => cs = [.int k n]
  | .bool, cs, b => cs = [.bool b]
  | .str, cs, s => cs = [.string ⟨s.toArray⟩]
  | .sl e, cs, l => ∃ ad cap, cs = [.slice ad l.length cap] ∧ l.length ≤ cap ∧ cap ≤ maxLen ∧ (l ≠ [] → ∃ b o, ad = some ⟨b, o, none⟩ ∧
      ∀ k x, l[k]? = some x → ∃ es, es.length = e.size ∧ Is K e es x ∧ ∀ j, j < e.size → cellK K b (o + k * e.size + j) = es[j]?)
  | .ptr e, cs, d => (d = none ∧ cs = [.pointer none]) ∨ ∃ x b o, d = some x ∧ cs = [.pointer (some ⟨b, o, none⟩)] ∧ ∃ es, es.length = e.size ∧ Is K e es x ∧ ∀ j, j < e.size → cellK K b (o + j) = es[j]?
  | .emp, cs, _ => cs = []
  | .one a, cs, d => Is K a cs d
  | .cons a r, cs, d => ∃ c1 c2, cs = c1 ++ c2 ∧ c1.length = a.size ∧ Is K a c1 d.1 ∧ Is K r c2 d.2
theorem Is.len {K : Hp} : ∀ {t : Tp} {cs : List Value} {d : t.den}, Is K t cs d → cs.length = t.size
  | .int _, cs, d, h => by simp only [Is] at h; rw [h]; rfl
  | .bool, cs, d, h => by simp only [Is] at h; rw [h]; rfl
  | .str, cs, d, h => by simp only [Is] at h; rw [h]; rfl
  | .sl e, cs, d, h => by simp only [Is] at h; obtain ⟨_, _, h, _⟩ := h; rw [h]; rfl
  | .ptr e, cs, d, h => by simp only [Is] at h; rcases h with ⟨_, h⟩ | ⟨_, _, _, _, h, _⟩ <;> (rw [h]; rfl)
  | .emp, cs, d, h => by simp only [Is] at h; rw [h]; rfl
  | .one a, cs, d, h => Is.len (t := a) (by simpa only [Is] using h)
  | .cons a r, cs, d, h => by
    simp only [Is] at h
    obtain ⟨c1, c2, rfl, h1, _, h2⟩ := h
    simp [Tp.size, h1, Is.len h2]
theorem Is.mono {K K' : Hp} (f : K.le K') : ∀ {t : Tp} {cs : List Value} {d : t.den}, Is K t cs d → Is K' t cs d
  | .int _, cs, d, h => h
  | .bool, cs, d, h => h
  | .str, cs, d, h => h
  | .emp, cs, d, h => h
  | .one a, cs, d, h => by simp only [Is] at h ⊢; exact Is.mono f h
  | .sl e, cs, d, h => by
    simp only [Is] at h ⊢
    obtain ⟨ad, cap, h1, h2, h3, h4⟩ := h
    refine ⟨ad, cap, h1, h2, h3, fun hne => ?_⟩
    obtain ⟨b, o, hb, hk⟩ := h4 hne
    refine ⟨b, o, hb, fun k x hx => ?_⟩
    obtain ⟨es, hl, hi, hj⟩ := hk k x hx
    refine ⟨es, hl, Is.mono f hi, fun j hjl => ?_⟩
    have := hj j hjl
    rw [List.getElem?_eq_getElem (by omega)] at this ⊢
    exact cellK_le f this
  | .ptr e, cs, d, h => by
    simp only [Is] at h ⊢
    rcases h with h | ⟨x, b, o, h1, h2, es, hl, hi, hj⟩
    · exact .inl h
    · refine .inr ⟨x, b, o, h1, h2, es, hl, Is.mono f hi, fun j hjl => ?_⟩
      have := hj j hjl
      rw [List.getElem?_eq_getElem (by omega)] at this ⊢
      exact cellK_le f this
  | .cons a r, cs, d, h => by
    simp only [Is] at h ⊢
    obtain ⟨c1, c2, rfl, h1, h2, h3⟩ := h
    exact ⟨c1, c2, rfl, h1, Is.mono f h2, Is.mono f h3⟩
/-- At a place there lies the datum. -/
def At (K : Hp) (e : Tp) (b o : Nat) (x : e.den) : Prop := ∃ es, es.length = e.size ∧ Is K e es x ∧ ∀ j, j < e.size → cellK K b (o + j) = es[j]?
theorem Is.at {K : Hp} {e : Tp} {ad : Option Addr} {n cap : Nat} {l : List e.den} (h : Is K (.sl e) [.slice ad n cap] l) {i : Nat} {x : e.den} (hx : l[i]? = some x) : ∃ b o, ad = some ⟨b, o, none⟩ ∧ At K e b (o + i * e.size) x := by
  simp only [Is] at h
  obtain ⟨ad', cap', h0, _, _, h⟩ := h
  simp at h0
  obtain ⟨rfl, rfl, rfl⟩ := h0
  obtain ⟨b, o, rfl, h4⟩ := h (fun e => by rw [e] at hx; simp at hx)
  obtain ⟨es, h1, h2, h3⟩ := h4 i x hx
  exact ⟨b, o, rfl, es, h1, h2, h3⟩
theorem At.mono {K K' : Hp} (f : K.le K') {e : Tp} {b o : Nat} {x : e.den} (h : At K e b o x) : At K' e b o x := by
  obtain ⟨es, h1, h2, h3⟩ := h
  refine ⟨es, h1, h2.mono f, fun j hj => ?_⟩
  have := h3 j hj
  rw [List.getElem?_eq_getElem (by omega)] at this ⊢
  exact cellK_le f this
theorem At.fst {K : Hp} {a r : Tp} {b o : Nat} {x : (Tp.cons a r).den} (h : At K (.cons a r) b o x) : At K a b o x.1 := by
  obtain ⟨es, h1, h2, h3⟩ := h
  simp only [Is] at h2
  obtain ⟨c1, c2, rfl, hl, h4, h5⟩ := h2
  refine ⟨c1, hl, h4, fun j hj => ?_⟩
  rw [h3 j (by simp [Tp.size]; omega), List.getElem?_append_left (by omega)]
theorem At.snd {K : Hp} {a r : Tp} {b o : Nat} {x : (Tp.cons a r).den} (h : At K (.cons a r) b o x) : At K r b (o + a.size) x.2 := by
  obtain ⟨es, h1, h2, h3⟩ := h
  simp only [Is] at h2
  obtain ⟨c1, c2, rfl, hl, h4, h5⟩ := h2
  refine ⟨c2, h5.len, h5, fun j hj => ?_⟩
  rw [Nat.add_assoc, h3 (a.size + j) (by simp [Tp.size]; omega), List.getElem?_append_right (by omega)]
  congr 1; omega
theorem At.one {K : Hp} {a : Tp} {b o : Nat} {x : (Tp.one a).den} (h : At K (.one a) b o x) : At K a b o x := h
theorem At.int {K : Hp} {k : IntKind} {b o : Nat} {x : Int} (h : At K (.int k) b o x) : cellK K b o = some (.int k x) := by
  obtain ⟨es, h1, h2, h3⟩ := h
  simp only [Is] at h2; subst h2
  simpa using h3 0 (by simp [Tp.size])
theorem At.bool {K : Hp} {b o : Nat} {x : Bool} (h : At K .bool b o x) : cellK K b o = some (.bool x) := by
  obtain ⟨es, h1, h2, h3⟩ := h
  simp only [Is] at h2; subst h2
  simpa using h3 0 (by decide)
theorem At.str {K : Hp} {b o : Nat} {x : List UInt8} (h : At K .str b o x) : cellK K b o = some (.string ⟨x.toArray⟩) := by
  obtain ⟨es, h1, h2, h3⟩ := h
  simp only [Is] at h2; subst h2
  simpa using h3 0 (by decide)
theorem At.sl {K : Hp} {e : Tp} {b o : Nat} {x : List e.den} (h : At K (.sl e) b o x) : ∃ ad cap, cellK K b o = some (.slice ad x.length cap) ∧ Is K (.sl e) [.slice ad x.length cap] x := by
  obtain ⟨es, h1, h2, h3⟩ := h
  have h2' := h2
  simp only [Is] at h2
  obtain ⟨ad, cap, rfl, _⟩ := h2
  exact ⟨ad, cap, by simpa using h3 0 (by simp [Tp.size]), h2'⟩
theorem At.ptr {K : Hp} {e : Tp} {b o : Nat} {x : Option e.den} (h : At K (.ptr e) b o x) : ∃ v, cellK K b o = some v ∧ Is K (.ptr e) [v] x := by
  obtain ⟨es, h1, h2, h3⟩ := h
  have hl := h1
  match es, h1 with
  | [v], _ => exact ⟨v, by simpa using h3 0 (by simp [Tp.size]), h2⟩
theorem At.agg {K : Hp} {e : Tp} {b o : Nat} {x : e.den} (h : At K e b o x) : ∃ cs, Is K e cs x ∧ ∀ j v, cs[j]? = some v → cellK K b (o + j) = some v := by
  obtain ⟨es, h1, h2, h3⟩ := h
  refine ⟨es, h2, fun j v hv => ?_⟩
  rw [h3 j (by rw [← h1]; exact (List.getElem?_eq_some_iff.1 hv).1), hv]
/-- What lies behind a pointer to what does not change. -/
theorem Is.ptr {K : Hp} {e : Tp} {v : Value} {x : e.den} (h : Is K (.ptr e) [v] (some x)) : ∃ b o, v = .pointer (some ⟨b, o, none⟩) ∧ At K e b o x := by
  simp only [Is] at h
  rcases h with ⟨h, _⟩ | ⟨y, b, o, h1, h2, h3⟩
  · cases h
  · cases h1; simp at h2; exact ⟨b, o, h2, h3⟩
theorem Is.ptr0 {K : Hp} {e : Tp} {v : Value} (h : Is K (.ptr e) [v] none) : v = .pointer none := by
  simp only [Is] at h
  rcases h with ⟨_, h⟩ | ⟨y, b, o, h1, h2, h3⟩
  · simpa using h
  · cases h1
theorem Is.slv {K : Hp} {e : Tp} {v : Value} {l : List e.den} (h : Is K (.sl e) [v] l) : ∃ ad cap, v = .slice ad l.length cap := by
  simp only [Is] at h
  obtain ⟨ad, cap, h, _⟩ := h
  exact ⟨ad, cap, by simpa using h⟩
/-! ### Reading. -/
section
variable {H : Type} {enc : TypeId × Value → H} {P : Program} {W : World} {base : Nat} {spare : Nat → Bool} {held : Bool}
theorem Tp.list_ex {α : Type} {R : Nat → α → Prop} : ∀ n : Nat, (∀ k, k < n → ∃ x, R k x) → ∃ l : List α, l.length = n ∧ ∀ k x, l[k]? = some x → R k x
  | 0, _ => ⟨[], rfl, fun k x h => by simp at h⟩
  | n + 1, h => by
    obtain ⟨l, hl, hr⟩ := Tp.list_ex n (fun k hk => h k (by omega))
    obtain ⟨x, hx⟩ := h n (by omega)
    refine ⟨l ++ [x], by simp [hl], fun k y hy => ?_⟩
    rcases Nat.lt_trichotomy k n with hk | hk | hk
    · rw [List.getElem?_append_left (by omega)] at hy; exact hr k y hy
    · subst hk; subst hl; simp at hy; subst hy; exact hx
    · rw [List.getElem?_eq_none (by simp; omega)] at hy; simp at hy
mutual
theorem Tp.read : ∀ (ty : Tp) {t : TypeId} {fuel : Nat} {cs : List Value} {x : DataW H × List MemPlace}, ty.has P t = true → DataW.trod enc P W base spare held fuel t cs = some x → ∃ d : ty.den, Is (Hp.of W) ty cs d ∧ ty.Ok d
  | .int k, t, fuel, cs, x, hh, h => by
    unfold Tp.has at hh
    split at hh
    · rename_i k' ht
      simp at hh; subst hh
      obtain ⟨n, rfl, _, hw⟩ := DataW.trod_int ht h
      exact ⟨n, rfl, hw⟩
    · simp at hh
  | .bool, t, fuel, cs, x, hh, h => by
    unfold Tp.has at hh
    split at hh
    · rename_i ht
      obtain ⟨b, rfl, _⟩ := DataW.trod_bool ht h
      exact ⟨b, rfl, trivial⟩
    · simp at hh
  | .str, t, fuel, cs, x, hh, h => by
    unfold Tp.has at hh
    split at hh
    · rename_i ht
      obtain ⟨s, rfl, _, hs⟩ := DataW.trod_string ht h
      exact ⟨s.data.toList, rfl, by simpa [Tp.Ok] using hs⟩
    · simp at hh
  | .ptr e, t, fuel, cs, x, hh, h => by simp [Tp.has] at hh
  | .sl e, t, fuel, cs, x, hh, h => by
    unfold Tp.has at hh
    split at hh
    · rename_i e' ht
      simp only [Bool.and_eq_true, decide_eq_true_eq] at hh
      obtain ⟨⟨he, hc⟩, h0⟩ := hh
      rcases open_slice ht h with ⟨rfl, _⟩ | ⟨a, len, cap, m, n, D, Pl, rfl, hb, hl, hm, hmm, _, hi⟩
      · exact ⟨[], ⟨none, 0, rfl, by simp, by simp, fun h => absurd rfl h⟩, by simp, fun x hx => by simp at hx⟩
      · rw [hc] at hi
        have hall : ∀ k, k < len → ∃ x : e.den, e.Ok x ∧ ∃ es, es.length = e.size ∧ Is (Hp.of W) e es x ∧ ∀ j, j < e.size → W.cell? (a.add (k * e.size + j)) = es[j]? := fun k hk => by
          have hkm : k < m := by rw [hmm]; split <;> omega
          obtain ⟨cs', hcs, ht'⟩ := hi k hkm
          obtain ⟨d, hd, hok⟩ := Tp.read e he ht'
          obtain ⟨_, hlen, hcell⟩ := World.cells?_some hcs
          refine ⟨d, hok, cs', hlen, hd, fun j hj => ?_⟩
          rw [← hcell j hj, Go.Deep.add_add]
        obtain ⟨l, hlen, hl'⟩ := Tp.list_ex len hall
        refine ⟨l, ⟨some a, cap, by rw [hlen], by omega, hm, fun hne => ?_⟩, by omega, fun x hx => ?_⟩
        · have hpos : 0 < len := by rw [← hlen]; exact List.length_pos_iff.2 hne
          obtain ⟨x0, _, es0, hes, _, hc0⟩ := hall 0 hpos
          have hc00 := hc0 0 h0
          have hsome : ∃ v, W.cell? a = some v := by
            refine ⟨es0[0]'(by omega), ?_⟩
            have : a.add (0 * e.size + 0) = a := by simp [Addr.add]
            rw [this, List.getElem?_eq_getElem (by omega)] at hc00
            exact hc00
          obtain ⟨v0, hv0⟩ := hsome
          have hspot : a.spot = none := by
            cases hs : a.spot with
            | none => rfl
            | some s => simp [World.cell?, hs] at hv0; split at hv0 <;> simp at hv0
          obtain ⟨b, o, s⟩ := a
          simp only at hspot
          subst hspot
          refine ⟨b, o, rfl, fun k x hx => ?_⟩
          obtain ⟨_, es, h1, h2, h3⟩ := hl' k x hx
          refine ⟨es, h1, h2, fun j hj => ?_⟩
          have h4 := h3 j hj
          rw [List.getElem?_eq_getElem (by omega)] at h4 ⊢
          refine cellK_of ?_
          rw [← h4]
          simp only [Addr.add]
          split
          · congr 2; omega
          · congr 2; omega
        · obtain ⟨i, hi, rfl⟩ := List.getElem_of_mem hx
          exact (hl' i _ (List.getElem?_eq_getElem hi)).1
    · simp at hh
  | .emp, t, fuel, cs, x, hh, h => by
    unfold Tp.has at hh
    split at hh
    · rename_i fs ht
      simp only [Bool.and_eq_true, decide_eq_true_eq] at hh
      obtain ⟨_, _, _, _, hlen, _⟩ := DataW.trod_struct ht h
      exact ⟨(), List.length_eq_zero_iff.1 (by omega), trivial⟩
    · simp at hh
  | .one a, t, fuel, cs, x, hh, h => by
    unfold Tp.has at hh
    split at hh
    · rename_i fs ht
      simp only [Bool.and_eq_true, decide_eq_true_eq] at hh
      obtain ⟨hh, hC⟩ := hh
      split at hh
      · rename_i f hfs
        simp only [Bool.and_eq_true, decide_eq_true_eq] at hh
        obtain ⟨⟨h1, h2⟩, h3⟩ := hh
        obtain ⟨xs, n, _, _, hlen, hxl, hf⟩ := DataW.trod_struct ht h
        have hsz : fs.size = 1 := by rw [← Array.length_toList, hfs]; simp
        have hget : ∀ i, fs[i]? = [f][i]? := fun i => by rw [← hfs, Array.getElem?_toList]
        have t0 := hf 0 f (by rw [hget]; rfl)
        rw [h1, h2, List.drop_zero, List.getElem?_eq_getElem (by omega), List.take_of_length_le (by omega)] at t0
        exact Tp.read a h3 t0
      · simp at hh
    · simp at hh
  | .cons a r, t, fuel, cs, x, hh, h => by
    unfold Tp.has at hh
    split at hh
    · rename_i fs ht
      simp only [Bool.and_eq_true, decide_eq_true_eq] at hh
      obtain ⟨hh, hC⟩ := hh
      split at hh
      · rename_i f fs' hfs
        simp only [Bool.and_eq_true, decide_eq_true_eq] at hh
        obtain ⟨⟨⟨h1, h2⟩, h3⟩, h4⟩ := hh
        obtain ⟨xs, n, _, _, hlen, hxl, hf⟩ := DataW.trod_struct ht h
        have hsz : fs.size = fs'.length + 1 := by rw [← Array.length_toList, hfs]; simp
        have hget : ∀ i, fs[i]? = (f :: fs')[i]? := fun i => by rw [← hfs, Array.getElem?_toList]
        have t0 := hf 0 f (by rw [hget]; rfl)
        rw [h1, h2, List.drop_zero, List.getElem?_eq_getElem (by omega)] at t0
        obtain ⟨d0, hd0, ok0⟩ := Tp.read a h3 t0
        obtain ⟨d1, hd1, ok1⟩ := Tp.readAll a.size r fs' (cs := cs.drop a.size) (all := cs) h4 (by rw [List.length_drop]; omega) (fun i g hg => by
          have t1 := hf (i + 1) g (by rw [hget]; exact hg)
          have hi : i < fs'.length := (List.getElem?_eq_some_iff.1 hg).1
          rw [List.getElem?_eq_getElem (by omega)] at t1
          exact ⟨n, _, t1⟩) rfl
        exact ⟨(d0, d1), ⟨cs.take a.size, cs.drop a.size, (List.take_append_drop _ _).symm, by rw [List.length_take]; omega, hd0, hd1⟩, ok0, ok1⟩
      · simp at hh
    · simp at hh
theorem Tp.readAll : ∀ (o : Nat) (ty : Tp) (fs : List Field) {cs all : List Value}, ty.hasAll P o fs = true → cs.length = ty.size →
    (∀ (i : Nat) (f : Field), fs[i]? = some f → ∃ n x, DataW.trod enc P W base spare held n f.type ((all.drop f.offset).take (P.cellsOf f.type)) = some x) → cs = all.drop o → ∃ d : ty.den, Is (Hp.of W) ty cs d ∧ ty.Ok d
  | o, .emp, [], cs, all, hh, hl, hf, hc => ⟨(), List.length_eq_zero_iff.1 hl, trivial⟩
  | o, .one a, [f], cs, all, hh, hl, hf, hc => by
    unfold Tp.hasAll at hh
    simp only [Bool.and_eq_true, decide_eq_true_eq] at hh
    obtain ⟨⟨h1, h2⟩, h3⟩ := hh
    obtain ⟨n, x, t0⟩ := hf 0 f rfl
    rw [h1, h2, ← hc, List.take_of_length_le (by rw [hl]; exact Nat.le_refl _)] at t0
    exact Tp.read a h3 t0
  | o, .cons a r, f :: fs, cs, all, hh, hl, hf, hc => by
    unfold Tp.hasAll at hh
    simp only [Bool.and_eq_true, decide_eq_true_eq] at hh
    obtain ⟨⟨⟨h1, h2⟩, h3⟩, h4⟩ := hh
    obtain ⟨n, x, t0⟩ := hf 0 f rfl
    rw [h1, h2, ← hc] at t0
    obtain ⟨d0, hd0, ok0⟩ := Tp.read a h3 t0
    have hl' : cs.length = a.size + r.size := hl
    obtain ⟨d1, hd1, ok1⟩ := Tp.readAll (o + a.size) r fs (cs := cs.drop a.size) (all := all) h4 (by simp; omega) (fun i g hg => hf (i + 1) g hg) (by rw [hc, List.drop_drop])
    exact ⟨(d0, d1), ⟨cs.take a.size, cs.drop a.size, by simp, by simp; omega, hd0, hd1⟩, ok0, ok1⟩
  | _, .int _, _, _, _, hh, _, _, _ => by simp [Tp.hasAll] at hh
  | _, .bool, _, _, _, hh, _, _, _ => by simp [Tp.hasAll] at hh
  | _, .str, _, _, _, hh, _, _, _ => by simp [Tp.hasAll] at hh
  | _, .sl _, _, _, _, hh, _, _, _ => by simp [Tp.hasAll] at hh
  | _, .ptr _, _, _, _, hh, _, _, _ => by simp [Tp.hasAll] at hh
  | _, .emp, _ :: _, _, _, hh, _, _, _ => by simp [Tp.hasAll] at hh
  | _, .one _, [], _, _, hh, _, _, _ => by simp [Tp.hasAll] at hh
  | _, .one _, _ :: _ :: _, _, _, hh, _, _, _ => by simp [Tp.hasAll] at hh
  | _, .cons _ _, [], _, _, hh, _, _, _ => by simp [Tp.hasAll] at hh
end
end
/-- A value of the type. -/
def IsV (K : Hp) : (t : Tp) → Value → t.den → Prop
  | .emp, v, x => ∃ cs : List Value, v = .agg cs.toArray ∧ Is K .emp cs x
  | .one a, v, x => ∃ cs : List Value, v = .agg cs.toArray ∧ Is K (.one a) cs x
  | .cons a r, v, x => ∃ cs : List Value, v = .agg cs.toArray ∧ Is K (.cons a r) cs x
  | .int k, v, x => Is K (.int k) [v] x
  | .bool, v, x => Is K .bool [v] x
  | .str, v, x => Is K .str [v] x
  | .sl e, v, x => Is K (.sl e) [v] x
  | .ptr e, v, x => Is K (.ptr e) [v] x
theorem IsV.mono {K K' : Hp} (f : K.le K') : ∀ {t : Tp} {v : Value} {d : t.den}, IsV K t v d → IsV K' t v d
  | .int _, v, d, h => Is.mono f (t := .int _) h
  | .bool, v, d, h => Is.mono f (t := .bool) h
  | .str, v, d, h => Is.mono f (t := .str) h
  | .sl e, v, d, h => Is.mono f (t := .sl e) h
  | .ptr e, v, d, h => Is.mono f (t := .ptr e) h
  | .emp, v, d, h => let ⟨cs, h1, h2⟩ := h; ⟨cs, h1, h2.mono f⟩
  | .one a, v, d, h => let ⟨cs, h1, h2⟩ := h; ⟨cs, h1, h2.mono f⟩
  | .cons a r, v, d, h => let ⟨cs, h1, h2⟩ := h; ⟨cs, h1, h2.mono f⟩
section
variable {H : Type} {enc : TypeId × Value → H} {P : Program} {W : World} {base b : Nat} {spare : Nat → Bool} {held : Bool} {r : Reach} {t : TypeId} {v : Value} {d : DataW H} {p : List MemPlace}
theorem Tp.arg (ty : Tp) (hh : ty.has P t = true) (hv : Value.okWide P W r b t v) (h : DataW.Trod enc P W base spare held t v d p) : ∃ x : ty.den, IsV (Hp.of W) ty v x ∧ ty.Ok x := by
  obtain ⟨f, hf⟩ := h
  have h2 := hh
  cases ty with
  | int k =>
    unfold Tp.has at hh
    split at hh
    · rename_i k' ht
      obtain ⟨n, rfl⟩ := okWide_int ht hv
      exact Tp.read (.int k) h2 hf
    · simp at hh
  | bool =>
    unfold Tp.has at hh
    split at hh
    · rename_i ht
      obtain ⟨n, rfl⟩ := okWide_bool ht hv
      exact Tp.read .bool h2 hf
    · simp at hh
  | str =>
    unfold Tp.has at hh
    split at hh
    · rename_i ht
      obtain ⟨n, rfl⟩ := okWide_string ht hv
      exact Tp.read .str h2 hf
    · simp at hh
  | ptr e => simp [Tp.has] at hh
  | sl e =>
    unfold Tp.has at hh
    split at hh
    · rename_i e' ht
      obtain ⟨a, n, c, rfl⟩ := okWide_slice ht hv
      exact Tp.read (.sl e) h2 hf
    · simp at hh
  | emp =>
    unfold Tp.has at hh
    split at hh
    · rename_i fs ht
      obtain ⟨cs, rfl, _⟩ := okWide_struct ht hv
      obtain ⟨x, hx, ok⟩ := Tp.read .emp h2 hf
      exact ⟨x, ⟨cs.toList, by simp, hx⟩, ok⟩
    · simp at hh
  | one a =>
    unfold Tp.has at hh
    split at hh
    · rename_i fs ht
      obtain ⟨cs, rfl, _⟩ := okWide_struct ht hv
      obtain ⟨x, hx, ok⟩ := Tp.read (.one a) h2 hf
      exact ⟨x, ⟨cs.toList, by simp, hx⟩, ok⟩
    · simp at hh
  | cons a q =>
    unfold Tp.has at hh
    split at hh
    · rename_i fs ht
      obtain ⟨cs, rfl, _⟩ := okWide_struct ht hv
      obtain ⟨x, hx, ok⟩ := Tp.read (.cons a q) h2 hf
      exact ⟨x, ⟨cs.toList, by simp, hx⟩, ok⟩
    · simp at hh
end
end Go.Proofs.YtbennpandomacaaGreat
