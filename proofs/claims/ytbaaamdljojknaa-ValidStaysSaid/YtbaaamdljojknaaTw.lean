/- What is read is of no more weight than the form asks: lengths. Nothing of the program is here. -/
import Derived.Test.YtbaaamdljojknaaTy
namespace Go.Proofs.Ytbaaamdljojknaa
open Go.ChangeShapes Go.WideShapes Go.RowKit Go.Deep
set_option linter.unusedVariables false
namespace Tp
mutual
def heavy (P : Program) : Tp → TypeId → Bool
  | .sl e, t => match P.underlying t with | some (.slice e') => decide (0 < P.bytesOf e') && heavy P e e' | _ => false
  | .one a, t => match P.underlying t with | some (.struct fs) => (match fs.toList with | [f] => heavy P a f.type | _ => false) | _ => false
  | .cons a r, t => match P.underlying t with | some (.struct fs) => (match fs.toList with | f :: fs => heavy P a f.type && heavyAll P r fs | [] => false) | _ => false
  | _, _ => true
def heavyAll (P : Program) : Tp → List Field → Bool
  | .emp, [] => true
  | .one a, [f] => heavy P a f.type
  | .cons a r, f :: fs => heavy P a f.type && heavyAll P r fs
  | _, _ => false
end
/-- Lengths that memory has room for. -/
def Fit : (t : Tp) → t.den → Prop
  | .sl e, l => l.length ≤ 140737488351232 ∧ ∀ x ∈ l, Fit e x
  | .one a, d => Fit a d
  | .cons a r, d => Fit a d.1 ∧ Fit r d.2
  | _, _ => True
end Tp
theorem addr_add0 (b o m : Nat) : (⟨b, o, none⟩ : Addr).add m = ⟨b, o + m, none⟩ := by
  unfold Addr.add; split
  · rename_i h; subst h; rfl
  · rfl
section
variable {H : Type} {P : Program} {p : Nat → Bool}
theorem wEach : ∀ (ts : List TypeId) (ds : List (DataW H)), (DataW.weightsEach P ts ds).all p = true → ∀ (i : Nat) t d, ts[i]? = some t → ds[i]? = some d → (d.weights P t).all p = true
  | [], ds, h, i, t, d, ht, hd => by simp at ht
  | t :: ts, [], h, i, t', d, ht, hd => by simp at hd
  | t :: ts, d :: ds, h, 0, t', d', ht, hd => by
    simp at ht hd; subst ht; subst hd
    unfold DataW.weightsEach at h
    rw [List.all_append, Bool.and_eq_true] at h; exact h.1
  | t :: ts, d :: ds, h, i + 1, t', d', ht, hd => by
    unfold DataW.weightsEach at h
    rw [List.all_append, Bool.and_eq_true] at h
    exact wEach ts ds h.2 i t' d' (by simpa using ht) (by simpa using hd)
theorem wAll {e : TypeId} : ∀ (ds : List (DataW H)), (DataW.weightsAll P e ds).all p = true → ∀ d ∈ ds, (d.weights P e).all p = true
  | [], h, d, hd => by cases hd
  | d :: ds, h, d', hd => by
    unfold DataW.weightsAll at h
    rw [List.all_append, Bool.and_eq_true] at h
    rcases List.mem_cons.1 hd with rfl | hd
    · exact h.1
    · exact wAll ds h.2 d' hd
end
section
variable {H : Type} {enc : TypeId × Value → H} {P : Program} {W : World} {base : Nat} {spare : Nat → Bool} {held : Bool}
mutual
theorem Tp.fit : ∀ (ty : Tp) {t : TypeId} {fuel : Nat} {cs : List Value} {x : DataW H × List MemPlace} {d : ty.den}, ty.has P t = true → ty.heavy P t = true → DataW.trod enc P W base spare held fuel t cs = some x → Is (Hp.of W) ty cs d → (x.1.weights P t).all (· ≤ reachBytes) = true → ty.Fit d
  | .int k, _, _, _, _, _, _, _, _, _, _ => trivial
  | .bool, _, _, _, _, _, _, _, _, _, _ => trivial
  | .str, _, _, _, _, _, _, _, _, _, _ => trivial
  | .ptr e, _, _, _, _, _, _, _, _, _, _ => trivial
  | .emp, _, _, _, _, _, _, _, _, _, _ => trivial
  | .sl e, t, fuel, cs, x, d, hh, hv, h, hi, hw => by
    unfold Tp.has at hh
    unfold Tp.heavy at hv
    split at hh
    · rename_i e' ht
      rw [ht] at hv
      simp only [Bool.and_eq_true, decide_eq_true_eq] at hh hv
      obtain ⟨⟨he, hc⟩, h0⟩ := hh
      obtain ⟨hb0, hv⟩ := hv
      simp only [Is] at hi
      obtain ⟨ad, cp, hcs, hl1, hl2, hi⟩ := hi
      rcases open_slice ht h with ⟨rfl, rfl⟩ | ⟨a, len, cap, m, n, D, Pl, rfl, hb, hl, hm, hmm, rfl, hx⟩
      · simp only [List.cons.injEq, Value.slice.injEq, and_true] at hcs
        obtain ⟨_, hz, _⟩ := hcs
        obtain rfl : d = [] := List.length_eq_zero_iff.1 hz.symm
        exact ⟨by simp, fun x hx => by simp at hx⟩
      · simp only [List.cons.injEq, Value.slice.injEq, and_true] at hcs
        obtain ⟨rfl, hlen, rfl⟩ := hcs
        unfold DataW.weights at hw
        rw [ht] at hw
        simp only [List.all_cons, List.all_append, Bool.and_eq_true, decide_eq_true_eq, List.length_map, List.length_range] at hw
        obtain ⟨hw1, hw2, hw3⟩ := hw
        have hle : len ≤ (len + (m - len)) * P.bytesOf e' := by
          have : (len + (m - len)) * 1 ≤ (len + (m - len)) * P.bytesOf e' := Nat.mul_le_mul_left _ hb0
          omega
        have hr : reachBytes = 140737488351232 := by decide
        refine ⟨by omega, fun y hy => ?_⟩
        obtain ⟨k, hk, rfl⟩ := List.getElem_of_mem hy
        have hkl : k < len := by omega
        obtain ⟨b, o, hb', hes⟩ := hi (fun hn => by rw [hn] at hk; simp at hk)
        simp only [Option.some.injEq] at hb'
        subst hb'
        obtain ⟨es, hel, hie, hce⟩ := hes k d[k] (List.getElem?_eq_getElem hk)
        obtain ⟨cs', hcs', ht'⟩ := hx k (by rw [hmm]; split <;> omega)
        rw [hc] at hcs'
        obtain ⟨_, hlen', hcell⟩ := World.cells?_some hcs'
        have e : cs' = es := by
          apply List.ext_getElem?
          intro j
          by_cases hj : j < e.size
          · rw [← hcell j hj]
            have h1 := hce j hj
            rw [List.getElem?_eq_getElem (by omega)] at h1 ⊢
            have h2 := cellK_world (w := W) (Hp.le_refl _) h1
            rw [← h2, Go.Deep.add_add, addr_add0]
            congr 2; omega
          · rw [List.getElem?_eq_none (by omega), List.getElem?_eq_none (by omega)]
        subst e
        exact Tp.fit e he hv ht' hie (wAll _ hw2 _ (List.mem_map.2 ⟨k, List.mem_range.2 hkl, rfl⟩))
    · simp at hh
  | .one a, t, fuel, cs, x, d, hh, hv, h, hi, hw => by
    unfold Tp.has at hh
    unfold Tp.heavy at hv
    split at hh
    · rename_i fs ht
      rw [ht] at hv
      simp only [Bool.and_eq_true, decide_eq_true_eq] at hh
      obtain ⟨hh, hC⟩ := hh
      split at hh
      · rename_i f hfs
        simp only [hfs] at hv
        simp only [Bool.and_eq_true, decide_eq_true_eq] at hh hv
        obtain ⟨⟨h1, h2⟩, h3⟩ := hh
        obtain ⟨xs, n, _, rfl, hlen, hxl, hf⟩ := DataW.trod_struct ht h
        have hsz : fs.size = 1 := by rw [← Array.length_toList, hfs]; simp
        have hget : ∀ i, fs[i]? = [f][i]? := fun i => by rw [← hfs, Array.getElem?_toList]
        have t0 := hf 0 f (by rw [hget]; rfl)
        rw [h1, h2, List.drop_zero, List.getElem?_eq_getElem (by omega), List.take_of_length_le (by omega)] at t0
        unfold DataW.weights at hw
        simp only [ht, hfs] at hw
        exact Tp.fit a h3 hv t0 hi (wEach _ _ hw 0 _ _ rfl (by simp [List.getElem?_eq_getElem (show 0 < xs.length by omega)]))
      · simp at hh
    · simp at hh
  | .cons a r, t, fuel, cs, x, d, hh, hv, h, hi, hw => by
    unfold Tp.has at hh
    unfold Tp.heavy at hv
    split at hh
    · rename_i fs ht
      rw [ht] at hv
      simp only [Bool.and_eq_true, decide_eq_true_eq] at hh
      obtain ⟨hh, hC⟩ := hh
      split at hh
      · rename_i f fs' hfs
        simp only [hfs] at hv
        simp only [Bool.and_eq_true, decide_eq_true_eq] at hh hv
        obtain ⟨⟨⟨h1, h2⟩, h3⟩, h4⟩ := hh
        obtain ⟨xs, n, _, rfl, hlen, hxl, hf⟩ := DataW.trod_struct ht h
        have hsz : fs.size = fs'.length + 1 := by rw [← Array.length_toList, hfs]; simp
        have hget : ∀ i, fs[i]? = (f :: fs')[i]? := fun i => by rw [← hfs, Array.getElem?_toList]
        have t0 := hf 0 f (by rw [hget]; rfl)
        rw [h1, h2, List.drop_zero, List.getElem?_eq_getElem (by omega)] at t0
        unfold DataW.weights at hw
        simp only [ht, hfs] at hw
        simp only [Is] at hi
        obtain ⟨c1, c2, rfl, hl1, hi1, hi2⟩ := hi
        rw [List.take_left' hl1] at t0
        refine ⟨Tp.fit a h3 hv.1 t0 hi1 (wEach _ _ hw 0 _ _ rfl (by simp [List.getElem?_eq_getElem (show 0 < xs.length by omega)])), ?_⟩
        refine Tp.fitAll a.size r fs' (cs := c2) (all := c1 ++ c2) h4 hv.2 (fun i g hg => ?_) (by rw [List.drop_left' hl1]) hi2
        have t1 := hf (i + 1) g (by rw [hget]; exact hg)
        have hi' : i < fs'.length := (List.getElem?_eq_some_iff.1 hg).1
        rw [List.getElem?_eq_getElem (by omega)] at t1
        exact ⟨n, _, t1, wEach _ _ hw (i + 1) _ _ (by simp [hg]) (by simp [List.getElem?_eq_getElem (show i + 1 < xs.length by omega)])⟩
      · simp at hh
    · simp at hh
theorem Tp.fitAll : ∀ (o : Nat) (ty : Tp) (fs : List Field) {cs all : List Value} {d : ty.den}, ty.hasAll P o fs = true → ty.heavyAll P fs = true →
    (∀ (i : Nat) (f : Field), fs[i]? = some f → ∃ n x, DataW.trod enc P W base spare held n f.type ((all.drop f.offset).take (P.cellsOf f.type)) = some x ∧ (x.1.weights P f.type).all (· ≤ reachBytes) = true) → cs = all.drop o → Is (Hp.of W) ty cs d → ty.Fit d
  | o, .emp, [], cs, all, d, hh, hv, hf, hc, hi => trivial
  | o, .one a, [f], cs, all, d, hh, hv, hf, hc, hi => by
    unfold Tp.hasAll at hh
    unfold Tp.heavyAll at hv
    simp only [Bool.and_eq_true, decide_eq_true_eq] at hh
    obtain ⟨⟨h1, h2⟩, h3⟩ := hh
    obtain ⟨n, x, t0, w0⟩ := hf 0 f rfl
    have hl := Is.len (t := .one a) hi
    rw [h1, h2, ← hc, List.take_of_length_le (by rw [hl]; exact Nat.le_refl _)] at t0
    exact Tp.fit a h3 hv t0 hi w0
  | o, .cons a r, f :: fs, cs, all, d, hh, hv, hf, hc, hi => by
    unfold Tp.hasAll at hh
    unfold Tp.heavyAll at hv
    simp only [Bool.and_eq_true, decide_eq_true_eq] at hh hv
    obtain ⟨⟨⟨h1, h2⟩, h3⟩, h4⟩ := hh
    obtain ⟨n, x, t0, w0⟩ := hf 0 f rfl
    simp only [Is] at hi
    obtain ⟨c1, c2, rfl, hl1, hi1, hi2⟩ := hi
    rw [h1, h2, ← hc, List.take_left' hl1] at t0
    refine ⟨Tp.fit a h3 hv.1 t0 hi1 w0, Tp.fitAll (o + a.size) r fs (cs := c2) (all := all) h4 hv.2 (fun i g hg => hf (i + 1) g hg) (by rw [← List.drop_drop, ← hc, List.drop_left' hl1]) hi2⟩
  | _, .int _, _, _, _, _, hh, _, _, _, _ => by simp [Tp.hasAll] at hh
  | _, .bool, _, _, _, _, hh, _, _, _, _ => by simp [Tp.hasAll] at hh
  | _, .str, _, _, _, _, hh, _, _, _, _ => by simp [Tp.hasAll] at hh
  | _, .sl _, _, _, _, _, hh, _, _, _, _ => by simp [Tp.hasAll] at hh
  | _, .ptr _, _, _, _, _, hh, _, _, _, _ => by simp [Tp.hasAll] at hh
  | _, .emp, _ :: _, _, _, _, hh, _, _, _, _ => by simp [Tp.hasAll] at hh
  | _, .one _, [], _, _, _, hh, _, _, _, _ => by simp [Tp.hasAll] at hh
  | _, .one _, _ :: _ :: _, _, _, _, hh, _, _, _, _ => by simp [Tp.hasAll] at hh
  | _, .cons _ _, [], _, _, _, hh, _, _, _, _ => by simp [Tp.hasAll] at hh
end
theorem Tp.argFit (ty : Tp) {r : Reach} {b : Nat} {t : TypeId} {v : Value} {d : DataW H} {p : List MemPlace} {x : ty.den} (hh : ty.has P t = true) (hv : ty.heavy P t = true) (h : DataW.Trod enc P W base spare held t v d p) (hx : IsV (Hp.of W) ty v x) (hw : (d.weights P t).all (· ≤ reachBytes) = true) : ty.Fit x := by
  obtain ⟨f, hf⟩ := h
  cases ty with
  | int k => trivial
  | bool => trivial
  | str => trivial
  | ptr e => trivial
  | emp => trivial
  | sl e =>
    obtain ⟨ad, cp, rfl⟩ := Is.slv hx
    exact Tp.fit (.sl e) hh hv hf hx hw
  | one a =>
    obtain ⟨cs, rfl, hi⟩ := hx
    exact Tp.fit (.one a) hh hv (show DataW.trod enc P W base spare held f t cs = some (d, p) from hf) hi hw
  | cons a q =>
    obtain ⟨cs, rfl, hi⟩ := hx
    exact Tp.fit (.cons a q) hh hv (show DataW.trod enc P W base spare held f t cs = some (d, p) from hf) hi hw
end
end Go.Proofs.Ytbaaamdljojknaa
