/- What functions compute with: what may fail; loops. Nothing of the program is here. -/
import GoSem.Core.View
namespace Go.Proofs.Ytbaaamdljojknaa
set_option linter.unusedVariables false
theorem ob {α β : Type} {m : Option α} {k : α → Option β} {r : β} (h : m.bind k = some r) : ∃ x, m = some x ∧ k x = some r := by
  cases m with
  | none => cases h
  | some x => exact ⟨x, rfl, h⟩
theorem ct {α : Type} {c : Bool} {x y : Option α} {r : α} (hc : c = true) (h : cond c x y = some r) : x = some r := by subst hc; exact h
theorem cf {α : Type} {c : Bool} {x y : Option α} {r : α} (hc : c = false) (h : cond c x y = some r) : y = some r := by subst hc; exact h
/-- An index, a divisor, a part of a list, lists put together: where it may be. -/
def getI {α : Type} (l : List α) (i : Int) : Option α := if 0 ≤ i then l[i.toNat]? else none
theorem getI_some {α : Type} {l : List α} {i : Int} {x : α} (h : getI l i = some x) : 0 ≤ i ∧ l[i.toNat]? = some x ∧ i < (l.length : Nat) := by
  unfold getI at h
  split at h
  · have := (List.getElem?_eq_some_iff.1 h).1
    exact ⟨by assumption, h, by omega⟩
  · cases h
theorem getI_eq {α : Type} {l : List α} {i : Int} {k : Nat} (hi : i = k) (h : k < l.length) : getI l i = some l[k] := by
  subst hi; unfold getI; rw [if_pos (by omega)]; simp [h]
def subL {α : Type} (l : List α) (lo hi : Int) : Option (List α) := if 0 ≤ lo ∧ lo ≤ hi ∧ hi ≤ (l.length : Nat) then some ((l.take hi.toNat).drop lo.toNat) else none
theorem subL_some {α : Type} {l y : List α} {lo hi : Int} (h : subL l lo hi = some y) : 0 ≤ lo ∧ lo ≤ hi ∧ hi ≤ (l.length : Nat) ∧ y = (l.take hi.toNat).drop lo.toNat := by
  unfold subL at h; split at h
  · rename_i hh; cases h; exact ⟨hh.1, hh.2.1, hh.2.2, rfl⟩
  · cases h
theorem subL_eq {α : Type} {l : List α} {lo hi : Int} (h1 : 0 ≤ lo) (h2 : lo ≤ hi) (h3 : hi ≤ (l.length : Nat)) : subL l lo hi = some ((l.take hi.toNat).drop lo.toNat) := by unfold subL; rw [if_pos ⟨h1, h2, h3⟩]
def app {α : Type} (a b : List α) : Option (List α) := if a.length + b.length ≤ 1073741824 then some (a ++ b) else none
theorem app_some {α : Type} {a b y : List α} (h : app a b = some y) : a.length + b.length ≤ 1073741824 ∧ a ++ b = y := by
  unfold app at h; split at h
  · rename_i hh; cases h; exact ⟨hh, rfl⟩
  · cases h
theorem app_eq {α : Type} {a b : List α} (h : a.length + b.length ≤ 1073741824) : app a b = some (a ++ b) := by unfold app; rw [if_pos h]
/-- The limit of what comes with more and more fuel. -/
noncomputable def lim {α : Type} (g : Nat → Option α) : Option α := open Classical in if h : ∃ n, (g n).isSome then g h.choose else none
theorem lim_some {α : Type} {g : Nat → Option α} {r : α} (h : lim g = some r) : ∃ n, g n = some r := by
  unfold lim at h
  split at h
  · exact ⟨_, h⟩
  · cases h
theorem lim_eq {α : Type} {g : Nat → Option α} {r : α} {n : Nat} (h : g n = some r) (hu : ∀ m x, g m = some x → x = r) : lim g = some r := by
  unfold lim
  have hex : ∃ n, (g n).isSome := ⟨n, by rw [h]; rfl⟩
  rw [dif_pos hex]
  have := hex.choose_spec
  cases hg : g hex.choose with
  | none => rw [hg] at this; cases this
  | some x => rw [hu _ x hg]
def iter {σ β : Type} (body : σ → Option (σ ⊕ β)) : Nat → σ → Option β
  | 0, _ => none
  | n + 1, s => (body s).bind fun r => match r with | .inl s' => iter body n s' | .inr b => some b
noncomputable def loop {σ β : Type} (body : σ → Option (σ ⊕ β)) (s : σ) : Option β := lim (fun n => iter body n s)
theorem iter_det {σ β : Type} {body : σ → Option (σ ⊕ β)} : ∀ {n m : Nat} {s : σ} {x y : β}, iter body n s = some x → iter body m s = some y → x = y
  | 0, _, _, _, _, h, _ => by cases h
  | _ + 1, 0, _, _, _, _, h => by cases h
  | n + 1, m + 1, s, x, y, h, k => by
    unfold iter at h k
    cases hb : body s with
    | none => rw [hb] at h; cases h
    | some r =>
      rw [hb] at h k
      cases r with
      | inl s' => exact iter_det (n := n) (m := m) h k
      | inr b => cases h; cases k; rfl
theorem loop_iter {σ β : Type} {body : σ → Option (σ ⊕ β)} {s : σ} {r : β} (h : loop body s = some r) : ∃ n, iter body n s = some r := lim_some h
theorem loop_of {σ β : Type} {body : σ → Option (σ ⊕ β)} {s : σ} {r : β} {n : Nat} (h : iter body n s = some r) : loop body s = some r := lim_eq (n := n) h (fun m x hx => iter_det hx h)
theorem loop_next {σ β : Type} {body : σ → Option (σ ⊕ β)} {s s' : σ} (h : body s = some (.inl s')) : loop body s = loop body s' := by
  cases hl : loop body s' with
  | some r =>
    obtain ⟨n, hn⟩ := loop_iter hl
    exact loop_of (n := n + 1) (by unfold iter; rw [h]; exact hn)
  | none =>
    cases hl2 : loop body s with
    | none => rfl
    | some r =>
      obtain ⟨n, hn⟩ := loop_iter hl2
      cases n with
      | zero => cases hn
      | succ n =>
        unfold iter at hn
        rw [h] at hn
        rw [loop_of (n := n) hn] at hl; cases hl
theorem loop_end {σ β : Type} {body : σ → Option (σ ⊕ β)} {s : σ} {b : β} (h : body s = some (.inr b)) : loop body s = some b := loop_of (n := 1) (by unfold iter; rw [h]; rfl)
end Go.Proofs.Ytbaaamdljojknaa
