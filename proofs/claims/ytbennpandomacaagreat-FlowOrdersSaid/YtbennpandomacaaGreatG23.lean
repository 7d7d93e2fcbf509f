/- Going through a graph's nodes, deep ones first: what the order is, and what is true of it. Nothing of the program is here but its graphs. -/
import Derived.Test.YtbennpandomacaaGreatQ10
namespace Go.Proofs.YtbennpandomacaaGreat
open Go.RowKit
set_option linter.unusedVariables false
set_option linter.unnecessarySimpa false
set_option linter.unusedSimpArgs false
/-- With these told, and those met: through a list of nodes. -/
inductive Thr (E : ArG) : List Nat → List Nat → List Nat → List Nat → List Nat → Prop
  | nil {o m : List Nat} : Thr E o m [] o m
  | skip {o m r o' m' : List Nat} {u : Nat} : u ∈ m → Thr E o m r o' m' → Thr E o m (u :: r) o' m'
  | step {o m r o1 m1 o' m' : List Nat} {u : Nat} : u ∉ m → Thr E o (m ++ [u]) (nxt E u) o1 m1 → Thr E (o1 ++ [u]) m1 r o' m' → Thr E o m (u :: r) o' m'
theorem Thr.grow {E : ArG} {o m r o' m' : List Nat} (h : Thr E o m r o' m') : ∃ D O, m' = m ++ D ∧ o' = o ++ O ∧ O.Perm D ∧ (∀ x ∈ r, x ∈ m') := by
  induction h with
  | nil => exact ⟨[], [], by simp, by simp, .refl _, by simp⟩
  | skip hu h ih =>
    obtain ⟨D, O, rfl, rfl, hp, hr⟩ := ih
    exact ⟨D, O, rfl, rfl, hp, fun x hx => by
      rcases List.mem_cons.1 hx with rfl | hx
      · exact List.mem_append_left _ hu
      · exact hr x hx⟩
  | step hu h1 h2 ih1 ih2 =>
    obtain ⟨D1, O1, rfl, rfl, hp1, hr1⟩ := ih1
    obtain ⟨D2, O2, rfl, rfl, hp2, hr2⟩ := ih2
    rename_i o m r u
    refine ⟨u :: D1 ++ D2, O1 ++ [u] ++ O2, by simp, by simp, ?_, fun x hx => ?_⟩
    · refine List.Perm.append ?_ hp2
      refine (List.perm_append_comm (l₁ := O1) (l₂ := [u])).trans ?_
      exact hp1.cons u
    · rcases List.mem_cons.1 hx with rfl | hx
      · simp
      · exact hr2 x hx
theorem Thr.inv {E : ArG} {N : Nat} (hE : inN N E) {o m r o' m' : List Nat} (h : Thr E o m r o' m') : m.Nodup → (∀ x ∈ m, x < N) → (∀ x ∈ r, x < N) → m'.Nodup ∧ ∀ x ∈ m', x < N := by
  induction h with
  | nil => exact fun a b _ => ⟨a, b⟩
  | skip hu h ih => exact fun a b c => ih a b (fun x hx => c x (List.mem_cons_of_mem _ hx))
  | step hu h1 h2 ih1 ih2 =>
    intro a b c
    rename_i o m r o1 m1 o' m' u
    have hun : u < N := c u (List.mem_cons_self ..)
    have hd : (m ++ [u]).Nodup := by
      rw [List.nodup_append]; refine ⟨a, by simp, ?_⟩
      intro x hx y hy; simp at hy; subst hy; intro e; subst e; exact hu hx
    have hl : ∀ x ∈ m ++ [u], x < N := fun x hx => by
      rcases List.mem_append.1 hx with q | q
      · exact b x q
      · simp at q; omega
    obtain ⟨a1, b1⟩ := ih1 hd hl (fun x hx => (hE _ (nxt_mem.1 hx)).2)
    exact ih2 a1 b1 (fun x hx => c x (List.mem_cons_of_mem _ hx))
theorem Thr.ex {E : ArG} {N : Nat} (hE : inN N E) : ∀ (k : Nat) (r o m : List Nat), N - m.length ≤ k → m.Nodup → (∀ x ∈ m, x < N) → (∀ x ∈ r, x < N) → ∃ o' m', Thr E o m r o' m' := by
  intro k
  induction k with
  | zero =>
    intro r
    induction r with
    | nil => intro o m _ _ _ _; exact ⟨o, m, .nil⟩
    | cons u r ih =>
      intro o m hk hd hl hr
      by_cases hu : u ∈ m
      · obtain ⟨o', m', h⟩ := ih o m hk hd hl (fun x hx => hr x (List.mem_cons_of_mem _ hx))
        exact ⟨o', m', .skip hu h⟩
      · exfalso
        have hd1 : (m ++ [u]).Nodup := by
          rw [List.nodup_append]; refine ⟨hd, by simp, ?_⟩
          intro x hx y hy; simp at hy; subst hy; intro e; subst e; exact hu hx
        have := nodup_lt (N := N) hd1 (fun x hx => by
          rcases List.mem_append.1 hx with q | q
          · exact hl x q
          · simp at q; subst q; exact hr _ (List.mem_cons_self ..))
        simp at this; omega
  | succ k ihk =>
    intro r
    induction r with
    | nil => intro o m _ _ _ _; exact ⟨o, m, .nil⟩
    | cons u r ih =>
      intro o m hk hd hl hr
      by_cases hu : u ∈ m
      · obtain ⟨o', m', h⟩ := ih o m hk hd hl (fun x hx => hr x (List.mem_cons_of_mem _ hx))
        exact ⟨o', m', .skip hu h⟩
      · have hd1 : (m ++ [u]).Nodup := by
          rw [List.nodup_append]; refine ⟨hd, by simp, ?_⟩
          intro x hx y hy; simp at hy; subst hy; intro e; subst e; exact hu hx
        have hl1 : ∀ x ∈ m ++ [u], x < N := fun x hx => by
          rcases List.mem_append.1 hx with q | q
          · exact hl x q
          · simp at q; subst q; exact hr _ (List.mem_cons_self ..)
        have hn1 : ∀ x ∈ nxt E u, x < N := fun x hx => (hE _ (nxt_mem.1 hx)).2
        obtain ⟨o1, m1, h1⟩ := ihk (nxt E u) o (m ++ [u]) (by simp; omega) hd1 hl1 hn1
        obtain ⟨D, O, rfl, rfl, _, _⟩ := h1.grow
        obtain ⟨a1, b1⟩ := h1.inv hE hd1 hl1 hn1
        obtain ⟨o', m', h2⟩ := ihk r ((o ++ O) ++ [u]) (m ++ [u] ++ D) (by simp; omega) a1 b1 (fun x hx => hr x (List.mem_cons_of_mem _ hx))
        exact ⟨o', m', .step hu h1 h2⟩
/-- Whatever one goes to from one that is told is told ahead of it, or leads back to it. -/
def OkO (E : ArG) (o : List Nat) : Prop := ∀ A x B, o = A ++ x :: B → ∀ y, (x, y) ∈ E → y ∈ A ∨ Rch E y x
theorem OkO.snoc {E : ArG} {o : List Nat} {u : Nat} (h : OkO E o) (hu : ∀ y, (u, y) ∈ E → y ∈ o ∨ Rch E y u) : OkO E (o ++ [u]) := by
  intro A x B e y hy
  rcases List.eq_nil_or_concat B with rfl | ⟨B', z, rfl⟩
  · obtain ⟨e1, e2⟩ := List.append_inj' e rfl
    simp at e2; subst e1; subst e2; exact hu y hy
  · have e' : o ++ [u] = (A ++ x :: B') ++ [z] := by rw [e]; simp
    obtain ⟨e1, e2⟩ := List.append_inj' e' rfl
    exact h A x B' e1 y hy
theorem Thr.ok {E : ArG} {o m r o' m' : List Nat} (h : Thr E o m r o' m') : (∀ g ∈ m, g ∉ o → ∀ x ∈ r, Rch E g x) → OkO E o → OkO E o' ∧ ∀ g ∈ m', g ∉ o' → g ∈ m ∧ g ∉ o := by
  induction h with
  | nil => exact fun _ h => ⟨h, fun g a b => ⟨a, b⟩⟩
  | skip hu h ih => exact fun a b => ih (fun g hg ho x hx => a g hg ho x (List.mem_cons_of_mem _ hx)) b
  | step hu h1 h2 ih1 ih2 =>
    intro a b
    rename_i o m r o1 m1 o' m' u
    obtain ⟨k1, g1⟩ := ih1 (fun g hg ho x hx => by
      have hux : (u, x) ∈ E := nxt_mem.1 hx
      rcases List.mem_append.1 hg with q | q
      · exact (a g q ho u (List.mem_cons_self ..)).step hux
      · simp at q; subst q; exact (Rch.refl _).step hux) b
    obtain ⟨_, _, _, _, _, hall⟩ := h1.grow
    have k2 : OkO E (o1 ++ [u]) := k1.snoc (fun y hy => by
      by_cases q : y ∈ o1
      · exact .inl q
      · refine .inr ?_
        obtain ⟨c1, c2⟩ := g1 y (hall y (nxt_mem.2 hy)) q
        rcases List.mem_append.1 c1 with q2 | q2
        · exact a y q2 c2 u (List.mem_cons_self ..)
        · simp at q2; subst q2; exact .refl _)
    have g2 : ∀ g ∈ m1, g ∉ o1 ++ [u] → g ∈ m ∧ g ∉ o := fun g hg ho => by
      have n1 : g ∉ o1 := fun q => ho (List.mem_append_left _ q)
      have n2 : g ≠ u := fun q => ho (by simp [q])
      obtain ⟨c1, c2⟩ := g1 g hg n1
      rcases List.mem_append.1 c1 with q | q
      · exact ⟨q, c2⟩
      · simp at q; exact absurd q n2
    obtain ⟨k3, g3⟩ := ih2 (fun g hg ho x hx => by
      obtain ⟨c1, c2⟩ := g2 g hg ho
      exact a g c1 c2 x (List.mem_cons_of_mem _ hx)) k2
    exact ⟨k3, fun g hg ho => by obtain ⟨c1, c2⟩ := g3 g hg ho; exact g2 g c1 c2⟩
/-- All of a graph's nodes, gone through. -/
theorem Thr.all {E : ArG} {N : Nat} (hE : inN N E) : ∃ o m, Thr E [] [] (List.range N) o m ∧ o.Perm (List.range N) ∧ OkO E o := by
  obtain ⟨o, m, h⟩ := Thr.ex hE N (List.range N) [] [] (by simp) (by simp) (by simp) (fun x hx => List.mem_range.1 hx)
  obtain ⟨D, O, e1, e2, hp, hr⟩ := h.grow
  simp only [List.nil_append] at e1 e2; subst e1; subst e2
  obtain ⟨hd, hl⟩ := h.inv hE (by simp) (by simp) (fun x hx => List.mem_range.1 hx)
  refine ⟨o, m, h, hp.trans ?_, (h.ok (by simp) (fun A x B e => by simp at e)).1⟩
  refine (List.perm_ext_iff_of_nodup hd List.nodup_range).2 (fun x => ⟨fun hx => List.mem_range.2 (hl x hx), fun hx => hr x hx⟩)
end Go.Proofs.YtbennpandomacaaGreat
