/- What is small, and what is well-formed (layers 20, 21), in plain words. -/
import Derived.Test.YtbaaamdljojknaaN19
import Derived.Test.YtbaaamdljojknaaTw
namespace Go.Proofs.Ytbaaamdljojknaa
open Go.RowKit
set_option linter.unusedVariables false
set_option linter.unnecessarySimpa false
set_option linter.unusedSimpArgs false
abbrev tySg : Tp := .cons (.int .i64) (.cons (.sl (.cons (.int .i64) (.one (.int .i64)))) (.cons (.sl (.one (.sl (.cons (.int .i64) (.one .bool))))) (.one (.one (.sl (.cons (.int .i64) (.one .bool)))))))
abbrev tyTm : Tp := .cons (.int .i64) (.cons (.int .i64) (.cons (.int .i64) (.cons (.sl (.int .i64)) (.cons (.sl (.int .i64)) (.one (.sl (.int .i64)))))))
abbrev tyBody : Tp := .cons (.int .i64) (.cons (.int .i64) (.cons (.sl (.cons (.int .i64) (.one (.int .i64)))) (.cons (.sl (.one (.sl (.cons (.int .i64) (.one .bool))))) (.cons (.one (.sl (.cons (.int .i64) (.one .bool)))) (.cons (.sl tySg) (.one (.sl (.cons (.sl (.cons (.int .i64) (.cons (.int .i64) (.cons (.int .i64) (.cons (.int .i64) (.one .bool)))))) (.one tyTm)))))))))
abbrev Blk := List Stm × Tm
abbrev Bo := Int × Int × List (Int × Int) × List (List St) × List St × List Sg × List Blk
def stm (l : List Blk) : Nat := (l.map (fun x => x.1.length)).sum
structure Sm (b : Bo) : Prop where
  bounds : b.2.2.1.length ≤ 20
  locals : b.2.2.2.1.length ≤ 10
  loc : ∀ t ∈ b.2.2.2.1, t.length ≤ 20
  ret : b.2.2.2.2.1.length ≤ 20
  sigs : b.2.2.2.2.2.1.length ≤ 4
  sig : ∀ s ∈ b.2.2.2.2.2.1, s.2.1.length ≤ 20 ∧ s.2.2.1.length ≤ 20 ∧ s.2.2.2.length ≤ 20 ∧ ∀ t ∈ s.2.2.1, t.length ≤ 20
  blocks : b.2.2.2.2.2.2.length ≤ 8
  term : ∀ x ∈ b.2.2.2.2.2.2, x.2.2.2.2.1.length ≤ 20 ∧ x.2.2.2.2.2.1.length ≤ 20 ∧ x.2.2.2.2.2.2.length ≤ 20
  many : stm b.2.2.2.2.2.2 ≤ 24
theorem sum_mem {α : Type} (f : α → Nat) : ∀ (l : List α) (x : α), x ∈ l → f x ≤ (l.map f).sum
  | [], x, h => by cases h
  | y :: l, x, h => by
    rcases List.mem_cons.1 h with rfl | h
    · simp
    · have := sum_mem f l x h; simp; omega
theorem sum_take {α : Type} (f : α → Nat) (l : List α) (k : Nat) : ((l.take k).map f).sum ≤ (l.map f).sum := by
  have : l.map f = (l.take k).map f ++ (l.drop k).map f := by rw [← List.map_append, List.take_append_drop]
  rw [this, List.sum_append]; omega
theorem Sm.stmts {b : Bo} (h : Sm b) {x : Blk} (hx : x ∈ b.2.2.2.2.2.2) : x.1.length ≤ 24 := by
  have := sum_mem (fun x : Blk => x.1.length) _ x hx
  have := h.many; unfold stm at this; omega
theorem stm_snoc {X : List Blk} {k : Nat} (hk : k < X.length) : stm (X.take (k + 1)) = stm (X.take k) + X[k].1.length := by
  unfold stm; rw [take_snoc hk, List.map_append, List.sum_append]; simp
theorem fit_body {b : Bo} (h : Tp.Fit tyBody b) : ∀ x ∈ b.2.2.2.2.2.2, x.1.length ≤ 140737488351232 := by
  obtain ⟨_, _, _, _, _, _, _, h2⟩ := h
  exact fun x hx => (h2 x hx).1.1
/-- Is a body small? -/
theorem small20 (b : Bo) (hb : ∀ x ∈ b.2.2.2.2.2.2, x.1.length ≤ 140737488351232) : fn_ref20_Small b = some false ∨ (fn_ref20_Small b = some true ∧ Sm b) := by
  obtain ⟨u, n, B, L, R, S, X⟩ := b
  unfold fn_ref20_Small
  dsimp only at *
  have e1 : ((((decide (20 < (((B.length : Nat) : Int)))) || (decide (10 < (((L.length : Nat) : Int))))) || (decide (4 < (((S.length : Nat) : Int))))) || (decide (8 < (((X.length : Nat) : Int))))) = decide (20 < B.length ∨ 10 < L.length ∨ 4 < S.length ∨ 8 < X.length) := by
    by_cases h1 : 20 < B.length <;> by_cases h2 : 10 < L.length <;> by_cases h3 : 4 < S.length <;> by_cases h4 : 8 < X.length <;> simp [h1, h2, h3, h4] <;> omega
  rw [e1]
  by_cases h0 : 20 < B.length ∨ 10 < L.length ∨ 4 < S.length ∨ 8 < X.length
  · rw [decide_eq_true h0]; exact .inl rfl
  · rw [decide_eq_false h0, cond_false, Few_eq]
    by_cases q : R.length ≤ 20
    · have e : decide (((R.length : Nat) : Int) ≤ 20) = true := by simp; omega
      simp only [Option.bind_some, e, Bool.not_true, cond_false]
      rw [fewl (body := fn_ref20_Small_l1 (u, n, B, L, R, S, X)) (xa := L) (by omega) (fun i => rfl)]
      cases hf : L.any (fun t => !decide (t.length ≤ 20)) with
      | true => exact .inl rfl
      | false =>
        simp only [Bool.false_eq_true, if_false, Option.bind_some]
        have hS : ∃ t, loop (fn_ref20_Small_l2 (u, n, B, L, R, S, X)) 0 = some t ∧ (t = .inr false ∨ (t = .inl () ∧ ∀ s ∈ S, s.2.1.length ≤ 20 ∧ s.2.2.1.length ≤ 20 ∧ s.2.2.2.length ≤ 20 ∧ ∀ t ∈ s.2.2.1, t.length ≤ 20)) := by
          have hl := loop_find (body := fn_ref20_Small_l2 (u, n, B, L, R, S, X)) (fun k => ∃ h : k < S.length, fn_ref17_Few S[k] = some false) (fun k : Nat => (k : Int)) S.length (fun _ => .inr false) (.inl ()) ?_ ?_ ?_
          · rcases hl with ⟨k, _, _, _, h4⟩ | ⟨h1, h2⟩
            · exact ⟨_, h4, .inl rfl⟩
            · refine ⟨_, h2, .inr ⟨rfl, fun s hs => ?_⟩⟩
              obtain ⟨k, hk, rfl⟩ := List.getElem_of_mem hs
              rcases few17 S[k] with h | ⟨h, f1, f2, f3, f4⟩
              · exact absurd ⟨hk, h⟩ (h1 k hk)
              · exact ⟨f1, f2, f3, f4⟩
          · intro k hk hp
            unfold fn_ref20_Small_l2
            rcases few17 S[k] with h | ⟨h, _⟩
            · exact absurd ⟨hk, h⟩ hp
            · simp only [dlt hk, cond_true, getN hk, Option.bind_some, show fn_ref17_Few (S[k].1, S[k].2.1, S[k].2.2.1, S[k].2.2.2) = _ from h, w64s hk (by omega : S.length ≤ 9223372036854775807)]
              rfl
          · rintro k hk ⟨_, hp⟩
            unfold fn_ref20_Small_l2
            simp only [dlt hk, cond_true, getN hk, Option.bind_some, show fn_ref17_Few (S[k].1, S[k].2.1, S[k].2.2.1, S[k].2.2.2) = _ from hp]
            rfl
          · simp [fn_ref20_Small_l2]
        obtain ⟨t, ht, hS⟩ := hS
        rw [ht]
        rcases hS with rfl | ⟨rfl, hS⟩
        · exact .inl rfl
        · simp only [Option.bind_some]
          have hX := loop_find (body := fn_ref20_Small_l3 (u, n, B, L, R, S, X)) (fun k => ∃ h : k < X.length, (((decide (20 < ((((X[k]).2.2.2.2.1.length : Nat) : Int)))) || (decide (20 < ((((X[k]).2.2.2.2.2.1.length : Nat) : Int))))) || (decide (20 < ((((X[k]).2.2.2.2.2.2.length : Nat) : Int))))) = true) (fun k : Nat => (((stm (X.take k) : Nat) : Int), (k : Int))) X.length (fun _ => .inr false) (.inl ((stm X : Nat) : Int)) ?_ ?_ ?_
          · rcases hX with ⟨k, _, _, _, h4⟩ | ⟨h1, h2⟩
            · have h4' : loop (fn_ref20_Small_l3 (u, n, B, L, R, S, X)) (0, 0) = some (.inr false) := by simpa [stm] using h4
              rw [h4']; exact .inl rfl
            · have h2' : loop (fn_ref20_Small_l3 (u, n, B, L, R, S, X)) (0, 0) = some (.inl ((stm X : Nat) : Int)) := by simpa [stm] using h2
              rw [h2']
              by_cases hm : stm X ≤ 24
              · refine .inr ⟨by simp; omega, ⟨by dsimp only; omega, by dsimp only; omega, few_mem hf, q, by dsimp only; omega, hS, by dsimp only; omega, fun x hx => ?_, hm⟩⟩
                obtain ⟨k, hk, rfl⟩ := List.getElem_of_mem hx
                have hn := h1 k hk
                dsimp only at hk hn
                have hn2 : (((decide (20 < ((((X[k]).2.2.2.2.1.length : Nat) : Int)))) || (decide (20 < ((((X[k]).2.2.2.2.2.1.length : Nat) : Int))))) || (decide (20 < ((((X[k]).2.2.2.2.2.2.length : Nat) : Int))))) = false := by
                  cases hc : (((decide (20 < ((((X[k]).2.2.2.2.1.length : Nat) : Int)))) || (decide (20 < ((((X[k]).2.2.2.2.2.1.length : Nat) : Int))))) || (decide (20 < ((((X[k]).2.2.2.2.2.2.length : Nat) : Int))))) with
                  | false => rfl
                  | true => exact absurd ⟨hk, hc⟩ hn
                simp at hn2
                dsimp only
                omega
              · refine .inl ?_
                simp; omega
          · intro k hk hp
            have hn2 : (((decide (20 < ((((X[k]).2.2.2.2.1.length : Nat) : Int)))) || (decide (20 < ((((X[k]).2.2.2.2.2.1.length : Nat) : Int))))) || (decide (20 < ((((X[k]).2.2.2.2.2.2.length : Nat) : Int))))) = false := by
              cases hc : (((decide (20 < ((((X[k]).2.2.2.2.1.length : Nat) : Int)))) || (decide (20 < ((((X[k]).2.2.2.2.2.1.length : Nat) : Int))))) || (decide (20 < ((((X[k]).2.2.2.2.2.2.length : Nat) : Int))))) with
              | false => rfl
              | true => exact absurd ⟨hk, hc⟩ hp
            have a1 := hb X[k] (List.getElem_mem hk)
            have a2 : stm (X.take k) ≤ k * 140737488351232 := by
              unfold stm
              have : ∀ q : List Blk, (∀ x ∈ q, x ∈ X) → (q.map (fun x => x.1.length)).sum ≤ q.length * 140737488351232 := by
                intro q
                induction q with
                | nil => intro _; simp
                | cons x q ih =>
                  intro hq
                  have := ih (fun y hy => hq y (by simp [hy]))
                  have := hb x (hq x (by simp))
                  simp only [List.map_cons, List.sum_cons, List.length_cons, Nat.succ_mul]; omega
              have h3 := this (X.take k) (fun x hx => List.mem_of_mem_take hx)
              rw [List.length_take, Nat.min_eq_left (by omega)] at h3
              exact h3
            have a3 : k ≤ 8 := by omega
            have a4 : k * 140737488351232 ≤ 8 * 140737488351232 := Nat.mul_le_mul_right _ a3
            unfold fn_ref20_Small_l3
            simp only [dlt hk, cond_true, getN hk, Option.bind_some, hn2, cond_false, w64s hk (by omega : X.length ≤ 9223372036854775807)]
            rw [w64 (by omega) (by omega), stm_snoc hk]
            simp
          · rintro k hk ⟨_, hp⟩
            unfold fn_ref20_Small_l3
            simp only [dlt hk, cond_true, getN hk, Option.bind_some, hp]
          · unfold fn_ref20_Small_l3
            simp
    · have e : decide (((R.length : Nat) : Int) ≤ 20) = false := by simp; omega
      simp only [Option.bind_some, e]; exact .inl rfl
end Go.Proofs.Ytbaaamdljojknaa
