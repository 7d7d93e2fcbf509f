/- What layer 10's reference computes (graphs), in plain words. -/
import Derived.Test.YtbennpandomacaaGreatQ10
import Derived.Test.YtbennpandomacaaGreatQ01
namespace Go.Proofs.YtbennpandomacaaGreat
open Go.RowKit
set_option linter.unusedVariables false
theorem Arc_of {N : Nat} {E : ArG} {i : Int} : fn_graph_Graph_Arc (some (mkG N E)) i = some (if h : 0 ≤ i ∧ i < (E.length : Int) then (((E[i.toNat]'(by omega)).1 : Int), ((E[i.toNat]'(by omega)).2 : Int), true) else (0, 0, false)) := by
  unfold fn_graph_Graph_Arc
  rw [Arcs_eq]
  by_cases h0 : i < 0
  · simp [h0, show ¬ (0 ≤ i ∧ i < (E.length : Int)) by omega]
  · by_cases h1 : (E.length : Int) ≤ i
    · simp [h0, h1, show ¬ (0 ≤ i ∧ i < (E.length : Int)) by omega]
    · have h2 : 0 ≤ i ∧ i < (E.length : Int) := by omega
      obtain ⟨k, rfl⟩ := Int.eq_ofNat_of_zero_le h2.1
      have hk : k < E.length := by omega
      simp only [h0, h1, decide_false, cond_false, Option.bind_some, mkG, getI_ai hk]
      simp [hk]
def inL (N : Nat) (M : List Nat) : List Int := (List.range N).map (fun w => if w ∈ M then (1 : Int) else 0)
theorem ref1 {N : Nat} {E : ArG} (hE : inN N E) (he : E.length ≤ 2000) (M : List Nat) (hM : M.Nodup) :
    ∃ r, loop (fn_ref10_Reach_l1 (ai E)) (inL N M, false, 0) = some r ∧ ∃ more : List Nat, (M ++ more).Nodup ∧ r.1 = inL N (M ++ more) ∧ (∀ w ∈ more, ∃ a ∈ M ++ more, Rch E a w ∧ a ∈ M) ∧ ((r.2 = false ∧ more = [] ∧ ∀ e ∈ E, e.1 ∈ M → e.2 ∈ M) ∨ (r.2 = true ∧ more ≠ [])) := by
  refine loop_inv (fun s => ∃ (k : Nat) (more : List Nat), k ≤ E.length ∧ (M ++ more).Nodup ∧ s.1 = inL N (M ++ more) ∧ s.2.2 = (k : Int) ∧ (∀ w ∈ more, ∃ a ∈ M ++ more, Rch E a w ∧ a ∈ M) ∧ ((s.2.1 = false ∧ more = [] ∧ ∀ e ∈ E.take k, e.1 ∈ M → e.2 ∈ M) ∨ (s.2.1 = true ∧ more ≠ []))) (fun s => E.length - s.2.2.toNat) ?_ ⟨0, [], by omega, by simpa using hM, by simp, rfl, by simp, .inl ⟨rfl, rfl, by simp⟩⟩
  rintro ⟨l, b, i⟩ ⟨k, more, hk, hnd, h1, h2, hr, h3⟩
  dsimp only at h1 h2 h3
  subst h1 h2
  by_cases hlt : k < E.length
  · left
    have hk2 : k < (ai E).length := by rw [ai_len]; exact hlt
    obtain ⟨ha, hb⟩ := hE _ (List.getElem_mem hlt)
    unfold fn_ref10_Reach_l1
    dsimp only
    rw [dlt hk2, cond_true, getI_ai hlt, w64s hk2 (by rw [ai_len]; omega)]
    generalize hA : E[k].1 = a at ha
    generalize hB : E[k].2 = c at hb
    have hmem : (a, c) ∈ E := by rw [← hA, ← hB]; exact List.getElem_mem hlt
    have ga : getI (inL N (M ++ more)) (a : Int) = some (if a ∈ M ++ more then (1 : Int) else 0) := getI_map ha
    have gc : getI (inL N (M ++ more)) (c : Int) = some (if c ∈ M ++ more then (1 : Int) else 0) := getI_map hb
    simp only [Option.bind_some, ga, gc, Int.toNat_natCast]
    by_cases hc : a ∈ M ++ more ∧ c ∉ M ++ more
    · have hset : (inL N (M ++ more)).set c 1 = inL N (M ++ (more ++ [c])) := by
        unfold inL; rw [set_map]
        refine map_congr_range (fun w hw => ?_)
        by_cases hwc : w = c
        · simp [hwc]
        · simp [hwc]
      rw [if_pos hc.1, if_neg hc.2]
      simp only [decide_true, cond_true, Option.bind_some, hset]
      refine ⟨_, rfl, ⟨k + 1, more ++ [c], by omega, ?_, rfl, rfl, ?_, .inr ⟨rfl, by simp⟩⟩, by dsimp only; omega⟩
      · rw [← List.append_assoc, List.nodup_append]
        refine ⟨hnd, by simp, ?_⟩
        intro x hx y hy; simp at hy; subst hy; intro e; subst e; exact hc.2 hx
      · intro w hw
        rcases List.mem_append.1 hw with q | q
        · obtain ⟨x, x1, x2, x3⟩ := hr w q; exact ⟨x, by simp [x3], x2, x3⟩
        · simp at q; subst q
          rcases List.mem_append.1 hc.1 with q | q
          · exact ⟨a, by simp [q], (Rch.refl a).step hmem, q⟩
          · obtain ⟨x, x1, x2, x3⟩ := hr a q; exact ⟨x, by simp [x3], x2.step hmem, x3⟩
    · have hcond : (cond (decide ((if a ∈ M ++ more then (1 : Int) else 0) = 1)) (some (decide ((if c ∈ M ++ more then (1 : Int) else 0) = 0))) (some false)) = some false := by
        by_cases h4 : a ∈ M ++ more
        · have h5 : c ∈ M ++ more := Classical.byContradiction fun h => hc ⟨h4, h⟩
          rw [if_pos h4, if_pos h5]; rfl
        · rw [if_neg h4]; rfl
      rw [hcond]
      simp only [Option.bind_some, cond_false]
      refine ⟨_, rfl, ⟨k + 1, more, by omega, hnd, rfl, rfl, hr, ?_⟩, by dsimp only; omega⟩
      rcases h3 with ⟨rfl, rfl, h5⟩ | h5
      · refine .inl ⟨rfl, rfl, fun e he1 he2 => ?_⟩
        rw [take_snoc hlt] at he1
        rcases List.mem_append.1 he1 with q | q
        · exact h5 e q he2
        · simp at q; subst q
          simp only [List.append_nil] at hc
          rw [hA] at he2; rw [hB]
          exact Classical.byContradiction fun h => hc ⟨he2, h⟩
      · exact .inr h5
  · right
    have hke : k = E.length := by omega
    refine ⟨(inL N (M ++ more), b), ?_, more, hnd, rfl, hr, ?_⟩
    · unfold fn_ref10_Reach_l1; simp [hke, ai_len]
    · rw [hke, List.take_length] at h3; exact h3
theorem ref2 {N : Nat} {E : ArG} (hE : inN N E) (he : E.length ≤ 2000) {v : Nat} (hv : v < N) : loop (fn_ref10_Reach_l2 (ai E)) (inL N [v], true) = some (inL N (rl N E v)) := by
  have key : ∃ r, loop (fn_ref10_Reach_l2 (ai E)) (inL N [v], true) = some r ∧ ∃ M : List Nat, r = inL N M ∧ ∀ w, w ∈ M ↔ Rch E v w := by
    refine loop_inv (fun s => ∃ M : List Nat, s.1 = inL N M ∧ M.Nodup ∧ v ∈ M ∧ (∀ w ∈ M, Rch E v w) ∧ (s.2 = false → ∀ e ∈ E, e.1 ∈ M → e.2 ∈ M) ∧ (s.2 = false ∨ s.2 = true)) (fun s => 2 * (s.1.countP (fun x => decide (x = 0))) + (if s.2 then 1 else 0)) ?_ ⟨[v], rfl, by simp, by simp, by simp; exact .refl v, by simp, .inr rfl⟩
    rintro ⟨l, b⟩ ⟨M, h1, h2, h3, h4, h5, _⟩
    dsimp only at h1 h5
    subst h1
    cases b with
    | true =>
      left
      obtain ⟨r, r1, more, r2, r3, r4, r5⟩ := ref1 hE he M h2
      obtain ⟨r6, r7⟩ := r
      dsimp only at r3 r5
      subst r3
      unfold fn_ref10_Reach_l2
      dsimp only
      rw [cond_true, r1]
      refine ⟨_, rfl, ⟨M ++ more, rfl, r2, by simp [h3], ?_, ?_, ?_⟩, ?_⟩
      · intro w hw
        rcases List.mem_append.1 hw with q | q
        · exact h4 w q
        · obtain ⟨a, a1, a2, a3⟩ := r4 w q; exact (h4 a a3).trans a2
      · intro hf
        rcases r5 with ⟨_, rfl, r5⟩ | ⟨r5, _⟩
        · simpa using r5
        · dsimp only at hf; rw [r5] at hf; cases hf
      · rcases r5 with ⟨r5, _⟩ | ⟨r5, _⟩
        · exact .inl r5
        · exact .inr r5
      · dsimp only
        rcases r5 with ⟨r5, rfl, _⟩ | ⟨r5, r8⟩
        · rw [r5]; simp
        · rw [r5]
          have : (inL N (M ++ more)).countP (fun x => decide (x = 0)) < (inL N M).countP (fun x => decide (x = 0)) := by
            obtain ⟨c, more', rfl⟩ := List.exists_cons_of_ne_nil r8
            have hcM : c ∉ M := fun h => by
              rw [List.nodup_append] at r2
              exact r2.2.2 c h c (by simp) rfl
            have hcN : c < N := by
              obtain ⟨a, a1, a2, a3⟩ := r4 c (by simp); exact ((h4 a a3).trans a2).lt hE hv
            unfold inL
            rw [List.countP_map, List.countP_map]
            have gen : ∀ m, c < m → (List.range m).countP ((fun x : Int => decide (x = 0)) ∘ fun w => if w ∈ M ++ c :: more' then (1 : Int) else 0) < (List.range m).countP ((fun x : Int => decide (x = 0)) ∘ fun w => if w ∈ M then (1 : Int) else 0) := by
              intro m hm
              induction m with
              | zero => omega
              | succ m ih =>
                have mono : (List.range m).countP ((fun x : Int => decide (x = 0)) ∘ fun w => if w ∈ M ++ c :: more' then (1 : Int) else 0) ≤ (List.range m).countP ((fun x : Int => decide (x = 0)) ∘ fun w => if w ∈ M then (1 : Int) else 0) := by
                  apply List.countP_mono_left
                  intro z _ hz
                  by_cases hzM : z ∈ M
                  · simp [hzM] at hz
                  · simp [hzM]
                rw [List.range_succ, List.countP_append, List.countP_append]
                by_cases hcm : c = m
                · subst hcm
                  have a1 : [c].countP ((fun x : Int => decide (x = 0)) ∘ fun w => if w ∈ M ++ c :: more' then (1 : Int) else 0) = 0 := by simp
                  have a2 : [c].countP ((fun x : Int => decide (x = 0)) ∘ fun w => if w ∈ M then (1 : Int) else 0) = 1 := by simp [hcM]
                  rw [a1, a2]; omega
                · have := ih (by omega)
                  have a3 : [m].countP ((fun x : Int => decide (x = 0)) ∘ fun w => if w ∈ M ++ c :: more' then (1 : Int) else 0) ≤ [m].countP ((fun x : Int => decide (x = 0)) ∘ fun w => if w ∈ M then (1 : Int) else 0) := by
                    apply List.countP_mono_left
                    intro z _ hz
                    by_cases hzM : z ∈ M
                    · simp [hzM] at hz
                    · simp [hzM]
                  omega
            exact gen N hcN
          simp; omega
    | false =>
      right
      refine ⟨inL N M, rfl, M, rfl, fun w => ⟨h4 w, fun h => ?_⟩⟩
      exact Rch.closed (p := fun w => w ∈ M) h3 (fun a c e ha => h5 rfl (a, c) e ha) h
  obtain ⟨r, h1, M, rfl, h2⟩ := key
  rw [h1]
  congr 1
  unfold inL
  refine map_congr_range (fun w hw => ?_)
  have := (h2 w).trans (rl_mem hE hv).symm
  by_cases hm : w ∈ M
  · rw [if_pos hm, if_pos (this.1 hm)]
  · rw [if_neg hm, if_neg (fun h => hm (this.2 h))]
theorem refReach_eq {N : Nat} {E : ArG} (hE : inN N E) (hn : N ≤ 1000) (he : E.length ≤ 2000) {v : Nat} (hv : v < N) : fn_ref10_Reach (N : Int) (ai E) (v : Int) = some (inL N (rl N E v)) := by
  unfold fn_ref10_Reach
  have hm : (List.replicate N (0 : Int)).set v 1 = inL N [v] := by
    rw [replicate_map, set_map]; unfold inL
    refine map_congr_range (fun w hw => ?_)
    by_cases h : w = v <;> simp [h]
  have hg : getI (List.replicate N (0 : Int)) (v : Int) = some 0 := by rw [replicate_map]; exact getI_map hv
  rw [mkN (by omega)]
  simp only [Option.bind_some, hg, Int.toNat_natCast, hm]
  rw [ref2 hE he hv]; rfl
end Go.Proofs.YtbennpandomacaaGreat
