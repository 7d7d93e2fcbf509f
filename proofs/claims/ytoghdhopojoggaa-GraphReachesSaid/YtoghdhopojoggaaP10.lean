/- Layer 10's laws (graphs), by what their functions compute. -/
import Derived.Test.YtoghdhopojoggaaQ10
import Derived.Test.YtoghdhopojoggaaQ01
namespace Go.Proofs.Ytoghdhopojoggaa
open Go.RowKit
set_option linter.unusedVariables false
theorem Of_eq (n : Int) (xb : List (Int × Int)) (hn : xb.length ≤ 1000000) : fn_law10_Of n xb = fn_graph_New n xb := by
  unfold fn_law10_Of
  have := loop_map xb (fun x : Int × Int => x) [] (by simp; omega) (body := fn_law10_Of_l1 xb) (fun c i => by
    unfold fn_law10_Of_l1
    cases hg : getI xb i with
    | none => simp [hg]
    | some x => simp [hg])
  rw [this]
  simp only [List.nil_append, List.map_id', Option.bind_some]
  cases fn_graph_New n xb with
  | none => rfl
  | some r => rfl
theorem awake10 : fn_law10_awake = some true := by
  unfold fn_law10_awake
  have hE : inN 3 [(0, 1), (0, 2), (2, 0)] := by intro e he; simp at he; rcases he with rfl | rfl | rfl <;> decide
  have h1 : fn_graph_New 3 [(0, 1), (0, 2), (2, 0)] = some (some (mkG 3 [(0, 1), (0, 2), (2, 0)]), 0) := New_ok hE (by decide) (by decide)
  have h2 := Out_of (N := 3) (E := [(0, 1), (0, 2), (2, 0)]) (by decide) (by decide) (v := 0) (by decide)
  have h3 := In_of (N := 3) (E := [(0, 1), (0, 2), (2, 0)]) (by decide) (by decide) (v := 0) (by decide)
  have h4 := Reach_of (N := 3) hE (by decide) (by decide) (v := 1) (by decide)
  have h5 : rl 3 [(0, 1), (0, 2), (2, 0)] 1 = [1] := by
    have hm : ∀ w, Rch [(0, 1), (0, 2), (2, 0)] 1 w → w = 1 := fun w h => Rch.closed (p := fun w => w = 1) rfl (fun a b e ha => by subst ha; simp at e) h
    unfold rl
    simp only [show List.range 3 = [0, 1, 2] from rfl, List.filter_cons, List.filter_nil]
    have a0 : ¬ Rch [(0, 1), (0, 2), (2, 0)] 1 0 := fun h => by have := hm _ h; omega
    have a1 : Rch [(0, 1), (0, 2), (2, 0)] 1 1 := .refl 1
    have a2 : ¬ Rch [(0, 1), (0, 2), (2, 0)] 1 2 := fun h => by have := hm _ h; omega
    simp [a0, a1, a2]
  rw [h5] at h4
  rw [Of_eq _ _ (by decide), h1]
  simp only [Option.bind_some, decide_true, cond_true]
  erw [h2, h3, h4]
  rw [Arcs_eq]
  simp only [Option.bind_some]
  rw [same01_eq _ _ (by decide), same01_eq _ _ (by decide), same01_eq _ _ (by decide)]
  rfl
theorem Check_eq (n : Int) (xb : List (Int × Int)) (he : xb.length ≤ 1000000) : fn_ref10_Check n xb = some (if n < 0 then 2 else if 1048576 < n then 5 else if xb.any (outA n) then 7 else 0) := by
  unfold fn_ref10_Check
  by_cases h0 : n < 0
  · simp [h0]
  · by_cases h1 : 1048576 < n
    · simp [h0, h1]
    · have h2 : (decide ((1048576 : Int) < n) || decide ((67108864 : Int) < ((xb.length : Nat) : Int))) = false := by simp; omega
      rw [show decide (n < 0) = false from decide_eq_false h0, cond_false, h2, cond_false, loop_some xb (outA n) (.inr 7) (.inl ()) ?_ ?_]
      · simp only [h0, h1, if_false]
        cases xb.any (outA n) <;> rfl
      · intro k h
        unfold fn_ref10_Check_l1
        rw [dlt h, cond_true, getN h, w64s h (by omega : xb.length ≤ 9223372036854775807)]
        simp only [Option.bind_some]
        unfold outA
        by_cases a1 : xb[k].1 < 0 <;> by_cases a2 : n ≤ xb[k].1 <;> by_cases a3 : xb[k].2 < 0 <;> by_cases a4 : n ≤ xb[k].2 <;> simp [a1, a2, a3, a4]
      · simp [fn_ref10_Check_l1]
def refOut (xb : List (Int × Int)) (v : Int) : List Nat := (List.range xb.length).filter (fun i => decide ((xb.getD i (0, 0)).1 = v))
theorem refOut_eq (xb : List (Int × Int)) (v : Int) (hn : xb.length ≤ 1000000) : fn_ref10_Out xb v = some (li (refOut xb v)) := by
  unfold fn_ref10_Out
  have h := loop_carry (body := fn_ref10_Out_l1 xb v) xb (fun k => li ((List.range k).filter (fun i => decide ((xb.getD i (0, 0)).1 = v)))) (li (refOut xb v)) ?_ ?_
  · simp only [List.range_zero, List.filter_nil, li, List.map_nil] at h
    rw [h]; rfl
  · intro k h
    have hl : ((List.range k).filter (fun i => decide ((xb.getD i (0, 0)).1 = v))).length ≤ k := by
      have := List.length_filter_le (fun i => decide ((xb.getD i (0, 0)).1 = v)) (List.range k); simpa using this
    rw [List.range_succ, List.filter_append]
    have e : xb.getD k (0, 0) = xb[k] := by simp [h]
    generalize (List.range k).filter (fun i => decide ((xb.getD i (0, 0)).1 = v)) = A at hl
    unfold fn_ref10_Out_l1
    simp only [dlt h, cond_true, getN h, Option.bind_some, w64s h (by omega : xb.length ≤ 9223372036854775807)]
    by_cases hv : xb[k].1 = v
    · have ha : app (li A) [(k : Int)] = some (li (A ++ [k])) := by rw [app_eq (by rw [li_len]; simp; omega)]; simp [li]
      simp only [hv, decide_true, cond_true, ha, Option.bind_some, List.filter_cons, e, if_true, List.filter_nil]
    · simp only [hv, decide_false, cond_false, List.filter_cons, e, Bool.false_eq_true, if_false, List.filter_nil, List.append_nil]
  · simp [fn_ref10_Out_l1, refOut]
theorem refTurn_eq (xb : List (Int × Int)) (hn : xb.length ≤ 1000000) : fn_ref10_Turn xb = some (xb.map fun a => (a.2, a.1)) := by
  unfold fn_ref10_Turn
  have := loop_map xb (fun a : Int × Int => (a.2, a.1)) [] (by simp; omega) (body := fn_ref10_Turn_l1 xb) (fun c i => by
    unfold fn_ref10_Turn_l1
    cases hg : getI xb i with
    | none => simp [hg]
    | some x => simp [hg])
  rw [this]; simp
theorem refNext_eq (xb : List (Int × Int)) (v : Int) (hn : xb.length ≤ 1000000) : fn_ref10_Next xb v = some ((xb.filter (fun a => decide (a.1 = v))).map (·.2)) := by
  unfold fn_ref10_Next
  have h := loop_carry (body := fn_ref10_Next_l1 xb v) xb (fun k => ((xb.take k).filter (fun a => decide (a.1 = v))).map (·.2)) ((xb.filter (fun a => decide (a.1 = v))).map (·.2)) ?_ ?_
  · simp only [List.take_zero, List.filter_nil, List.map_nil] at h
    rw [h]; rfl
  · intro k h
    have hl := List.length_filter_le (fun a : Int × Int => decide (a.1 = v)) (xb.take k)
    simp only [List.length_take] at hl
    rw [take_snoc h, List.filter_append]
    generalize (xb.take k).filter (fun a => decide (a.1 = v)) = A at hl
    unfold fn_ref10_Next_l1
    simp only [dlt h, cond_true, getN h, Option.bind_some, w64s h (by omega : xb.length ≤ 9223372036854775807)]
    by_cases hv : xb[k].1 = v
    · have ha : app (A.map (·.2)) [xb[k].2] = some (A.map (·.2) ++ [xb[k].2]) := app_eq (by simp; omega)
      simp only [hv, decide_true, cond_true, ha, Option.bind_some, List.filter_cons, if_true, List.filter_nil, List.map_append, List.map_cons, List.map_nil]
    · simp only [hv, decide_false, cond_false, List.filter_cons, Bool.false_eq_true, if_false, List.filter_nil, List.append_nil]
  · simp [fn_ref10_Next_l1]
theorem refOut_occ (E : Ar) (v : Nat) : refOut (ai E) (v : Int) = occ (E.map (·.1)) v := by
  unfold refOut occ
  rw [ai_len, List.length_map]
  refine List.filter_congr (fun i hi => ?_)
  have hi' := List.mem_range.1 hi
  simp [ai, hi', Int.ofNat_inj]
theorem refOut_not {N : Nat} {E : Ar} (hE : inN N E) {v : Int} (h : v < 0 ∨ (N : Int) ≤ v) : refOut (ai E) v = [] := by
  unfold refOut
  rw [List.filter_eq_nil_iff]
  intro i hi
  rw [List.mem_range, ai_len] at hi
  have := (hE _ (List.getElem_mem hi)).1
  simp [ai, hi]; omega
theorem nxt_eq (E : Ar) (v : Nat) : nxt E v = (E.filter (fun e => decide (e.1 = v))).map (·.2) := by
  have hE : E = (List.range E.length).map (fun i => E.getD i (0, 0)) := by
    apply List.ext_getElem
    · simp
    · intro i h1 h2; simp [h1]
  unfold nxt occ
  rw [List.length_map]
  conv => rhs; rw [hE]
  rw [List.filter_map, List.map_map]
  congr 1
  refine List.filter_congr (fun i hi => ?_)
  have hi' := List.mem_range.1 hi
  simp [hi']
theorem refNext_nat (E : Ar) (v : Nat) : ((ai E).filter (fun a => decide (a.1 = (v : Int)))).map (·.2) = li (nxt E v) := by
  rw [nxt_eq]
  unfold ai li
  rw [List.filter_map, List.map_map, List.map_map]
  congr 1
  refine List.filter_congr (fun e _ => ?_)
  simp [Int.ofNat_inj]
theorem refNext_not {N : Nat} {E : Ar} (hE : inN N E) {v : Int} (h : v < 0 ∨ (N : Int) ≤ v) : ((ai E).filter (fun a => decide (a.1 = v))).map (·.2) = [] := by
  have : (ai E).filter (fun a => decide (a.1 = v)) = [] := by
    rw [List.filter_eq_nil_iff]
    intro a ha
    obtain ⟨e, he, rfl⟩ := List.mem_map.1 ha
    have := (hE e he).1
    simp; omega
  rw [this]; rfl
theorem ai_tn (E : Ar) : (ai E).map (fun a => (a.2, a.1)) = ai (tn E) := by simp [ai, tn]
theorem Arc_of {N : Nat} {E : Ar} {i : Int} : fn_graph_Graph_Arc (some (mkG N E)) i = some (if h : 0 ≤ i ∧ i < (E.length : Int) then (((E[i.toNat]'(by omega)).1 : Int), ((E[i.toNat]'(by omega)).2 : Int), true) else (0, 0, false)) := by
  unfold fn_graph_Graph_Arc
  rw [Arcs_eq]
  by_cases h0 : i < 0
  · simp [h0, show ¬ (0 ≤ i ∧ i < (E.length : Int)) by omega]
  · by_cases h1 : (E.length : Int) ≤ i
    · simp [h0, h1, show ¬ (0 ≤ i ∧ i < (E.length : Int)) by omega]
    · have h2 : 0 ≤ i ∧ i < (E.length : Int) := by omega
      obtain ⟨k, rfl⟩ := Int.eq_ofNat_of_zero_le h2.1
      have hk : k < E.length := by omega
      simp only [h0, h1, decide_false, cond_false, Option.bind_some, mkG, getI_ai hk]
      simp [hk]
theorem GraphTells_true (xa : Int) (xb : (List (Int × Int))) (xc : Int) (xd : Int) (k0 : Tp.Ok (.int .i64) xa) (k1 : Tp.Ok (.sl (.cons (.int .i64) (.one (.int .i64)))) xb) (k2 : Tp.Ok (.int .i64) xc) (k3 : Tp.Ok (.int .i64) xd) : fn_law10_GraphTells xa xb xc xd = some true := by
  unfold fn_law10_GraphTells
  rw [awake10]
  by_cases hlen : 40 < xb.length
  · have : decide ((40 : Int) < ((xb.length : Nat) : Int)) = true := decide_eq_true (by omega)
    simp [this]
  have hl0 : decide ((40 : Int) < ((xb.length : Nat) : Int)) = false := decide_eq_false (by omega)
  by_cases hmid : 20 < xa ∧ xa ≤ 1048576
  · simp [hmid.1, hmid.2]
  have hm0 : (decide (20 < xa) && decide (xa ≤ 1048576)) = false := by
    rw [← Bool.decide_and]; exact decide_eq_false hmid
  rw [hl0, hm0, Bool.or_self, cond_false, Of_eq _ _ (by omega), Check_eq _ _ (by omega)]
  rcases New_eq xa xb (by omega) with ⟨h, e⟩ | ⟨h, e⟩ | ⟨h1, h2, h3, e⟩ | ⟨N, E, rfl, hN, rfl, hE, hout, e⟩
  · rw [e]
    simp [h, Nodes_none, Arcs_none, Out_none, In_none, Next_none, Reach_none, Turn_none]
  · rw [e]
    simp [h, show ¬ xa < 0 by omega, Nodes_none, Arcs_none, Out_none, In_none, Next_none, Reach_none, Turn_none]
  · rw [e]
    simp [h3, show ¬ xa < 0 by omega, show ¬ 1048576 < xa by omega, Nodes_none, Arcs_none, Out_none, In_none, Next_none, Reach_none, Turn_none]
  · have hEl : E.length ≤ 40 := by rw [ai_len] at hlen; omega
    rw [e]
    have e1 : (if (N : Int) < 0 then (2 : Int) else if 1048576 < (N : Int) then 5 else if (ai E).any (outA (N : Int)) then 7 else 0) = 0 := by
      rw [if_neg (by omega), if_neg (by omega), hout]; rfl
    have hO : fn_graph_Graph_Out (some (mkG N E)) xc = some (li (refOut (ai E) xc)) := by
      by_cases hv : xc < 0 ∨ (N : Int) ≤ xc
      · rw [Out_not hv, refOut_not hE hv]; rfl
      · obtain ⟨v, rfl⟩ := Int.eq_ofNat_of_zero_le (show 0 ≤ xc by omega)
        rw [Out_of hN (by omega) (by omega), refOut_occ]; rfl
    have hI : fn_graph_Graph_In (some (mkG N E)) xc = some (li (refOut (ai (tn E)) xc)) := by
      by_cases hv : xc < 0 ∨ (N : Int) ≤ xc
      · rw [In_not hv, refOut_not (tn_in hE) hv]; rfl
      · obtain ⟨v, rfl⟩ := Int.eq_ofNat_of_zero_le (show 0 ≤ xc by omega)
        rw [In_of hN (by omega) (by omega), refOut_occ]
        simp [tn, li, Function.comp_def]
    have hX : fn_graph_Graph_Next (some (mkG N E)) xc = some (((ai E).filter (fun a => decide (a.1 = xc))).map (·.2)) := by
      by_cases hv : xc < 0 ∨ (N : Int) ≤ xc
      · rw [Next_not hv, refNext_not hE hv]
      · obtain ⟨v, rfl⟩ := Int.eq_ofNat_of_zero_le (show 0 ≤ xc by omega)
        rw [Next_of hN (by omega) (by omega), refNext_nat]; rfl
    have l1 : (li (refOut (ai E) xc)).length ≤ 1000 := by
      rw [li_len]; unfold refOut
      have := List.length_filter_le (fun i => decide (((ai E).getD i (0, 0)).1 = xc)) (List.range (ai E).length)
      rw [List.length_range] at this; have := ai_len E; omega
    have l2 : (li (refOut (ai (tn E)) xc)).length ≤ 1000 := by
      rw [li_len]; unfold refOut
      have := List.length_filter_le (fun i => decide (((ai (tn E)).getD i (0, 0)).1 = xc)) (List.range (ai (tn E)).length)
      rw [List.length_range] at this; have := ai_len (tn E); rw [tn_len] at this; omega
    have l3 : (((ai E).filter (fun a => decide (a.1 = xc))).map (·.2)).length ≤ 1000 := by
      have := List.length_filter_le (fun a : Int × Int => decide (a.1 = xc)) (ai E)
      rw [ai_len] at this; simp only [List.length_map]; omega
    simp only [Option.bind_some, e1, decide_true, Bool.not_true, Option.isNone_some, Bool.not_false, BEq.rfl, Bool.or_self, cond_false, cond_true]
    rw [Arc_of, hO, hI, hX, Nodes_eq, Arcs_eq, refOut_eq _ _ (by rw [ai_len]; omega), refTurn_eq _ (by rw [ai_len]; omega), refNext_eq _ _ (by rw [ai_len]; omega), ai_tn]
    simp only [Option.bind_some]
    rw [refOut_eq _ _ (by rw [ai_len, tn_len]; omega)]
    simp only [Option.bind_some]
    rw [same01_eq _ _ (by omega), same01_eq _ _ (by omega), same01_eq _ _ (by omega)]
    by_cases hi : 0 ≤ xd ∧ xd < (E.length : Int)
    · rw [dif_pos hi]
      obtain ⟨k, rfl⟩ := Int.eq_ofNat_of_zero_le hi.1
      have hk : k < E.length := by omega
      simp [getI_ai hk, ai_len, hk]
    · rw [dif_neg hi]
      by_cases hi0 : 0 ≤ xd
      · have : ¬ xd < (E.length : Int) := by omega
        simp [ai_len, this, hi0]
      · simp [ai_len, hi0]
/-! ### What is reached, by the document. -/
def inL (N : Nat) (M : List Nat) : List Int := (List.range N).map (fun w => if w ∈ M then (1 : Int) else 0)
theorem ref1 {N : Nat} {E : Ar} (hE : inN N E) (he : E.length ≤ 1000) (M : List Nat) (hM : M.Nodup) :
    ∃ r, loop (fn_ref10_Reach_l1 (ai E)) (inL N M, false, 0) = some r ∧ ∃ more : List Nat, (M ++ more).Nodup ∧ r.1 = inL N (M ++ more) ∧ (∀ w ∈ more, ∃ a ∈ M ++ more, Rch E a w ∧ a ∈ M) ∧ ((r.2 = false ∧ more = [] ∧ ∀ e ∈ E, e.1 ∈ M → e.2 ∈ M) ∨ (r.2 = true ∧ more ≠ [])) := by
  refine loop_inv (fun s => ∃ (k : Nat) (more : List Nat), k ≤ E.length ∧ (M ++ more).Nodup ∧ s.1 = inL N (M ++ more) ∧ s.2.2 = (k : Int) ∧ (∀ w ∈ more, ∃ a ∈ M ++ more, Rch E a w ∧ a ∈ M) ∧ ((s.2.1 = false ∧ more = [] ∧ ∀ e ∈ E.take k, e.1 ∈ M → e.2 ∈ M) ∨ (s.2.1 = true ∧ more ≠ []))) (fun s => E.length - s.2.2.toNat) ?_ ⟨0, [], by omega, by simpa using hM, by simp, rfl, by simp, .inl ⟨rfl, rfl, by simp⟩⟩
  rintro ⟨l, b, i⟩ ⟨k, more, hk, hnd, h1, h2, hr, h3⟩
  dsimp only at h1 h2 h3
  subst h1 h2
  by_cases hlt : k < E.length
  · left
    have hk2 : k < (ai E).length := by rw [ai_len]; exact hlt
    obtain ⟨ha, hb⟩ := hE _ (List.getElem_mem hlt)
    unfold fn_ref10_Reach_l1
    dsimp only
    rw [dlt hk2, cond_true, getI_ai hlt, w64s hk2 (by rw [ai_len]; omega)]
    generalize hA : E[k].1 = a at ha
    generalize hB : E[k].2 = c at hb
    have hmem : (a, c) ∈ E := by rw [← hA, ← hB]; exact List.getElem_mem hlt
    have ga : getI (inL N (M ++ more)) (a : Int) = some (if a ∈ M ++ more then (1 : Int) else 0) := getI_map ha
    have gc : getI (inL N (M ++ more)) (c : Int) = some (if c ∈ M ++ more then (1 : Int) else 0) := getI_map hb
    simp only [Option.bind_some, ga, gc, Int.toNat_natCast]
    by_cases hc : a ∈ M ++ more ∧ c ∉ M ++ more
    · have hset : (inL N (M ++ more)).set c 1 = inL N (M ++ (more ++ [c])) := by
        unfold inL; rw [set_map]
        refine map_congr_range (fun w hw => ?_)
        by_cases hwc : w = c
        · simp [hwc]
        · simp [hwc]
      rw [if_pos hc.1, if_neg hc.2]
      simp only [decide_true, cond_true, Option.bind_some, hset]
      refine ⟨_, rfl, ⟨k + 1, more ++ [c], by omega, ?_, rfl, rfl, ?_, .inr ⟨rfl, by simp⟩⟩, by dsimp only; omega⟩
      · rw [← List.append_assoc, List.nodup_append]
        refine ⟨hnd, by simp, ?_⟩
        intro x hx y hy; simp at hy; subst hy; intro e; subst e; exact hc.2 hx
      · intro w hw
        rcases List.mem_append.1 hw with q | q
        · obtain ⟨x, x1, x2, x3⟩ := hr w q; exact ⟨x, by simp [x3], x2, x3⟩
        · simp at q; subst q
          rcases List.mem_append.1 hc.1 with q | q
          · exact ⟨a, by simp [q], (Rch.refl a).step hmem, q⟩
          · obtain ⟨x, x1, x2, x3⟩ := hr a q; exact ⟨x, by simp [x3], x2.step hmem, x3⟩
    · have hcond : (cond (decide ((if a ∈ M ++ more then (1 : Int) else 0) = 1)) (some (decide ((if c ∈ M ++ more then (1 : Int) else 0) = 0))) (some false)) = some false := by
        by_cases h4 : a ∈ M ++ more
        · have h5 : c ∈ M ++ more := Classical.byContradiction fun h => hc ⟨h4, h⟩
          rw [if_pos h4, if_pos h5]; rfl
        · rw [if_neg h4]; rfl
      rw [hcond]
      simp only [Option.bind_some, cond_false]
      refine ⟨_, rfl, ⟨k + 1, more, by omega, hnd, rfl, rfl, hr, ?_⟩, by dsimp only; omega⟩
      rcases h3 with ⟨rfl, rfl, h5⟩ | h5
      · refine .inl ⟨rfl, rfl, fun e he1 he2 => ?_⟩
        rw [take_snoc hlt] at he1
        rcases List.mem_append.1 he1 with q | q
        · exact h5 e q he2
        · simp at q; subst q
          simp only [List.append_nil] at hc
          rw [hA] at he2; rw [hB]
          exact Classical.byContradiction fun h => hc ⟨he2, h⟩
      · exact .inr h5
  · right
    have hke : k = E.length := by omega
    refine ⟨(inL N (M ++ more), b), ?_, more, hnd, rfl, hr, ?_⟩
    · unfold fn_ref10_Reach_l1; simp [hke, ai_len]
    · rw [hke, List.take_length] at h3; exact h3
theorem ref2 {N : Nat} {E : Ar} (hE : inN N E) (he : E.length ≤ 1000) {v : Nat} (hv : v < N) : loop (fn_ref10_Reach_l2 (ai E)) (inL N [v], true) = some (inL N (rl N E v)) := by
  have key : ∃ r, loop (fn_ref10_Reach_l2 (ai E)) (inL N [v], true) = some r ∧ ∃ M : List Nat, r = inL N M ∧ ∀ w, w ∈ M ↔ Rch E v w := by
    refine loop_inv (fun s => ∃ M : List Nat, s.1 = inL N M ∧ M.Nodup ∧ v ∈ M ∧ (∀ w ∈ M, Rch E v w) ∧ (s.2 = false → ∀ e ∈ E, e.1 ∈ M → e.2 ∈ M) ∧ (s.2 = false ∨ s.2 = true)) (fun s => 2 * (s.1.countP (fun x => decide (x = 0))) + (if s.2 then 1 else 0)) ?_ ⟨[v], rfl, by simp, by simp, by simp; exact .refl v, by simp, .inr rfl⟩
    rintro ⟨l, b⟩ ⟨M, h1, h2, h3, h4, h5, _⟩
    dsimp only at h1 h5
    subst h1
    cases b with
    | true =>
      left
      obtain ⟨r, r1, more, r2, r3, r4, r5⟩ := ref1 hE he M h2
      obtain ⟨r6, r7⟩ := r
      dsimp only at r3 r5
      subst r3
      unfold fn_ref10_Reach_l2
      dsimp only
      rw [cond_true, r1]
      refine ⟨_, rfl, ⟨M ++ more, rfl, r2, by simp [h3], ?_, ?_, ?_⟩, ?_⟩
      · intro w hw
        rcases List.mem_append.1 hw with q | q
        · exact h4 w q
        · obtain ⟨a, a1, a2, a3⟩ := r4 w q; exact (h4 a a3).trans a2
      · intro hf
        rcases r5 with ⟨_, rfl, r5⟩ | ⟨r5, _⟩
        · simpa using r5
        · dsimp only at hf; rw [r5] at hf; cases hf
      · rcases r5 with ⟨r5, _⟩ | ⟨r5, _⟩
        · exact .inl r5
        · exact .inr r5
      · dsimp only
        rcases r5 with ⟨r5, rfl, _⟩ | ⟨r5, r8⟩
        · rw [r5]; simp
        · rw [r5]
          have : (inL N (M ++ more)).countP (fun x => decide (x = 0)) < (inL N M).countP (fun x => decide (x = 0)) := by
            obtain ⟨c, more', rfl⟩ := List.exists_cons_of_ne_nil r8
            have hcM : c ∉ M := fun h => by
              rw [List.nodup_append] at r2
              exact r2.2.2 c h c (by simp) rfl
            have hcN : c < N := by
              obtain ⟨a, a1, a2, a3⟩ := r4 c (by simp); exact ((h4 a a3).trans a2).lt hE hv
            unfold inL
            rw [List.countP_map, List.countP_map]
            have gen : ∀ m, c < m → (List.range m).countP ((fun x : Int => decide (x = 0)) ∘ fun w => if w ∈ M ++ c :: more' then (1 : Int) else 0) < (List.range m).countP ((fun x : Int => decide (x = 0)) ∘ fun w => if w ∈ M then (1 : Int) else 0) := by
              intro m hm
              induction m with
              | zero => omega
              | succ m ih =>
                have mono : (List.range m).countP ((fun x : Int => decide (x = 0)) ∘ fun w => if w ∈ M ++ c :: more' then (1 : Int) else 0) ≤ (List.range m).countP ((fun x : Int => decide (x = 0)) ∘ fun w => if w ∈ M then (1 : Int) else 0) := by
                  apply List.countP_mono_left
                  intro z _ hz
                  by_cases hzM : z ∈ M
                  · simp [hzM] at hz
                  · simp [hzM]
                rw [List.range_succ, List.countP_append, List.countP_append]
                by_cases hcm : c = m
                · subst hcm
                  have a1 : [c].countP ((fun x : Int => decide (x = 0)) ∘ fun w => if w ∈ M ++ c :: more' then (1 : Int) else 0) = 0 := by simp
                  have a2 : [c].countP ((fun x : Int => decide (x = 0)) ∘ fun w => if w ∈ M then (1 : Int) else 0) = 1 := by simp [hcM]
                  rw [a1, a2]; omega
                · have := ih (by omega)
                  have a3 : [m].countP ((fun x : Int => decide (x = 0)) ∘ fun w => if w ∈ M ++ c :: more' then (1 : Int) else 0) ≤ [m].countP ((fun x : Int => decide (x = 0)) ∘ fun w => if w ∈ M then (1 : Int) else 0) := by
                    apply List.countP_mono_left
                    intro z _ hz
                    by_cases hzM : z ∈ M
                    · simp [hzM] at hz
                    · simp [hzM]
                  omega
            exact gen N hcN
          simp; omega
    | false =>
      right
      refine ⟨inL N M, rfl, M, rfl, fun w => ⟨h4 w, fun h => ?_⟩⟩
      exact Rch.closed (p := fun w => w ∈ M) h3 (fun a c e ha => h5 rfl (a, c) e ha) h
  obtain ⟨r, h1, M, rfl, h2⟩ := key
  rw [h1]
  congr 1
  unfold inL
  refine map_congr_range (fun w hw => ?_)
  have := (h2 w).trans (rl_mem hE hv).symm
  by_cases hm : w ∈ M
  · rw [if_pos hm, if_pos (this.1 hm)]
  · rw [if_neg hm, if_neg (fun h => hm (this.2 h))]
theorem refReach_eq {N : Nat} {E : Ar} (hE : inN N E) (hn : N ≤ 1000) (he : E.length ≤ 1000) {v : Nat} (hv : v < N) : fn_ref10_Reach (N : Int) (ai E) (v : Int) = some (inL N (rl N E v)) := by
  unfold fn_ref10_Reach
  have hm : (List.replicate N (0 : Int)).set v 1 = inL N [v] := by
    rw [replicate_map, set_map]; unfold inL
    refine map_congr_range (fun w hw => ?_)
    by_cases h : w = v <;> simp [h]
  have hg : getI (List.replicate N (0 : Int)) (v : Int) = some 0 := by rw [replicate_map]; exact getI_map hv
  rw [mkN (by omega)]
  simp only [Option.bind_some, hg, Int.toNat_natCast, hm]
  rw [ref2 hE he hv]; rfl
theorem refNodes_eq {N : Nat} (M : List Nat) (hN : N ≤ 1000) : fn_ref10_Nodes (inL N M) = some (li ((List.range N).filter (fun w => decide (w ∈ M)))) := by
  unfold fn_ref10_Nodes
  have hl : (inL N M).length = N := by simp [inL]
  have h := loop_carry (body := fn_ref10_Nodes_l1 (inL N M)) (inL N M) (fun k => li ((List.range k).filter (fun w => decide (w ∈ M)))) (li ((List.range N).filter (fun w => decide (w ∈ M)))) ?_ ?_
  · simp only [List.range_zero, List.filter_nil, li, List.map_nil] at h
    rw [h]; rfl
  · intro k h
    have hlf : ((List.range k).filter (fun w => decide (w ∈ M))).length ≤ k := by
      have := List.length_filter_le (fun w => decide (w ∈ M)) (List.range k); simpa using this
    have g : getI (inL N M) (k : Int) = some (if k ∈ M then (1 : Int) else 0) := getI_map (by omega)
    rw [List.range_succ, List.filter_append]
    generalize (List.range k).filter (fun w => decide (w ∈ M)) = A at hlf
    unfold fn_ref10_Nodes_l1
    simp only [dlt h, cond_true, g, Option.bind_some, w64s h (by omega : (inL N M).length ≤ 9223372036854775807)]
    by_cases hm : k ∈ M
    · have ha : app (li A) [(k : Int)] = some (li (A ++ [k])) := by rw [app_eq (by rw [li_len]; simp; omega)]; simp [li]
      simp only [hm, if_true, decide_true, cond_true, ha, Option.bind_some, List.filter_cons, List.filter_nil]
    · simp [hm]
  · simp [fn_ref10_Nodes_l1, hl]
theorem rl_filter (N : Nat) (E : Ar) (v : Nat) : (List.range N).filter (fun w => decide (w ∈ rl N E v)) = rl N E v := by
  conv => rhs; unfold rl
  refine List.filter_congr (fun w hw => ?_)
  unfold rl
  simp [List.mem_range.1 hw]
theorem Rch.turn {E : Ar} {a b : Nat} (h : Rch E a b) : Rch (tn E) b a := by
  induction h with
  | refl => exact .refl _
  | step _ e ih => exact Rch.head (tn_mem.2 e) ih
theorem rl_len (N : Nat) (E : Ar) (v : Nat) : (rl N E v).length ≤ N := by
  unfold rl
  have := List.length_filter_le (fun w => (open Classical in decide (Rch E v w))) (List.range N)
  simpa using this
theorem turnsLoop {N : Nat} {E : Ar} (hE : E.length ≤ 1000) : loop (fn_law10_GraphTurns_l1 (ai E) (some (mkG N (tn E))) (some (mkG N E))) 0 = some (.inl ()) := by
  have h := loop_nat (body := fn_law10_GraphTurns_l1 (ai E) (some (mkG N (tn E))) (some (mkG N E))) (fun k : Nat => (k : Int)) E.length (b := .inl ()) ?_ ?_
  · exact h
  · intro k hk
    have hk2 : k < (ai E).length := by rw [ai_len]; exact hk
    have hk3 : k < (tn E).length := by rw [tn_len]; exact hk
    have e1 : (tn E)[k] = (E[k].2, E[k].1) := by simp [tn]
    unfold fn_law10_GraphTurns_l1
    rw [dlt hk2, cond_true, Arc_of, Arc_of, dif_pos ⟨by omega, by omega⟩, dif_pos ⟨by omega, by omega⟩, w64s hk2 (by rw [ai_len]; omega)]
    simp [getI_ai hk, e1]
  · simp [fn_law10_GraphTurns_l1, ai_len]
theorem mem_take1 {L : List Nat} {k : Nat} (h : k < L.length) (x : Nat) : x ∈ L.take (k + 1) ↔ x ∈ L.take k ∨ x = L[k] := by rw [take_snoc h, List.mem_append, List.mem_singleton]
theorem backLoop (v : Nat) (L : List Nat) (hL : L.length ≤ 1000) : loop (fn_law10_GraphTurns_l2 (v : Int) (li L)) (false, 0) = some (decide (v ∈ L)) := by
  have h := loop_carry (body := fn_law10_GraphTurns_l2 (v : Int) (li L)) (li L) (fun k => decide (v ∈ L.take k)) (decide (v ∈ L)) ?_ ?_
  · simpa using h
  · intro k h
    have hk : k < L.length := by rw [li_len] at h; exact h
    unfold fn_law10_GraphTurns_l2
    have e : decide (v ∈ L.take (k + 1)) = (decide (v ∈ L.take k) || decide (v = L[k])) := by rw [← Bool.decide_or]; exact decide_eq_decide.2 (mem_take1 hk v)
    rw [e]
    simp only [dlt h, cond_true, getI_li hk, w64s h (by rw [li_len]; omega)]
    by_cases hv : v ∈ L.take k
    · simp [hv]
    · by_cases hv2 : v = L[k]
      · simp [hv, hv2]
      · have : ¬ ((L[k] : Nat) : Int) = (v : Int) := by omega
        simp [hv, hv2, this]
  · rw [li_len, List.take_length]; simp [fn_law10_GraphTurns_l2, li_len]
theorem thereLoop {N : Nat} {E : Ar} (hE : inN N E) (hN : N ≤ 1000) (he : E.length ≤ 1000) {v : Nat} (hv : v < N) : loop (fn_law10_GraphTurns_l3 (v : Int) (some (mkG N (tn E))) (li (rl N E v))) 0 = some (.inl ()) := by
  have hlen := rl_len N E v
  have h := loop_nat (body := fn_law10_GraphTurns_l3 (v : Int) (some (mkG N (tn E))) (li (rl N E v))) (fun k : Nat => (k : Int)) (rl N E v).length (b := .inl ()) ?_ ?_
  · exact h
  · intro k hk
    have hk2 : k < (li (rl N E v)).length := by rw [li_len]; exact hk
    have hr := (rl_mem hE hv).1 (List.getElem_mem hk)
    have hw := hr.lt hE hv
    unfold fn_law10_GraphTurns_l3
    simp only [dlt hk2, cond_true, getI_li hk, Option.bind_some, w64s hk2 (by rw [li_len]; omega)]
    rw [Reach_of (tn_in hE) (by omega) (by rw [tn_len]; omega) hw, Option.bind_some, backLoop _ _ (by have := rl_len N (tn E) (rl N E v)[k]; omega)]
    have : v ∈ rl N (tn E) (rl N E v)[k] := (rl_mem (tn_in hE) hw).2 hr.turn
    simp [this]
  · simp [fn_law10_GraphTurns_l3, li_len]
theorem GraphTurns_true (xa : Int) (xb : (List (Int × Int))) (xc : Int) (k0 : Tp.Ok (.int .i64) xa) (k1 : Tp.Ok (.sl (.cons (.int .i64) (.one (.int .i64)))) xb) (k2 : Tp.Ok (.int .i64) xc) : fn_law10_GraphTurns xa xb xc = some true := by
  unfold fn_law10_GraphTurns
  rw [awake10]
  by_cases hlen : 40 < xb.length
  · have : decide ((40 : Int) < ((xb.length : Nat) : Int)) = true := decide_eq_true (by omega)
    simp [this]
  have hl0 : decide ((40 : Int) < ((xb.length : Nat) : Int)) = false := decide_eq_false (by omega)
  by_cases hmid : 20 < xa
  · simp [hmid]
  rw [hl0, show decide (20 < xa) = false from decide_eq_false hmid, Bool.or_self, cond_false, Of_eq _ _ (by omega)]
  rcases New_eq xa xb (by omega) with ⟨h, e⟩ | ⟨h, e⟩ | ⟨h1, h2, h3, e⟩ | ⟨N, E, rfl, hN, rfl, hE, hout, e⟩
  · rw [e]; rfl
  · omega
  · rw [e]; rfl
  · have hEl : E.length ≤ 40 := by rw [ai_len] at hlen; omega
    rw [e]
    simp only [Option.bind_some, decide_true, Bool.not_true, cond_false]
    rw [Turn_of hE hN (by omega), Option.bind_some, Turn_of (tn_in hE) hN (by rw [tn_len]; omega), tn_tn]
    simp only [Option.bind_some, Option.isNone_some, Bool.or_self, cond_false]
    rw [Nodes_eq, Arcs_eq, tn_len, ai_len, turnsLoop (by omega)]
    simp only [Option.bind_some, decide_true, Bool.not_true, cond_false]
    by_cases hv : xc < 0 ∨ (N : Int) ≤ xc
    · rw [Reach_not hv]
      rcases hv with hv | hv <;> simp [hv]
    · obtain ⟨v, rfl⟩ := Int.eq_ofNat_of_zero_le (show 0 ≤ xc by omega)
      have hvN : v < N := by omega
      have e1 : (decide ((v : Int) < 0) || decide ((N : Int) ≤ (v : Int))) = false := by simp; omega
      have hr := rl_len N E v
      have hb := occ_bound (E.map (·.1)) v
      simp only [List.length_map] at hb
      have hx : (nxt (tn E) v).length ≤ 1000 := by
        unfold nxt
        have := occ_bound ((tn E).map (·.1)) v
        simp only [List.length_map, tn_len] at this ⊢; omega
      rw [e1, cond_false, Reach_of hE hN (by omega) hvN, refReach_eq hE (by omega) (by omega) hvN]
      simp only [Option.bind_some]
      rw [refNodes_eq _ (by omega), rl_filter, Option.bind_some, same01_eq _ _ (by rw [li_len]; omega), Option.bind_some, Next_of hN (by rw [tn_len]; omega) hvN, refTurn_eq _ (by rw [ai_len]; omega), ai_tn]
      simp only [Option.bind_some]
      rw [refNext_eq _ _ (by rw [ai_len, tn_len]; omega), refNext_nat, Out_of hN (by omega) hvN]
      simp only [Option.bind_some]
      rw [show (nxt (tn E) v).map (fun i : Nat => (i : Int)) = li (nxt (tn E) v) from rfl, same01_eq _ _ (by rw [li_len]; omega), same01_eq _ _ (by simp; omega), thereLoop hE (by omega) (by omega) hvN]
      simp
theorem marksLoop {N : Nat} (L : List Nat) (hN : N ≤ 1000) (hL : ∀ x ∈ L, x < N) (hl : L.length ≤ 1000) : loop (fn_law10_GraphReaches_l1 (li L)) (List.replicate N 0, 0) = some (inL N L) := by
  have h := loop_carry (body := fn_law10_GraphReaches_l1 (li L)) (li L) (fun k => inL N (L.take k)) (inL N L) ?_ ?_
  · have e : inL N (L.take 0) = List.replicate N 0 := by rw [replicate_map]; unfold inL; exact map_congr_range (fun w _ => by simp)
    rw [e] at h; exact h
  · intro k h
    have hk : k < L.length := by rw [li_len] at h; exact h
    have hx := hL _ (List.getElem_mem hk)
    have g : getI (inL N (L.take k)) ((L[k] : Nat) : Int) = some (if L[k] ∈ L.take k then (1 : Int) else 0) := getI_map hx
    unfold fn_law10_GraphReaches_l1
    simp only [dlt h, cond_true, getI_li hk, Option.bind_some, g, Int.toNat_natCast, w64s h (by rw [li_len]; omega)]
    congr 3
    unfold inL
    rw [set_map]
    refine map_congr_range (fun w hw => ?_)
    simp only [mem_take1 hk]
    by_cases h1 : w = L[k] <;> simp [h1]
  · rw [li_len, List.take_length]; simp [fn_law10_GraphReaches_l1, li_len]
theorem insideLoop {β : Type} {N : Nat} {body : Int → Option (Int ⊕ (Unit ⊕ β))} (M L : List Nat) (hL : ∀ x ∈ L, x ∈ M ∧ x < N) (hl : L.length ≤ 1000) {bad : β}
    (hb : ∀ k : Nat, body (k : Int) = cond (decide ((k : Int) < (((li L).length : Nat) : Int))) ((getI (li L) (k : Int)).bind fun x => (getI (inL N M) x).bind fun y => cond (decide (y = 0)) (some (.inr (.inr bad))) (some (.inl (IntKind.wrap .i64 ((k : Int) + 1))))) (some (.inr (.inl ())))) : loop body 0 = some (.inl ()) := by
  have h := loop_nat (body := body) (fun k : Nat => (k : Int)) L.length (b := .inl ()) ?_ ?_
  · exact h
  · intro k hk
    have hk2 : k < (li L).length := by rw [li_len]; exact hk
    obtain ⟨h1, h2⟩ := hL _ (List.getElem_mem hk)
    have g : getI (inL N M) ((L[k] : Nat) : Int) = some (if L[k] ∈ M then (1 : Int) else 0) := getI_map h2
    rw [hb, dlt hk2, cond_true, getI_li hk, Option.bind_some, g, w64s hk2 (by rw [li_len]; omega)]
    simp [h1]
  · rw [hb]; simp [li_len]
theorem GraphReaches_true (xa : Int) (xb : (List (Int × Int))) (xc : Int) (k0 : Tp.Ok (.int .i64) xa) (k1 : Tp.Ok (.sl (.cons (.int .i64) (.one (.int .i64)))) xb) (k2 : Tp.Ok (.int .i64) xc) : fn_law10_GraphReaches xa xb xc = some true := by
  unfold fn_law10_GraphReaches
  rw [awake10]
  by_cases hlen : 40 < xb.length
  · have : decide ((40 : Int) < ((xb.length : Nat) : Int)) = true := decide_eq_true (by omega)
    simp [this]
  have hl0 : decide ((40 : Int) < ((xb.length : Nat) : Int)) = false := decide_eq_false (by omega)
  by_cases hmid : 16 < xa
  · simp [hmid]
  rw [hl0, show decide (16 < xa) = false from decide_eq_false hmid, Bool.or_self, cond_false, Of_eq _ _ (by omega)]
  rcases New_eq xa xb (by omega) with ⟨h, e⟩ | ⟨h, e⟩ | ⟨h1, h2, h3, e⟩ | ⟨N, E, rfl, hN, rfl, hE, hout, e⟩
  · rw [e]; simp [Reach_none]
  · omega
  · rw [e]; simp [Reach_none]
  · have hEl : E.length ≤ 40 := by rw [ai_len] at hlen; omega
    rw [e]
    simp only [Option.bind_some, decide_true, Bool.not_true, Bool.false_or]
    by_cases hv : xc < 0 ∨ (N : Int) ≤ xc
    · rw [Reach_not hv]
      rcases hv with hv | hv <;> simp [hv]
    · obtain ⟨v, rfl⟩ := Int.eq_ofNat_of_zero_le (show 0 ≤ xc by omega)
      have hvN : v < N := by omega
      have e1 : (decide ((v : Int) < 0) || decide ((N : Int) ≤ (v : Int))) = false := by simp; omega
      have hr := rl_len N E v
      have hvr : v ∈ rl N E v := (rl_mem hE hvN).2 (.refl v)
      have hrN : ∀ x ∈ rl N E v, x < N := fun x hx => ((rl_mem hE hvN).1 hx).lt hE hvN
      rw [e1, cond_false, mkN (by omega), Option.bind_some, Reach_of hE hN (by omega) hvN, Option.bind_some, marksLoop _ (by omega) hrN (by omega), Option.bind_some]
      have hloop3 : loop (fn_law10_GraphReaches_l3 (some (mkG N E)) (li (rl N E v)) (inL N (rl N E v))) 0 = some (.inl ()) := by
        have h := loop_nat (body := fn_law10_GraphReaches_l3 (some (mkG N E)) (li (rl N E v)) (inL N (rl N E v))) (fun k : Nat => (k : Int)) (rl N E v).length (b := .inl ()) ?_ ?_
        · exact h
        · intro k hk
          have hk2 : k < (li (rl N E v)).length := by rw [li_len]; exact hk
          have hw := hrN _ (List.getElem_mem hk)
          have hwr := (rl_mem hE hvN).1 (List.getElem_mem hk)
          unfold fn_law10_GraphReaches_l3
          simp only [dlt hk2, cond_true, getI_li hk, Option.bind_some, w64s hk2 (by rw [li_len]; omega)]
          rw [Next_of hN (by omega) hw, Option.bind_some]
          have hx : (nxt E (rl N E v)[k]).length ≤ 1000 := by
            unfold nxt
            have := occ_bound (E.map (·.1)) (rl N E v)[k]
            simp only [List.length_map] at this ⊢; omega
          rw [insideLoop (N := N) (rl N E v) (nxt E (rl N E v)[k]) (fun x hx => ?_) hx (fun k => rfl)]
          · rfl
          · have hx2 := hwr.step (nxt_mem.1 hx)
            exact ⟨(rl_mem hE hvN).2 hx2, hx2.lt hE hvN⟩
        · simp [fn_law10_GraphReaches_l3, li_len]
      have g : getI (inL N (rl N E v)) (v : Int) = some (if v ∈ rl N E v then (1 : Int) else 0) := getI_map hvN
      rw [hloop3, Option.bind_some]
      simp only [g, hvr, if_true, Option.bind_some, show decide ((1 : Int) = 0) = false from rfl, Bool.false_or, decide_true, Bool.true_and]
      by_cases hE0 : E = []
      · subst hE0
        have : rl N [] v = [v] := by
          have hone : ∀ w, Rch [] v w → w = v := fun w h => Rch.closed (p := fun w => w = v) rfl (fun a b e => by simp at e) h
          have hs : li (rl N [] v) = li [v] := strict_eq (range_strict N _) (by simp [li]) (fun a => by
            unfold li
            simp only [List.mem_map]
            constructor
            · rintro ⟨x, hx, rfl⟩
              have := hone x ((rl_mem hE hvN).1 hx); subst this
              exact ⟨x, by simp, rfl⟩
            · rintro ⟨x, hx, rfl⟩
              simp at hx; subst hx; exact ⟨x, hvr, rfl⟩)
          have := congrArg (List.map Int.toNat) hs
          simpa [li, Function.comp_def] using this
        rw [this]; simp [ai, li]
      · have hpos : 0 < E.length := List.length_pos_iff.2 hE0
        have h0 : decide ((((ai E).length : Nat) : Int) = 0) = false := decide_eq_false (by rw [ai_len]; omega)
        have hw : IntKind.wrap .i64 ((((ai E).length : Nat) : Int) - 1) = ((E.length - 1 : Nat) : Int) := by rw [ai_len, w64 (by omega) (by omega)]; omega
        rw [h0, cond_false, hw, subL_eq (by omega) (by omega) (by rw [ai_len]; omega)]
        simp only [Option.bind_some, Int.toNat_natCast, Int.toNat_zero, List.drop_zero]
        have hF : (ai E).take (E.length - 1) = ai (E.take (E.length - 1)) := by simp [ai]
        have hFin : inN N (E.take (E.length - 1)) := fun e he => hE e (List.mem_of_mem_take he)
        have hFl : (E.take (E.length - 1)).length ≤ 40 := by simp; omega
        rw [hF, Of_eq _ _ (by rw [ai_len]; omega), New_ok hFin hN (by omega), Option.bind_some]
        simp only [Option.bind_some]
        rw [Reach_of hFin hN (by omega) hvN, Option.bind_some]
        have hsub : ∀ x ∈ rl N (E.take (E.length - 1)) v, x ∈ rl N E v ∧ x < N := fun x hx => by
          have h1 := (rl_mem hFin hvN).1 hx
          have h2 : Rch E v x := h1.mono (fun e he => List.mem_of_mem_take he)
          exact ⟨(rl_mem hE hvN).2 h2, h2.lt hE hvN⟩
        have hl2 := rl_len N (E.take (E.length - 1)) v
        have hnd : (rl N (E.take (E.length - 1)) v).Nodup := by unfold rl; exact List.nodup_range.filter _
        have hle := nodup_le hnd (fun x hx => (hsub x hx).1)
        rw [insideLoop (N := N) (rl N E v) (rl N (E.take (E.length - 1)) v) hsub (by omega) (fun k => rfl)]
        simp [li_len, hle]
end Go.Proofs.Ytoghdhopojoggaa
