/- 'easement/easementlaw12.CondFalls' returns true for every input, and each argument reads afterwards as it read before: the row's frame round the walk. -/
import Derived.Test.YtpbbaghblhmilaaZ5
namespace Go.Proofs.Ytpbbaghblhmilaa
set_option linter.unusedVariables false
set_option linter.unnecessarySimpa false
set_option linter.unusedSimpArgs false
set_option maxRecDepth 20000
open Go.RowKit
section
abbrev Wst := List Int × List Int × List Int × List Int × Int × List Int × List Int × List (List Int)
section
variable {N : Nat} {E : ArG} {A M L : Nat → Nat} {S : Nat → Bool} {m : Nat} {W O : List Nat} {F : List (List Nat)}
theorem flat_len : ∀ {F : List (List Nat)}, (∀ C ∈ F, C ≠ []) → F.length ≤ F.flatten.length
 | [], _ => Nat.le_refl _
 | C :: F, h => by
   have h1 := flat_len (F := F) (fun D hD => h D (List.mem_cons_of_mem _ hD))
   have h2 : 0 < C.length := List.length_pos_iff.2 (h C (by simp))
   rw [List.flatten_cons, List.length_append, List.length_cons]; omega
theorem Tj.fN (h : Tj N E A M L S m W O F) : F.length ≤ N :=
 Nat.le_trans (flat_len fun C hC => (h.f3 C hC).1) (nodup_lt h.f1 (fun x hx => h.lt x (h.sm x ((h.f2 x).1 hx))))
theorem walk_in (hE : inN N E) (hN : N ≤ 1048576) (he : E.length ≤ 67108864) {W0 : List Nat} {v : Nat} (hW : W = W0 ++ [v]) (h : Tj N E A M L S m W O F) :
   ∃ o, loop (fn_scc_finder_walk_p0i_krrrrirrod_l1 (adj N E) (m : Int) (v : Int)) (vec1 N A, vec1 N M, vec1 N L, vec1 N (bN S), li W, li O, F.map li) = some o ∧
     ((∃ A' L', o = .inl (vec1 N A', vec1 N M, vec1 N L', vec1 N (bN S), li W, li O, F.map li) ∧ Tj N E A' M L' S m W O F ∧ A' v = (nxt E v).length) ∨
       ∃ A' L' w, o = .inr (.inl (vec1 N A', vec1 N (up M w (m + 1)), vec1 N L', vec1 N (bN S), ((m + 1 : Nat) : Int), li (W ++ [w]), li (O ++ [w]), F.map li)) ∧ Tj N E A' (up M w (m + 1)) L' S (m + 1) (W ++ [w]) (O ++ [w]) F ∧ m + 1 ≤ N ∧ ∀ x, M x ≠ 0 → up M w (m + 1) x ≠ 0) := by
 have hv : v ∈ W := by rw [hW]; simp
 have hvN : v < N := h.lt v ((h.op v).1 (h.wo v hv)).1
 have hnl : (nxt E v).length ≤ 67108864 := by
   unfold nxt; rw [List.length_map]; exact Nat.le_trans (occ_bound _ _) (by rw [List.length_map]; exact he)
 refine loop_inv (fun s => ∃ A L, s = (vec1 N A, vec1 N M, vec1 N L, vec1 N (bN S), li W, li O, F.map li) ∧ Tj N E A M L S m W O F) (fun s => (nxt E v).length - (s.1.getD v 0).toNat) ?_ ⟨A, L, rfl, h⟩
 rintro s ⟨A, L, rfl, h⟩
 have hgd : (vec1 N A).getD v 0 = (A v : Int) := by unfold vec1; simp [List.getD, hvN]
 have hAl := h.al v
 unfold fn_scc_finder_walk_p0i_krrrrirrod_l1
 dsimp only
 rw [vec1_get hvN, Option.bind_some, adj_get hvN, Option.bind_some, li_len]
 by_cases hk : A v < (nxt E v).length
 · rw [decide_eq_true (show ((A v : Nat) : Int) < (((nxt E v).length : Nat) : Int) by omega), cond_true, Option.bind_some, Option.bind_some, getI_li hk]
   simp only [Option.bind_some]
   have hwr : IntKind.wrap .i64 (((A v : Nat) : Int) + 1) = ((A v + 1 : Nat) : Int) := by rw [w64 (by omega) (by omega)]; omega
   rw [hwr, vec1_set]
   generalize hz : (nxt E v)[A v] = z
   have hzN : z < N := (hE _ (nxt_mem.1 (hz ▸ List.getElem_mem hk))).2
   rw [vec1_get hzN, Option.bind_some]
   by_cases h0 : M z = 0
   · right
     rw [decide_eq_true (show ((M z : Nat) : Int) = 0 by omega), cond_true]
     have hmm := h.room hzN h0
     have hk2 := h.tree hE hW hk hz h0
     rw [meet_eq hzN (by omega) (by have := h.wN; omega) (by have := h.oN; omega)]
     refine ⟨_, rfl, .inr ⟨_, _, z, rfl, hk2, hmm, fun x hx => ?_⟩⟩
     unfold up; split
     · omega
     · exact hx
   · left
     rw [decide_eq_false (show ¬ ((M z : Nat) : Int) = 0 by omega), cond_false, vec1_get hzN, Option.bind_some]
     have hk2 := h.look hW hk hz h0
     have hmu : ∀ L', (nxt E v).length - (((vec1 N (up A v (A v + 1)), vec1 N M, vec1 N L', vec1 N (bN S), li W, li O, F.map li) : List Int × List Int × List Int × List Int × List Int × List Int × List (List Int)).1.getD v 0).toNat < (nxt E v).length - (((vec1 N A, vec1 N M, vec1 N L, vec1 N (bN S), li W, li O, F.map li) : List Int × List Int × List Int × List Int × List Int × List Int × List (List Int)).1.getD v 0).toNat := fun L' => by
       have : (vec1 N (up A v (A v + 1))).getD v 0 = ((A v + 1 : Nat) : Int) := by unfold vec1; simp [List.getD, hvN, up]
       dsimp only
       rw [this, hgd]; omega
     cases hs : S z with
     | false =>
       rw [hs] at hk2
       rw [show bN S z = 0 by unfold bN; rw [hs]; rfl, show decide (((0 : Nat) : Int) = 0) = true from rfl, cond_true, vec1_get hvN]
       simp only [Option.bind_some]
       have em : (if ((M z : Nat) : Int) < ((L v : Nat) : Int) then ((M z : Nat) : Int) else ((L v : Nat) : Int)) = ((min (L v) (M z) : Nat) : Int) := by split <;> omega
       rw [em, vec1_set]
       exact ⟨_, rfl, ⟨_, _, rfl, hk2⟩, hmu _⟩
     | true =>
       rw [hs] at hk2
       rw [show bN S z = 1 by unfold bN; rw [hs]; rfl, show decide (((1 : Nat) : Int) = 0) = false from rfl, cond_false]
       exact ⟨_, rfl, ⟨_, _, rfl, hk2⟩, hmu _⟩
 · right
   rw [decide_eq_false (show ¬ ((A v : Nat) : Int) < (((nxt E v).length : Nat) : Int) by omega), cond_false]
   exact ⟨_, rfl, .inl ⟨A, L, rfl, h, by omega⟩⟩
theorem walk_eq (hE : inN N E) (hN : N ≤ 1048576) (he : E.length ≤ 67108864) (h : Tj N E A M L S m [] [] F) {w : Nat} (hw : w < N) (h0 : M w = 0) :
   ∃ A' M' L' S' m' F', fn_scc_finder_walk_p0i_krrrrirrod (w : Int) (adj N E) (vec1 N A) (vec1 N M) (vec1 N L) (vec1 N (bN S)) (m : Int) (li []) (li []) (F.map li) = some (vec1 N A', vec1 N M', vec1 N L', vec1 N (bN S'), ((m' : Nat) : Int), li [], li [], F'.map li) ∧ Tj N E A' M' L' S' m' [] [] F' ∧ (∀ x, M x ≠ 0 → M' x ≠ 0) ∧ M' w ≠ 0 := by
 have hm := h.room hw h0
 have h1 := h.root hw h0
 unfold fn_scc_finder_walk_p0i_krrrrirrod
 rw [meet_eq hw (by omega) (by simp) (by simp), Option.bind_some]
 dsimp only
 have hl : ∃ b, loop (fn_scc_finder_walk_p0i_krrrrirrod_l2 (adj N E)) (vec1 N A, vec1 N (up M w (m + 1)), vec1 N (up L w (m + 1)), vec1 N (bN S), ((m + 1 : Nat) : Int), li ([] ++ [w]), li ([] ++ [w]), F.map li) = some b ∧
     ∃ A' M' L' S' m' F', b = (vec1 N A', vec1 N M', vec1 N L', vec1 N (bN S'), ((m' : Nat) : Int), li [], li [], F'.map li) ∧ Tj N E A' M' L' S' m' [] [] F' ∧ (∀ x, M x ≠ 0 → M' x ≠ 0) ∧ M' w ≠ 0 := by
   refine loop_inv (fun s => ∃ A' M' L' S' m' W' O' F', s = (vec1 N A', vec1 N M', vec1 N L', vec1 N (bN S'), ((m' : Nat) : Int), li W', li O', F'.map li) ∧ Tj N E A' M' L' S' m' W' O' F' ∧ (∀ x, M x ≠ 0 → M' x ≠ 0) ∧ M' w ≠ 0)
     (fun s : Wst => 2 * (N - s.2.2.2.2.1.toNat) + s.2.2.2.2.2.1.length) ?_ ⟨A, _, _, S, m + 1, [w], [w], F, rfl, h1, fun x hx => ?_, ?_⟩
   · rintro s ⟨A, M', L, S, m, W, O, F, rfl, h, hx, hw'⟩
     unfold fn_scc_finder_walk_p0i_krrrrirrod_l2
     dsimp only
     have hwN := h.wN
     rcases List.eq_nil_or_concat W with e | ⟨W0, v, e⟩
     · right
       subst e
       have hO := h.over
       subst hO
       rw [show li [] = ([] : List Int) from rfl, top6_nil, Option.bind_some]
       exact ⟨_, rfl, A, M', L, S, m, F, rfl, h, hx, hw'⟩
     · left
       have e : W = W0 ++ [v] := by simpa using e
       have hW0 : W0.length + 1 ≤ N := by rw [e] at hwN; simpa using hwN
       have htop : fn_stack_Stack_int_Top_a6 (adj N E, vec1 N A, vec1 N M', vec1 N L, vec1 N (bN S), (m : Int), li W, li O, F.map li) = some ((v : Int), true) := by
         rw [e, li_snoc, top6 _ _ _ _ _ _ _ _ _ _ (by rw [li_len]; omega)]
       rw [htop, Option.bind_some]
       dsimp only
       rw [Bool.not_true, cond_false]
       obtain ⟨o, ho, hq⟩ := walk_in hE hN he e h
       rw [ho, Option.bind_some]
       rcases hq with ⟨A', L', rfl, hk, ha⟩ | ⟨A', L', z, rfl, hk, hmm, hxx⟩
       · obtain ⟨L2, S2, O2, F2, hlv, hk2⟩ := leave_eq hk hN e ha hk.fN
         dsimp only
         rw [hlv, Option.bind_some]
         refine ⟨_, rfl, ⟨A', M', L2, S2, m, W0, O2, F2, rfl, hk2, hx, hw'⟩, ?_⟩
         dsimp only
         rw [li_len, li_len, e]; simp
       · refine ⟨_, rfl, ⟨A', _, L', S, m + 1, W ++ [z], O ++ [z], F, rfl, hk, fun x hx' => hxx x (hx x hx'), hxx w hw'⟩, ?_⟩
         dsimp only
         rw [li_len, li_len, Int.toNat_natCast, Int.toNat_natCast, List.length_append, List.length_singleton]
         omega
   · unfold up; split
     · omega
     · exact hx
   · rw [up_eq]; omega
 obtain ⟨b, hb, A', M', L', S', m', F', rfl, hk⟩ := hl
 exact ⟨A', M', L', S', m', F', hb, hk⟩
structure Prt (N : Nat) (E : ArG) (F : List (List Nat)) : Prop where
 f1 : F.flatten.Nodup
 f2 : ∀ v, v ∈ F.flatten ↔ v < N
 f3 : ∀ C ∈ F, C ≠ [] ∧ C.Pairwise (· < ·) ∧ ∀ a ∈ C, ∀ b, b ∈ C ↔ Rch E a b ∧ Rch E b a
theorem Tj.prt (h : Tj N E A M L S m [] [] F) (hall : ∀ v, v < N → M v ≠ 0) : Prt N E F where
 f1 := h.f1
 f2 := fun v => by
   rw [h.f2]
   constructor
   · exact fun hs => h.lt v (h.sm v hs)
   · intro hv
     cases hs : S v with
     | true => rfl
     | false => have := (h.op v).2 ⟨hall v hv, hs⟩; cases this
 f3 := h.f3
end
section
variable {N : Nat} {E : ArG}
theorem agr_same {α β : Type} (x : α) (k : Option β) : agr x x k = k := agr_self x k
theorem newFinder_eq (hN : N ≤ 1048576) : fn_scc_newFinder (adj N E) = some (vec1 N (fun _ => 0), vec1 N (fun _ => 0), vec1 N (fun _ => 0), vec1 N (bN fun _ => false)) := by
 have hl : (adj N E).length = N := by simp [adj]
 have hm : (mk ((((adj N E).length : Nat) : Int)) ((((adj N E).length : Nat) : Int)) 0 : Option (List Int)) = some (List.replicate N 0) := by rw [hl]; exact mkN (by omega)
 unfold fn_scc_newFinder
 rw [hm]
 simp only [Option.bind_some, agr_same]
 have : List.replicate N (0 : Int) = vec1 N (fun _ => 0) := by unfold vec1; rw [replicate_map]; rfl
 rw [this]; rfl
end
end
abbrev gD (l : List Int) (k : Nat) : Int := l.getD k 0
def sw (l : List Int) (i j : Nat) : List Int := (l.set i (gD l j)).set j (gD l i)
theorem gD_get {l : List Int} {k : Nat} (h : k < l.length) : gD l k = l[k] := by unfold gD; simp [List.getD, h]
theorem sw_len (l : List Int) (i j : Nat) : (sw l i j).length = l.length := by unfold sw; simp
theorem gD_set {l : List Int} {i k : Nat} {x : Int} (hi : i < l.length) : gD (l.set i x) k = if k = i then x else gD l k := by
 unfold gD
 simp only [List.getD_eq_getElem?_getD, List.getElem?_set]
 by_cases h : i = k
 · subst h; simp [hi]
 · simp [h, Ne.symm h]
theorem gD_sw {l : List Int} {i j k : Nat} (hi : i < l.length) (hj : j < l.length) : gD (sw l i j) k = if k = j then gD l i else if k = i then gD l j else gD l k := by
 unfold sw
 rw [gD_set (by simpa using hj), gD_set hi]
theorem sw_perm {l : List Int} {i j : Nat} (hi : i < l.length) (hj : j < l.length) : (sw l i j).Perm l := by
 unfold sw
 rw [gD_get hi, gD_get hj]
 exact List.set_set_perm hi hj
theorem swap_eq {l : List Int} {i j : Nat} (hi : i < l.length) (hj : j < l.length) : fn_scc_ready_Swap_rpii (i : Int) (j : Int) l = some (sw l i j) := by
 have h2 : getI (l.set i (l[j])) (j : Int) = some ((l.set i l[j])[j]'(by simpa using hj)) := getN (by simpa using hj)
 unfold fn_scc_ready_Swap_rpii
 rw [getN hi, getN hj]
 simp only [Option.bind_some, Int.toNat_natCast]
 rw [h2]
 simp only [Option.bind_some, agr_same, Int.toNat_natCast]
 unfold sw
 rw [gD_get hi, gD_get hj]
theorem less_eq {l : List Int} {i j : Nat} (hi : i < l.length) (hj : j < l.length) : fn_scc_ready_Less l (i : Int) (j : Int) = some (decide (gD l i < gD l j)) := by
 unfold fn_scc_ready_Less
 rw [getN hi, getN hj, gD_get hi, gD_get hj]; rfl
def HP (n s : Nat) (l : List Int) : Prop := ∀ k, 0 < k → k < n → s ≤ (k - 1) / 2 → gD l ((k - 1) / 2) ≤ gD l k
theorem down_eq {l : List Int} {n s i0 : Nat} (hn : n ≤ l.length) (hl : l.length ≤ 1073741824) (hs : s ≤ i0) (hi : i0 ≤ 1073741824) (h1 : ∀ k, 0 < k → k < n → s ≤ (k - 1) / 2 → (k - 1) / 2 ≠ i0 → gD l ((k - 1) / 2) ≤ gD l k)
   (h2 : ∀ k, 0 < k → k < n → (k - 1) / 2 = i0 → 0 < i0 → s ≤ (i0 - 1) / 2 → gD l ((i0 - 1) / 2) ≤ gD l k) :
   ∃ t l', fn_container_heap_down_jp0ii_r (i0 : Int) (n : Int) l = some (t, l') ∧ l'.Perm l ∧ HP n s l' ∧ ∀ k, n ≤ k → gD l' k = gD l k := by
 unfold fn_container_heap_down_jp0ii_r
 have hq : ∃ b, loop (fn_container_heap_down_jp0ii_r_l1 (n : Int)) ((i0 : Int), l) = some b ∧ b.2.Perm l ∧ HP n s b.2 ∧ ∀ k, n ≤ k → gD b.2 k = gD l k := by
   refine loop_inv (fun st => ∃ (i : Nat) (l' : List Int), st = ((i : Int), l') ∧ s ≤ i ∧ i ≤ 1073741824 ∧ l'.Perm l ∧ (∀ k, n ≤ k → gD l' k = gD l k) ∧ (∀ k, 0 < k → k < n → s ≤ (k - 1) / 2 → (k - 1) / 2 ≠ i → gD l' ((k - 1) / 2) ≤ gD l' k) ∧
     (∀ k, 0 < k → k < n → (k - 1) / 2 = i → 0 < i → s ≤ (i - 1) / 2 → gD l' ((i - 1) / 2) ≤ gD l' k)) (fun st => n - st.1.toNat) ?_ ⟨i0, l, rfl, hs, hi, .refl _, fun _ _ => rfl, h1, h2⟩
   rintro st ⟨i, l', rfl, hsi, hil, hp, hk, g1, g2⟩
   have hlen : l'.length = l.length := hp.length_eq
   unfold fn_container_heap_down_jp0ii_r_l1
   dsimp only
   have e1 : IntKind.wrap .i64 (2 * (i : Int)) = ((2 * i : Nat) : Int) := by rw [w64 (by omega) (by omega)]; omega
   have e2 : IntKind.wrap .i64 (((2 * i : Nat) : Int) + 1) = ((2 * i + 1 : Nat) : Int) := by rw [w64 (by omega) (by omega)]; omega
   have e3 : IntKind.wrap .i64 (((2 * i + 1 : Nat) : Int) + 1) = ((2 * i + 2 : Nat) : Int) := by rw [w64 (by omega) (by omega)]; omega
   rw [e1, e2, e3]
   by_cases hc : 2 * i + 1 < n
   · have hcond : (decide ((n : Int) ≤ ((2 * i + 1 : Nat) : Int)) || decide (((2 * i + 1 : Nat) : Int) < 0)) = false := by simp; omega
     rw [hcond, cond_false]
     have hch : ∃ c : Nat, (((cond (decide (((2 * i + 2 : Nat) : Int) < (n : Int))) ((fn_scc_ready_Less l' ((2 * i + 2 : Nat) : Int) ((2 * i + 1 : Nat) : Int)).bind fun t843 => some (t843)) (some (false))).bind fun t836 => cond (t836) (some ((2 * i + 2 : Nat) : Int)) (some ((2 * i + 1 : Nat) : Int)) : Option Int)) = some ((c : Nat) : Int) ∧
         i < c ∧ c < n ∧ (c - 1) / 2 = i ∧ ∀ k, 0 < k → k < n → (k - 1) / 2 = i → gD l' c ≤ gD l' k := by
       by_cases h22 : 2 * i + 2 < n
       · rw [decide_eq_true (show ((2 * i + 2 : Nat) : Int) < (n : Int) by omega), cond_true, less_eq (by omega) (by omega)]
         simp only [Option.bind_some]
         by_cases hl2 : gD l' (2 * i + 2) < gD l' (2 * i + 1)
         · refine ⟨2 * i + 2, by rw [decide_eq_true hl2]; rfl, by omega, h22, by omega, fun k k1 k2 k3 => ?_⟩
           have : k = 2 * i + 1 ∨ k = 2 * i + 2 := by omega
           rcases this with rfl | rfl <;> omega
         · refine ⟨2 * i + 1, by rw [decide_eq_false hl2]; rfl, by omega, hc, by omega, fun k k1 k2 k3 => ?_⟩
           have : k = 2 * i + 1 ∨ k = 2 * i + 2 := by omega
           rcases this with rfl | rfl <;> omega
       · refine ⟨2 * i + 1, by rw [decide_eq_false (show ¬ ((2 * i + 2 : Nat) : Int) < (n : Int) by omega)]; rfl, by omega, hc, by omega, fun k k1 k2 k3 => ?_⟩
         have : k = 2 * i + 1 := by omega
         subst this; exact Int.le_refl _
     obtain ⟨c, hce, c1, c2, c3, c4⟩ := hch
     rw [hce, Option.bind_some, less_eq (by omega) (by omega), Option.bind_some]
     by_cases hlt : gD l' c < gD l' i
     · left
       rw [decide_eq_true hlt, Bool.not_true, cond_false, swap_eq (by omega) (by omega), Option.bind_some]
       have hg : ∀ k, gD (sw l' i c) k = if k = c then gD l' i else if k = i then gD l' c else gD l' k := fun k => gD_sw (by omega) (by omega)
       refine ⟨_, rfl, ⟨c, sw l' i c, rfl, by omega, by omega, (sw_perm (by omega) (by omega)).trans hp, fun k hk' => ?_, fun k k1 k2 k3 k4 => ?_, fun k k1 k2 k3 k4 k5 => ?_⟩, ?_⟩
       · rw [hg, if_neg (by omega), if_neg (by omega)]; exact hk k hk'
       · rw [hg, hg, if_neg k4]
         by_cases a : k = c
         · subst a
           rw [if_pos rfl, if_pos c3]; omega
         · rw [if_neg a]
           by_cases b : k = i
           · subst b
             rw [if_neg (by omega), if_pos rfl]
             exact g2 c (by omega) c2 c3 k1 k3
           · rw [if_neg b]
             by_cases d : (k - 1) / 2 = i
             · rw [if_pos d]; exact c4 k k1 k2 d
             · rw [if_neg d]; exact g1 k k1 k2 k3 d
       · rw [hg, hg, c3, if_neg (by omega), if_pos rfl, if_neg (by omega), if_neg (by omega)]
         have := g1 k k1 k2 (by omega) (by omega)
         rw [k3] at this; exact this
       · dsimp only; omega
     · right
       rw [decide_eq_false hlt, Bool.not_false, cond_true]
       refine ⟨_, rfl, hp, fun k k1 k2 k3 => ?_, hk⟩
       by_cases d : (k - 1) / 2 = i
       · have := c4 k k1 k2 d
         show gD l' ((k - 1) / 2) ≤ gD l' k
         rw [d]; omega
       · exact g1 k k1 k2 k3 d
   · right
     have hcond : (decide ((n : Int) ≤ ((2 * i + 1 : Nat) : Int)) || decide (((2 * i + 1 : Nat) : Int) < 0)) = true := by simp; omega
     rw [hcond, cond_true]
     exact ⟨_, rfl, hp, fun k k1 k2 k3 => g1 k k1 k2 k3 (by omega), hk⟩
 obtain ⟨⟨i', l'⟩, hb, q1, q2, q3⟩ := hq
 rw [hb]
 exact ⟨_, l', rfl, q1, q2, q3⟩
theorem init_eq {l : List Int} (hl : l.length ≤ 1073741824) : ∃ l', fn_container_heap_Init_jp0_r l = some l' ∧ l'.Perm l ∧ HP l'.length 0 l' := by
 unfold fn_container_heap_Init_jp0_r fn_scc_ready_Len
 rw [Option.bind_some]
 have h0 : IntKind.wrap .i64 (IntKind.wrap .i64 (Int.tdiv ((l.length : Nat) : Int) 2) - 1) = ((l.length / 2 : Nat) : Int) - 1 := by
   have : Int.tdiv ((l.length : Nat) : Int) 2 = ((l.length / 2 : Nat) : Int) := by rw [Int.tdiv_eq_ediv_of_nonneg (by omega)]; omega
   rw [this, w64n (by omega), w64 (by omega) (by omega)]
 rw [h0]
 have hq : ∃ b, loop (fn_container_heap_Init_jp0_r_l1 ((l.length : Nat) : Int)) (((l.length / 2 : Nat) : Int) - 1, l) = some b ∧ b.Perm l ∧ HP b.length 0 b := by
   refine loop_inv (fun st => ∃ (s : Nat) (l' : List Int), st = ((s : Int) - 1, l') ∧ s ≤ 1073741824 ∧ l'.Perm l ∧ HP l.length s l') (fun st => (st.1 + 1).toNat) ?_ ⟨l.length / 2, l, rfl, by omega, .refl _, fun k k1 k2 k3 => by omega⟩
   rintro st ⟨s, l', rfl, hsl, hp, hh⟩
   have hlen : l'.length = l.length := hp.length_eq
   unfold fn_container_heap_Init_jp0_r_l1
   dsimp only
   cases s with
   | zero =>
     right
     rw [decide_eq_false (show ¬ (0 : Int) ≤ ((0 : Nat) : Int) - 1 by omega), cond_false]
     exact ⟨_, rfl, hp, by rw [hlen]; exact hh⟩
   | succ s =>
     left
     rw [show (((s + 1 : Nat) : Int) - 1) = ((s : Nat) : Int) by omega, decide_eq_true (show (0 : Int) ≤ ((s : Nat) : Int) by omega), cond_true]
     obtain ⟨t, l2, e, p1, p2, _⟩ := down_eq (l := l') (n := l.length) (s := s) (i0 := s) (by omega) (by omega) (Nat.le_refl _) (by omega) (fun k k1 k2 k3 k4 => hh k k1 k2 (by omega)) (fun k k1 k2 k3 k4 k5 => by omega)
     rw [e, Option.bind_some]
     refine ⟨_, rfl, ⟨s, l2, ?_, by omega, p1.trans hp, p2⟩, by dsimp only; rw [w64 (by omega) (by omega)]; omega⟩
     rw [w64 (by omega) (by omega)]
 obtain ⟨b, hb, q1, q2⟩ := hq
 rw [hb]
 exact ⟨b, rfl, q1, q2⟩
theorem HP.least {l : List Int} (h : HP l.length 0 l) : ∀ k, k < l.length → gD l 0 ≤ gD l k := by
 intro k
 induction k using Nat.strongRecOn with
 | _ k ih =>
   intro hk
   cases k with
   | zero => exact Int.le_refl _
   | succ k => exact Int.le_trans (ih ((k + 1 - 1) / 2) (by omega) (by omega)) (h (k + 1) (by omega) hk (Nat.zero_le _))
theorem pop_eq {l : List Int} (hl : l.length ≤ 1073741824) (h : HP l.length 0 l) (h0 : 0 < l.length) : ∃ l', fn_container_heap_Pop_jp0_r l = some (gD l 0, l') ∧ l.Perm (gD l 0 :: l') ∧ HP l'.length 0 l' := by
 unfold fn_container_heap_Pop_jp0_r fn_scc_ready_Len
 rw [Option.bind_some]
 obtain ⟨n, hn⟩ : ∃ n, l.length = n + 1 := ⟨l.length - 1, by omega⟩
 have e1 : IntKind.wrap .i64 (((l.length : Nat) : Int) - 1) = ((n : Nat) : Int) := by rw [w64 (by omega) (by omega)]; omega
 rw [e1, show (0 : Int) = ((0 : Nat) : Int) from rfl, swap_eq h0 (by omega), Option.bind_some]
 have hg : ∀ k, gD (sw l 0 n) k = if k = n then gD l 0 else if k = 0 then gD l n else gD l k := fun k => gD_sw h0 (by omega)
 obtain ⟨t, l2, e, p1, p2, p3⟩ := down_eq (l := sw l 0 n) (n := n) (s := 0) (i0 := 0) (by rw [sw_len]; omega) (by rw [sw_len]; omega) (Nat.le_refl _) (by omega) (fun k k1 k2 k3 k4 => by
   rw [hg, hg, if_neg (by omega), if_neg (by omega), if_neg (by omega), if_neg (by omega)]
   exact h k k1 (by omega) (Nat.zero_le _)) (fun k k1 k2 k3 k4 k5 => by omega)
 rw [e, Option.bind_some]
 dsimp only
 have hlen : l2.length = n + 1 := by rw [p1.length_eq, sw_len, hn]
 unfold fn_scc_ready_Pop_p0_r
 have e2 : IntKind.wrap .i64 (((l2.length : Nat) : Int) - 1) = ((n : Nat) : Int) := by rw [w64 (by omega) (by omega)]; omega
 rw [e2, getN (by omega), Option.bind_some, subL_eq (by omega) (by omega) (by omega), Option.bind_some]
 simp only [Option.bind_some, Int.toNat_natCast, Int.toNat_zero, List.drop_zero]
 have e3 : l2[n] = gD l 0 := by rw [← gD_get (by omega), p3 n (Nat.le_refl _), hg, if_pos rfl]
 refine ⟨l2.take n, by rw [e3], ?_, ?_⟩
 · have : l2 = l2.take n ++ [gD l 0] := by rw [← e3, ← take_snoc (by omega), List.take_of_length_le (by omega)]
   have h1 : (sw l 0 n).Perm l := sw_perm h0 (by omega)
   refine (h1.symm.trans p1.symm).trans ?_
   rw [this]
   refine List.perm_append_comm.trans ?_
   rw [← this]; exact .refl _
 · rw [List.length_take, hlen, Nat.min_eq_left (by omega)]
   intro k k1 k2 k3
   have : ∀ j, j < n → gD (l2.take n) j = gD l2 j := fun j hj => by unfold gD; simp [List.getD, hj]
   rw [this _ (by omega), this _ k2]
   exact p2 k k1 k2 k3
theorem push_eq {l : List Int} {x : Int} (hl : l.length < 1073741824) (h : HP l.length 0 l) : ∃ l', fn_container_heap_Push_jp0ji_r x l = some l' ∧ l'.Perm (x :: l) ∧ HP l'.length 0 l' := by
 unfold fn_container_heap_Push_jp0ji_r fn_scc_ready_Push_p0ji_r fn_scc_ready_Len fn_container_heap_up_jp0i_r
 rw [app_eq (by simp; omega)]
 simp only [Option.bind_some]
 have hlen : (l ++ [x]).length = l.length + 1 := by simp
 have e1 : IntKind.wrap .i64 ((((l ++ [x]).length : Nat) : Int) - 1) = ((l.length : Nat) : Int) := by rw [w64 (by omega) (by omega)]; omega
 rw [e1]
 have hq : ∃ b, loop fn_container_heap_up_jp0i_r_l1 (((l.length : Nat) : Int), l ++ [x]) = some b ∧ b.Perm (l ++ [x]) ∧ HP b.length 0 b := by
   refine loop_inv (fun st => ∃ (j : Nat) (l' : List Int), st = ((j : Int), l') ∧ j < l'.length ∧ l'.Perm (l ++ [x]) ∧ (∀ k, 0 < k → k < l'.length → k ≠ j → gD l' ((k - 1) / 2) ≤ gD l' k) ∧ (∀ k, 0 < k → k < l'.length → (k - 1) / 2 = j → 0 < j → gD l' ((j - 1) / 2) ≤ gD l' k)) (fun st => st.1.toNat) ?_ ⟨l.length, l ++ [x], rfl, by omega, .refl _, fun k k1 k2 k3 => ?_, fun k k1 k2 k3 k4 => by omega⟩
   · rintro st ⟨j, l', rfl, hj, hp, g1, g2⟩
     have hlen' : l'.length = l.length + 1 := by rw [hp.length_eq, hlen]
     unfold fn_container_heap_up_jp0i_r_l1
     dsimp only
     cases j with
     | zero =>
       right
       have : IntKind.wrap .i64 (Int.tdiv (IntKind.wrap .i64 (((0 : Nat) : Int) - 1)) 2) = ((0 : Nat) : Int) := by decide
       rw [this, decide_eq_true rfl, cond_true]
       exact ⟨_, rfl, hp, fun k k1 k2 k3 => g1 k k1 k2 (by omega)⟩
     | succ j =>
       have ew : IntKind.wrap .i64 (((j + 1 : Nat) : Int) - 1) = ((j : Nat) : Int) := by rw [w64 (by omega) (by omega)]; omega
       have et : Int.tdiv ((j : Nat) : Int) 2 = ((j / 2 : Nat) : Int) := by rw [Int.tdiv_eq_ediv_of_nonneg (by omega)]; omega
       rw [ew, et, w64n (by omega), decide_eq_false (show ¬ ((j / 2 : Nat) : Int) = ((j + 1 : Nat) : Int) by omega), cond_false, less_eq hj (by omega)]
       simp only [Option.bind_some]
       by_cases hlt : gD l' (j + 1) < gD l' (j / 2)
       · left
         rw [decide_eq_true hlt, Bool.not_true, cond_false, swap_eq (by omega) hj, Option.bind_some]
         have hg : ∀ k, gD (sw l' (j / 2) (j + 1)) k = if k = j + 1 then gD l' (j / 2) else if k = j / 2 then gD l' (j + 1) else gD l' k := fun k => gD_sw (by omega) hj
         refine ⟨_, rfl, ⟨j / 2, sw l' (j / 2) (j + 1), rfl, by rw [sw_len]; omega, (sw_perm (by omega) hj).trans hp, fun k k1 k2 k3 => ?_, fun k k1 k2 k3 k4 => ?_⟩, by dsimp only; omega⟩
         · rw [sw_len] at k2
           rw [hg, hg]
           by_cases a : k = j + 1
           · subst a
             rw [if_pos rfl, if_neg (by omega), if_pos (by omega)]; omega
           · rw [if_neg a, if_neg k3]
             by_cases b : (k - 1) / 2 = j + 1
             · rw [if_pos b]
               have := g2 k k1 k2 b (by omega)
               rw [show (j + 1 - 1) / 2 = j / 2 by omega] at this; exact this
             · rw [if_neg b]
               by_cases c : (k - 1) / 2 = j / 2
               · rw [if_pos c]
                 have := g1 k k1 k2 a
                 rw [c] at this; omega
               · rw [if_neg c]; exact g1 k k1 k2 a
         · rw [sw_len] at k2
           have q1 : gD l' ((j / 2 - 1) / 2) ≤ gD l' (j / 2) := g1 (j / 2) k4 (by omega) (by omega)
           rw [hg, hg, if_neg (by omega), if_neg (by omega)]
           by_cases a : k = j + 1
           · rw [if_pos a]; exact q1
           · rw [if_neg a, if_neg (by omega)]
             have := g1 k k1 k2 a
             rw [k3] at this; omega
       · right
         rw [decide_eq_false hlt, Bool.not_false, cond_true]
         refine ⟨_, rfl, hp, fun k k1 k2 k3 => ?_⟩
         by_cases a : k = j + 1
         · subst a
           show gD l' ((j + 1 - 1) / 2) ≤ gD l' (j + 1)
           rw [show (j + 1 - 1) / 2 = j / 2 by omega]; omega
         · exact g1 k k1 k2 a
   · have hh := h k k1 (by omega) (Nat.zero_le _)
     have hg : ∀ i, i < l.length → gD (l ++ [x]) i = gD l i := fun i hi => by
       unfold gD; simp only [List.getD_eq_getElem?_getD]; rw [List.getElem?_append_left hi]
     rw [hg _ (by omega), hg _ (by omega)]; exact hh
 obtain ⟨b, hb, q1, q2⟩ := hq
 rw [hb]
 exact ⟨b, rfl, q1.trans List.perm_append_comm, q2⟩
section
def hmI (F : List (List Nat)) (v : Nat) : Nat := F.findIdx (fun C => decide (v ∈ C))
abbrev gF (F : List (List Nat)) (k : Nat) : List Nat := F.getD k []
def lst (F : List (List Nat)) (k : Nat) : Nat := (gF F k).getD 0 0
theorem vec1_congr {N : Nat} {f g : Nat → Nat} (h : ∀ v, v < N → f v = g v) : vec1 N f = vec1 N g := map_congr_range fun v hv => by rw [h v hv]
theorem gF_get {F : List (List Nat)} {k : Nat} (h : k < F.length) : gF F k = F[k] := by unfold gF; simp [List.getD, h]
section
variable {N : Nat} {E : ArG} {F : List (List Nat)}
theorem Prt.gmem (P : Prt N E F) {k : Nat} (h : k < F.length) : gF F k ∈ F := by rw [gF_get h]; exact List.getElem_mem h
theorem Prt.mlt (P : Prt N E F) {k v : Nat} (h : k < F.length) (hv : v ∈ gF F k) : v < N := (P.f2 v).1 (List.mem_flatten.2 ⟨_, P.gmem h, hv⟩)
theorem Prt.uniq (P : Prt N E F) {i j v : Nat} (hi : i < F.length) (hj : j < F.length) (h1 : v ∈ gF F i) (h2 : v ∈ gF F j) : i = j := by
 have hp : F.flatten.Pairwise (fun a b => a ≠ b) := P.f1
 rw [List.pairwise_flatten] at hp
 have hq := hp.2
 rw [List.pairwise_iff_getElem] at hq
 rw [gF_get hi] at h1; rw [gF_get hj] at h2
 rcases Nat.lt_trichotomy i j with k | k | k
 · exact absurd rfl (hq i j hi hj k v h1 v h2)
 · exact k
 · exact absurd rfl (hq j i hj hi k v h2 v h1)
theorem Prt.hm (P : Prt N E F) {v : Nat} (hv : v < N) : hmI F v < F.length ∧ v ∈ gF F (hmI F v) := by
 obtain ⟨C, hC, hvC⟩ := List.mem_flatten.1 ((P.f2 v).2 hv)
 have h : hmI F v < F.length := List.findIdx_lt_length_of_exists ⟨C, hC, by simpa using hvC⟩
 refine ⟨h, ?_⟩
 rw [gF_get h]
 have := List.findIdx_getElem (w := h)
 unfold hmI
 simpa using this
theorem Prt.hm_eq (P : Prt N E F) {k v : Nat} (hk : k < F.length) (hv : v ∈ gF F k) : hmI F v = k := by
 obtain ⟨h1, h2⟩ := P.hm (P.mlt hk hv)
 exact P.uniq h1 hk h2 hv
theorem Prt.lst_mem (P : Prt N E F) {k : Nat} (h : k < F.length) : lst F k ∈ gF F k := by
 have h1 := (P.f3 _ (P.gmem h)).1
 unfold lst
 generalize gF F k = C at h1
 cases C with
 | nil => exact absurd rfl h1
 | cons a C => simp
theorem Prt.lst_le (P : Prt N E F) {k v : Nat} (h : k < F.length) (hv : v ∈ gF F k) : lst F k ≤ v := by
 have h1 := (P.f3 _ (P.gmem h)).2.1
 unfold lst
 generalize gF F k = C at h1 hv
 cases C with
 | nil => cases hv
 | cons a C =>
   rcases List.mem_cons.1 hv with rfl | hv
   · simp
   · have := (List.pairwise_cons.1 h1).1 v hv; simp; omega
theorem Prt.hm_lst (P : Prt N E F) {k : Nat} (h : k < F.length) : hmI F (lst F k) = k := P.hm_eq h (P.lst_mem h)
theorem Prt.same (P : Prt N E F) {v w : Nat} (hv : v < N) (hw : w < N) : hmI F v = hmI F w ↔ Rch E v w ∧ Rch E w v := by
 obtain ⟨h1, h2⟩ := P.hm hv
 obtain ⟨h3, h4⟩ := P.hm hw
 rw [← (P.f3 _ (P.gmem h1)).2.2 v h2 w]
 exact ⟨fun e => by rw [e]; exact h4, fun h => P.uniq h1 h3 h h4⟩
theorem Prt.flen (P : Prt N E F) : F.length ≤ N := Nat.le_trans (flat_len fun C hC => (P.f3 C hC).1) (nodup_lt P.f1 (fun x hx => (P.f2 x).1 hx))
theorem Prt.clen (P : Prt N E F) {k : Nat} (h : k < F.length) : (gF F k).length ≤ N := nodup_lt ((P.f3 _ (P.gmem h)).2.1.imp (fun h e => by rw [e] at h; omega)) (fun x hx => P.mlt h hx)
theorem getI_Fl {k : Nat} (h : k < F.length) : getI (F.map li) (k : Int) = some (li (gF F k)) := by rw [getN (by simpa using h), gF_get h]; simp
theorem homes_eq (P : Prt N E F) (hN : N ≤ 1048576) : fn_scc_homes (N : Int) (F.map li) = some (vec1 N (hmI F)) := by
 have hFl := P.flen
 unfold fn_scc_homes
 rw [mkN (by omega), Option.bind_some, replicate_map]
 have h := loop_nat (body := fn_scc_homes_l2 (F.map li)) (fun k => (vec1 N (fun v => if v ∈ (F.take k).flatten then hmI F v else 0), (k : Int))) F.length (b := vec1 N (hmI F)) ?_ ?_
 · rw [show ((List.range N).map (fun _ => (0 : Int)), (0 : Int)) = (vec1 N (fun v => if v ∈ (F.take 0).flatten then hmI F v else 0), ((0 : Nat) : Int)) from rfl, h]; rfl
 · intro k hk
   have hcl := P.clen hk
   unfold fn_scc_homes_l2
   dsimp only
   rw [List.length_map, dlt hk, cond_true, getI_Fl hk, Option.bind_some]
   have h2 := loop_nat (body := fn_scc_homes_l1 (k : Int) (li (gF F k))) (fun j => (vec1 N (fun v => if v ∈ (gF F k).take j then k else if v ∈ (F.take k).flatten then hmI F v else 0), (j : Int))) (gF F k).length (b := vec1 N (fun v => if v ∈ gF F k then k else if v ∈ (F.take k).flatten then hmI F v else 0)) ?_ ?_
   · rw [show (vec1 N (fun v => if v ∈ (F.take k).flatten then hmI F v else 0), (0 : Int)) = (vec1 N (fun v => if v ∈ (gF F k).take 0 then k else if v ∈ (F.take k).flatten then hmI F v else 0), ((0 : Nat) : Int)) by simp, h2, Option.bind_some, w64s hk (by omega)]
     refine congrArg (fun x => some (Sum.inl (x, ((k + 1 : Nat) : Int)))) (vec1_congr fun v hv => ?_)
     have hmf : v ∈ (F.take (k + 1)).flatten ↔ v ∈ (F.take k).flatten ∨ v ∈ gF F k := by
       rw [take_snoc hk, List.flatten_append, List.mem_append, gF_get hk]; simp
     by_cases a : v ∈ gF F k
     · rw [if_pos a, if_pos (hmf.2 (.inr a)), P.hm_eq hk a]
     · rw [if_neg a]
       by_cases b : v ∈ (F.take k).flatten
       · rw [if_pos b, if_pos (hmf.2 (.inl b))]
       · rw [if_neg b, if_neg (fun c => (hmf.1 c).elim b a)]
   · intro j hj
     unfold fn_scc_homes_l1
     dsimp only
     have hvN := P.mlt hk (List.getElem_mem hj)
     rw [li_len, dlt hj, cond_true, getI_li hj, Option.bind_some, vec1_get hvN, Option.bind_some, vec1_set, Option.bind_some, w64s hj (by omega)]
     refine congrArg (fun x => some (Sum.inl (x, ((j + 1 : Nat) : Int)))) (vec1_congr fun v hv => ?_)
     unfold up
     rw [take_snoc hj]
     simp only [List.mem_append, List.mem_singleton]
     by_cases a : v = (gF F k)[j]
     · rw [if_pos a, if_pos (.inr a)]
     · rw [if_neg a]
       by_cases b : v ∈ (gF F k).take j
       · rw [if_pos b, if_pos (.inl b)]
       · rw [if_neg b, if_neg (show ¬ (v ∈ (gF F k).take j ∨ v = (gF F k)[j]) from fun c => c.elim b a)]
   · unfold fn_scc_homes_l1
     simp only [li_len]
     rw [dge (Nat.lt_irrefl _), cond_false, List.take_length]
 · unfold fn_scc_homes_l2
   simp only [List.length_map]
   rw [dge (Nat.lt_irrefl _), cond_false, List.take_length]
   exact congrArg (fun x => some (Sum.inr x)) (vec1_congr fun v hv => if_pos ((P.f2 v).2 hv))
def bk (X : List (Nat × Nat)) (k : Nat) : List Nat := (X.filter (fun e => decide (e.2 = k))).map (·.1)
def wtC (X : List (Nat × Nat)) (k : Nat) : Nat := X.countP (fun e => decide (e.1 = k))
def bkL (K : Nat) (X : List (Nat × Nat)) : List (List Int) := (List.range K).map (fun k => li (bk X k))
def crs (F : List (List Nat)) (v : Nat) (ws : List Nat) : List (Nat × Nat) := ws.filterMap (fun w => if hmI F v = hmI F w then none else some (hmI F v, hmI F w))
def XA (F : List (List Nat)) (E : ArG) (n : Nat) : List (Nat × Nat) := (List.range n).flatMap (fun v => crs F v (nxt E v))
theorem bk_snoc (X : List (Nat × Nat)) (e : Nat × Nat) (k : Nat) : bk (X ++ [e]) k = if k = e.2 then bk X k ++ [e.1] else bk X k := by
 unfold bk
 rw [List.filter_append, List.map_append]
 by_cases h : k = e.2
 · rw [if_pos h]; simp [h]
 · rw [if_neg h]; simp [Ne.symm h]
theorem wtC_snoc (X : List (Nat × Nat)) (e : Nat × Nat) : wtC (X ++ [e]) = up (wtC X) e.1 (wtC X e.1 + 1) := by
 funext k
 unfold wtC up
 rw [List.countP_append]
 by_cases h : k = e.1
 · subst h; simp
 · rw [if_neg h]; simp [Ne.symm h]
theorem bkL_snoc {K : Nat} {X : List (Nat × Nat)} {e : Nat × Nat} : (bkL K X).set e.2 (li (bk X e.2 ++ [e.1])) = bkL K (X ++ [e]) := by
 unfold bkL
 rw [set_map]
 refine map_congr_range fun k _ => ?_
 rw [bk_snoc]
 by_cases h : k = e.2
 · rw [if_pos h, if_pos h, h]
 · rw [if_neg h, if_neg h]
theorem bk_len (X : List (Nat × Nat)) (k : Nat) : (bk X k).length ≤ X.length := by unfold bk; rw [List.length_map]; exact List.length_filter_le _ _
theorem wtC_le (X : List (Nat × Nat)) (k : Nat) : wtC X k ≤ X.length := List.countP_le_length
theorem crs_len (F : List (List Nat)) (v : Nat) (ws : List Nat) : (crs F v ws).length ≤ ws.length := List.length_filterMap_le _ _
theorem nxt_len (E : ArG) (v : Nat) : (nxt E v).length = cnt (E.map (·.1)) v := by unfold nxt; rw [List.length_map, occ_len]
theorem XA_succ (F : List (List Nat)) (E : ArG) (n : Nat) : XA F E (n + 1) = XA F E n ++ crs F n (nxt E n) := by
 unfold XA; rw [List.range_succ, List.flatMap_append]; simp
theorem XA_len (F : List (List Nat)) (E : ArG) : ∀ n, (XA F E n).length ≤ ltc (E.map (·.1)) n
 | 0 => by simp [XA]
 | n + 1 => by
   rw [XA_succ, List.length_append, ltc_succ, ← nxt_len]
   have := XA_len F E n; have := crs_len F n (nxt E n); omega
theorem XA_mem {e : Nat × Nat} (hE : inN N E) : e ∈ XA F E N ↔ ∃ v w, (v, w) ∈ E ∧ hmI F v = e.1 ∧ hmI F w = e.2 ∧ e.1 ≠ e.2 := by
 unfold XA crs
 simp only [List.mem_flatMap, List.mem_range, List.mem_filterMap]
 constructor
 · rintro ⟨v, hv, w, hw, he⟩
   split at he
   · cases he
   · rename_i hne
     cases he
     exact ⟨v, w, nxt_mem.1 hw, rfl, rfl, hne⟩
 · rintro ⟨v, w, hvw, h1, h2, h3⟩
   refine ⟨v, (hE _ hvw).1, w, nxt_mem.2 hvw, ?_⟩
   rw [if_neg (by rw [h1, h2]; exact h3), h1, h2]
theorem chk_same (a : Int) : chkI a a = some () := by unfold chkI; simp
theorem between_eq (P : Prt N E F) (hE : inN N E) (hN : N ≤ 1048576) (he : E.length ≤ 67108864) : fn_scc_between (adj N E) (vec1 N (hmI F)) ((F.length : Nat) : Int) = some (bkL F.length (XA F E N), vec1 F.length (wtC (XA F E N))) := by
 have hFl := P.flen
 have hml : (E.map (·.1)).length = E.length := by simp
 unfold fn_scc_between
 have m1 : (mk ((F.length : Nat) : Int) ((F.length : Nat) : Int) ([] : List Int) : Option (List (List Int))) = some (List.replicate F.length []) := mkN (by omega)
 have m2 : (mk ((F.length : Nat) : Int) ((F.length : Nat) : Int) (0 : Int) : Option (List Int)) = some (List.replicate F.length 0) := mkN (by omega)
 rw [m1, m2]
 simp only [Option.bind_some, agr_same]
 have h := loop_nat (body := fn_scc_between_l2 (adj N E) (vec1 N (hmI F))) (fun n => (vec1 F.length (wtC (XA F E n)), (n : Int), bkL F.length (XA F E n))) N (b := (vec1 F.length (wtC (XA F E N)), bkL F.length (XA F E N))) ?_ ?_
 · have e0 : (List.replicate F.length (0 : Int), (0 : Int), List.replicate F.length ([] : List Int)) = (vec1 F.length (wtC (XA F E 0)), ((0 : Nat) : Int), bkL F.length (XA F E 0)) := by
     unfold vec1 bkL; rw [replicate_map, replicate_map]; rfl
   rw [e0, h]; rfl
 · intro v hv
   have hXl := XA_len F E (v + 1)
   have hlt := ltc_le (E.map (·.1)) (v + 1)
   rw [ltc_succ, ← nxt_len] at hXl hlt
   have hX0 := XA_len F E v
   unfold fn_scc_between_l2
   dsimp only
   rw [show (adj N E).length = N by simp [adj], dlt hv, cond_true, adj_get hv, Option.bind_some]
   have h2 := loop_nat (body := fn_scc_between_l1 (vec1 N (hmI F)) (v : Int) (li (nxt E v))) (fun j => (vec1 F.length (wtC (XA F E v ++ crs F v ((nxt E v).take j))), (j : Int), bkL F.length (XA F E v ++ crs F v ((nxt E v).take j)))) (nxt E v).length
     (b := (vec1 F.length (wtC (XA F E (v + 1))), bkL F.length (XA F E (v + 1)))) ?_ ?_
   · have e0 : (vec1 F.length (wtC (XA F E v)), (0 : Int), bkL F.length (XA F E v)) = (vec1 F.length (wtC (XA F E v ++ crs F v ((nxt E v).take 0))), ((0 : Nat) : Int), bkL F.length (XA F E v ++ crs F v ((nxt E v).take 0))) := by simp [crs]
     rw [e0, h2, Option.bind_some, w64s hv (by omega)]
   · intro j hj
     unfold fn_scc_between_l1
     dsimp only
     have hwN : (nxt E v)[j] < N := (hE _ (nxt_mem.1 (List.getElem_mem hj))).2
     have hpl : (XA F E v ++ crs F v ((nxt E v).take j)).length ≤ E.length := by
       rw [List.length_append]
       have := crs_len F v ((nxt E v).take j); rw [List.length_take] at this; omega
     rw [li_len, dlt hj, cond_true, getI_li hj, Option.bind_some, vec1_get hv, Option.bind_some, vec1_get hwN, Option.bind_some]
     have hts : crs F v ((nxt E v).take (j + 1)) = crs F v ((nxt E v).take j) ++ (if hmI F v = hmI F (nxt E v)[j] then [] else [(hmI F v, hmI F (nxt E v)[j])]) := by
       rw [take_snoc hj]; unfold crs
       rw [List.filterMap_append]
       congr 1
       by_cases q : hmI F v = hmI F (nxt E v)[j] <;> simp [q]
     generalize (nxt E v)[j] = w at *
     generalize hX : XA F E v ++ crs F v ((nxt E v).take j) = X at *
     rw [hts, ← List.append_assoc, hX]
     by_cases q : hmI F v = hmI F w
     · rw [if_pos q, List.append_nil, dlen q, cond_false, w64s hj (by omega)]
     · obtain ⟨hv1, _⟩ := P.hm hv
       obtain ⟨hw1, _⟩ := P.hm hwN
       have hb1 : getI (bkL F.length X) ((hmI F w : Nat) : Int) = some (li (bk X (hmI F w))) := getI_map hw1
       have hbl := bk_len X (hmI F w)
       have hwl := wtC_le X (hmI F v)
       rw [if_neg q, dlen' q, cond_true, Option.bind_some, hb1]
       simp only [Option.bind_some, chk_same, hb1]
       rw [app_eq (by rw [li_len]; simp; omega), Option.bind_some, vec1_get hv1]
       simp only [Option.bind_some]
       rw [w64s (n := wtC X (hmI F v) + 1) (by omega) (by omega), vec1_set, w64s hj (by omega), Int.toNat_natCast, ← li_snoc]
       have e1 := bkL_snoc (K := F.length) (X := X) (e := (hmI F v, hmI F w))
       have e2 := wtC_snoc X (hmI F v, hmI F w)
       dsimp only at e1 e2
       rw [e1, e2]
   · unfold fn_scc_between_l1
     simp only [li_len]
     rw [dge (Nat.lt_irrefl _), cond_false, List.take_length, ← XA_succ]
 · unfold fn_scc_between_l2
   simp only [show (adj N E).length = N by simp [adj]]
   rw [dge (Nat.lt_irrefl _), cond_false]
end
end
theorem same01_eq (xa xb : List Int) (hn : xa.length ≤ 1073741824) : fn_ref01_Same xa xb = some (decide (xa = xb)) := by
 unfold fn_ref01_Same
 by_cases hl : xa.length = xb.length
 · rw [dlen hl, cond_false, loop_alike (body := fn_ref01_Same_l1 xa xb) xa xb (.inr false) (.inl ()) hl ?_ ?_]
   · by_cases h : xa = xb <;> simp [h]
   · intro k h; unfold fn_ref01_Same_l1
     have h2 : k < xb.length := by omega
     by_cases q : xa[k] = xb[k] <;> simp [getN h, getN h2, h, q, w64s h (by omega)]
   · simp [fn_ref01_Same_l1]
 · rw [dlen' hl, cond_true]
   have : ¬ xa = xb := fun h => hl (by rw [h])
   simp [this]
def refOut (xb : List (Int × Int)) (v : Int) : List Nat := (List.range xb.length).filter (fun i => decide ((xb.getD i (0, 0)).1 = v))
theorem refOut_occ (E : ArG) (v : Nat) : refOut (ai E) (v : Int) = occ (E.map (·.1)) v := by
 unfold refOut occ
 rw [ai_len, List.length_map]
 refine List.filter_congr (fun i hi => ?_)
 have hi' := List.mem_range.1 hi
 simp [ai, hi', Int.ofNat_inj]
theorem refOut_not {N : Nat} {E : ArG} (hE : inN N E) {v : Int} (h : v < 0 ∨ (N : Int) ≤ v) : refOut (ai E) v = [] := by
 unfold refOut
 rw [List.filter_eq_nil_iff]
 intro i hi
 rw [List.mem_range, ai_len] at hi
 have := (hE _ (List.getElem_mem hi)).1
 simp [ai, hi]; omega
theorem nxt_eq (E : ArG) (v : Nat) : nxt E v = (E.filter (fun e => decide (e.1 = v))).map (·.2) := by
 have hE : E = (List.range E.length).map (fun i => E.getD i (0, 0)) := by
   apply List.ext_getElem
   · simp
   · intro i h1 h2; simp [h1]
 unfold nxt occ
 rw [List.length_map]
 conv => rhs; rw [hE]
 rw [List.filter_map, List.map_map]
 congr 1
 refine List.filter_congr (fun i hi => ?_)
 have hi' := List.mem_range.1 hi
 simp [hi']
theorem refNext_nat (E : ArG) (v : Nat) : ((ai E).filter (fun a => decide (a.1 = (v : Int)))).map (·.2) = li (nxt E v) := by
 rw [nxt_eq]
 unfold ai li
 rw [List.filter_map, List.map_map, List.map_map]
 congr 1
 refine List.filter_congr (fun e _ => ?_)
 simp [Int.ofNat_inj]
theorem refNext_not {N : Nat} {E : ArG} (hE : inN N E) {v : Int} (h : v < 0 ∨ (N : Int) ≤ v) : ((ai E).filter (fun a => decide (a.1 = v))).map (·.2) = [] := by
 have : (ai E).filter (fun a => decide (a.1 = v)) = [] := by
   rw [List.filter_eq_nil_iff]
   intro a ha
   obtain ⟨e, he, rfl⟩ := List.mem_map.1 ha
   have := (hE e he).1
   simp; omega
 rw [this]; rfl
theorem ai_tn (E : ArG) : (ai E).map (fun a => (a.2, a.1)) = ai (tn E) := by simp [ai, tn]
def inL (N : Nat) (M : List Nat) : List Int := (List.range N).map (fun w => if w ∈ M then (1 : Int) else 0)
theorem ref1 {N : Nat} {E : ArG} (hE : inN N E) (he : E.length ≤ 67108864) (M : List Nat) (hM : M.Nodup) :
   ∃ r, loop (fn_ref10_Reach_l1 (ai E)) (inL N M, false, 0) = some r ∧ ∃ more : List Nat, (M ++ more).Nodup ∧ r.1 = inL N (M ++ more) ∧ (∀ w ∈ more, ∃ a ∈ M ++ more, Rch E a w ∧ a ∈ M) ∧ ((r.2 = false ∧ more = [] ∧ ∀ e ∈ E, e.1 ∈ M → e.2 ∈ M) ∨ (r.2 = true ∧ more ≠ [])) := by
 refine loop_inv (fun s => ∃ (k : Nat) (more : List Nat), k ≤ E.length ∧ (M ++ more).Nodup ∧ s.1 = inL N (M ++ more) ∧ s.2.2 = (k : Int) ∧ (∀ w ∈ more, ∃ a ∈ M ++ more, Rch E a w ∧ a ∈ M) ∧ ((s.2.1 = false ∧ more = [] ∧ ∀ e ∈ E.take k, e.1 ∈ M → e.2 ∈ M) ∨ (s.2.1 = true ∧ more ≠ []))) (fun s => E.length - s.2.2.toNat) ?_ ⟨0, [], by omega, by simpa using hM, by simp, rfl, by simp, .inl ⟨rfl, rfl, by simp⟩⟩
 rintro ⟨l, b, i⟩ ⟨k, more, hk, hnd, h1, h2, hr, h3⟩
 dsimp only at h1 h2 h3
 subst h1 h2
 by_cases hlt : k < E.length
 · left
   have hk2 : k < (ai E).length := by rw [ai_len]; exact hlt
   obtain ⟨ha, hb⟩ := hE _ (List.getElem_mem hlt)
   unfold fn_ref10_Reach_l1
   dsimp only
   rw [dlt hk2, cond_true, getI_ai hlt, w64s hk2 (by rw [ai_len]; omega)]
   generalize hA : E[k].1 = a at ha
   generalize hB : E[k].2 = c at hb
   have hmem : (a, c) ∈ E := by rw [← hA, ← hB]; exact List.getElem_mem hlt
   have ga : getI (inL N (M ++ more)) (a : Int) = some (if a ∈ M ++ more then (1 : Int) else 0) := getI_map ha
   have gc : getI (inL N (M ++ more)) (c : Int) = some (if c ∈ M ++ more then (1 : Int) else 0) := getI_map hb
   simp only [Option.bind_some, ga, gc, Int.toNat_natCast]
   by_cases hc : a ∈ M ++ more ∧ c ∉ M ++ more
   · have hset : (inL N (M ++ more)).set c 1 = inL N (M ++ (more ++ [c])) := by
       unfold inL; rw [set_map]
       refine map_congr_range (fun w hw => ?_)
       by_cases hwc : w = c
       · simp [hwc]
       · simp [hwc]
     rw [if_pos hc.1, if_neg hc.2]
     simp only [decide_true, cond_true, Option.bind_some, hset]
     refine ⟨_, rfl, ⟨k + 1, more ++ [c], by omega, ?_, rfl, rfl, ?_, .inr ⟨rfl, by simp⟩⟩, by dsimp only; omega⟩
     · rw [← List.append_assoc, List.nodup_append]
       refine ⟨hnd, by simp, ?_⟩
       intro x hx y hy; simp at hy; subst hy; intro e; subst e; exact hc.2 hx
     · intro w hw
       rcases List.mem_append.1 hw with q | q
       · obtain ⟨x, x1, x2, x3⟩ := hr w q; exact ⟨x, by simp [x3], x2, x3⟩
       · simp at q; subst q
         rcases List.mem_append.1 hc.1 with q | q
         · exact ⟨a, by simp [q], (Rch.refl a).step hmem, q⟩
         · obtain ⟨x, x1, x2, x3⟩ := hr a q; exact ⟨x, by simp [x3], x2.step hmem, x3⟩
   · have hcond : (cond (decide ((if a ∈ M ++ more then (1 : Int) else 0) = 1)) (some (decide ((if c ∈ M ++ more then (1 : Int) else 0) = 0))) (some false)) = some false := by
       by_cases h4 : a ∈ M ++ more
       · have h5 : c ∈ M ++ more := Classical.byContradiction fun h => hc ⟨h4, h⟩
         rw [if_pos h4, if_pos h5]; rfl
       · rw [if_neg h4]; rfl
     rw [hcond]
     simp only [Option.bind_some, cond_false]
     refine ⟨_, rfl, ⟨k + 1, more, by omega, hnd, rfl, rfl, hr, ?_⟩, by dsimp only; omega⟩
     rcases h3 with ⟨rfl, rfl, h5⟩ | h5
     · refine .inl ⟨rfl, rfl, fun e he1 he2 => ?_⟩
       rw [take_snoc hlt] at he1
       rcases List.mem_append.1 he1 with q | q
       · exact h5 e q he2
       · simp at q; subst q
         simp only [List.append_nil] at hc
         rw [hA] at he2; rw [hB]
         exact Classical.byContradiction fun h => hc ⟨he2, h⟩
     · exact .inr h5
 · right
   have hke : k = E.length := by omega
   refine ⟨(inL N (M ++ more), b), ?_, more, hnd, rfl, hr, ?_⟩
   · unfold fn_ref10_Reach_l1; simp [hke, ai_len]
   · rw [hke, List.take_length] at h3; exact h3
theorem ref2 {N : Nat} {E : ArG} (hE : inN N E) (he : E.length ≤ 67108864) {v : Nat} (hv : v < N) : loop (fn_ref10_Reach_l2 (ai E)) (inL N [v], true) = some (inL N (rl N E v)) := by
 have key : ∃ r, loop (fn_ref10_Reach_l2 (ai E)) (inL N [v], true) = some r ∧ ∃ M : List Nat, r = inL N M ∧ ∀ w, w ∈ M ↔ Rch E v w := by
   refine loop_inv (fun s => ∃ M : List Nat, s.1 = inL N M ∧ M.Nodup ∧ v ∈ M ∧ (∀ w ∈ M, Rch E v w) ∧ (s.2 = false → ∀ e ∈ E, e.1 ∈ M → e.2 ∈ M) ∧ (s.2 = false ∨ s.2 = true)) (fun s => 2 * (s.1.countP (fun x => decide (x = 0))) + (if s.2 then 1 else 0)) ?_ ⟨[v], rfl, by simp, by simp, by simp; exact .refl v, by simp, .inr rfl⟩
   rintro ⟨l, b⟩ ⟨M, h1, h2, h3, h4, h5, _⟩
   dsimp only at h1 h5
   subst h1
   cases b with
   | true =>
     left
     obtain ⟨r, r1, more, r2, r3, r4, r5⟩ := ref1 hE he M h2
     obtain ⟨r6, r7⟩ := r
     dsimp only at r3 r5
     subst r3
     unfold fn_ref10_Reach_l2
     dsimp only
     rw [cond_true, r1]
     refine ⟨_, rfl, ⟨M ++ more, rfl, r2, by simp [h3], ?_, ?_, ?_⟩, ?_⟩
     · intro w hw
       rcases List.mem_append.1 hw with q | q
       · exact h4 w q
       · obtain ⟨a, a1, a2, a3⟩ := r4 w q; exact (h4 a a3).trans a2
     · intro hf
       rcases r5 with ⟨_, rfl, r5⟩ | ⟨r5, _⟩
       · simpa using r5
       · dsimp only at hf; rw [r5] at hf; cases hf
     · rcases r5 with ⟨r5, _⟩ | ⟨r5, _⟩
       · exact .inl r5
       · exact .inr r5
     · dsimp only
       rcases r5 with ⟨r5, rfl, _⟩ | ⟨r5, r8⟩
       · rw [r5]; simp
       · rw [r5]
         have : (inL N (M ++ more)).countP (fun x => decide (x = 0)) < (inL N M).countP (fun x => decide (x = 0)) := by
           obtain ⟨c, more', rfl⟩ := List.exists_cons_of_ne_nil r8
           have hcM : c ∉ M := fun h => by
             rw [List.nodup_append] at r2
             exact r2.2.2 c h c (by simp) rfl
           have hcN : c < N := by
             obtain ⟨a, a1, a2, a3⟩ := r4 c (by simp); exact ((h4 a a3).trans a2).lt hE hv
           unfold inL
           rw [List.countP_map, List.countP_map]
           have gen : ∀ m, c < m → (List.range m).countP ((fun x : Int => decide (x = 0)) ∘ fun w => if w ∈ M ++ c :: more' then (1 : Int) else 0) < (List.range m).countP ((fun x : Int => decide (x = 0)) ∘ fun w => if w ∈ M then (1 : Int) else 0) := by
             intro m hm
             induction m with
             | zero => omega
             | succ m ih =>
               have mono : (List.range m).countP ((fun x : Int => decide (x = 0)) ∘ fun w => if w ∈ M ++ c :: more' then (1 : Int) else 0) ≤ (List.range m).countP ((fun x : Int => decide (x = 0)) ∘ fun w => if w ∈ M then (1 : Int) else 0) := by
                 apply List.countP_mono_left
                 intro z _ hz
                 by_cases hzM : z ∈ M
                 · simp [hzM] at hz
                 · simp [hzM]
               rw [List.range_succ, List.countP_append, List.countP_append]
               by_cases hcm : c = m
               · subst hcm
                 have a1 : [c].countP ((fun x : Int => decide (x = 0)) ∘ fun w => if w ∈ M ++ c :: more' then (1 : Int) else 0) = 0 := by simp
                 have a2 : [c].countP ((fun x : Int => decide (x = 0)) ∘ fun w => if w ∈ M then (1 : Int) else 0) = 1 := by simp [hcM]
                 rw [a1, a2]; omega
               · have := ih (by omega)
                 have a3 : [m].countP ((fun x : Int => decide (x = 0)) ∘ fun w => if w ∈ M ++ c :: more' then (1 : Int) else 0) ≤ [m].countP ((fun x : Int => decide (x = 0)) ∘ fun w => if w ∈ M then (1 : Int) else 0) := by
                   apply List.countP_mono_left
                   intro z _ hz
                   by_cases hzM : z ∈ M
                   · simp [hzM] at hz
                   · simp [hzM]
                 omega
           exact gen N hcN
         simp; omega
   | false =>
     right
     refine ⟨inL N M, rfl, M, rfl, fun w => ⟨h4 w, fun h => ?_⟩⟩
     exact Rch.closed (p := fun w => w ∈ M) h3 (fun a c e ha => h5 rfl (a, c) e ha) h
 obtain ⟨r, h1, M, rfl, h2⟩ := key
 rw [h1]
 congr 1
 unfold inL
 refine map_congr_range (fun w hw => ?_)
 have := (h2 w).trans (rl_mem hE hv).symm
 by_cases hm : w ∈ M
 · rw [if_pos hm, if_pos (this.1 hm)]
 · rw [if_neg hm, if_neg (fun h => hm (this.2 h))]
theorem refReach_eq {N : Nat} {E : ArG} (hE : inN N E) (hn : N ≤ 1000) (he : E.length ≤ 67108864) {v : Nat} (hv : v < N) : fn_ref10_Reach (N : Int) (ai E) (v : Int) = some (inL N (rl N E v)) := by
 unfold fn_ref10_Reach
 have hm : (List.replicate N (0 : Int)).set v 1 = inL N [v] := by
   rw [replicate_map, set_map]; unfold inL
   refine map_congr_range (fun w hw => ?_)
   by_cases h : w = v <;> simp [h]
 have hg : getI (List.replicate N (0 : Int)) (v : Int) = some 0 := by rw [replicate_map]; exact getI_map hv
 rw [mkN (by omega)]
 simp only [Option.bind_some, hg, Int.toNat_natCast, hm]
 rw [ref2 hE he hv]; rfl
section
def rdy (X : List (Nat × Nat)) (P : List Nat) (j : Nat) : Prop := ∀ e ∈ X, e.1 = j → e.2 ∈ P
def wq (X : List (Nat × Nat)) (Q : List Nat) (j : Nat) : Nat := X.countP (fun e => decide (e.1 = j) && !decide (e.2 ∈ Q))
theorem wq_zero {X : List (Nat × Nat)} {Q : List Nat} {j : Nat} : wq X Q j = 0 ↔ rdy X Q j := by
 unfold wq rdy
 rw [List.countP_eq_zero]
 constructor
 · intro h e he hj
   have := h e he
   simp [hj] at this; exact this
 · intro h e he
   simp only [Bool.and_eq_true, decide_eq_true_eq, Bool.not_eq_true', decide_eq_false_iff_not, not_and, Decidable.not_not]
   exact h e he
theorem wq_nil (X : List (Nat × Nat)) (j : Nat) : wq X [] j = wtC X j := by
 unfold wq wtC; exact List.countP_congr fun e _ => by simp
theorem wq_snoc (Q : List Nat) {k : Nat} (hk : k ∉ Q) (j : Nat) : ∀ X : List (Nat × Nat), wq X Q j = wq X (Q ++ [k]) j + (bk X k).countP (fun x => decide (x = j))
 | [] => rfl
 | e :: X => by
   have h := wq_snoc Q hk j X
   unfold wq bk at *
   rw [List.countP_cons, List.countP_cons, List.filter_cons]
   by_cases h1 : e.2 = k
   · subst h1
     simp only [List.mem_append, List.mem_singleton, or_true, decide_true, if_true, List.map_cons, List.countP_cons]
     by_cases h2 : e.1 = j
     · simp [h2, hk]; simp at h; omega
     · simp [h2]; simp at h; omega
   · simp only [List.mem_append, List.mem_singleton, h1, or_false, decide_false, Bool.false_eq_true, if_false]
     simp only [List.mem_append, List.mem_singleton] at h
     rw [h]; omega
structure Nmb (K : Nat) (X : List (Nat × Nat)) (ls : Nat → Nat) (Q : List Nat) : Prop where
 nd : Q.Nodup
 lt : ∀ k ∈ Q, k < K
 ok : ∀ t (h : t < Q.length), rdy X (Q.take t) Q[t] ∧ ∀ j, j < K → j ∉ Q.take t → rdy X (Q.take t) j → ls Q[t] ≤ ls j
section
variable {K : Nat} {X : List (Nat × Nat)} {ls : Nat → Nat} {Q : List Nat}
theorem mem_drop_get {l : List Nat} {t : Nat} (h : t < l.length) : l[t] ∈ l.drop t := by rw [List.drop_eq_getElem_cons h]; exact List.mem_cons_self
theorem Nmb.nil : Nmb K X ls [] := ⟨.nil, fun k h => (by cases h), fun t h => (by cases h)⟩
theorem Nmb.len (h : Nmb K X ls Q) : Q.length ≤ K := nodup_lt h.nd h.lt
theorem Nmb.snoc (h : Nmb K X ls Q) {k : Nat} (hk : k < K) (hn : k ∉ Q) (hr : rdy X Q k) (hl : ∀ j, j < K → j ∉ Q → rdy X Q j → ls k ≤ ls j) : Nmb K X ls (Q ++ [k]) := by
 refine ⟨?_, fun x hx => ?_, fun t ht => ?_⟩
 · rw [List.nodup_append]; exact ⟨h.nd, by simp, fun a ha b hb => by rw [List.mem_singleton] at hb; rintro rfl; exact hn (hb ▸ ha)⟩
 · rcases List.mem_append.1 hx with hx | hx
   · exact h.lt x hx
   · rw [List.mem_singleton.1 hx]; exact hk
 · rw [List.length_append, List.length_singleton] at ht
   by_cases e : t < Q.length
   · rw [List.take_append_of_le_length (by omega), List.getElem_append_left e]; exact h.ok t e
   · obtain rfl : t = Q.length := by omega
     rw [List.take_append_of_le_length (Nat.le_refl _), List.take_length]
     simp only [List.getElem_concat_length]
     exact ⟨hr, hl⟩
theorem Nmb.rdyQ (h : Nmb K X ls Q) {k : Nat} (hk : k ∈ Q) : rdy X Q k := by
 obtain ⟨t, ht, rfl⟩ := List.getElem_of_mem hk
 exact fun e he hj => List.mem_of_mem_take ((h.ok t ht).1 e he hj)
theorem Nmb.uniq {Q' : List Nat} (h : Nmb K X ls Q) (h' : Nmb K X ls Q') (hi : ∀ a b, a < K → b < K → ls a = ls b → a = b) (hl : Q.length = Q'.length) : Q = Q' := by
 have key : ∀ t, t ≤ Q.length → Q.take t = Q'.take t := by
   intro t
   induction t with
   | zero => intro _; rfl
   | succ t ih =>
     intro ht
     have e := ih (by omega)
     have h1 := h.ok t (by omega)
     have h2 := h'.ok t (by omega)
     have n1 : Q[t] ∉ Q.take t := fun hm => by
       have := h.nd; rw [← List.take_append_drop t Q, List.nodup_append] at this
       exact this.2.2 _ hm _ (mem_drop_get (by omega)) rfl
     have n2 : Q'[t] ∉ Q'.take t := fun hm => by
       have := h'.nd; rw [← List.take_append_drop t Q', List.nodup_append] at this
       exact this.2.2 _ hm _ (mem_drop_get (by omega)) rfl
     have a := h1.2 _ (h'.lt _ (List.getElem_mem _)) (by rw [e]; exact n2) (by rw [e]; exact h2.1)
     have b := h2.2 _ (h.lt _ (List.getElem_mem _)) (by rw [← e]; exact n1) (by rw [← e]; exact h1.1)
     have c := hi _ _ (h.lt _ (List.getElem_mem _)) (h'.lt _ (List.getElem_mem _)) (Nat.le_antisymm a b)
     rw [take_snoc (show t < Q.length by omega), take_snoc (show t < Q'.length by omega), e, c]
 have := key Q.length (Nat.le_refl _)
 rwa [List.take_length, hl, List.take_length] at this
end
section
variable {N : Nat} {E : ArG} {F : List (List Nat)}
theorem rl_nodup (N : Nat) (E : ArG) (v : Nat) : (rl N E v).Nodup := by unfold rl; exact List.nodup_range.filter _
theorem Prt.all (P : Prt N E F) (hE : inN N E) {Q : List Nat} (h : ∀ j, j < F.length → j ∉ Q → ¬ rdy (XA F E N) Q j) : ∀ (r j : Nat), j < F.length → (rl N E (lst F j)).length ≤ r → j ∈ Q
 | 0, j, hj, hr => by
   have hm := (rl_mem hE (P.mlt hj (P.lst_mem hj))).2 (Rch.refl (lst F j))
   have := List.length_pos_of_mem hm; omega
 | r + 1, j, hj, hr => by
   refine Decidable.byContradiction fun hn => h j hj hn fun e he hej => Decidable.byContradiction fun hq => ?_
   obtain ⟨v, w, hvw, h1, h2, h3⟩ := (XA_mem hE).1 he
   have hvN := (hE _ hvw).1; have hwN := (hE _ hvw).2
   obtain ⟨hw1, hw2⟩ := P.hm hwN
   have hlj := P.mlt hj (P.lst_mem hj)
   have hl2 : lst F e.2 < N := P.mlt (h2 ▸ hw1) (P.lst_mem (h2 ▸ hw1))
   have r1 : Rch E (lst F j) v := ((P.same hlj hvN).1 (by rw [P.hm_lst hj, h1, hej])).1
   have r2 := (P.same hwN hl2).1 (by rw [P.hm_lst (h2 ▸ hw1), h2])
   have hback : ¬ Rch E (lst F e.2) (lst F j) := fun k => by
     have : hmI F v = hmI F w := (P.same hvN hwN).2 ⟨(Rch.refl v).step hvw, (r2.1.trans k).trans r1⟩
     rw [h1, h2] at this; exact h3 this
   have hsub : (lst F j :: rl N E (lst F e.2)).length ≤ (rl N E (lst F j)).length := nodup_le (List.nodup_cons.2 ⟨fun k => hback ((rl_mem hE hl2).1 k), rl_nodup _ _ _⟩) (fun x hx => by
     rw [rl_mem hE hlj]
     rcases List.mem_cons.1 hx with rfl | hx
     · exact .refl _
     · exact ((r1.step hvw).trans r2.1).trans ((rl_mem hE hl2).1 hx))
   rw [List.length_cons] at hsub
   exact hq (P.all hE h r e.2 (h2 ▸ hw1) (by omega))
theorem filter_gain {L : List Nat} {p q : Nat → Bool} {x : Nat} (hd : L.Nodup) (hx : x ∈ L) (hp : p x = false) (hq : ∀ y, q y = (p y || decide (y = x))) : (L.filter q).Perm (x :: L.filter p) := by
 induction L with
 | nil => cases hx
 | cons a L ih =>
   rw [List.nodup_cons] at hd
   rw [List.filter_cons, List.filter_cons]
   by_cases e : a = x
   · subst e
     rw [hq, hp, decide_eq_true rfl, Bool.false_or, if_pos rfl, if_neg (by simp)]
     refine .cons _ (.of_eq (List.filter_congr fun y hy => ?_))
     rw [hq, decide_eq_false (fun k : y = a => hd.1 (k ▸ hy)), Bool.or_false]
   · have h1 := ih hd.2 ((List.mem_cons.1 hx).resolve_left (Ne.symm e))
     rw [hq, decide_eq_false e, Bool.or_false]
     by_cases k : p a = true
     · rw [if_pos k, if_pos k]; exact (h1.cons a).trans (.swap _ _ _)
     · rw [if_neg k, if_neg k]; exact h1
def rset (F : List (List Nat)) (Q : List Nat) (w : Nat → Nat) : List Int := ((List.range F.length).filter (fun j => !decide (j ∈ Q) && decide (w j = 0))).map (fun j => ((lst F j : Nat) : Int))
theorem rset_len (F : List (List Nat)) (Q : List Nat) (w : Nat → Nat) : (rset F Q w).length ≤ F.length := by
 unfold rset; rw [List.length_map]; have := List.length_filter_le (fun j => !decide (j ∈ Q) && decide (w j = 0)) (List.range F.length); rwa [List.length_range] at this
theorem number2_eq (P : Prt N E F) {k : Nat} (hk : k < F.length) (hN : N ≤ 1048576) (ms : List (List Int)) (f : Nat → Nat) : loop (fn_scc_number_l2 ms (li (gF F k))) (0, vec1 N f) = some (vec1 N (fun v => if v ∈ gF F k then ms.length else f v)) := by
 have hcl := P.clen hk
 have h := loop_nat (body := fn_scc_number_l2 ms (li (gF F k))) (fun j => ((j : Int), vec1 N (fun v => if v ∈ (gF F k).take j then ms.length else f v))) (gF F k).length (b := vec1 N (fun v => if v ∈ gF F k then ms.length else f v)) ?_ ?_
 · rw [← h]; simp
 · intro j hj
   unfold fn_scc_number_l2
   dsimp only
   have hvN := P.mlt hk (List.getElem_mem hj)
   rw [li_len, dlt hj, cond_true, getI_li hj, Option.bind_some, vec1_get hvN, Option.bind_some, vec1_set, Option.bind_some, w64s hj (by omega)]
   refine congrArg (fun x => some (Sum.inl (((j + 1 : Nat) : Int), x))) (vec1_congr fun v hv => ?_)
   unfold up
   rw [take_snoc hj]
   simp only [List.mem_append, List.mem_singleton]
   by_cases a : v = (gF F k)[j]
   · rw [if_pos a, if_pos (.inr a)]
   · rw [if_neg a]
     by_cases b : v ∈ (gF F k).take j
     · rw [if_pos b, if_pos (.inl b)]
     · rw [if_neg b, if_neg (show ¬ (v ∈ (gF F k).take j ∨ v = (gF F k)[j]) from fun c => c.elim b a)]
 · unfold fn_scc_number_l2
   simp only [li_len]
   rw [dge (Nat.lt_irrefl _), cond_false, List.take_length]
theorem lst_get {k : Nat} (P : Prt N E F) (h : k < F.length) : getI (li (gF F k)) (0 : Int) = some ((lst F k : Nat) : Int) := by
 have hl : 0 < (gF F k).length := List.length_pos_iff.2 (P.f3 _ (P.gmem h)).1
 rw [show (0 : Int) = ((0 : Nat) : Int) from rfl, getI_li hl]
 unfold lst; rw [List.getD_eq_getElem?_getD, List.getElem?_eq_getElem hl]; rfl
theorem number3_eq (P : Prt N E F) (hE : inN N E) (he : E.length ≤ 67108864) {Q : List Nat} {k : Nat} (hQ : Nmb F.length (XA F E N) (lst F) Q) (hk : k < F.length) (hN : N ≤ 1048576) (hkQ : k ∉ Q) {r : List Int}
   (hr : r.Perm (rset F (Q ++ [k]) (wq (XA F E N) Q))) (hh : HP r.length 0 r) :
   ∃ r', loop (fn_scc_number_l3 (F.map li) (li (bk (XA F E N) k))) (vec1 F.length (wq (XA F E N) Q), 0, r) = some (vec1 F.length (wq (XA F E N) (Q ++ [k])), r') ∧ r'.Perm (rset F (Q ++ [k]) (wq (XA F E N) (Q ++ [k]))) ∧ HP r'.length 0 r' := by
 have hFl := P.flen
 have hml : (E.map (·.1)).length = E.length := by simp
 have hXl : (XA F E N).length ≤ 67108864 := by have := XA_len F E N; have := ltc_le (E.map (·.1)) N; omega
 generalize hX : XA F E N = X at *
 have hbl := bk_len X k
 let ww : Nat → Nat → Nat := fun i j => wq X (Q ++ [k]) j + ((bk X k).drop i).countP (fun x => decide (x = j))
 have hw0 : ww 0 = wq X Q := by funext j; show wq X (Q ++ [k]) j + _ = _; rw [List.drop_zero, wq_snoc Q hkQ j X]
 have hwe : ww (bk X k).length = wq X (Q ++ [k]) := by funext j; show wq X (Q ++ [k]) j + _ = _; rw [List.drop_length]; rfl
 have hwl : ∀ i j, ww i j ≤ ww 0 j := fun i j => by
   show wq X (Q ++ [k]) j + _ ≤ wq X (Q ++ [k]) j + _
   rw [List.drop_zero]
   exact Nat.add_le_add_left ((List.drop_sublist i (bk X k)).countP_le) _
 have hwX : ∀ j, wq X Q j ≤ X.length := fun j => List.countP_le_length
 have hq : ∃ b, loop (fn_scc_number_l3 (F.map li) (li (bk X k))) (vec1 F.length (wq X Q), 0, r) = some b ∧ ∃ r', b = (vec1 F.length (wq X (Q ++ [k])), r') ∧ r'.Perm (rset F (Q ++ [k]) (wq X (Q ++ [k]))) ∧ HP r'.length 0 r' := by
   refine loop_inv (fun s => ∃ (i : Nat) (r' : List Int), i ≤ (bk X k).length ∧ s = (vec1 F.length (ww i), (i : Int), r') ∧ r'.Perm (rset F (Q ++ [k]) (ww i)) ∧ HP r'.length 0 r') (fun s => (bk X k).length - s.2.1.toNat) ?_ ⟨0, r, Nat.zero_le _, by rw [hw0]; rfl, by rw [hw0]; exact hr, hh⟩
   rintro s ⟨i, r', hi, rfl, hp, hh'⟩
   unfold fn_scc_number_l3
   dsimp only
   rw [li_len]
   by_cases hil : i < (bk X k).length
   · left
     rw [dlt hil, cond_true, getI_li hil, Option.bind_some]
     have hx : (bk X k)[i] ∈ bk X k := List.getElem_mem hil
     have hdrop : (bk X k).drop i = (bk X k)[i] :: (bk X k).drop (i + 1) := List.drop_eq_getElem_cons hil
     generalize (bk X k)[i] = x at *
     have hxe : ∃ e ∈ X, e.2 = k ∧ e.1 = x := by
       unfold bk at hx
       obtain ⟨e, he, rfl⟩ := List.mem_map.1 hx
       obtain ⟨he, h2⟩ := List.mem_filter.1 he
       exact ⟨e, he, by simpa using h2, rfl⟩
     obtain ⟨e, heX, he2, he1⟩ := hxe
     obtain ⟨v, w, hvw, h1, h2, h3⟩ := (XA_mem hE).1 (hX ▸ heX)
     have hxK : x < F.length := by rw [← he1, ← h1]; exact (P.hm (hE _ hvw).1).1
     have hstep : ∀ j, ww i j = ww (i + 1) j + (if j = x then 1 else 0) := fun j => by
       show wq X (Q ++ [k]) j + _ = wq X (Q ++ [k]) j + _ + _
       rw [hdrop, List.countP_cons]
       by_cases q : x = j
       · subst q; simp; omega
       · simp [q, Ne.symm q]
     have hsx : ww i x = ww (i + 1) x + 1 := by rw [hstep, if_pos rfl]
     have hb1 := hwl i x; have hb2 := hwX x; rw [hw0] at hb1
     have hxQ : x ∉ Q ++ [k] := fun hm => by
       rcases List.mem_append.1 hm with hm | hm
       · have := wq_zero.2 (hQ.rdyQ hm); omega
       · rw [List.mem_singleton] at hm
         exact h3 (by rw [he1, he2, hm])
     have hw1 : IntKind.wrap .i64 (((ww i x : Nat) : Int) - 1) = ((ww (i + 1) x : Nat) : Int) := by rw [hsx, w64 (by omega) (by omega)]; omega
     have hup : up (ww i) x (ww (i + 1) x) = ww (i + 1) := by
       funext j; unfold up; split
       · rename_i q; rw [q]
       · rename_i q; rw [hstep, if_neg q]; omega
     rw [vec1_get hxK]
     simp only [Option.bind_some]
     rw [hw1, vec1_set, hup, vec1_get hxK, Option.bind_some, w64s hil (by omega)]
     have hrl : r'.length ≤ N := by rw [hp.length_eq]; exact Nat.le_trans (rset_len _ _ _) hFl
     by_cases hz : ww (i + 1) x = 0
     · rw [decide_eq_true (show ((ww (i + 1) x : Nat) : Int) = 0 by omega), cond_true, getI_Fl hxK, Option.bind_some, lst_get P hxK, Option.bind_some]
       obtain ⟨r2, e2, p2, q2⟩ := push_eq (l := r') (x := ((lst F x : Nat) : Int)) (by omega) hh'
       rw [e2, Option.bind_some]
       refine ⟨_, rfl, ⟨i + 1, r2, by omega, rfl, ?_, q2⟩, by dsimp only; omega⟩
       refine p2.trans ((hp.cons _).trans ?_)
       unfold rset
       rw [← List.map_cons (f := fun j => ((lst F j : Nat) : Int))]
       refine (List.Perm.map _ (filter_gain List.nodup_range (List.mem_range.2 hxK) ?_ (fun y => ?_))).symm
       · rw [hsx]; simp
       · by_cases q : y = x
         · subst q; rw [hz]; simp [hxQ]
         · have := hstep y; rw [if_neg q, Nat.add_zero] at this
           rw [← this, decide_eq_false q, Bool.or_false]
     · rw [decide_eq_false (show ¬ ((ww (i + 1) x : Nat) : Int) = 0 by omega), cond_false]
       refine ⟨_, rfl, ⟨i + 1, r', by omega, rfl, ?_, hh'⟩, by dsimp only; omega⟩
       refine hp.trans (.of_eq ?_)
       unfold rset
       refine congrArg _ (List.filter_congr fun y _ => ?_)
       by_cases q : y = x
       · subst q
         rw [decide_eq_false (show ¬ ww i y = 0 by omega), decide_eq_false hz]
       · have := hstep y; rw [if_neg q, Nat.add_zero] at this
         rw [this]
   · right
     have : i = (bk X k).length := by omega
     subst this
     rw [dge (Nat.lt_irrefl _), cond_false, hwe]
     rw [hwe] at hp
     exact ⟨_, rfl, r', rfl, hp, hh'⟩
 obtain ⟨b, hb, r', rfl, h1, h2⟩ := hq
 exact ⟨r', hb, h1, h2⟩
theorem number_eq (P : Prt N E F) (hE : inN N E) (hN : N ≤ 1048576) (he : E.length ≤ 67108864) :
   ∃ Q, Nmb F.length (XA F E N) (lst F) Q ∧ (∀ k, k < F.length → k ∈ Q) ∧ fn_scc_number (adj N E) (F.map li) = some (some (vec1 N (fun v => Q.idxOf (hmI F v)), Q.map (fun k => li (gF F k)))) := by
 have hFl := P.flen
 have hal : (adj N E).length = N := by simp [adj]
 unfold fn_scc_number
 rw [hal, List.length_map, homes_eq P hN, Option.bind_some, between_eq P hE hN he, Option.bind_some]
 dsimp only
 have h1 := loop_nat (body := fn_scc_number_l1 (F.map li) (vec1 F.length (wtC (XA F E N)))) (fun k => ((k : Int), ((List.range k).filter (fun j => !decide (j ∈ ([] : List Nat)) && decide (wq (XA F E N) [] j = 0))).map (fun j => ((lst F j : Nat) : Int)))) F.length (b := rset F [] (wq (XA F E N) [])) ?_ ?_
 · rw [show ((0 : Int), ([] : List Int)) = (((0 : Nat) : Int), ((List.range 0).filter (fun j => !decide (j ∈ ([] : List Nat)) && decide (wq (XA F E N) [] j = 0))).map (fun j => ((lst F j : Nat) : Int))) from rfl, h1, Option.bind_some]
   obtain ⟨r, hr, hp, hh⟩ := init_eq (l := rset F [] (wq (XA F E N) [])) (by have := rset_len F [] (wq (XA F E N) []); omega)
   rw [hr, Option.bind_some, mkN (by omega), Option.bind_some]
   have hwn : wtC (XA F E N) = wq (XA F E N) [] := by funext j; rw [wq_nil]
   have hq : ∃ b, loop (fn_scc_number_l4 (F.map li) (vec1 N (hmI F)) (bkL F.length (XA F E N))) (vec1 F.length (wtC (XA F E N)), r, List.replicate N 0, []) = some b ∧
       ∃ Q, Nmb F.length (XA F E N) (lst F) Q ∧ (∀ j, j < F.length → j ∉ Q → ¬ rdy (XA F E N) Q j) ∧ b = (vec1 N (fun v => if hmI F v ∈ Q then Q.idxOf (hmI F v) else 0), Q.map (fun k => li (gF F k))) := by
     refine loop_inv (fun s => ∃ (Q : List Nat) (r : List Int), Nmb F.length (XA F E N) (lst F) Q ∧ s = (vec1 F.length (wq (XA F E N) Q), r, vec1 N (fun v => if hmI F v ∈ Q then Q.idxOf (hmI F v) else 0), Q.map (fun k => li (gF F k))) ∧ r.Perm (rset F Q (wq (XA F E N) Q)) ∧ HP r.length 0 r) (fun s : List Int × List Int × List Int × List (List Int) => F.length - s.2.2.2.length) ?_ ⟨[], r, .nil, ?_, hp, hh⟩
     · rintro s ⟨Q, r, hQ, rfl, hp, hh⟩
       have hQl := hQ.len
       unfold fn_scc_number_l4 fn_scc_ready_Len
       dsimp only
       rw [Option.bind_some]
       have hrl : r.length ≤ N := by rw [hp.length_eq]; exact Nat.le_trans (rset_len _ _ _) hFl
       by_cases h0 : 0 < r.length
       · left
         rw [decide_eq_true (show (0 : Int) < ((r.length : Nat) : Int) by omega), cond_true]
         obtain ⟨r1, e1, p1, q1⟩ := pop_eq (by omega) hh h0
         rw [e1, Option.bind_some]
         dsimp only
         have hm0 : gD r 0 ∈ rset F Q (wq (XA F E N) Q) := hp.subset (by rw [gD_get h0]; exact List.getElem_mem h0)
         obtain ⟨k, hk, ek⟩ := List.mem_map.1 hm0
         rw [List.mem_filter, List.mem_range, Bool.and_eq_true, Bool.not_eq_true', decide_eq_false_iff_not, decide_eq_true_eq] at hk
         obtain ⟨hkK, hkQ, hkw⟩ := hk
         have hleast : ∀ j, j < F.length → j ∉ Q → rdy (XA F E N) Q j → lst F k ≤ lst F j := fun j hj hjQ hjr => by
           have : ((lst F j : Nat) : Int) ∈ rset F Q (wq (XA F E N) Q) := List.mem_map.2 ⟨j, by rw [List.mem_filter, List.mem_range, Bool.and_eq_true, Bool.not_eq_true', decide_eq_false_iff_not, decide_eq_true_eq]; exact ⟨hj, hjQ, wq_zero.2 hjr⟩, rfl⟩
           obtain ⟨i, hi, ei⟩ := List.getElem_of_mem (hp.symm.subset this)
           have := hh.least i hi
           rw [gD_get hi, ei, ← ek] at this
           omega
         have hkN := P.mlt hkK (P.lst_mem hkK)
         rw [← ek, vec1_get hkN, Option.bind_some, P.hm_lst hkK, getI_Fl hkK]
         simp only [Option.bind_some]
         rw [number2_eq P hkK hN, Option.bind_some, app_eq (by simp; omega), Option.bind_some, show getI (bkL F.length (XA F E N)) ((k : Nat) : Int) = some (li (bk (XA F E N) k)) from getI_map hkK, Option.bind_some]
         have hp1 : r1.Perm (rset F (Q ++ [k]) (wq (XA F E N) Q)) := by
           have a := p1.symm.trans hp
           rw [← ek] at a
           have b : (rset F Q (wq (XA F E N) Q)).Perm (((lst F k : Nat) : Int) :: rset F (Q ++ [k]) (wq (XA F E N) Q)) := by
             unfold rset
             rw [← List.map_cons (f := fun j => ((lst F j : Nat) : Int))]
             refine List.Perm.map _ (filter_gain List.nodup_range (List.mem_range.2 hkK) (by simp) (fun y => ?_))
             by_cases q : y = k
             · subst q; simp [hkQ, hkw]
             · simp [q]
           exact (List.perm_cons _).1 (a.trans b)
         obtain ⟨r2, e2, p2, q2⟩ := number3_eq P hE he hQ hkK hN hkQ hp1 q1
         rw [e2, Option.bind_some]
         have hQ2 := hQ.snoc hkK hkQ (wq_zero.1 hkw) hleast
         have hQ2l := hQ2.len
         rw [List.length_append, List.length_singleton] at hQ2l
         refine ⟨_, rfl, ⟨Q ++ [k], r2, hQ2, ?_, p2, q2⟩, by dsimp only; simp; omega⟩
         have e3 : vec1 N (fun v => if v ∈ gF F k then (Q.map (fun k => li (gF F k))).length else if hmI F v ∈ Q then Q.idxOf (hmI F v) else 0) = vec1 N (fun v => if hmI F v ∈ Q ++ [k] then (Q ++ [k]).idxOf (hmI F v) else 0) := vec1_congr fun v hv => by
           rw [List.length_map]
           by_cases a : v ∈ gF F k
           · have e := P.hm_eq hkK a
             rw [if_pos a, e, if_pos (by simp), List.idxOf_append, if_neg hkQ]; simp
           · have e : hmI F v ≠ k := fun q => a (q ▸ (P.hm hv).2)
             rw [if_neg a]
             by_cases b : hmI F v ∈ Q
             · rw [if_pos b, if_pos (List.mem_append_left _ b), List.idxOf_append, if_pos b]
             · rw [if_neg b, if_neg (fun c => (List.mem_append.1 c).elim b (fun d => e (List.mem_singleton.1 d)))]
         rw [e3, List.map_append]; rfl
       · right
         have hnil : r = [] := List.length_eq_zero_iff.1 (by omega)
         rw [decide_eq_false (show ¬ (0 : Int) < ((r.length : Nat) : Int) by omega), cond_false]
         refine ⟨_, rfl, Q, hQ, fun j hj hjQ hjr => ?_, rfl⟩
         have : ((lst F j : Nat) : Int) ∈ rset F Q (wq (XA F E N) Q) := List.mem_map.2 ⟨j, by rw [List.mem_filter, List.mem_range, Bool.and_eq_true, Bool.not_eq_true', decide_eq_false_iff_not, decide_eq_true_eq]; exact ⟨hj, hjQ, wq_zero.2 hjr⟩, rfl⟩
         have := hp.symm.subset this
         rw [hnil] at this; cases this
     · rw [hwn]
       have : List.replicate N (0 : Int) = vec1 N (fun v => if hmI F v ∈ ([] : List Nat) then ([] : List Nat).idxOf (hmI F v) else 0) := by unfold vec1; rw [replicate_map]; exact map_congr_range fun v _ => by simp
       rw [this]; rfl
   obtain ⟨b, hb, Q, hQ, hst, rfl⟩ := hq
   have hall : ∀ k, k < F.length → k ∈ Q := fun k hk => P.all hE hst _ k hk (Nat.le_refl _)
   refine ⟨Q, hQ, hall, ?_⟩
   rw [hb, Option.bind_some]
   dsimp only
   rw [vec1_congr (f := fun v => if hmI F v ∈ Q then Q.idxOf (hmI F v) else 0) (g := fun v => Q.idxOf (hmI F v)) (fun v hv => if_pos (hall _ (P.hm hv).1))]
 · intro k hk
   unfold fn_scc_number_l1
   dsimp only
   rw [List.length_map, dlt hk, cond_true, getI_Fl hk, Option.bind_some, vec1_get hk, Option.bind_some, w64s hk (by omega), List.range_succ, List.filter_append, List.map_append]
   have hfl : (((List.range k).filter (fun j => !decide (j ∈ ([] : List Nat)) && decide (wq (XA F E N) [] j = 0))).map (fun j => ((lst F j : Nat) : Int))).length ≤ k := by
     rw [List.length_map]; have := List.length_filter_le (fun j => !decide (j ∈ ([] : List Nat)) && decide (wq (XA F E N) [] j = 0)) (List.range k); rwa [List.length_range] at this
   by_cases hz : wtC (XA F E N) k = 0
   · rw [decide_eq_true (show ((wtC (XA F E N) k : Nat) : Int) = 0 by omega), cond_true, lst_get P hk, Option.bind_some, app_eq (by rw [List.length_singleton]; omega), Option.bind_some]
     simp [wq_nil, hz]
   · rw [decide_eq_false (show ¬ ((wtC (XA F E N) k : Nat) : Int) = 0 by omega), cond_false]
     simp [wq_nil, hz]
 · unfold fn_scc_number_l1
   simp only [List.length_map]
   rw [dge (Nat.lt_irrefl _), cond_false]; rfl
end
end
section
structure Cmp (N : Nat) (E : ArG) (c : Nat → Nat) (K : Nat) : Prop where
 lt : ∀ v, v < N → c v < K
 on : ∀ k, k < K → ∃ v, v < N ∧ c v = k
 eq : ∀ v w, v < N → w < N → (c v = c w ↔ Rch E v w ∧ Rch E w v)
 ar : ∀ v w, (v, w) ∈ E → c w ≤ c v
def mbs (N : Nat) (c : Nat → Nat) (k : Nat) : List Nat := (List.range N).filter (fun v => decide (c v = k))
section
variable {N : Nat} {E : ArG} {F : List (List Nat)} {Q : List Nat}
theorem idx_get {Q : List Nat} (h : Q.Nodup) {t : Nat} (ht : t < Q.length) : Q.idxOf Q[t] = t := by
 have h1 : Q.idxOf Q[t] < Q.length := List.idxOf_lt_length_of_mem (List.getElem_mem ht)
 have h2 : Q[Q.idxOf Q[t]] = Q[t] := List.getElem_idxOf h1
 have h3 : Q.Pairwise (· ≠ ·) := h
 rw [List.pairwise_iff_getElem] at h3
 rcases Nat.lt_trichotomy (Q.idxOf Q[t]) t with k | k | k
 · exact absurd h2 (h3 _ _ h1 ht k)
 · exact k
 · exact absurd h2.symm (h3 _ _ ht h1 k)
theorem idx_inj {Q : List Nat} {a b : Nat} (ha : a ∈ Q) (hb : b ∈ Q) (h : Q.idxOf a = Q.idxOf b) : a = b := by
 have h1 := List.idxOf_lt_length_of_mem ha
 have h2 := List.idxOf_lt_length_of_mem hb
 have e1 : Q[Q.idxOf a] = a := List.getElem_idxOf h1
 have e2 : Q[Q.idxOf b] = b := List.getElem_idxOf h2
 rw [← e1, ← e2]; congr 1
theorem Nmb.full (P : Prt N E F) (h : Nmb F.length (XA F E N) (lst F) Q) (hall : ∀ k, k < F.length → k ∈ Q) : Q.length = F.length := by
 refine Nat.le_antisymm h.len ?_
 have := nodup_le (A := Q) (L := List.range F.length) List.nodup_range (fun x hx => hall x (List.mem_range.1 hx))
 rwa [List.length_range] at this
theorem Nmb.cmp (P : Prt N E F) (hE : inN N E) (h : Nmb F.length (XA F E N) (lst F) Q) (hall : ∀ k, k < F.length → k ∈ Q) : Cmp N E (fun v => Q.idxOf (hmI F v)) F.length where
 lt := fun v hv => by rw [← h.full P hall]; exact List.idxOf_lt_length_of_mem (hall _ (P.hm hv).1)
 on := fun k hk => by
   rw [← h.full P hall] at hk
   have hq := h.lt _ (List.getElem_mem hk)
   exact ⟨lst F Q[k], P.mlt hq (P.lst_mem hq), by rw [P.hm_lst hq, idx_get h.nd hk]⟩
 eq := fun v w hv hw => by
   rw [← P.same hv hw]
   exact ⟨fun e => idx_inj (hall _ (P.hm hv).1) (hall _ (P.hm hw).1) e, fun e => by rw [e]⟩
 ar := fun v w hvw => by
   obtain ⟨hv, hw⟩ := hE _ hvw
   by_cases e : hmI F v = hmI F w
   · rw [e]; exact Nat.le_refl _
   · have hvQ := hall _ (P.hm hv).1
     have ht := List.idxOf_lt_length_of_mem hvQ
     have hg : Q[Q.idxOf (hmI F v)] = hmI F v := List.getElem_idxOf ht
     have := (h.ok _ ht).1 (hmI F v, hmI F w) ((XA_mem hE).2 ⟨v, w, hvw, rfl, rfl, e⟩) hg.symm
     obtain ⟨i, hi, ei⟩ := List.getElem_of_mem this
     rw [List.length_take] at hi
     rw [List.getElem_take] at ei
     have h2 : Q.idxOf (hmI F w) = i := by
       have := idx_get h.nd (show i < Q.length by omega)
       rwa [ei] at this
     have h3 : i < Q.idxOf (hmI F v) := Nat.lt_of_lt_of_le hi (Nat.min_le_left _ _)
     show Q.idxOf (hmI F w) ≤ Q.idxOf (hmI F v)
     rw [h2]; exact Nat.le_of_lt h3
theorem Nmb.members (P : Prt N E F) (h : Nmb F.length (XA F E N) (lst F) Q) (hall : ∀ k, k < F.length → k ∈ Q) : Q.map (fun k => li (gF F k)) = (List.range F.length).map (fun k => li (mbs N (fun v => Q.idxOf (hmI F v)) k)) := by
 have hl := h.full P hall
 apply List.ext_getElem
 · simp [hl]
 · intro k h1 h2
   simp only [List.getElem_map, List.getElem_range]
   rw [List.length_map] at h1
   have hq := h.lt _ (List.getElem_mem h1)
   have hs := (P.f3 _ (P.gmem hq)).2.1
   refine strict_eq (by unfold li; rw [List.pairwise_map]; exact hs.imp (fun h => by omega)) (range_strict N _) (fun a => ?_)
   unfold li mbs
   simp only [List.mem_map, List.mem_filter, List.mem_range, decide_eq_true_eq]
   constructor
   · rintro ⟨v, hv, rfl⟩
     exact ⟨v, ⟨P.mlt hq hv, by rw [P.hm_eq hq hv, idx_get h.nd h1]⟩, rfl⟩
   · rintro ⟨v, ⟨hv, e⟩, rfl⟩
     refine ⟨v, ?_, rfl⟩
     obtain ⟨k1, k2⟩ := P.hm hv
     have : hmI F v = Q[k] := idx_inj (hall _ k1) (List.getElem_mem h1) (by rw [e, idx_get h.nd h1])
     rw [← this]; exact k2
theorem found_eq (hE : inN N E) (hN : N ≤ 1048576) (he : E.length ≤ 67108864) {body : Int × Wst → Option ((Int × Wst) ⊕ Wst)}
   (hb : ∀ i a b c d m w o f, body (i, a, b, c, d, m, w, o, f) = cond (decide (i < (((adj N E).length : Nat) : Int))) ((getI b i).bind fun x => cond (decide (x = 0)) ((fn_scc_finder_walk_p0i_krrrrirrod i (adj N E) a b c d m w o f).bind fun s => some (.inl (IntKind.wrap .i64 (i + 1), s))) (some (.inl (IntKind.wrap .i64 (i + 1), a, b, c, d, m, w, o, f)))) (some (.inr (a, b, c, d, m, w, o, f)))) :
   ∃ a b c d m w o F, loop body (0, vec1 N (fun _ => 0), vec1 N (fun _ => 0), vec1 N (fun _ => 0), vec1 N (bN fun _ => false), 0, [], [], []) = some (a, b, c, d, m, w, o, F.map li) ∧ Prt N E F := by
 have hal : (adj N E).length = N := by simp [adj]
 have hq : ∃ r, loop body (0, vec1 N (fun _ => 0), vec1 N (fun _ => 0), vec1 N (fun _ => 0), vec1 N (bN fun _ => false), 0, [], [], []) = some r ∧ ∃ a b c d m w o F, r = (a, b, c, d, m, w, o, List.map li F) ∧ Prt N E F := by
   refine loop_inv (fun s => ∃ (v : Nat) (A M L : Nat → Nat) (S : Nat → Bool) (m : Nat) (F : List (List Nat)), v ≤ N ∧ s = ((v : Int), vec1 N A, vec1 N M, vec1 N L, vec1 N (bN S), (m : Int), li [], li [], F.map li) ∧ Tj N E A M L S m [] [] F ∧ ∀ x, x < v → M x ≠ 0) (fun s => N - s.1.toNat) ?_ ⟨0, _, _, _, _, 0, [], Nat.zero_le _, rfl, Tj.start N E, fun x hx => absurd hx (Nat.not_lt_zero _)⟩
   rintro s ⟨v, A, M, L, S, m, F, hv, rfl, h, hx⟩
   rw [hb, hal]
   by_cases hvN : v < N
   · left
     rw [dlt hvN, cond_true, vec1_get hvN, Option.bind_some]
     by_cases h0 : M v = 0
     · obtain ⟨A', M', L', S', m', F', e, h', g1, g2⟩ := walk_eq hE hN he h hvN h0
       rw [decide_eq_true (show ((M v : Nat) : Int) = 0 by omega), cond_true, e, Option.bind_some, w64s hvN (by omega)]
       refine ⟨_, rfl, ⟨v + 1, A', M', L', S', m', F', by omega, rfl, h', fun x hx' => ?_⟩, by dsimp only; omega⟩
       by_cases q : x = v
       · rw [q]; exact g2
       · exact g1 x (hx x (by omega))
     · rw [decide_eq_false (show ¬ ((M v : Nat) : Int) = 0 by omega), cond_false, w64s hvN (by omega)]
       refine ⟨_, rfl, ⟨v + 1, A, M, L, S, m, F, by omega, rfl, h, fun x hx' => ?_⟩, by dsimp only; omega⟩
       by_cases q : x = v
       · rw [q]; exact h0
       · exact hx x (by omega)
   · right
     rw [dge hvN, cond_false]
     exact ⟨_, rfl, _, _, _, _, _, _, _, F, rfl, h.prt (fun x hx' => hx x (by omega))⟩
 obtain ⟨r, hr, a, b, c, d, m, w, o, F, rfl, hP⟩ := hq
 exact ⟨a, b, c, d, m, w, o, F, hr, hP⟩
theorem table_eq (hN : N ≤ 1048576) (he : E.length ≤ 67108864) {body : Int × List (List Int) → Option ((Int × List (List Int)) ⊕ List (List Int))}
   (hb : ∀ (i : Nat) l, body ((i : Int), l) = cond (decide ((i : Int) < ((N : Nat) : Int))) ((getI l (i : Int)).bind fun _ => (fn_graph_Graph_Next (some (mkG N E)) (i : Int)).bind fun z => (getI l (i : Int)).bind fun _ => (chkI (i : Int) (i : Int)).bind fun _ => some (.inl (IntKind.wrap .i64 ((i : Int) + 1), l.set (i : Int).toNat z))) (some (.inr l))) :
   loop body (0, List.replicate N []) = some (adj N E) := by
 have h := loop_nat (body := body) (fun v => ((v : Int), (List.range N).map (fun u => if u < v then li (nxt E u) else []))) N (b := adj N E) ?_ ?_
 · rw [← h, replicate_map]; simp
 · intro v hv
   rw [hb, dlt hv, cond_true, getI_map hv, Option.bind_some, Next_of hN he hv]
   simp only [Option.bind_some, chk_same]
   rw [w64s hv (by omega), Int.toNat_natCast, set_map]
   refine congrArg (fun x => some (Sum.inl (((v + 1 : Nat) : Int), x))) (map_congr_range fun u hu => ?_)
   by_cases a : u = v
   · rw [if_pos a, if_pos (show u < v + 1 by omega), a]; rfl
   · rw [if_neg a]
     by_cases b : u < v
     · rw [if_pos b, if_pos (show u < v + 1 by omega)]
     · rw [if_neg b, if_neg (show ¬ u < v + 1 by omega)]
 · rw [hb, dge (Nat.lt_irrefl _), cond_false]
   unfold adj
   exact congrArg (fun x => some (Sum.inr x)) (map_congr_range fun u hu => if_pos hu)
theorem scc_core (hE : inN N E) (hN : N ≤ 1048576) (he : E.length ≤ 67108864) {b1 : List (List Int) → Int × List (List Int) → Option ((Int × List (List Int)) ⊕ List (List Int))} {b2 : List (List Int) → Int × Wst → Option ((Int × Wst) ⊕ Wst)}
   (h1 : ∀ z, z.length = N → ∀ (i : Nat) l, b1 z ((i : Int), l) = cond (decide ((i : Int) < ((N : Nat) : Int))) ((getI l (i : Int)).bind fun _ => (fn_graph_Graph_Next (some (mkG N E)) (i : Int)).bind fun z => (getI l (i : Int)).bind fun _ => (chkI (i : Int) (i : Int)).bind fun _ => some (.inl (IntKind.wrap .i64 ((i : Int) + 1), l.set (i : Int).toNat z))) (some (.inr l)))
   (h2 : ∀ i a b c d m w o f, b2 (adj N E) (i, a, b, c, d, m, w, o, f) = cond (decide (i < (((adj N E).length : Nat) : Int))) ((getI b i).bind fun x => cond (decide (x = 0)) ((fn_scc_finder_walk_p0i_krrrrirrod i (adj N E) a b c d m w o f).bind fun s => some (.inl (IntKind.wrap .i64 (i + 1), s))) (some (.inl (IntKind.wrap .i64 (i + 1), a, b, c, d, m, w, o, f)))) (some (.inr (a, b, c, d, m, w, o, f)))) :
   ∃ F Q, Prt N E F ∧ Nmb F.length (XA F E N) (lst F) Q ∧ (∀ k, k < F.length → k ∈ Q) ∧ ∀ {γ : Type} (k : Option (List Int × List (List Int)) → Option γ), ((mk (N : Int) (N : Int) ([] : List Int) : Option (List (List Int))).bind fun z => (loop (b1 z) (0, z)).bind fun l1 => (fn_scc_newFinder l1).bind fun (a, b, c, d) => (loop (b2 l1) (0, a, b, c, d, 0, [], [], [])).bind fun (_, _, _, _, _, _, _, f) => (fn_scc_number l1 f).bind k) =
     k (some (vec1 N (fun v => Q.idxOf (hmI F v)), (List.range F.length).map (fun k => li (mbs N (fun v => Q.idxOf (hmI F v)) k)))) := by
 obtain ⟨a, b, c, d, m, w, o, F, e, P⟩ := found_eq hE hN he h2
 obtain ⟨Q, hQ, hall, e3⟩ := number_eq P hE hN he
 refine ⟨F, Q, P, hQ, hall, fun k => ?_⟩
 rw [mkN (by omega), Option.bind_some, table_eq hN he (h1 _ (by simp)), Option.bind_some, newFinder_eq hN, Option.bind_some]
 dsimp only
 rw [e, Option.bind_some]
 dsimp only
 rw [e3, Option.bind_some, hQ.members P hall]
instance {X : List (Nat × Nat)} {P : List Nat} {j : Nat} : Decidable (rdy X P j) := by unfold rdy; infer_instance
def ofL (N : Nat) (F : List (List Nat)) (Q : List Nat) : List Int := (List.range N).map (fun v => if hmI F v ∈ Q then ((Q.idxOf (hmI F v) : Nat) : Int) else -1)
def smL (N : Nat) (F : List (List Nat)) : List (List Int) := (List.range N).map (fun v => vec1 N (fun w => if hmI F v = hmI F w then 1 else 0))
theorem rdy_step {β : Type} (Q : List Nat) (x y z : Nat) (A B : β) : ((cond (decide (((if x = y then 1 else 0 : Nat) : Int) = 1)) (some (decide (((if x = z then 1 else 0 : Nat) : Int) = 0))) (some false)).bind fun t => (cond t (some (decide ((if z ∈ Q then ((Q.idxOf z : Nat) : Int) else -1) < 0))) (some false)).bind fun t => cond t (some A) (some B)) = some (if decide (x = y ∧ x ≠ z ∧ z ∉ Q) = true then A else B) := by
 by_cases c1 : x = y
 · subst c1
   by_cases c2 : x = z
   · subst c2; simp
   · by_cases c3 : z ∈ Q
     · have : ¬ ((Q.idxOf z : Nat) : Int) < 0 := by omega
       simp [c2, c3, this]
     · simp [c2, c3]
 · simp [c1]
theorem inL_get {N w : Nat} {M : List Nat} (h : w < N) : getI (inL N M) (w : Int) = some (if w ∈ M then 1 else 0) := getI_map h
theorem ready_eq (P : Prt N E F) (hE : inN N E) (hel : E.length ≤ 1000000) {v : Nat} (hv : v < N) : fn_ref11_ready (smL N F) (ai E) (ofL N F Q) (v : Int) = some (decide (rdy (XA F E N) Q (hmI F v))) := by
 unfold fn_ref11_ready
 have h := loop_some (body := fn_ref11_ready_l1 (smL N F) (ai E) (ofL N F Q) (v : Int)) (ai E) (fun x => decide (hmI F v = hmI F x.1.toNat ∧ hmI F v ≠ hmI F x.2.toNat ∧ hmI F x.2.toNat ∉ Q)) (.inr false) (.inl ()) ?_ ?_
 · rw [h]
   by_cases hr : rdy (XA F E N) Q (hmI F v)
   · rw [decide_eq_true hr]
     have : ((ai E).any fun x => decide (hmI F v = hmI F x.1.toNat ∧ hmI F v ≠ hmI F x.2.toNat ∧ hmI F x.2.toNat ∉ Q)) = false := by
       rw [List.any_eq_false]
       rintro x hx
       obtain ⟨e, he, rfl⟩ := List.mem_map.1 hx
       simp only [decide_eq_true_eq, Int.toNat_natCast]
       rintro ⟨a, b, c⟩
       exact c (hr (hmI F e.1, hmI F e.2) ((XA_mem hE).2 ⟨e.1, e.2, he, rfl, rfl, by rw [← a]; exact b⟩) a.symm)
     rw [this]; rfl
   · rw [decide_eq_false hr]
     have : ((ai E).any fun x => decide (hmI F v = hmI F x.1.toNat ∧ hmI F v ≠ hmI F x.2.toNat ∧ hmI F x.2.toNat ∉ Q)) = true := by
       refine Decidable.byContradiction fun hn => hr fun e he hej => Decidable.byContradiction fun hq => hn ?_
       obtain ⟨a, b, hab, h1, h2, h3⟩ := (XA_mem hE).1 he
       rw [List.any_eq_true]
       refine ⟨((a : Int), (b : Int)), List.mem_map.2 ⟨(a, b), hab, rfl⟩, ?_⟩
       simp only [decide_eq_true_eq, Int.toNat_natCast]
       rw [h1, h2, ← hej]
       exact ⟨rfl, h3, hq⟩
     rw [this]; rfl
 · intro k hk
   have hkE : k < E.length := by rw [ai_len] at hk; exact hk
   have hx : (ai E)[k] = (((E[k].1 : Nat) : Int), ((E[k].2 : Nat) : Int)) := by simp [ai]
   obtain ⟨ha, hb⟩ := hE _ (List.getElem_mem hkE)
   unfold fn_ref11_ready_l1
   rw [dlt hk, cond_true, getN hk, hx]
   generalize E[k].1 = a at *
   generalize E[k].2 = b at *
   have g1 : getI (smL N F) (v : Int) = some (vec1 N (fun w => if hmI F v = hmI F w then 1 else 0)) := getI_map hv
   have g2 : getI (ofL N F Q) (b : Int) = some (if hmI F b ∈ Q then ((Q.idxOf (hmI F b) : Nat) : Int) else -1) := getI_map hb
   simp only [Option.bind_some, g1, vec1_get ha, vec1_get hb, g2, Int.toNat_natCast]
   rw [w64s hk (by rw [ai_len]; omega)]
   exact rdy_step _ _ _ _ _ _
 · unfold fn_ref11_ready_l1
   rw [dge (Nat.lt_irrefl _), cond_false]
end
end
section
section
variable {N : Nat} {E : ArG} {F : List (List Nat)} {Q : List Nat}
theorem ref_l1 (hE : inN N E) (hN : N ≤ 1000) (he : E.length ≤ 67108864) : loop (fn_ref11_Of_l1 (N : Int) (ai E)) (([] : List (List Int)), ([] : List Int), 0) = some ((List.range N).map (fun v => inL N (rl N E v)), List.replicate N (-1)) := by
 have h := loop_nat (body := fn_ref11_Of_l1 (N : Int) (ai E)) (fun k => ((List.range k).map (fun v => inL N (rl N E v)), List.replicate k (-1), (k : Int))) N (b := ((List.range N).map (fun v => inL N (rl N E v)), List.replicate N (-1))) ?_ ?_
 · exact h
 · intro k hk
   unfold fn_ref11_Of_l1
   dsimp only
   rw [dlt hk, cond_true, refReach_eq hE hN he hk, Option.bind_some, app_eq (by simp; omega), Option.bind_some, app_eq (by simp; omega), Option.bind_some, w64s hk (by omega), List.range_succ, List.map_append, List.replicate_succ']
   rfl
 · unfold fn_ref11_Of_l1
   dsimp only
   rw [dge (Nat.lt_irrefl _), cond_false]
theorem ref_l3 (P : Prt N E F) (hE : inN N E) (hN : N ≤ 1000) : loop (fn_ref11_Of_l3 (N : Int) ((List.range N).map (fun v => inL N (rl N E v)))) (([] : List (List Int)), 0) = some (smL N F) := by
 have h := loop_nat (body := fn_ref11_Of_l3 (N : Int) ((List.range N).map (fun v => inL N (rl N E v)))) (fun k => ((List.range k).map (fun v => vec1 N (fun w => if hmI F v = hmI F w then 1 else 0)), (k : Int))) N (b := smL N F) ?_ ?_
 · exact h
 · intro v hv
   unfold fn_ref11_Of_l3
   dsimp only
   have h2 := loop_nat (body := fn_ref11_Of_l2 (N : Int) ((List.range N).map (fun v => inL N (rl N E v))) (v : Int)) (fun k => ((List.range k).map (fun w => (((if hmI F v = hmI F w then 1 else 0 : Nat) : Nat) : Int)), (k : Int))) N (b := vec1 N (fun w => if hmI F v = hmI F w then 1 else 0)) ?_ ?_
   · rw [dlt hv, cond_true, show (([] : List Int), (0 : Int)) = ((List.range 0).map (fun w => (((if hmI F v = hmI F w then 1 else 0 : Nat) : Nat) : Int)), ((0 : Nat) : Int)) from rfl, h2, Option.bind_some, app_eq (by simp; omega), Option.bind_some, w64s hv (by omega), List.range_succ, List.map_append]
     rfl
   · intro w hw
     unfold fn_ref11_Of_l2
     dsimp only
     have g1 : getI ((List.range N).map (fun v => inL N (rl N E v))) (v : Int) = some (inL N (rl N E v)) := getI_map hv
     have g2 : getI ((List.range N).map (fun v => inL N (rl N E v))) (w : Int) = some (inL N (rl N E w)) := getI_map hw
     rw [dlt hw, cond_true, g1, Option.bind_some, inL_get hw, Option.bind_some, g2, Option.bind_some, inL_get hv, Option.bind_some]
     have hm : IntKind.wrap .i64 ((if w ∈ rl N E v then (1 : Int) else 0) * (if v ∈ rl N E w then 1 else 0)) = (((if hmI F v = hmI F w then 1 else 0 : Nat) : Nat) : Int) := by
       have hs := P.same hv hw
       rw [← rl_mem hE hv, ← rl_mem hE hw] at hs
       by_cases a : w ∈ rl N E v
       · by_cases b : v ∈ rl N E w
         · rw [if_pos a, if_pos b, if_pos (hs.2 ⟨a, b⟩)]; decide
         · rw [if_pos a, if_neg b, if_neg (fun c => b (hs.1 c).2)]; decide
       · rw [if_neg a, if_neg (fun c => a (hs.1 c).1), Int.zero_mul]; decide
     rw [hm, app_eq (by simp; omega), Option.bind_some, w64s hw (by omega), List.range_succ, List.map_append]
     rfl
   · unfold fn_ref11_Of_l2
     dsimp only
     rw [dge (Nat.lt_irrefl _), cond_false]; rfl
 · unfold fn_ref11_Of_l3
   dsimp only
   rw [dge (Nat.lt_irrefl _), cond_false]; rfl
theorem ofL_get {v : Nat} (h : v < N) : getI (ofL N F Q) (v : Int) = some (if hmI F v ∈ Q then ((Q.idxOf (hmI F v) : Nat) : Int) else -1) := getI_map h
theorem ref_l4 (hN : N ≤ 1000) {v : Nat} (hv : v < N) (hn : hmI F v ∉ Q) : loop (fn_ref11_Of_l4 (N : Int) (smL N F) ((Q.length : Nat) : Int) (v : Int)) (ofL N F Q, 0) = some (ofL N F (Q ++ [hmI F v])) := by
 have hsucc : ∀ w, (if hmI F w ∈ Q ++ [hmI F v] then (((Q ++ [hmI F v]).idxOf (hmI F w) : Nat) : Int) else -1) = if hmI F v = hmI F w then ((Q.length : Nat) : Int) else if hmI F w ∈ Q then ((Q.idxOf (hmI F w) : Nat) : Int) else -1 := fun w => by
   by_cases a : hmI F v = hmI F w
   · rw [if_pos a, ← a, if_pos (by simp), List.idxOf_append, if_neg hn]; simp
   · rw [if_neg a]
     by_cases b : hmI F w ∈ Q
     · rw [if_pos (List.mem_append_left _ b), if_pos b, List.idxOf_append, if_pos b]
     · rw [if_neg b, if_neg (fun c => (List.mem_append.1 c).elim b (fun d => a (List.mem_singleton.1 d).symm))]
 have h := loop_nat (body := fn_ref11_Of_l4 (N : Int) (smL N F) ((Q.length : Nat) : Int) (v : Int)) (fun k => ((List.range N).map (fun w => if w < k ∧ hmI F v = hmI F w then ((Q.length : Nat) : Int) else if hmI F w ∈ Q then ((Q.idxOf (hmI F w) : Nat) : Int) else -1), (k : Int))) N (b := ofL N F (Q ++ [hmI F v])) ?_ ?_
 · rw [← h]
   unfold ofL
   simp
 · intro w hw
   unfold fn_ref11_Of_l4
   dsimp only
   have g1 : getI (smL N F) (v : Int) = some (vec1 N (fun w => if hmI F v = hmI F w then 1 else 0)) := getI_map hv
   rw [dlt hw, cond_true, g1, Option.bind_some, vec1_get hw, Option.bind_some, w64s hw (by omega)]
   by_cases a : hmI F v = hmI F w
   · rw [if_pos a, show decide (((1 : Nat) : Int) = 1) = true from rfl, cond_true, getI_map hw, Option.bind_some, Int.toNat_natCast, set_map, Option.bind_some]
     refine congrArg (fun x => some (Sum.inl (x, ((w + 1 : Nat) : Int)))) (map_congr_range fun u hu => ?_)
     by_cases b : u = w
     · subst b; rw [if_pos rfl, if_pos ⟨by omega, a⟩]
     · rw [if_neg b]
       by_cases c : u < w
       · have : u < w + 1 := by omega
         simp only [c, this, true_and]
       · have : ¬ u < w + 1 := by omega
         simp only [c, this, false_and]
   · rw [if_neg a, show decide (((0 : Nat) : Int) = 1) = false from rfl, cond_false]
     refine congrArg (fun x => some (Sum.inl (x, ((w + 1 : Nat) : Int)))) (map_congr_range fun u hu => ?_)
     by_cases b : u = w
     · subst b; rw [if_neg (show ¬ (u < u ∧ hmI F v = hmI F u) from fun c => a c.2), if_neg (show ¬ (u < u + 1 ∧ hmI F v = hmI F u) from fun c => a c.2)]
     · by_cases c : u < w
       · have : u < w + 1 := by omega
         simp only [c, this, true_and]
       · have : ¬ u < w + 1 := by omega
         simp only [c, this, false_and]
 · unfold fn_ref11_Of_l4
   dsimp only
   rw [dge (Nat.lt_irrefl _), cond_false]
   unfold ofL
   refine congrArg (fun x => some (Sum.inr x)) (map_congr_range fun u hu => ?_)
   rw [hsucc u]; simp only [hu, true_and]
theorem ref_l5 (P : Prt N E F) (hE : inN N E) (hN : N ≤ 1000) (hel : E.length ≤ 1000000) (hQ : Nmb F.length (XA F E N) (lst F) Q) :
   ∃ r, loop (fn_ref11_Of_l5 (N : Int) (ai E) (smL N F)) (ofL N F Q, ((Q.length : Nat) : Int), false, 0) = some r ∧
     ((r = (ofL N F Q, ((Q.length : Nat) : Int), false) ∧ ∀ j, j < F.length → j ∉ Q → ¬ rdy (XA F E N) Q j) ∨ ∃ k, r = (ofL N F (Q ++ [k]), (((Q ++ [k]).length : Nat) : Int), true) ∧ Nmb F.length (XA F E N) (lst F) (Q ++ [k])) := by
 have hQl := hQ.len
 have hFl := P.flen
 refine loop_inv (fun s => (∃ v : Nat, v ≤ N ∧ s = (ofL N F Q, ((Q.length : Nat) : Int), false, (v : Int)) ∧ ∀ u, u < v → hmI F u ∉ Q → ¬ rdy (XA F E N) Q (hmI F u)) ∨ ∃ (k v : Nat), s = (ofL N F (Q ++ [k]), (((Q ++ [k]).length : Nat) : Int), true, (v : Int)) ∧ Nmb F.length (XA F E N) (lst F) (Q ++ [k]))
   (fun s => if s.2.2.1 then 0 else 1 + N - s.2.2.2.toNat) ?_ (.inl ⟨0, Nat.zero_le _, rfl, fun u hu => absurd hu (Nat.not_lt_zero _)⟩)
 rintro s (⟨v, hv, rfl, hu⟩ | ⟨k, v, rfl, hk⟩)
 · unfold fn_ref11_Of_l5
   dsimp only
   rw [Bool.not_false, Bool.and_true]
   by_cases hvN : v < N
   · left
     obtain ⟨h1, h2⟩ := P.hm hvN
     rw [dlt hvN, cond_true, ofL_get hvN, Option.bind_some, ready_eq P hE hel hvN, w64s hvN (by omega)]
     by_cases hq : hmI F v ∈ Q
     · rw [if_pos hq, decide_eq_true (show (0 : Int) ≤ ((Q.idxOf (hmI F v) : Nat) : Int) by omega), cond_true, Option.bind_some, cond_true]
       refine ⟨_, rfl, .inl ⟨v + 1, by omega, rfl, fun u hu' => ?_⟩, by simp; omega⟩
       by_cases e : u = v
       · rw [e]; exact fun c => absurd hq c
       · exact hu u (by omega)
     · rw [if_neg hq, show decide ((0 : Int) ≤ -1) = false from rfl, cond_false]
       simp only [Option.bind_some]
       by_cases hr : rdy (XA F E N) Q (hmI F v)
       · rw [decide_eq_true hr, Bool.not_true, cond_false, ref_l4 hN hvN hq, Option.bind_some]
         have hvl : v = lst F (hmI F v) := by
           refine Nat.le_antisymm (Decidable.byContradiction fun hc => ?_) (P.lst_le h1 h2)
           have hlm := P.hm_lst h1
           exact hu (lst F (hmI F v)) (by omega) (by rw [hlm]; exact hq) (by rw [hlm]; exact hr)
         have hn := hQ.snoc h1 hq hr (fun j hj hjQ hjr => by
           refine Decidable.byContradiction fun hc => ?_
           have hlm := P.hm_lst hj
           exact hu (lst F j) (by omega) (by rw [hlm]; exact hjQ) (by rw [hlm]; exact hjr))
         refine ⟨_, rfl, .inr ⟨hmI F v, v + 1, ?_, hn⟩, by simp; omega⟩
         rw [w64s (n := Q.length + 1) (by omega) (by omega)]; simp
       · rw [decide_eq_false hr, Bool.not_false, cond_true]
         refine ⟨_, rfl, .inl ⟨v + 1, by omega, rfl, fun u hu' => ?_⟩, by simp; omega⟩
         by_cases e : u = v
         · rw [e]; exact fun _ => hr
         · exact hu u (by omega)
   · right
     rw [dge hvN, cond_false]
     refine ⟨_, rfl, .inl ⟨rfl, fun j hj hjQ => ?_⟩⟩
     have hlm := P.hm_lst hj
     have := hu (lst F j) (by have := P.mlt hj (P.lst_mem hj); omega)
     rw [hlm] at this; exact this hjQ
 · right
   unfold fn_ref11_Of_l5
   dsimp only
   rw [Bool.not_true, Bool.and_false, cond_false]
   exact ⟨_, rfl, .inr ⟨k, rfl, hk⟩⟩
theorem refOf_eq (P : Prt N E F) (hE : inN N E) (hN : N ≤ 1000) (hel : E.length ≤ 1000000) (hQ : Nmb F.length (XA F E N) (lst F) Q) (hall : ∀ k, k < F.length → k ∈ Q) : fn_ref11_Of (N : Int) (ai E) = some (vec1 N (fun v => Q.idxOf (hmI F v))) := by
 have hFl := P.flen
 unfold fn_ref11_Of
 rw [ref_l1 hE hN (by omega), Option.bind_some]
 dsimp only
 rw [ref_l3 P hE hN, Option.bind_some]
 have hq : ∃ r, loop (fn_ref11_Of_l6 (N : Int) (ai E) (smL N F)) (List.replicate N (-1), 0, true) = some r ∧ ∃ Q', Nmb F.length (XA F E N) (lst F) Q' ∧ (∀ j, j < F.length → j ∉ Q' → ¬ rdy (XA F E N) Q' j) ∧ r = ofL N F Q' := by
   refine loop_inv (fun s => ∃ (Q' : List Nat) (b : Bool), Nmb F.length (XA F E N) (lst F) Q' ∧ s = (ofL N F Q', ((Q'.length : Nat) : Int), b) ∧ (b = false → ∀ j, j < F.length → j ∉ Q' → ¬ rdy (XA F E N) Q' j)) (fun s => 2 * (F.length - s.2.1.toNat) + if s.2.2 then 1 else 0) ?_ ⟨[], true, .nil, ?_, fun h => by cases h⟩
   · rintro s ⟨Q', b, hQ', rfl, hb⟩
     have hl := hQ'.len
     unfold fn_ref11_Of_l6
     dsimp only
     cases b with
     | false => right; rw [cond_false]; exact ⟨_, rfl, Q', hQ', hb rfl, rfl⟩
     | true =>
       left
       obtain ⟨r, e, h⟩ := ref_l5 P hE hN hel hQ'
       rw [cond_true, e, Option.bind_some]
       rcases h with ⟨rfl, hst⟩ | ⟨k, rfl, hk⟩
       · exact ⟨_, rfl, ⟨Q', false, hQ', rfl, fun _ => hst⟩, by simp⟩
       · have hl2 := hk.len
         rw [List.length_append, List.length_singleton] at hl2
         exact ⟨_, rfl, ⟨Q' ++ [k], true, hk, rfl, fun h => by cases h⟩, by simp; omega⟩
   · unfold ofL; rw [replicate_map]; simp
 obtain ⟨r, e, Q', hQ', hst, rfl⟩ := hq
 have hall' : ∀ k, k < F.length → k ∈ Q' := fun k hk => P.all hE hst _ k hk (Nat.le_refl _)
 obtain rfl : Q = Q' := hQ.uniq hQ' (fun a b ha hb h => by rw [← P.hm_lst ha, h, P.hm_lst hb]) (by rw [hQ.full P hall, hQ'.full P hall'])
 rw [e, Option.bind_some]
 unfold ofL vec1
 exact congrArg some (map_congr_range fun v hv => if_pos (hall _ (P.hm hv).1))
end
end
section
theorem Of_eq (n : Int) (xb : List (Int × Int)) (hn : xb.length ≤ 1000000) : fn_law10_Of n xb = fn_graph_New n xb := by
 unfold fn_law10_Of
 have := loop_map xb (fun x : Int × Int => x) [] (by simp; omega) (body := fn_law10_Of_l1 xb) (fun c i => by
   unfold fn_law10_Of_l1
   cases hg : getI xb i with
   | none => simp [hg]
   | some x => simp [hg])
 rw [this]
 simp only [List.nil_append, List.map_id', Option.bind_some]
 cases fn_graph_New n xb with
 | none => rfl
 | some r => rfl
section
variable {N K K' : Nat} {E E' : ArG} {c c' : Nat → Nat}
theorem Cmp.le (h : Cmp N E c K) (h' : Cmp N E' c' K') (hs : ∀ v w, v < N → w < N → c' v = c' w → c v = c w) : K ≤ K' := by
 have hx : ∃ r : Nat → Nat, ∀ k, k < K → r k < N ∧ c (r k) = k := ⟨fun k => if hk : k < K then (h.on k hk).choose else 0, fun k hk => by simp only [dif_pos hk]; exact (h.on k hk).choose_spec⟩
 obtain ⟨r, hr⟩ := hx
 have hn : ((List.range K).map (fun k => c' (r k))).Nodup := by
   show List.Pairwise _ _
   rw [List.pairwise_map]
   have hp : (List.range K).Pairwise (fun a b => a ≠ b ∧ a < K ∧ b < K) := by
     rw [List.pairwise_iff_getElem]
     intro i j hi hj hij
     simp only [List.length_range] at hi hj
     simp only [List.getElem_range]
     omega
   refine hp.imp (fun {a b} hab e => hab.1 ?_)
   have := hs _ _ (hr a hab.2.1).1 (hr b hab.2.2).1 e
   rw [(hr a hab.2.1).2, (hr b hab.2.2).2] at this
   exact this
 have := nodup_lt hn (N := K') (fun x hx => by
   obtain ⟨k, hk, rfl⟩ := List.mem_map.1 hx
   exact h'.lt _ (hr k (List.mem_range.1 hk)).1)
 simpa using this
theorem Cmp.le_N (h : Cmp N E c K) : K ≤ N := by
 have h' : Cmp N [] (fun v => v) N := ⟨fun v hv => hv, fun k hk => ⟨k, hk, rfl⟩, fun v w hv hw => ⟨fun e => by subst e; exact ⟨.refl _, .refl _⟩, fun e => (Rch.closed (p := fun x => x = v) rfl (fun a b e => by simp at e) e.1).symm⟩, fun v w e => by simp at e⟩
 exact h.le h' (fun v w _ _ e => by rw [e])
theorem mbs_mem {v k : Nat} : v ∈ mbs N c k ↔ v < N ∧ c v = k := by unfold mbs; simp
theorem mbs_len (k : Nat) : (mbs N c k).length ≤ N := by
 unfold mbs
 have := List.length_filter_le (fun v => decide (c v = k)) (List.range N)
 simpa using this
theorem mbs_none {k : Nat} (h : Cmp N E c K) (hk : K ≤ k) : mbs N c k = [] := by
 refine List.eq_nil_iff_forall_not_mem.2 fun v hv => ?_
 obtain ⟨a, b⟩ := mbs_mem.1 hv
 have := h.lt v a; omega
def und (N : Nat) (c : Nat → Nat) (j : Nat) : Nat := (List.range N).countP (fun v => decide (c v < j))
theorem und_succ (j : Nat) : und N c (j + 1) = und N c j + (mbs N c j).length := by
 unfold und mbs
 rw [← List.countP_eq_length_filter]
 induction List.range N with
 | nil => rfl
 | cons a l ih =>
   simp only [List.countP_cons, ih, decide_eq_true_eq]
   by_cases h1 : c a = j
   · have : c a < j + 1 := by omega
     have h3 : ¬ c a < j := by omega
     simp only [h1, this, h3, if_true]; simp; omega
   · by_cases h2 : c a < j
     · have : c a < j + 1 := by omega
       simp only [h1, h2, this, if_true, if_false]; omega
     · have : ¬ c a < j + 1 := by omega
       simp only [h1, h2, this, if_false]; omega
theorem und_zero : und N c 0 = 0 := by unfold und; simp
theorem und_all (h : Cmp N E c K) : und N c K = N := by
 unfold und
 have : (List.range N).countP (fun v => decide (c v < K)) = (List.range N).length := List.countP_eq_length.2 (fun a ha => by simpa using h.lt a (List.mem_range.1 ha))
 rw [this, List.length_range]
theorem und_le (j : Nat) : und N c j ≤ N := by
 unfold und
 have := List.countP_le_length (l := List.range N) (p := fun v => decide (c v < j))
 simpa using this
end
def pC (N : Nat) (c : Nat → Nat) (K : Nat) : Option (List Int × List (List Int)) := some (vec1 N c, (List.range K).map (fun k => li (mbs N c k)))
theorem kpz_l1 {N : Nat} {E : ArG} (z : List (List Int)) (hz : z.length = N) (i : Nat) (l : List (List Int)) : fn_scc_Of_kpz_l1 (some (mkG N E)) z ((i : Int), l) = cond (decide ((i : Int) < ((N : Nat) : Int))) ((getI l (i : Int)).bind fun _ => (fn_graph_Graph_Next (some (mkG N E)) (i : Int)).bind fun z => (getI l (i : Int)).bind fun _ => (chkI (i : Int) (i : Int)).bind fun _ => some (.inl (IntKind.wrap .i64 ((i : Int) + 1), l.set (i : Int).toNat z))) (some (.inr l)) := by subst hz; rfl
theorem kpz_l2 {N : Nat} {E : ArG} (i : Int) (a b c d : List Int) (m : Int) (w o : List Int) (f : List (List Int)) : fn_scc_Of_kpz_l2 (adj N E) (i, a, b, c, d, m, w, o, f) = cond (decide (i < (((adj N E).length : Nat) : Int))) ((getI b i).bind fun x => cond (decide (x = 0)) ((fn_scc_finder_walk_p0i_krrrrirrod i (adj N E) a b c d m w o f).bind fun s => some (.inl (IntKind.wrap .i64 (i + 1), s))) (some (.inl (IntKind.wrap .i64 (i + 1), a, b, c, d, m, w, o, f)))) (some (.inr (a, b, c, d, m, w, o, f))) := rfl
theorem scc_eq {N : Nat} {E : ArG} (hE : inN N E) (hN : N ≤ 1000) (he : E.length ≤ 1000000) : ∃ c K, Cmp N E c K ∧ fn_ref11_Of (N : Int) (ai E) = some (vec1 N c) ∧ fn_scc_Of_kpz (some (mkG N E)) = some (pC N c K) := by
 obtain ⟨F, Q, P, hQ, hall, h⟩ := scc_core hE (by omega) (by omega) (b1 := fn_scc_Of_kpz_l1 (some (mkG N E))) (b2 := fn_scc_Of_kpz_l2) kpz_l1 kpz_l2
 refine ⟨_, _, hQ.cmp P hE hall, refOf_eq P hE hN he hQ hall, ?_⟩
 unfold fn_scc_Of_kpz fn_tick_Counter_Add_zii
 rw [Nodes_eq, Arcs_eq]
 exact h (fun p => some p)
theorem scc_none : fn_scc_Of_kpz none = some (some ([], [])) := by
 have hE : inN 0 [] := by intro e he; simp at he
 obtain ⟨F, Q, P, hQ, hall, h⟩ := scc_core hE (by decide) (by decide) (b1 := fn_scc_Of_kpz_l1 none) (b2 := fn_scc_Of_kpz_l2) (fun z hz i l => by
   unfold fn_scc_Of_kpz_l1
   rw [hz, dge (show ¬ i < 0 by omega)]; rfl) kpz_l2
 have hF : F.length = 0 := by have := P.flen; omega
 have := h (fun p => some p)
 rw [hF] at this
 unfold fn_scc_Of_kpz fn_tick_Counter_Add_zii
 rw [Nodes_none, Arcs_none]
 exact this
theorem Len_eq (N K : Nat) (c : Nat → Nat) : fn_scc_Parts_Len (pC N c K) = some (K : Int) := by unfold fn_scc_Parts_Len pC; simp
theorem Len_nil : fn_scc_Parts_Len (some ([], [])) = some 0 := rfl
theorem PO_in {N K v : Nat} {c : Nat → Nat} (hv : v < N) : fn_scc_Parts_Of (pC N c K) (v : Int) = some ((c v : Int), true) := by
 unfold fn_scc_Parts_Of pC
 have h1 : (decide ((v : Int) < 0)) = false := by simp
 have h2 : ¬ (N : Int) ≤ (v : Int) := by omega
 simp [h1, vec1_len, h2, vec1_get hv, show ¬ (v : Int) < 0 by omega, show ¬ N ≤ v by omega]
theorem PO_out {N K : Nat} {x : Int} {c : Nat → Nat} (hx : x < 0 ∨ (N : Int) ≤ x) : fn_scc_Parts_Of (pC N c K) x = some (0, false) := by
 unfold fn_scc_Parts_Of pC
 rcases hx with h | h
 · simp [h]
 · by_cases h0 : x < 0
   · simp [h0]
   · simp [h0, vec1_len, h]
theorem Me_in {N K k : Nat} {c : Nat → Nat} (hN : N ≤ 1000000) (hk : k < K) : fn_scc_Parts_Members (pC N c K) (k : Int) = some (li (mbs N c k)) := by
 unfold fn_scc_Parts_Members
 rw [Len_eq]
 have h1 : decide ((k : Int) < 0) = false := by simp
 have h2 : decide ((K : Int) ≤ (k : Int)) = false := decide_eq_false (by omega)
 have g : getI ((List.range K).map (fun k => li (mbs N c k))) (k : Int) = some (li (mbs N c k)) := getI_map hk
 have hl := mbs_len (N := N) (c := c) k
 have e : fn_slices_Clone_int_int (li (mbs N c k)) = some (li (mbs N c k)) := clone_eq _ (by rw [li_len]; omega)
 simp only [h1, h2, cond_false, Option.bind_some]
 unfold pC
 simp only [Option.bind_some, g, e]
theorem Me_out {N K : Nat} {x : Int} {c : Nat → Nat} (hx : x < 0 ∨ (K : Int) ≤ x) : fn_scc_Parts_Members (pC N c K) x = some [] := by
 unfold fn_scc_Parts_Members
 rw [Len_eq]
 rcases hx with h | h
 · simp [h]
 · by_cases h0 : x < 0 <;> simp [h0, h]
theorem Count_eq {N K : Nat} {E : ArG} {c : Nat → Nat} (h : Cmp N E c K) (hN : N ≤ 1000) : fn_ref11_Count (vec1 N c) = some (K : Int) := by
 have hK := h.le_N
 unfold fn_ref11_Count
 have hq : ∃ r, loop (fn_ref11_Count_l1 (vec1 N c)) (0, 0) = some r ∧ r = (K : Int) := by
   refine loop_inv (fun s => ∃ i m : Nat, s = ((m : Int), (i : Int)) ∧ i ≤ N ∧ (∀ v, v < i → c v < m) ∧ m ≤ K) (fun s => N - s.2.toNat) ?_ ⟨0, 0, rfl, Nat.zero_le _, fun v hv => absurd hv (Nat.not_lt_zero _), Nat.zero_le _⟩
   rintro s ⟨i, m, rfl, hi, hm, hmK⟩
   unfold fn_ref11_Count_l1
   dsimp only
   rw [vec1_len]
   by_cases hiN : i < N
   · left
     have hc := h.lt i hiN
     rw [dlt hiN, cond_true, vec1_get hiN, Option.bind_some, w64 (x := (c i : Int) + 1) (by omega) (by omega), w64s hiN (by omega)]
     by_cases hx : m ≤ c i
     · rw [decide_eq_true (show (m : Int) < (c i : Int) + 1 by omega), cond_true]
       simp only [Option.bind_some]
       rw [w64 (x := (c i : Int) + 1) (by omega) (by omega)]
       refine ⟨_, rfl, ⟨i + 1, c i + 1, by simp, by omega, fun v hv => ?_, by omega⟩, by dsimp only; omega⟩
       by_cases q : v = i
       · rw [q]; omega
       · have := hm v (by omega); omega
     · rw [decide_eq_false (show ¬ (m : Int) < (c i : Int) + 1 by omega), cond_false]
       refine ⟨_, rfl, ⟨i + 1, m, rfl, by omega, fun v hv => ?_, hmK⟩, by dsimp only; omega⟩
       by_cases q : v = i
       · rw [q]; omega
       · exact hm v (by omega)
   · right
     rw [dge hiN, cond_false]
     refine ⟨_, rfl, ?_⟩
     have : ¬ m < K := fun hlt => by
       obtain ⟨v, hv, e⟩ := h.on m hlt
       have := hm v (by omega); omega
     omega
 obtain ⟨r, hr, rfl⟩ := hq
 rw [hr]; rfl
theorem cmp4 {c : Nat → Nat} {K : Nat} (h : Cmp 4 [(0, 1), (1, 0), (1, 2), (3, 0)] c K) : c 0 = 1 ∧ c 1 = 1 ∧ c 2 = 0 ∧ c 3 = 2 ∧ K = 3 := by
 have l0 := h.lt 0 (by omega)
 have l1 := h.lt 1 (by omega)
 have l2 := h.lt 2 (by omega)
 have l3 := h.lt 3 (by omega)
 have e01 : c 0 = c 1 := (h.eq 0 1 (by omega) (by omega)).2 ⟨(Rch.refl 0).step (by simp), (Rch.refl 1).step (by simp)⟩
 have a12 := h.ar 1 2 (by simp)
 have a30 := h.ar 3 0 (by simp)
 have n12 : c 1 ≠ c 2 := fun e => by
   have := ((h.eq 1 2 (by omega) (by omega)).1 e).2
   have := Rch.closed (p := fun x => x = 2) rfl (fun a b e ha => by subst ha; simp at e) this
   omega
 have n30 : c 3 ≠ c 0 := fun e => by
   have := ((h.eq 3 0 (by omega) (by omega)).1 e).2
   have := Rch.closed (p := fun x => x ≠ 3) (by omega) (fun a b e ha => by simp at e; omega) this
   omega
 have on : ∀ k, k < K → c 0 = k ∨ c 1 = k ∨ c 2 = k ∨ c 3 = k := fun k hk => by
   obtain ⟨v, hv, e⟩ := h.on k hk
   have : v = 0 ∨ v = 1 ∨ v = 2 ∨ v = 3 := by omega
   rcases this with rfl | rfl | rfl | rfl
   · exact .inl e
   · exact .inr (.inl e)
   · exact .inr (.inr (.inl e))
   · exact .inr (.inr (.inr e))
 have k0 := on 0 (by omega)
 have k1 := on 1 (by omega)
 have k2 := on 2 (by omega)
 have k3 : ¬ 3 < K := fun hk => by have := on 3 hk; omega
 omega
end
section
def srtd (l : List Int) : List Int := l.mergeSort fun x y => decide (x ≤ y)
theorem srt_eq {l : List Int} (h : l.length ≤ 1073741824) : srt l = some (srtd l) := by unfold srt; rw [if_pos h]; rfl
def cp (l : List Int) : List Int := Lib.compact (srtd l)
theorem srtd_le (l : List Int) : (srtd l).Pairwise (· ≤ ·) := by
 have := List.pairwise_mergeSort (le := fun x y : Int => decide (x ≤ y)) (fun a b c h1 h2 => by simp at *; omega) (fun a b => by simp; omega) l
 exact this.imp (fun h => by simpa using h)
theorem cp_lt (l : List Int) : (cp l).Pairwise (· < ·) := (compact_sorted (srtd_le l)).1
theorem cp_mem (l : List Int) (a : Int) : a ∈ cp l ↔ a ∈ l := by
 rw [cp, (compact_sorted (srtd_le l)).2 a]; unfold srtd; exact List.mem_mergeSort
def led (E : ArG) (c : Nat → Nat) (k j : Nat) : Bool := E.any (fun e => decide (c e.1 = k ∧ c e.2 = j))
def nxC (E : ArG) (c : Nat → Nat) (K k : Nat) : List Nat := (List.range K).filter (fun j => decide (j ≠ k) && led E c k j)
section
variable {N K : Nat} {E : ArG} {c : Nat → Nat}
theorem led_iff {k j : Nat} : led E c k j = true ↔ ∃ v w, (v, w) ∈ E ∧ c v = k ∧ c w = j := by
 unfold led; rw [List.any_eq_true]
 constructor
 · rintro ⟨e, he, h⟩; simp only [decide_eq_true_eq] at h; exact ⟨e.1, e.2, he, h⟩
 · rintro ⟨v, w, h, a, b⟩; exact ⟨(v, w), h, by simp [a, b]⟩
theorem nxC_mem {k j : Nat} : j ∈ nxC E c K k ↔ j < K ∧ j ≠ k ∧ led E c k j = true := by unfold nxC; simp
theorem nxC_lt (h : Cmp N E c K) {k j : Nat} (hj : j ∈ nxC E c K k) : j < k := by
 obtain ⟨_, h1, h2⟩ := nxC_mem.1 hj
 obtain ⟨v, w, e, a, b⟩ := led_iff.1 h2
 have := h.ar v w e; omega
theorem nxC_len (k : Nat) : (nxC E c K k).length ≤ K := by
 unfold nxC
 have := List.length_filter_le (fun j => decide (j ≠ k) && led E c k j) (List.range K)
 simpa using this
theorem nxC_nd (k : Nat) : (nxC E c K k).Nodup := by unfold nxC; exact List.nodup_range.filter _
end
def mxd (d : Nat → Nat) (l : List Nat) : Nat := l.foldl (fun a j => max a (d j + 1)) 0
theorem mxd_snoc (d : Nat → Nat) (l : List Nat) (j : Nat) : mxd d (l ++ [j]) = max (mxd d l) (d j + 1) := by simp [mxd, List.foldl_append]
theorem fold_congr {d d' : Nat → Nat} : ∀ {l : List Nat} {a : Nat}, (∀ j ∈ l, d j = d' j) → l.foldl (fun a j => max a (d j + 1)) a = l.foldl (fun a j => max a (d' j + 1)) a
 | [], _, _ => rfl
 | x :: l, a, h => by
   simp only [List.foldl_cons, h x (by simp)]
   exact fold_congr fun j hj => h j (by simp [hj])
theorem mxd_congr {d d' : Nat → Nat} {l : List Nat} (h : ∀ j ∈ l, d j = d' j) : mxd d l = mxd d' l := fold_congr h
theorem fold_le {d : Nat → Nat} {B : Nat} : ∀ {l : List Nat} {a : Nat}, a ≤ B → (∀ j ∈ l, d j + 1 ≤ B) → l.foldl (fun a j => max a (d j + 1)) a ≤ B
 | [], _, h, _ => h
 | x :: l, a, h, hl => by
   rw [List.foldl_cons]
   have := hl x (by simp)
   exact fold_le (by omega) fun j hj => hl j (by simp [hj])
theorem mxd_le {d : Nat → Nat} {l : List Nat} {B : Nat} (h : ∀ j ∈ l, d j + 1 ≤ B) : mxd d l ≤ B := fold_le (Nat.zero_le _) h
theorem fold_ge {d : Nat → Nat} : ∀ {l : List Nat} {a : Nat}, a ≤ l.foldl (fun a j => max a (d j + 1)) a ∧ ∀ j ∈ l, d j + 1 ≤ l.foldl (fun a j => max a (d j + 1)) a
 | [], _ => ⟨Nat.le_refl _, fun j hj => by simp at hj⟩
 | x :: l, a => by
   rw [List.foldl_cons]
   have h := fold_ge (d := d) (l := l) (a := max a (d x + 1))
   refine ⟨by omega, fun j hj => ?_⟩
   rcases List.mem_cons.1 hj with rfl | hj
   · omega
   · exact h.2 j hj
theorem mxd_ge {d : Nat → Nat} {l : List Nat} {j : Nat} (h : j ∈ l) : d j + 1 ≤ mxd d l := fold_ge.2 j h
def depF (X : Nat → List Nat) : Nat → Nat → Nat
 | 0, _ => 0
 | n + 1, k => mxd (depF X n) (X k)
def dep (X : Nat → List Nat) (k : Nat) : Nat := depF X (k + 1) k
section
variable {X : Nat → List Nat} {lo : Nat → Bool} {K : Nat}
theorem depF_st (hX : ∀ k j, j ∈ X k → j < k) : ∀ n m k, k < n → k < m → depF X n k = depF X m k
 | 0, _, _, h, _ => absurd h (Nat.not_lt_zero _)
 | n + 1, 0, _, _, h => absurd h (Nat.not_lt_zero _)
 | n + 1, m + 1, k, h1, h2 => mxd_congr fun j hj => by have := hX k j hj; exact depF_st hX n m j (by omega) (by omega)
theorem dep_eq (hX : ∀ k j, j ∈ X k → j < k) (k : Nat) : dep X k = mxd (dep X) (X k) := mxd_congr fun j hj => depF_st hX k (j + 1) j (hX k j hj) (Nat.lt_succ_self _)
theorem dep_le (hX : ∀ k j, j ∈ X k → j < k) (k : Nat) : dep X k ≤ k := by
 induction k using Nat.strongRecOn with
 | _ k ih => rw [dep_eq hX]; exact mxd_le fun j hj => by have h := hX k j hj; have := ih j h; omega
abbrev P4 := List Int × List Int × Int × Bool
def bkX (X : Nat → List Nat) (k q : Nat) : List Nat := (List.range k).filter (fun p => decide (q ∈ X p))
def el (X : Nat → List Nat) (lo : Nat → Bool) (k i q : Nat) : P4 := (if q ≤ k then li (X q) else [], li (bkX X k q ++ if q ∈ (X k).take i then [k] else []), ((if q < k then dep X q else if q = k then mxd (dep X) ((X k).take i) else 0 : Nat) : Int), if q ≤ k then lo q else false)
def el0 (X : Nat → List Nat) (lo : Nat → Bool) (k q : Nat) : P4 := (if q < k then li (X q) else [], li (bkX X k q), ((if q < k then dep X q else 0 : Nat) : Int), if q < k then lo q else false)
def cdL (X : Nat → List Nat) (lo : Nat → Bool) (K : Nat) : List P4 := (List.range K).map (el0 X lo K)
theorem bkX_mem {k q p : Nat} : p ∈ bkX X k q ↔ p < k ∧ q ∈ X p := by unfold bkX; simp
theorem bkX_len (k q : Nat) : (bkX X k q).length ≤ k := by
 unfold bkX
 have := List.length_filter_le (fun p => decide (q ∈ X p)) (List.range k)
 simpa using this
theorem bkX_succ (k q : Nat) : bkX X (k + 1) q = bkX X k q ++ if q ∈ X k then [k] else [] := by
 unfold bkX
 rw [List.range_succ, List.filter_append]
 by_cases h : q ∈ X k <;> simp [h]
theorem el_end (hX : ∀ k j, j ∈ X k → j < k) (k q : Nat) : el X lo k (X k).length q = el0 X lo (k + 1) q := by
 unfold el el0
 rw [List.take_length, bkX_succ, ← dep_eq hX]
 by_cases h1 : q < k
 · have h2 : q ≤ k := by omega
   have h3 : q < k + 1 := by omega
   simp [h1, h2, h3]
 · by_cases h2 : q = k
   · subst h2; simp
   · have h3 : ¬ q ≤ k := by omega
     have h4 : ¬ q < k + 1 := by omega
     simp [h1, h2, h3, h4]
theorem max_eq {m d : Nat} (hd : d ≤ 1000000) : (if ((m : Nat) : Int) < IntKind.wrap .i64 (((d : Nat) : Int) + 1) then IntKind.wrap .i64 (((d : Nat) : Int) + 1) else ((m : Nat) : Int)) = ((max m (d + 1) : Nat) : Int) := by
 rw [w64 (x := ((d : Nat) : Int) + 1) (by omega) (by omega)]
 split <;> omega
theorem New_l1 (hX : ∀ k j, j ∈ X k → j < k) (hn : ∀ k, (X k).Nodup) (hl : ∀ k, (X k).length ≤ K) (hK : K ≤ 1000) {k : Nat} (hk : k < K) {x : P4} (hx : x.1 = li (X k)) : loop (fn_cond_New_l1 (k : Int) x) (0, (List.range K).map (el X lo k 0)) = some ((List.range K).map (el0 X lo (k + 1))) := by
 have h := loop_nat (body := fn_cond_New_l1 (k : Int) x) (fun i : Nat => ((i : Int), (List.range K).map (el X lo k i))) (X k).length (b := (List.range K).map (el0 X lo (k + 1))) ?_ ?_
 · exact h
 · intro i hi
   have hi2 : i < (li (X k)).length := by rw [li_len]; exact hi
   have hjk := hX k _ (List.getElem_mem hi)
   have hlk := hl k
   have hni : (X k)[i] ∉ (X k).take i := fun hm => by
     obtain ⟨p, hp, e⟩ := List.getElem_of_mem hm
     rw [List.length_take] at hp
     rw [List.getElem_take] at e
     have h3 : (X k).Pairwise (· ≠ ·) := hn k
     rw [List.pairwise_iff_getElem] at h3
     exact h3 p i (by omega) hi (by omega) e
   have hkn : k ∉ X k := fun h => absurd (hX k k h) (Nat.lt_irrefl _)
   have hd := dep_le hX (X k)[i]
   have hmm : ∀ q, q ∈ (X k).take (i + 1) ↔ q ∈ (X k).take i ∨ q = (X k)[i] := fun q => by rw [take_snoc hi, List.mem_append, List.mem_singleton]
   have hmx : mxd (dep X) ((X k).take (i + 1)) = max (mxd (dep X) ((X k).take i)) (dep X (X k)[i] + 1) := by rw [take_snoc hi, mxd_snoc]
   generalize hj : (X k)[i] = j at *
   have hjK : j < K := by omega
   have hjn : j ≠ k := by omega
   have gk : getI ((List.range K).map (el X lo k i)) (k : Int) = some (el X lo k i k) := getI_map hk
   have gj : getI ((List.range K).map (el X lo k i)) (j : Int) = some (el X lo k i j) := getI_map hjK
   have a1 : (el X lo k i k).2.2.1 = ((mxd (dep X) ((X k).take i) : Nat) : Int) := by simp [el]
   have b1 : (el X lo k i j).2.2.1 = ((dep X j : Nat) : Int) := by simp [el, hjk]
   have gl : getI (li (X k)) (i : Int) = some (j : Int) := by rw [getI_li hi, hj]
   unfold fn_cond_New_l1
   dsimp only
   rw [hx, dlt hi2, cond_true, gl]
   simp only [Option.bind_some, gk, gj, chk_same, a1, b1, Int.toNat_natCast]
   rw [max_eq (by omega), set_map]
   have gj2 : ∀ y : P4, getI ((List.range K).map (fun v => if v = k then y else el X lo k i v)) (j : Int) = some (el X lo k i j) := fun y => by rw [getI_map hjK, if_neg hjn]
   have c1 : (el X lo k i j).2.1 = li (bkX X k j) := by simp [el, hni]
   have hb := bkX_len (X := X) k j
   simp only [gj2, Option.bind_some, c1, set_map]
   rw [app_eq (by rw [li_len]; simp; omega)]
   simp only [Option.bind_some, chk_same, agr_same]
   rw [w64s hi2 (by rw [li_len]; omega)]
   refine congrArg (fun y => some (Sum.inl (((i + 1 : Nat) : Int), y))) (map_congr_range fun q hq => ?_)
   by_cases q1 : q = j
   · subst q1
     have h2 : q ≤ k := by omega
     simp [el, hmm, hjk, h2, li_snoc]
   · rw [if_neg q1]
     by_cases q2 : q = k
     · subst q2
       have hkt : q ∉ (X q).take i := fun h => hkn (List.mem_of_mem_take h)
       simp [el, hmm, hmx, hkt, q1]
     · simp [el, hmm, q1, q2]
 · unfold fn_cond_New_l1
   dsimp only
   rw [hx, li_len, dge (Nat.lt_irrefl _), cond_false]
   exact congrArg (fun y => some (Sum.inr y)) (map_congr_range fun q _ => el_end hX k q)
end
section
variable {N K : Nat} {E : ArG} {c : Nat → Nat}
def crC (c : Nat → Nat) (k : Nat) (ws : List Nat) : List Nat := ws.filterMap (fun w => if c w = k then none else some (c w))
theorem crC_len (k : Nat) (ws : List Nat) : (crC c k ws).length ≤ ws.length := List.length_filterMap_le _ _
theorem leads_l1 {k : Nat} {L0 : List Nat} {t0 : Bool} {ws : List Nat} (hw : ∀ w ∈ ws, w < N) (hl : L0.length + ws.length ≤ 100000000) : loop (fn_cond_leads_l1 (pC N c K) (k : Int) (li ws)) (li L0, t0, 0) = some (li (L0 ++ crC c k ws), t0 || ws.any (fun w => decide (c w = k))) := by
 have h := loop_nat (body := fn_cond_leads_l1 (pC N c K) (k : Int) (li ws)) (fun i : Nat => (li (L0 ++ crC c k (ws.take i)), (t0 || (ws.take i).any (fun w => decide (c w = k))), (i : Int))) ws.length (b := (li (L0 ++ crC c k ws), t0 || ws.any (fun w => decide (c w = k)))) ?_ ?_
 · rw [← h]; simp [crC]
 · intro i hi
   have hi2 : i < (li ws).length := by rw [li_len]; exact hi
   have hc := crC_len (c := c) k (ws.take i)
   rw [List.length_take] at hc
   have hs : crC c k (ws.take i ++ [ws[i]]) = crC c k (ws.take i) ++ if c ws[i] = k then [] else [c ws[i]] := by
     unfold crC
     rw [List.filterMap_append]
     by_cases e : c ws[i] = k <;> simp [e]
   unfold fn_cond_leads_l1
   dsimp only
   rw [dlt hi2, cond_true, getI_li hi, Option.bind_some, PO_in (hw _ (List.getElem_mem hi)), Option.bind_some]
   dsimp only
   rw [w64s hi2 (by rw [li_len]; omega), take_snoc hi, hs, List.any_append]
   by_cases e : c ws[i] = k
   · rw [decide_eq_true (show ((c ws[i] : Nat) : Int) = (k : Int) by omega)]; simp [e]
   · rw [decide_eq_false (show ¬ ((c ws[i] : Nat) : Int) = (k : Int) by omega), Bool.not_false, cond_true, app_eq (by rw [li_len]; simp; omega), Option.bind_some]
     simp [e, li_snoc, ← List.append_assoc]
 · unfold fn_cond_leads_l1
   simp [li_len]
theorem flat_le {α β : Type} {f : α → List β} {B : Nat} : ∀ {l : List α}, (∀ x ∈ l, (f x).length ≤ B) → (l.flatMap f).length ≤ l.length * B
 | [], _ => by simp
 | x :: l, h => by
   rw [List.flatMap_cons, List.length_append, List.length_cons, Nat.succ_mul]
   have := flat_le (l := l) (fun y hy => h y (by simp [hy]))
   have := h x (by simp); omega
theorem leads_l2 (hE : inN N E) (hN : N ≤ 1000) (he : E.length ≤ 1000) {k : Nat} {M : List Nat} (hM : ∀ v ∈ M, v < N) (hl : M.length ≤ 1000) : loop (fn_cond_leads_l2 (some (mkG N E)) (pC N c K) (k : Int) (li M)) ([], false, 0) = some (li (M.flatMap (fun v => crC c k (nxt E v))), M.any (fun v => (nxt E v).any (fun w => decide (c w = k)))) := by
 have h := loop_nat (body := fn_cond_leads_l2 (some (mkG N E)) (pC N c K) (k : Int) (li M)) (fun i : Nat => (li ((M.take i).flatMap (fun v => crC c k (nxt E v))), (M.take i).any (fun v => (nxt E v).any (fun w => decide (c w = k))), (i : Int))) M.length (b := (li (M.flatMap (fun v => crC c k (nxt E v))), M.any (fun v => (nxt E v).any (fun w => decide (c w = k))))) ?_ ?_
 · rw [← h]; simp [li]
 · intro i hi
   have hi2 : i < (li M).length := by rw [li_len]; exact hi
   have hv := hM _ (List.getElem_mem hi)
   have hnl : ∀ v, (nxt E v).length ≤ 1000 := fun v => by
     rw [nxt_len]
     have := cnt_le (E.map (·.1)) v
     rw [List.length_map] at this; omega
   have hf := flat_le (f := fun v => crC c k (nxt E v)) (B := 1000) (l := M.take i) (fun v _ => Nat.le_trans (crC_len k _) (hnl v))
   rw [List.length_take] at hf
   have h1 := hnl M[i]
   have h2 : ((M.take i).flatMap (fun v => crC c k (nxt E v))).length ≤ 1000 * 1000 := Nat.le_trans hf (Nat.mul_le_mul_right _ (by omega))
   unfold fn_cond_leads_l2
   dsimp only
   rw [dlt hi2, cond_true, getI_li hi, Option.bind_some, Next_of (by omega) (by omega) hv, Option.bind_some]
   rw [show (nxt E M[i]).map (fun i : Nat => (i : Int)) = li (nxt E M[i]) from rfl, leads_l1 (fun w hw => (hE _ (nxt_mem.1 hw)).2) (by omega), Option.bind_some]
   dsimp only
   rw [w64s hi2 (by rw [li_len]; omega), take_snoc hi, List.flatMap_append, List.any_append]
   simp
 · unfold fn_cond_leads_l2
   simp [li_len]
theorem leads_eq (h : Cmp N E c K) (hE : inN N E) (hN : N ≤ 1000) (he : E.length ≤ 1000) {k : Nat} (hk : k < K) : fn_cond_leads (some (mkG N E)) (pC N c K) (k : Int) = some (li (nxC E c K k), led E c k k) := by
 have hml := mbs_len (N := N) (c := c) k
 have hnl : ∀ v, (nxt E v).length ≤ 1000 := fun v => by
   rw [nxt_len]
   have := cnt_le (E.map (·.1)) v
   rw [List.length_map] at this; omega
 have hf := flat_le (f := fun v => crC c k (nxt E v)) (B := 1000) (l := mbs N c k) (fun v _ => Nat.le_trans (crC_len k _) (hnl v))
 have h2 : ((mbs N c k).flatMap (fun v => crC c k (nxt E v))).length ≤ 1000 * 1000 := Nat.le_trans hf (Nat.mul_le_mul_right _ (by omega))
 unfold fn_cond_leads
 rw [Me_in (by omega) hk, Option.bind_some, leads_l2 hE hN he (fun v hv => (mbs_mem.1 hv).1) (by omega), Option.bind_some]
 dsimp only
 rw [srt_eq (by rw [li_len]; omega), Option.bind_some, show ∀ l, cmpt (srtd l) = some (cp l) from fun l => rfl, Option.bind_some]
 have e1 : cp (li ((mbs N c k).flatMap (fun v => crC c k (nxt E v)))) = li (nxC E c K k) := strict_eq (cp_lt _) (range_strict K _) (fun a => by
   rw [cp_mem]
   unfold li
   simp only [List.mem_map, List.mem_flatMap]
   constructor
   · rintro ⟨j, ⟨v, hv, hj⟩, rfl⟩
     unfold crC at hj
     obtain ⟨w, hw, e⟩ := List.mem_filterMap.1 hj
     obtain ⟨hvN, hvk⟩ := mbs_mem.1 hv
     have hvw := nxt_mem.1 hw
     by_cases q : c w = k
     · simp [q] at e
     · rw [if_neg q] at e
       cases e
       exact ⟨c w, nxC_mem.2 ⟨h.lt w (hE _ hvw).2, q, led_iff.2 ⟨v, w, hvw, hvk, rfl⟩⟩, rfl⟩
   · rintro ⟨j, hj, rfl⟩
     obtain ⟨_, q, hl⟩ := nxC_mem.1 hj
     obtain ⟨v, w, hvw, rfl, rfl⟩ := led_iff.1 hl
     exact ⟨c w, ⟨v, mbs_mem.2 ⟨(hE _ hvw).1, rfl⟩, List.mem_filterMap.2 ⟨w, nxt_mem.2 hvw, by rw [if_neg q]⟩⟩, rfl⟩)
 have e2 : (mbs N c k).any (fun v => (nxt E v).any (fun w => decide (c w = k))) = led E c k k := by
   rw [Bool.eq_iff_iff, led_iff, List.any_eq_true]
   constructor
   · rintro ⟨v, hv, hw⟩
     obtain ⟨w, hw, e⟩ := List.any_eq_true.1 hw
     exact ⟨v, w, nxt_mem.1 hw, (mbs_mem.1 hv).2, by simpa using e⟩
   · rintro ⟨v, w, hvw, a, b⟩
     exact ⟨v, mbs_mem.2 ⟨(hE _ hvw).1, a⟩, List.any_eq_true.2 ⟨w, nxt_mem.2 hvw, by simpa using b⟩⟩
 rw [e1, e2]
theorem New_eqC (h : Cmp N E c K) (hE : inN N E) (hN : N ≤ 1000) (he : E.length ≤ 1000) : fn_cond_New (some (mkG N E)) (pC N c K) = some (some (cdL (nxC E c K) (fun k => led E c k k) K)) := by
 have hK := h.le_N
 have hX : ∀ k j, j ∈ nxC E c K k → j < k := fun k j hj => nxC_lt h hj
 unfold fn_cond_New
 rw [Len_eq, Option.bind_some, mkN (by omega), Option.bind_some, Option.bind_some]
 have hl := loop_nat (body := fn_cond_New_l2 (some (mkG N E)) (pC N c K) (K : Int)) (fun k : Nat => ((k : Int), (List.range K).map (el0 (nxC E c K) (fun k => led E c k k) k))) K (b := cdL (nxC E c K) (fun k => led E c k k) K) ?_ ?_
 · have hz : (List.range K).map (el0 (nxC E c K) (fun k => led E c k k) 0) = List.replicate K (([], [], 0, false) : P4) := by
     rw [replicate_map]
     exact map_congr_range fun q _ => by simp [el0, bkX, li]
   rw [← hz]
   have hl' : loop (fn_cond_New_l2 (some (mkG N E)) (pC N c K) (K : Int)) (0, (List.range K).map (el0 (nxC E c K) (fun k => led E c k k) 0)) = _ := hl
   rw [hl']; rfl
 · intro k hk
   have gk : getI ((List.range K).map (el0 (nxC E c K) (fun k => led E c k k) k)) (k : Int) = some (el0 (nxC E c K) (fun k => led E c k k) k k) := getI_map hk
   have gk2 : ∀ y : P4, getI ((List.range K).map (fun v => if v = k then y else el0 (nxC E c K) (fun k => led E c k k) k v)) (k : Int) = some y := fun y => by rw [getI_map hk, if_pos rfl]
   unfold fn_cond_New_l2
   dsimp only
   rw [dlt hk, cond_true, gk, Option.bind_some, leads_eq h hE hN he hk, Option.bind_some]
   dsimp only
   simp only [gk, Option.bind_some, chk_same, Int.toNat_natCast, set_map, gk2]
   rw [show (List.range K).map (fun v => if v = k then ((li (nxC E c K k), (el0 (nxC E c K) (fun k => led E c k k) k k).2.1, (el0 (nxC E c K) (fun k => led E c k k) k k).2.2.1, led E c k k) : P4) else if v = k then (li (nxC E c K k), (el0 (nxC E c K) (fun k => led E c k k) k k).2.1, (el0 (nxC E c K) (fun k => led E c k k) k k).2.2.1, led E c k k) else el0 (nxC E c K) (fun k => led E c k k) k v) = (List.range K).map (el (nxC E c K) (fun k => led E c k k) k 0) from map_congr_range fun q hq => by
     by_cases q1 : q = k
     · subst q1; simp [el, el0, mxd]
     · by_cases q2 : q < k
       · have : q ≤ k := by omega
         simp [el, el0, q1, q2, this]
       · have : ¬ q ≤ k := by omega
         simp [el, el0, q1, q2, this]]
   rw [New_l1 hX (fun k => nxC_nd k) (fun k => nxC_len k) (by omega) hk rfl, Option.bind_some, w64s hk (by omega)]
 · unfold fn_cond_New_l2
   dsimp only
   rw [dge (Nat.lt_irrefl _), cond_false]
   rfl
end
theorem New_none : fn_cond_New none (some ([], [])) = some (some []) := by
 unfold fn_cond_New
 rw [Len_nil]
 simp only [Option.bind_some]
 rw [show (mk 0 0 (([], [], 0, false) : P4) : Option (List P4)) = some [] from mkN (k := 0) (by omega)]
 simp only [Option.bind_some]
 rw [loop_nat (body := fn_cond_New_l2 none (some ([], [])) 0) (fun _ : Nat => ((0 : Int), ([] : List P4))) 0 (b := []) (fun k hk => absurd hk (Nat.not_lt_zero _)) (by unfold fn_cond_New_l2; rfl)]
 rfl
section
variable {X : Nat → List Nat} {lo : Nat → Bool} {K : Nat}
theorem cLen (X : Nat → List Nat) (lo : Nat → Bool) (K : Nat) : fn_cond_Cond_Len (some (cdL X lo K)) = some (K : Int) := by unfold fn_cond_Cond_Len cdL; simp
theorem cOf_in {k : Nat} (hk : k < K) : fn_cond_Cond_of (some (cdL X lo K)) (k : Int) = some (li (X k), li (bkX X K k), ((dep X k : Nat) : Int), lo k) := by
 unfold fn_cond_Cond_of
 rw [cLen]
 have g : getI (cdL X lo K) (k : Int) = some (el0 X lo K k) := getI_map hk
 rw [decide_eq_false (show ¬ (k : Int) < 0 by omega), cond_false]
 simp only [Option.bind_some]
 rw [decide_eq_false (show ¬ (K : Int) ≤ (k : Int) by omega), cond_false, g, Option.bind_some]
 simp [el0, hk]
theorem cOf_out {C : Option (List P4)} {n x : Int} (hl : fn_cond_Cond_Len C = some n) (h : x < 0 ∨ n ≤ x) : fn_cond_Cond_of C x = some ([], [], 0, false) := by
 unfold fn_cond_Cond_of
 rw [hl]
 rcases h with h | h
 · simp [h]
 · by_cases h0 : x < 0 <;> simp [h0, h]
theorem clone_li (L : List Nat) (h : L.length ≤ 1000000) : fn_slices_Clone_int_int (li L) = some (li L) := clone_eq _ (by rw [li_len]; omega)
theorem cNext_in {k : Nat} (hk : k < K) (hl : (X k).length ≤ 1000) : fn_cond_Cond_Next (some (cdL X lo K)) (k : Int) = some (li (X k)) := by
 unfold fn_cond_Cond_Next
 rw [cOf_in hk, Option.bind_some]
 dsimp only
 rw [clone_li _ (by omega)]; rfl
theorem cBack_in {k : Nat} (hk : k < K) (hK : K ≤ 1000) : fn_cond_Cond_Back (some (cdL X lo K)) (k : Int) = some (li (bkX X K k)) := by
 unfold fn_cond_Cond_Back
 have := bkX_len (X := X) K k
 rw [cOf_in hk, Option.bind_some]
 dsimp only
 rw [clone_li _ (by omega)]; rfl
theorem cDepth_in {k : Nat} (hk : k < K) : fn_cond_Cond_Depth (some (cdL X lo K)) (k : Int) = some ((dep X k : Nat) : Int) := by
 unfold fn_cond_Cond_Depth
 rw [cOf_in hk]; rfl
theorem cLoops_in {k : Nat} (hk : k < K) : fn_cond_Cond_Loops (some (cdL X lo K)) (k : Int) = some (lo k) := by
 unfold fn_cond_Cond_Loops
 rw [cOf_in hk]; rfl
theorem c_out {C : Option (List P4)} {n x : Int} (hl : fn_cond_Cond_Len C = some n) (h : x < 0 ∨ n ≤ x) : fn_cond_Cond_Next C x = some [] ∧ fn_cond_Cond_Back C x = some [] ∧ fn_cond_Cond_Depth C x = some 0 ∧ fn_cond_Cond_Loops C x = some false := by
 have e := cOf_out hl h
 have cl : fn_slices_Clone_int_int [] = some [] := clone_li [] (by simp)
 refine ⟨?_, ?_, ?_, ?_⟩
 · unfold fn_cond_Cond_Next; rw [e, Option.bind_some]; dsimp only; rw [cl]; rfl
 · unfold fn_cond_Cond_Back; rw [e, Option.bind_some]; dsimp only; rw [cl]; rfl
 · unfold fn_cond_Cond_Depth; rw [e]; rfl
 · unfold fn_cond_Cond_Loops; rw [e]; rfl
def sm (X : Nat → List Nat) (k : Nat) : Nat := ((List.range k).map (fun q => (X q).length)).sum
theorem sm_succ (k : Nat) : sm X (k + 1) = sm X k + (X k).length := by unfold sm; rw [List.range_succ]; simp
theorem sm_le {B : Nat} (h : ∀ k, (X k).length ≤ B) : ∀ k, sm X k ≤ k * B
 | 0 => by simp [sm]
 | k + 1 => by rw [sm_succ, Nat.succ_mul]; have := sm_le h k; have := h k; omega
theorem cArcs (hl : ∀ k, (X k).length ≤ K) (hK : K ≤ 1000) : fn_cond_Cond_Arcs (some (cdL X lo K)) = some ((sm X K : Nat) : Int) := by
 unfold fn_cond_Cond_Arcs
 rw [cLen, Option.bind_some]
 have h := loop_nat (body := fn_cond_Cond_Arcs_l1 (some (cdL X lo K)) (K : Int)) (fun k : Nat => (((sm X k : Nat) : Int), (k : Int))) K (b := ((sm X K : Nat) : Int)) ?_ ?_
 · have h' : loop (fn_cond_Cond_Arcs_l1 (some (cdL X lo K)) (K : Int)) (0, 0) = some ((sm X K : Nat) : Int) := h
   rw [h']; rfl
 · intro k hk
   have g : getI (cdL X lo K) (k : Int) = some (el0 X lo K k) := getI_map hk
   have h1 := sm_le hl k
   have h2 := hl k
   have h3 : k * K ≤ 1000 * 1000 := Nat.mul_le_mul (by omega) hK
   unfold fn_cond_Cond_Arcs_l1
   dsimp only
   rw [dlt hk, cond_true, Option.bind_some, g, Option.bind_some, w64s hk (by omega), show (el0 X lo K k).1 = li (X k) by simp [el0, hk], li_len, sm_succ, w64 (by omega) (by omega)]
   simp
 · unfold fn_cond_Cond_Arcs_l1
   simp
theorem cEnds (hK : K ≤ 1000) : fn_cond_Cond_Ends (some (cdL X lo K)) = some (li ((List.range K).filter (fun k => decide ((X k).length = 0)))) := by
 unfold fn_cond_Cond_Ends
 rw [cLen, Option.bind_some]
 have h := loop_nat (body := fn_cond_Cond_Ends_l1 (some (cdL X lo K)) (K : Int)) (fun k : Nat => (li ((List.range k).filter (fun k => decide ((X k).length = 0))), (k : Int))) K (b := li ((List.range K).filter (fun k => decide ((X k).length = 0)))) ?_ ?_
 · have h' : loop (fn_cond_Cond_Ends_l1 (some (cdL X lo K)) (K : Int)) ([], 0) = some (li ((List.range K).filter (fun k => decide ((X k).length = 0)))) := h
   rw [h']; rfl
 · intro k hk
   have g : getI (cdL X lo K) (k : Int) = some (el0 X lo K k) := getI_map hk
   have hf := List.length_filter_le (fun k => decide ((X k).length = 0)) (List.range k)
   rw [List.length_range] at hf
   unfold fn_cond_Cond_Ends_l1
   dsimp only
   rw [dlt hk, cond_true, Option.bind_some, g, Option.bind_some, w64s hk (by omega), show (el0 X lo K k).1 = li (X k) by simp [el0, hk], li_len, List.range_succ, List.filter_append]
   by_cases e : (X k).length = 0
   · rw [decide_eq_true (show (((X k).length : Nat) : Int) = 0 by omega), cond_true, app_eq (by rw [li_len]; simp only [List.length_cons, List.length_nil]; omega), Option.bind_some]
     have e' : X k = [] := List.length_eq_zero_iff.1 e
     simp [e', li_snoc]
   · rw [decide_eq_false (show ¬ (((X k).length : Nat) : Int) = 0 by omega), cond_false]
     have e' : X k ≠ [] := fun h => e (by rw [h]; rfl)
     simp [e']
 · unfold fn_cond_Cond_Ends_l1
   simp
end
theorem count2 (R : Nat → Nat → Bool) : ∀ (A B : List Nat), (A.map (fun q => B.countP (fun p => R p q))).sum = (B.map (fun p => A.countP (R p))).sum
 | [], B => by
   simp only [List.map_nil, List.sum_nil, List.countP_nil]
   induction B with
   | nil => rfl
   | cons b B ih => simpa using ih
 | a :: A, B => by
   rw [List.map_cons, List.sum_cons, count2 R A B]
   induction B with
   | nil => simp
   | cons b B ih =>
     simp only [List.map_cons, List.sum_cons, List.countP_cons] at ih ⊢
     omega
section
variable {N K : Nat} {E : ArG} {c : Nat → Nat}
theorem rLeads (hE : inN N E) (he : E.length ≤ 1000) (k j : Nat) : fn_ref12_Leads (ai E) (vec1 N c) (k : Int) (j : Int) = some (led E c k j) := by
 unfold fn_ref12_Leads
 have h := loop_some (body := fn_ref12_Leads_l1 (ai E) (vec1 N c) (k : Int) (j : Int)) (ai E) (fun x => decide (c x.1.toNat = k ∧ c x.2.toNat = j)) (.inr true) (.inl ()) ?_ ?_
 · rw [h]
   have e : ((ai E).any fun x => decide (c x.1.toNat = k ∧ c x.2.toNat = j)) = led E c k j := by
     unfold led ai
     rw [List.any_map]
     exact congrArg (fun f => E.any f) (funext fun x => by simp)
   rw [e]
   cases led E c k j <;> rfl
 · intro i hi
   have hiE : i < E.length := by rw [ai_len] at hi; exact hi
   have hx : (ai E)[i] = (((E[i].1 : Nat) : Int), ((E[i].2 : Nat) : Int)) := by simp [ai]
   obtain ⟨ha, hb⟩ := hE _ (List.getElem_mem hiE)
   unfold fn_ref12_Leads_l1
   rw [dlt hi, cond_true, getN hi, hx]
   generalize E[i].1 = a at *
   generalize E[i].2 = b at *
   simp only [Option.bind_some]
   rw [vec1_get ha, Option.bind_some, vec1_get hb, w64s hi (by rw [ai_len]; omega)]
   by_cases e1 : c a = k
   · rw [decide_eq_true (show ((c a : Nat) : Int) = (k : Int) by omega), cond_true, Option.bind_some]
     by_cases e2 : c b = j
     · rw [decide_eq_true (show ((c b : Nat) : Int) = (j : Int) by omega)]; simp [e1, e2]
     · rw [decide_eq_false (show ¬ ((c b : Nat) : Int) = (j : Int) by omega)]; simp [e1, e2]
   · rw [decide_eq_false (show ¬ ((c a : Nat) : Int) = (k : Int) by omega)]; simp [e1]
 · unfold fn_ref12_Leads_l1
   simp
theorem rNext (hE : inN N E) (he : E.length ≤ 1000) (hK : K ≤ 1000) (k : Nat) : fn_ref12_Next (ai E) (vec1 N c) (K : Int) (k : Int) = some (li (nxC E c K k)) := by
 unfold fn_ref12_Next
 have h := loop_nat (body := fn_ref12_Next_l1 (ai E) (vec1 N c) (K : Int) (k : Int)) (fun i : Nat => (li ((List.range i).filter (fun j => decide (j ≠ k) && led E c k j)), (i : Int))) K (b := li (nxC E c K k)) ?_ ?_
 · have h' : loop (fn_ref12_Next_l1 (ai E) (vec1 N c) (K : Int) (k : Int)) (([] : List Int), 0) = some (li (nxC E c K k)) := h
   rw [h']; rfl
 · intro i hi
   have hf := List.length_filter_le (fun j => decide (j ≠ k) && led E c k j) (List.range i)
   rw [List.length_range] at hf
   unfold fn_ref12_Next_l1
   dsimp only
   rw [dlt hi, cond_true, rLeads hE he, w64s hi (by omega), List.range_succ, List.filter_append]
   by_cases e : i = k
   · rw [decide_eq_true (show (i : Int) = (k : Int) by omega)]; simp [e]
   · rw [decide_eq_false (show ¬ (i : Int) = (k : Int) by omega)]
     cases hl : led E c k i with
     | false => simp [hl]
     | true =>
       simp only [Bool.not_false, cond_true, Option.bind_some]
       rw [app_eq (by rw [li_len]; simp only [List.length_cons, List.length_nil]; omega), Option.bind_some]
       simp [hl, e, li_snoc]
 · unfold fn_ref12_Next_l1
   simp [nxC]
theorem rDepth_l1 {self : List (Int × Int) → List Int → Int → Int → Option Int} {k : Nat} {X : List Nat} {d : Nat → Nat} (hX : ∀ j ∈ X, j < k) (hd : ∀ j, d j ≤ j) (hk : k ≤ 1000) (hl : X.length ≤ 1000) (hs : ∀ j ∈ X, self (ai E) (vec1 N c) (K : Int) (j : Int) = some ((d j : Nat) : Int)) : loop (fn_ref12_Depth_l1 self (ai E) (vec1 N c) (K : Int) (k : Int) (li X)) (0, 0) = some ((mxd d X : Nat) : Int) := by
 have h := loop_nat (body := fn_ref12_Depth_l1 self (ai E) (vec1 N c) (K : Int) (k : Int) (li X)) (fun i : Nat => (((mxd d (X.take i) : Nat) : Int), (i : Int))) X.length (b := ((mxd d X : Nat) : Int)) ?_ ?_
 · have e : ((0 : Int), (0 : Int)) = (fun i : Nat => (((mxd d (X.take i) : Nat) : Int), (i : Int))) 0 := by simp [mxd]
   rw [e]; exact h
 · intro i hi
   have hi2 : i < (li X).length := by rw [li_len]; exact hi
   have hj := hX _ (List.getElem_mem hi)
   have hdj := hd X[i]
   unfold fn_ref12_Depth_l1
   dsimp only
   rw [dlt hi2, cond_true, getI_li hi, Option.bind_some, decide_eq_true (show ((X[i] : Nat) : Int) < (k : Int) by omega), cond_true, Option.bind_some, hs _ (List.getElem_mem hi), Option.bind_some, w64s hi2 (by rw [li_len]; omega), w64 (x := ((d X[i] : Nat) : Int) + 1) (by omega) (by omega), take_snoc hi, mxd_snoc]
   by_cases e : mxd d (X.take i) < d X[i] + 1
   · rw [decide_eq_true (show ((mxd d (X.take i) : Nat) : Int) < ((d X[i] : Nat) : Int) + 1 by omega), cond_true, show max (mxd d (X.take i)) (d X[i] + 1) = d X[i] + 1 by omega]; simp
   · rw [decide_eq_false (show ¬ ((mxd d (X.take i) : Nat) : Int) < ((d X[i] : Nat) : Int) + 1 by omega), cond_false, show max (mxd d (X.take i)) (d X[i] + 1) = mxd d (X.take i) by omega]
 · unfold fn_ref12_Depth_l1
   simp [li_len]
theorem rDepth_n (h : Cmp N E c K) (hE : inN N E) (he : E.length ≤ 1000) (hK : K ≤ 1000) : ∀ n k, k < n → k < K → fnr_ref12_Depth n (ai E) (vec1 N c) (K : Int) (k : Int) = some ((dep (nxC E c K) k : Nat) : Int)
 | 0, _, hk, _ => absurd hk (Nat.not_lt_zero _)
 | n + 1, k, hk, hkK => by
   have hX : ∀ k j, j ∈ nxC E c K k → j < k := fun k j hj => nxC_lt h hj
   have hl := nxC_len (E := E) (c := c) (K := K) k
   show fnb_ref12_Depth (fnr_ref12_Depth n) (ai E) (vec1 N c) (K : Int) (k : Int) = _
   unfold fnb_ref12_Depth
   rw [rNext hE he hK, Option.bind_some, rDepth_l1 (d := dep (nxC E c K)) (fun j hj => hX k j hj) (dep_le hX) (by omega) (by omega) (fun j hj => by have := hX k j hj; exact rDepth_n h hE he hK n j (by omega) (by omega)), dep_eq hX k]
   rfl
theorem rDepth (h : Cmp N E c K) (hE : inN N E) (he : E.length ≤ 1000) (hK : K ≤ 1000) {k : Nat} (hk : k < K) : fn_ref12_Depth (ai E) (vec1 N c) (K : Int) (k : Int) = some ((dep (nxC E c K) k : Nat) : Int) :=
 lev_eq (k + 1) fun n hn => rDepth_n h hE he hK n k hn hk
end
theorem of_eq {N : Nat} {E : ArG} (hE : inN N E) (hN : N ≤ 1000) (he : E.length ≤ 1000) : ∃ c K, Cmp N E c K ∧ fn_ref11_Of (N : Int) (ai E) = some (vec1 N c) ∧ fn_law12_of (N : Int) (ai E) = some (some (cdL (nxC E c K) (fun k => led E c k k) K), true) := by
 obtain ⟨c, K, hC, er, ek⟩ := scc_eq hE hN (by omega)
 refine ⟨c, K, hC, er, ?_⟩
 unfold fn_law12_of
 rw [Of_eq _ _ (by rw [ai_len]; omega), New_ok hE (by omega) (by omega), Option.bind_some]
 dsimp only
 rw [ek, Option.bind_some, New_eqC hC hE hN he]
 rfl
theorem awake12 : fn_law12_awake = some true := by
 unfold fn_law12_awake
 have hE : inN 4 [(0, 1), (1, 0), (1, 2), (3, 0)] := by intro e he; simp at he; rcases he with rfl | rfl | rfl | rfl <;> decide
 obtain ⟨c, K, h, -, e⟩ := of_eq hE (by decide) (by decide)
 obtain ⟨c0, c1, c2, c3, hK⟩ := cmp4 h
 subst hK
 have e' : fn_law12_of 4 [(0, 1), (1, 0), (1, 2), (3, 0)] = _ := e
 have hX : ∀ k j, j ∈ nxC [(0, 1), (1, 0), (1, 2), (3, 0)] c 3 k → j < k := fun k j hj => nxC_lt h hj
 have x0 : nxC [(0, 1), (1, 0), (1, 2), (3, 0)] c 3 0 = [] := by unfold nxC led; simp [show List.range 3 = [0, 1, 2] from rfl, List.filter_cons, c0, c1, c2, c3]
 have x1 : nxC [(0, 1), (1, 0), (1, 2), (3, 0)] c 3 1 = [0] := by unfold nxC led; simp [show List.range 3 = [0, 1, 2] from rfl, List.filter_cons, c0, c1, c2, c3]
 have x2 : nxC [(0, 1), (1, 0), (1, 2), (3, 0)] c 3 2 = [1] := by unfold nxC led; simp [show List.range 3 = [0, 1, 2] from rfl, List.filter_cons, c0, c1, c2, c3]
 have l1 : led [(0, 1), (1, 0), (1, 2), (3, 0)] c 1 1 = true := by unfold led; simp [c0, c1, c2, c3]
 have b1 : bkX (nxC [(0, 1), (1, 0), (1, 2), (3, 0)] c 3) 3 1 = [2] := by unfold bkX; simp [show List.range 3 = [0, 1, 2] from rfl, List.filter_cons, x0, x1, x2]
 have d0 : dep (nxC [(0, 1), (1, 0), (1, 2), (3, 0)] c 3) 0 = 0 := by rw [dep_eq hX, x0]; rfl
 have d1 : dep (nxC [(0, 1), (1, 0), (1, 2), (3, 0)] c 3) 1 = 1 := by rw [dep_eq hX, x1]; simp [mxd, d0]
 have d2 : dep (nxC [(0, 1), (1, 0), (1, 2), (3, 0)] c 3) 2 = 2 := by rw [dep_eq hX, x2]; simp [mxd, d1]
 have g1 := cNext_in (X := nxC [(0, 1), (1, 0), (1, 2), (3, 0)] c 3) (lo := fun k => led [(0, 1), (1, 0), (1, 2), (3, 0)] c k k) (K := 3) (k := 1) (by omega) (by rw [x1]; decide)
 have g2 := cBack_in (X := nxC [(0, 1), (1, 0), (1, 2), (3, 0)] c 3) (lo := fun k => led [(0, 1), (1, 0), (1, 2), (3, 0)] c k k) (K := 3) (k := 1) (by omega) (by omega)
 have g3 := cDepth_in (X := nxC [(0, 1), (1, 0), (1, 2), (3, 0)] c 3) (lo := fun k => led [(0, 1), (1, 0), (1, 2), (3, 0)] c k k) (K := 3) (k := 2) (by omega)
 have g4 := cLoops_in (X := nxC [(0, 1), (1, 0), (1, 2), (3, 0)] c 3) (lo := fun k => led [(0, 1), (1, 0), (1, 2), (3, 0)] c k k) (K := 3) (k := 1) (by omega)
 rw [x1] at g1
 rw [b1] at g2
 rw [d2] at g3
 rw [e', Option.bind_some]
 dsimp only
 rw [cond_true]
 erw [g1, g2, g3, g4]
 rw [cLen]
 simp only [Option.bind_some]
 rw [same01_eq _ _ (by decide), same01_eq _ _ (by decide)]
 simp [li, l1]
theorem of_bad {n : Int} {xb : List (Int × Int)} {e : Int} (hl : xb.length ≤ 1000000) (he : e ≠ 0) (h : fn_graph_New n xb = some (none, e)) : fn_law12_of n xb = some (some (cdL (fun _ => []) (fun _ => false) 0), false) := by
 unfold fn_law12_of
 rw [Of_eq _ _ hl, h, Option.bind_some]
 dsimp only
 rw [scc_none, Option.bind_some, New_none]
 simp [he, cdL]
section
variable {N K : Nat} {E : ArG} {c : Nat → Nat}
theorem tells_l1 (hE : inN N E) (he : E.length ≤ 1000) (hK : K ≤ 1000) {k : Nat} (hk : k < K) : loop (fn_law12_CondTells_l1 (ai E) (vec1 N c) (K : Int) (k : Int)) (([] : List Int), 0) = some (li (bkX (nxC E c K) K k)) := by
 have h := loop_nat (body := fn_law12_CondTells_l1 (ai E) (vec1 N c) (K : Int) (k : Int)) (fun i : Nat => (li (bkX (nxC E c K) i k), (i : Int))) K (b := li (bkX (nxC E c K) K k)) ?_ ?_
 · exact h
 · intro i hi
   have hf := bkX_len (X := nxC E c K) i k
   have hm : k ∈ nxC E c K i ↔ k ≠ i ∧ led E c i k = true := by rw [nxC_mem]; exact ⟨fun h => h.2, fun h => ⟨hk, h⟩⟩
   unfold fn_law12_CondTells_l1
   dsimp only
   rw [dlt hi, cond_true, rLeads hE he, w64s hi (by omega), bkX_succ]
   by_cases e : i = k
   · have : k ∉ nxC E c K i := fun h => (hm.1 h).1 e.symm
     rw [decide_eq_true (show (i : Int) = (k : Int) by omega), if_neg this]; simp
   · rw [decide_eq_false (show ¬ (i : Int) = (k : Int) by omega)]
     cases hl : led E c i k with
     | false =>
       have : k ∉ nxC E c K i := fun h => by have := (hm.1 h).2; rw [hl] at this; cases this
       rw [if_neg this]; simp
     | true =>
       have : k ∈ nxC E c K i := hm.2 ⟨fun h => e h.symm, hl⟩
       rw [if_pos this]
       simp only [Bool.not_false, cond_true, Option.bind_some]
       rw [app_eq (by rw [li_len]; simp only [List.length_cons, List.length_nil]; omega), Option.bind_some]
       simp [li_snoc]
 · unfold fn_law12_CondTells_l1
   simp
theorem tells_l2 (h : Cmp N E c K) (hE : inN N E) (he : E.length ≤ 1000) (hK : K ≤ 1000) : loop (fn_law12_CondTells_l2 (ai E) (some (cdL (nxC E c K) (fun k => led E c k k) K)) (vec1 N c) (K : Int)) ((0, ([] : List Int), 0)) = some (.inl (((sm (nxC E c K) K : Nat) : Int), li ((List.range K).filter (fun k => decide ((nxC E c K k).length = 0))))) := by
 have hl := loop_nat (body := fn_law12_CondTells_l2 (ai E) (some (cdL (nxC E c K) (fun k => led E c k k) K)) (vec1 N c) (K : Int)) (fun k : Nat => (((sm (nxC E c K) k : Nat) : Int), li ((List.range k).filter (fun k => decide ((nxC E c K k).length = 0))), (k : Int))) K (b := .inl (((sm (nxC E c K) K : Nat) : Int), li ((List.range K).filter (fun k => decide ((nxC E c K k).length = 0))))) ?_ ?_
 · exact hl
 · intro k hk
   have hnl := nxC_len (E := E) (c := c) (K := K) k
   have hbl := bkX_len (X := nxC E c K) K k
   have h1 := sm_le (X := nxC E c K) (fun k => nxC_len k) k
   have h3 : k * K ≤ 1000 * 1000 := Nat.mul_le_mul (by omega) hK
   have hf := List.length_filter_le (fun k => decide ((nxC E c K k).length = 0)) (List.range k)
   rw [List.length_range] at hf
   unfold fn_law12_CondTells_l2
   dsimp only
   rw [dlt hk, cond_true, rNext hE he hK, Option.bind_some, tells_l1 hE he hK hk]
   have e1 : ((cond (decide ((((li (nxC E c K k)).length : Nat) : Int) = 0)) ((app (li ((List.range k).filter (fun k => decide ((nxC E c K k).length = 0)))) ([(k : Int)] : List Int)).bind fun z => some z) (some (li ((List.range k).filter (fun k => decide ((nxC E c K k).length = 0))))) : Option (List Int))) = some (li ((List.range (k + 1)).filter (fun k => decide ((nxC E c K k).length = 0)))) := by
     rw [li_len, List.range_succ, List.filter_append]
     by_cases e : (nxC E c K k).length = 0
     · rw [decide_eq_true (show (((nxC E c K k).length : Nat) : Int) = 0 by omega), cond_true, app_eq (by rw [li_len]; simp only [List.length_cons, List.length_nil]; omega), Option.bind_some]
       have e' : nxC E c K k = [] := List.length_eq_zero_iff.1 e
       simp [e', li_snoc]
     · rw [decide_eq_false (show ¬ (((nxC E c K k).length : Nat) : Int) = 0 by omega), cond_false]
       have e' : nxC E c K k ≠ [] := fun h => e (by rw [h]; rfl)
       simp [e']
   rw [e1]
   simp only [Option.bind_some]
   rw [cNext_in hk (by omega), Option.bind_some, same01_eq _ _ (by rw [li_len]; omega), cBack_in hk hK, cDepth_in hk, rDepth h hE he hK hk, cLoops_in hk, rLeads hE he]
   simp only [Option.bind_some, decide_true, Bool.not_true, cond_false]
   rw [same01_eq _ _ (by rw [li_len]; omega)]
   simp only [Option.bind_some, decide_true, Bool.not_true, cond_false, BEq.rfl]
   rw [w64s hk (by omega), li_len, w64 (x := ((sm (nxC E c K) k : Nat) : Int) + (((nxC E c K k).length : Nat) : Int)) (by omega) (by omega), sm_succ]
   simp
 · unfold fn_law12_CondTells_l2
   simp
end
theorem CondTells_true (xa : Int) (xb : (List (Int × Int))) (xc : Int) (k0 : Tp.Ok (.int .i64) xa) (k1 : Tp.Ok (.sl (.cons (.int .i64) (.one (.int .i64)))) xb) (k2 : Tp.Ok (.int .i64) xc) : fn_law12_CondTells xa xb xc = some true := by
 unfold fn_law12_CondTells
 rw [awake12]
 by_cases hlen : 24 < xb.length
 · have : decide ((24 : Int) < ((xb.length : Nat) : Int)) = true := decide_eq_true (by omega)
   simp [this]
 have hl0 : decide ((24 : Int) < ((xb.length : Nat) : Int)) = false := decide_eq_false (by omega)
 by_cases hmid : 10 < xa
 · simp [hmid]
 rw [hl0, show decide (10 < xa) = false from decide_eq_false hmid, Bool.or_self, cond_false]
 have hbad : ∀ e : Int, e ≠ 0 → fn_graph_New xa xb = some (none, e) → _ := fun e he h => of_bad (xb := xb) (n := xa) (by omega) he h
 have hA : fn_cond_Cond_Arcs (some (cdL (fun _ => []) (fun _ => false) 0)) = some 0 := cArcs (X := fun _ => []) (lo := fun _ => false) (K := 0) (fun _ => Nat.le_refl _) (by omega)
 have hEn : fn_cond_Cond_Ends (some (cdL (fun _ => []) (fun _ => false) 0)) = some [] := cEnds (X := fun _ => []) (lo := fun _ => false) (K := 0) (by omega)
 rcases New_eq xa xb (by omega) with ⟨h, e⟩ | ⟨h, e⟩ | ⟨h1, h2, h3, e⟩ | ⟨N, E, rfl, hN, rfl, hE, hout, e⟩
 · rw [hbad _ (by decide) e]; simp [cLen, hA, hEn]
 · rw [hbad _ (by decide) e]; simp [cLen, hA, hEn]
 · rw [hbad _ (by decide) e]; simp [cLen, hA, hEn]
 · have hEl : E.length ≤ 24 := by rw [ai_len] at hlen; omega
   obtain ⟨c, K, hC, er, eo⟩ := of_eq hE (show N ≤ 1000 by omega) (by omega)
   have hK := hC.le_N
   rw [eo, Option.bind_some]
   dsimp only
   rw [Bool.not_true, cond_false, er, Option.bind_some, Count_eq hC (by omega), Option.bind_some, tells_l2 hC hE (by omega) (by omega), Option.bind_some]
   dsimp only
   have hf := List.length_filter_le (fun k => decide ((nxC E c K k).length = 0)) (List.range K)
   rw [List.length_range] at hf
   rw [cLen, cArcs (fun k => nxC_len k) (by omega), cEnds (by omega)]
   simp only [Option.bind_some, decide_true, Bool.not_true, cond_false]
   rw [same01_eq _ _ (by rw [li_len]; omega)]
   obtain ⟨n1, n2, n3, n4⟩ := c_out (C := none) (n := 0) (x := 0) rfl (.inr (Int.le_refl _))
   have n5 : fn_cond_Cond_Ends none = some [] := by
     unfold fn_cond_Cond_Ends
     rw [show fn_cond_Cond_Len none = some 0 from rfl, Option.bind_some, loop_nat (body := fn_cond_Cond_Ends_l1 none 0) (fun _ : Nat => (([] : List Int), (0 : Int))) 0 (b := []) (fun k hk => absurd hk (Nat.not_lt_zero _)) (by unfold fn_cond_Cond_Ends_l1; rfl)]
     rfl
   have n6 : fn_cond_Cond_Arcs none = some 0 := by
     unfold fn_cond_Cond_Arcs
     rw [show fn_cond_Cond_Len none = some 0 from rfl, Option.bind_some, loop_nat (body := fn_cond_Cond_Arcs_l1 none 0) (fun _ : Nat => ((0 : Int), (0 : Int))) 0 (b := 0) (fun k hk => absurd hk (Nat.not_lt_zero _)) (by unfold fn_cond_Cond_Arcs_l1; rfl)]
     rfl
   rw [show fn_cond_Cond_Len none = some 0 from rfl, n1, n2, n3, n4, n5, n6]
   by_cases hx : 0 ≤ xc ∧ xc < (K : Int)
   · simp [hx.1, hx.2]
   · have hx1 : xc < 0 ∨ (K : Int) ≤ xc := by omega
     have hx2 : (decide (0 ≤ xc) && decide (xc < (K : Int))) = false := by rw [← Bool.decide_and]; exact decide_eq_false hx
     obtain ⟨m1, m2, m3, m4⟩ := c_out (cLen (nxC E c K) (fun k => led E c k k) K) hx1
     rw [hx2, m1, m2, m3, m4]
     simp
theorem falls_l1 (k : Nat) (L : List Nat) (hL : L.length ≤ 1000) : loop (fn_law12_CondFalls_l1 (k : Int) (li L)) (false, 0) = some (decide (k ∈ L)) := by
 have h := loop_carry (body := fn_law12_CondFalls_l1 (k : Int) (li L)) (li L) (fun i => decide (k ∈ L.take i)) (decide (k ∈ L)) ?_ ?_
 · simpa using h
 · intro i h
   have hi : i < L.length := by rw [li_len] at h; exact h
   have hm : k ∈ L.take (i + 1) ↔ k ∈ L.take i ∨ k = L[i] := by rw [take_snoc hi, List.mem_append, List.mem_singleton]
   have e : decide (k ∈ L.take (i + 1)) = (decide (k ∈ L.take i) || decide (k = L[i])) := by rw [← Bool.decide_or]; exact decide_eq_decide.2 hm
   unfold fn_law12_CondFalls_l1
   rw [e]
   simp only [dlt h, cond_true, getI_li hi, w64s h (by rw [li_len]; omega)]
   by_cases hv : k ∈ L.take i
   · simp [hv]
   · by_cases hv2 : k = L[i]
     · simp [hv, hv2]
     · have : ¬ ((L[i] : Nat) : Int) = (k : Int) := by omega
       simp [hv, hv2, this]
 · rw [li_len, List.take_length]; simp [fn_law12_CondFalls_l1, li_len]
section
variable {N K : Nat} {E : ArG} {c : Nat → Nat}
theorem falls_l2 {X : Nat → List Nat} {lo : Nat → Bool} (hX : ∀ k j, j ∈ X k → j < k) (hl : ∀ k, (X k).length ≤ K) (hK : K ≤ 1000) {k : Nat} (hk : k < K) : loop (fn_law12_CondFalls_l2 (some (cdL X lo K)) (k : Int) (li (X k))) 0 = some (.inl ()) := by
 have h := loop_nat (body := fn_law12_CondFalls_l2 (some (cdL X lo K)) (k : Int) (li (X k))) (fun i : Nat => (i : Int)) (X k).length (b := .inl ()) ?_ ?_
 · exact h
 · intro i hi
   have hi2 : i < (li (X k)).length := by rw [li_len]; exact hi
   have hlk := hl k
   have hjm := List.getElem_mem hi
   have hjk := hX k _ hjm
   have hb := bkX_len (X := X) K (X k)[i]
   have hin : k ∈ bkX X K (X k)[i] := bkX_mem.2 ⟨hk, hjm⟩
   have hd : dep X (X k)[i] + 1 ≤ dep X k := by rw [dep_eq hX k]; exact mxd_ge hjm
   unfold fn_law12_CondFalls_l2
   rw [dlt hi2, cond_true, getI_li hi]
   simp only [Option.bind_some]
   rw [cBack_in (by omega) hK, Option.bind_some, falls_l1 _ _ (by omega), Option.bind_some, decide_eq_true hin, cDepth_in (by omega), cDepth_in hk, w64s hi2 (by rw [li_len]; omega)]
   simp only [Option.bind_some, Bool.not_true, cond_false]
   rw [decide_eq_false (show ¬ (k : Int) ≤ (((X k)[i] : Nat) : Int) by omega), decide_eq_false (show ¬ ((dep X k : Nat) : Int) ≤ ((dep X (X k)[i] : Nat) : Int) by omega)]
   simp
 · unfold fn_law12_CondFalls_l2
   simp [li_len]
theorem loops_of (h : Cmp N E c K) (hE : inN N E) {k : Nat} (hm : 1 < (mbs N c k).length) : led E c k k = true := by
 have h0 : 0 < (mbs N c k).length := by omega
 obtain ⟨a0, b0⟩ := mbs_mem.1 (List.getElem_mem h0)
 obtain ⟨a1, b1⟩ := mbs_mem.1 (List.getElem_mem hm)
 have hne : (mbs N c k)[0] ≠ (mbs N c k)[1] := by
   have hd : (mbs N c k).Nodup := by unfold mbs; exact List.nodup_range.filter _
   have h3 : (mbs N c k).Pairwise (· ≠ ·) := hd
   rw [List.pairwise_iff_getElem] at h3
   exact h3 0 1 h0 hm (by omega)
 obtain ⟨r1, r2⟩ := (h.eq _ _ a0 a1).1 (by rw [b0, b1])
 generalize (mbs N c k)[0] = v at *
 generalize (mbs N c k)[1] = w at *
 cases r1 with
 | refl => exact absurd rfl hne
 | @step x _ hx hxw =>
   refine led_iff.2 ⟨x, w, hxw, ?_, b1⟩
   rw [← b1]
   have hxw' : Rch E x w := (Rch.refl x).step hxw
   have hwx : Rch E w x := r2.trans hx
   have hxN : x < N := hx.lt hE a0
   exact (h.eq x w hxN a1).2 ⟨hxw', hwx⟩
theorem falls_l3 (h : Cmp N E c K) (hE : inN N E) (hN : N ≤ 1000) : loop (fn_law12_CondFalls_l3 (pC N c K) (some (cdL (nxC E c K) (fun k => led E c k k) K))) (0, 0) = some (.inl ((sm (bkX (nxC E c K) K) K : Nat) : Int)) := by
 have hK := h.le_N
 have hX : ∀ k j, j ∈ nxC E c K k → j < k := fun k j hj => nxC_lt h hj
 have hl := loop_nat (body := fn_law12_CondFalls_l3 (pC N c K) (some (cdL (nxC E c K) (fun k => led E c k k) K))) (fun k : Nat => (((sm (bkX (nxC E c K) K) k : Nat) : Int), (k : Int))) K (b := .inl ((sm (bkX (nxC E c K) K) K : Nat) : Int)) ?_ ?_
 · exact hl
 · intro k hk
   have hnl := nxC_len (E := E) (c := c) (K := K) k
   have hbl := bkX_len (X := nxC E c K) K k
   have h1 := sm_le (X := bkX (nxC E c K) K) (fun k => bkX_len K k) k
   have h3 : k * K ≤ 1000 * 1000 := Nat.mul_le_mul (by omega) (by omega)
   unfold fn_law12_CondFalls_l3
   dsimp only
   rw [cLen, Option.bind_some, dlt hk, cond_true, cNext_in hk (by omega), Option.bind_some, cBack_in hk (by omega), Option.bind_some, falls_l2 hX (fun k => nxC_len k) (by omega) hk, Option.bind_some]
   dsimp only
   rw [Me_in (by omega) hk, Option.bind_some, cLoops_in hk, w64s hk (by omega), li_len, li_len, w64 (by omega) (by omega), sm_succ]
   by_cases hm : 1 < (mbs N c k).length
   · rw [loops_of h hE hm]; simp
   · rw [decide_eq_false (show ¬ (1 : Int) < (((mbs N c k).length : Nat) : Int) by omega)]; simp
 · unfold fn_law12_CondFalls_l3
   dsimp only
   rw [cLen, Option.bind_some, dge (Nat.lt_irrefl _), cond_false]
theorem backs_eq : sm (bkX (nxC E c K) K) K = sm (nxC E c K) K := by
 have h := count2 (fun p q => decide (q ∈ nxC E c K p)) (List.range K) (List.range K)
 unfold sm
 have e1 : (List.range K).map (fun q => (bkX (nxC E c K) K q).length) = (List.range K).map (fun q => (List.range K).countP (fun p => decide (q ∈ nxC E c K p))) := map_congr_range fun q _ => by unfold bkX; rw [← List.countP_eq_length_filter]
 have e2 : (List.range K).map (fun q => (nxC E c K q).length) = (List.range K).map (fun p => (List.range K).countP (fun q => decide (q ∈ nxC E c K p))) := map_congr_range fun p _ => by
   rw [List.countP_eq_length_filter]
   refine congrArg List.length ?_
   unfold nxC
   exact List.filter_congr fun q hq => by rw [Bool.eq_iff_iff]; simp [List.mem_range.1 hq]
 rw [e1, e2]; exact h
end
theorem CondFalls_true (xa : Int) (xb : (List (Int × Int))) (k0 : Tp.Ok (.int .i64) xa) (k1 : Tp.Ok (.sl (.cons (.int .i64) (.one (.int .i64)))) xb) : fn_law12_CondFalls xa xb = some true := by
 unfold fn_law12_CondFalls
 rw [awake12]
 by_cases hlen : 40 < xb.length
 · have : decide ((40 : Int) < ((xb.length : Nat) : Int)) = true := decide_eq_true (by omega)
   simp [this]
 have hl0 : decide ((40 : Int) < ((xb.length : Nat) : Int)) = false := decide_eq_false (by omega)
 by_cases hmid : 14 < xa
 · simp [hmid]
 rw [hl0, show decide (14 < xa) = false from decide_eq_false hmid, Bool.or_self, cond_false, Of_eq _ _ (by omega)]
 rcases New_eq xa xb (by omega) with ⟨h, e⟩ | ⟨h, e⟩ | ⟨h1, h2, h3, e⟩ | ⟨N, E, rfl, hN, rfl, hE, hout, e⟩
 · rw [e]; simp
 · rw [e]; simp
 · rw [e]; simp
 · have hEl : E.length ≤ 40 := by rw [ai_len] at hlen; omega
   obtain ⟨c, K, hC, -, ek⟩ := scc_eq hE (show N ≤ 1000 by omega) (by omega)
   have hK := hC.le_N
   rw [e]
   simp only [Option.bind_some, decide_true, Bool.not_true, cond_false]
   rw [ek, Option.bind_some, New_eqC hC hE (by omega) (by omega), Option.bind_some, falls_l3 hC hE (by omega), Option.bind_some]
   dsimp only
   rw [cArcs (fun k => nxC_len k) (by omega), cLen, Len_eq, backs_eq]
   simp
end
theorem CondFalls_walk {H : Type} (enc : TypeId × Value → H) (W : World) (base : Nat) {v0 v1 : Value} {d0 d1 : DataW H} {p0 p1 : List MemPlace}
   (h0 : DataW.Trod enc Try.prog W 0 (fun _ => true) true 3 v0 d0 p0) (h1 : DataW.Trod enc Try.prog W 0 (fun _ => true) true 22 v1 d1 p1)
   (o0 : Value.okWide Try.prog W .any base 3 v0) (o1 : Value.okWide Try.prog W .any base 22 v1) :
   Calls Try.prog 4 #[v0, v1] W fun e W' => e = .returned (.bool true) ∧ Below W.heap.size W W' := by
 obtain ⟨xa, i0, k0⟩ := Tp.arg (.int .i64) (by kernel_rfl) o0 h0
 obtain ⟨xb, i1, k1⟩ := Tp.arg (.sl (.cons (.int .i64) (.one (.int .i64)))) (by kernel_rfl) o1 h1
 exact walkX (s := sp_law12_CondFalls) (x := (xa, xb)) (args := [v0, v1]) law12_CondFalls_is (CondFalls_true xa xb k0 k1) trivial rfl rfl ⟨_, _, rfl, of_rel _ i0, _, _, rfl, of_rel _ i1, rfl⟩
end Go.Proofs.Ytpbbaghblhmilaa
namespace Go.Proofs.Ytpbbaghblhmilaa.condFallsFrame
set_option maxRecDepth 40000
open Go.ChangeShapes Go.WideShapes Go.ChangeAt Go.RowKit
theorem own : ownKnob Try.prog.godebug = none := by kernel_rfl
theorem contract (H : Type) (enc : TypeId × Value → H) (W : World) (base : Nat) (args : Array Value) (ds gs : List (DataW H)) (before : List MemPlace)
   (hval : ∀ (j : Nat) t v, Try.f4.params[j]? = some t → args[j]? = some v → Value.okWide Try.prog W .any base t v)
   (hW : DataW.Whole enc Try.prog Try.f4.params.toList Rows.condFallsSpec.vars false W args.toList ds gs before) :
   Calls Try.prog 4 args W fun e W' => ∃ v, e = .returned v ∧ Rows.condFallsSpec.post enc Try.prog Try.f4 false true false false W args v W' := by
 have hW' := hW
 obtain ⟨p, q, hA0, hV, rfl, hfz, hnd⟩ := hW
 have hA : DataW.TrodAll enc Try.prog W 0 (fun _ => true) true Try.f4.params.toList args.toList ds p := hA0
 rw [Try.params4] at hA hval
 obtain ⟨v0, vs0, d0, ds0, p0, q0, hargs, rfl, rfl, h0, r0⟩ := trodAll_cons hA
 obtain ⟨v1, vs1, d1, ds1, p1, q1, rfl, rfl, rfl, h1, r1⟩ := trodAll_cons r0
 obtain ⟨rfl, rfl, rfl⟩ := trodAll_nil r1
 obtain rfl : args = #[v0, v1] := by cases args; simp_all
 refine (CondFalls_walk enc W base h0 h1 (hval 0 _ v0 rfl rfl) (hval 1 _ v1 rfl rfl)).mono fun e W' ⟨he, hb⟩ => ?_
 subst he
 exact ⟨_, rfl, law_post (tb := _) rfl hW' rfl rfl (by kernel_rfl) (by kernel_rfl) (of_decide_eq_true (by kernel_rfl)) hb⟩
noncomputable def world (os : Os) : World := World.holding Try.prog os ⟨#[], #[], []⟩
theorem reads (os : Os) {H : Type} (enc : TypeId × Value → H) : ∃ x, DataW.whole enc Try.prog ((world os).forCall (fun _ _ => 0) ⟨#[], #[.int .i64 0, .slice none 0 0], []⟩).memory Try.f4.params.toList Rows.condFallsSpec.vars false (#[.int .i64 0, .slice none 0 0] : Array Value).toList 8 = some x :=
 Option.isSome_iff_exists.1 (by kernel_rfl)
set_option maxRecDepth 100000 in
theorem lifted (os : Os) (started : os.Started) (H : Type) (enc : TypeId × Value → H) (F : Stop.Interp) :
   ReturnsInHanded {} Try.checked os 4 .any ((OpenSpec.ofChange Rows.condFallsSpec).preRow enc Try.prog Try.f4 Rows.condFallsRow.domain false Rows.condFallsRow.laid) (((OpenSpec.ofChange Rows.condFallsSpec).at F).post enc Try.prog Try.f4 false true false false) := by
 obtain ⟨x, hx⟩ := reads os enc
 refine returnsInHanded_of_row (C := Try.checked) (s := OpenSpec.ofChange Rows.condFallsSpec) own started (by kernel_rfl) Try.func4
   (witness_row_at (enc := enc) (C := Try.checked) false (world os) #[.int .i64 0, .slice none 0 0] rfl (by kernel_rfl) (by kernel_rfl) (by kernel_rfl)
     (OpenSpec.preRow_of_cond 8 hx (by kernel_rfl) (fun k hk => by cases hk) (by kernel_rfl) (laidMet_of_run' 8 (by kernel_rfl) (by kernel_rfl)))) ?_
 intro W base args ds gs before hval hW _ _ _ hL _ _
 exact contract H enc W base args ds gs before hval hW
theorem proved : Rows.CondFallsSaid :=
 OpenClaim.holds_of_cond 4 Try.f4 rfl rfl rfl rfl rfl rfl rfl ⟨rfl, rfl, rfl, rfl, rfl⟩ rfl rfl rfl rfl rfl (by kernel_rfl) Try.func4 (by kernel_rfl)
   (of_decide_eq_true (by kernel_rfl)) (by unfold Func.isWrapper; first | (rw [if_pos (by decide +kernel)]; kernel_rfl) | (rw [if_neg (by decide +kernel)]; exact ⟨rfl, rfl⟩))
   (fun os started H enc _ F => by rw [OpenClaim.pre_eq_preRow]; exact lifted os started H enc F)
end Go.Proofs.Ytpbbaghblhmilaa.condFallsFrame
