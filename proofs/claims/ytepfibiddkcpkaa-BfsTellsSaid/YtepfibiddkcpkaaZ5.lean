/- 'easement/easementlaw13.BfsTells' returns true for every input, and each argument reads afterwards as it read before: the row's frame round the walk. -/
import Derived.Test.YtepfibiddkcpkaaZ4
namespace Go.Proofs.Ytepfibiddkcpkaa
open Go.RowKit
set_option linter.unusedVariables false
set_option linter.unusedSimpArgs false
set_option linter.unnecessarySimpa false
/-- The search under way: L in the order of finding, p at hand, T told. -/
structure Sr (N : Nat) (E : ArG) (v : Nat) (L : List Nat) (p : Nat) (d : Nat → Option Nat) (m : Nat) (β : Nat → Option Nat) (T : List Nat) (q : List Int) (f : Int) (c : Nat) : Prop where
  b : Bfs N E v L p d
  l : Lm d m
  k : Bck E T d β
  r : RQ q f ((L.length - c : Nat) : Int) (li (L.drop c))
  ql : q.length ≤ 2 * N + 1
theorem Bfs.len {N : Nat} {E : ArG} {v : Nat} {L : List Nat} {p : Nat} {d : Nat → Option Nat} (h : Bfs N E v L p d) : L.length ≤ N := nodup_lt h.nd h.lt
theorem Lm.le {d : Nat → Option Nat} {m N : Nat} {L : List Nat} (h : Lm d m) (hL : ∀ w, w ∈ L ↔ (d w).isSome) (hN : L.length ≤ N) : m ≤ N := by
  have : ∀ j, j ≤ m → ∃ M : List Nat, M.length = j ∧ M.Nodup ∧ (∀ x ∈ M, x ∈ L ∧ ∃ k, k < j ∧ d x = some k) := by
    intro j
    induction j with
    | zero => intro _; exact ⟨[], rfl, List.nodup_nil, fun x hx => by cases hx⟩
    | succ j ih =>
      intro hj
      obtain ⟨M, h1, h2, h3⟩ := ih (by omega)
      obtain ⟨w, hw⟩ := h.full j (by omega)
      refine ⟨w :: M, by simp [h1], List.nodup_cons.2 ⟨fun hm => ?_, h2⟩, fun x hx => ?_⟩
      · obtain ⟨_, k, hk, e⟩ := h3 w hm
        rw [hw] at e; cases e; omega
      · rcases List.mem_cons.1 hx with rfl | hx
        · exact ⟨(hL x).2 (by rw [hw]; rfl), j, by omega, hw⟩
        · obtain ⟨a1, k, a2, a3⟩ := h3 x hx
          exact ⟨a1, k, by omega, a3⟩
  obtain ⟨M, h1, h2, h3⟩ := this m (Nat.le_refl _)
  have := nodup_le h2 (fun x hx => (h3 x hx).1)
  omega
theorem inner_step {N : Nat} {E : ArG} {v : Nat} {L : List Nat} {p : Nat} {d : Nat → Option Nat} {m : Nat} {β : Nat → Option Nat} {T : List Nat} {q : List Int} {f : Int} (hE : inN N E) (hn : N ≤ 1000) (he : E.length ≤ 10000) (s : Sr N E v L p d m β T q f (p + 1)) {a k : Nat} (ha : L[p]? = some a) (hk : d a = some k) {O : List Nat} (hO : ∀ i ∈ O, ∃ h : i < E.length, E[i].1 = a) (hOl : O.length ≤ 10000) {j : Nat} (hj : j < O.length) :
    ∃ L' d' m' β' q' f', fn_bfs_From_kpiz_l1 (some (mkG N E)) (a : Int) (li O) ((j : Int), dl N d, dl N β, ly m L d, q, f, ((L.length - (p + 1) : Nat) : Int)) = some (.inl (((j + 1 : Nat) : Int), dl N d', dl N β', ly m' L' d', q', f', ((L'.length - (p + 1) : Nat) : Int)))
      ∧ Sr N E v L' p d' m' β' (T ++ [O[j]]) q' f' (p + 1) ∧ L'[p]? = some a ∧ d' a = some k ∧ (∀ h : O[j] < E.length, (d' E[O[j]].2).isSome) ∧ (∀ x, (d x).isSome → (d' x).isSome) ∧ L <+: L' := by
  obtain ⟨hi, hia⟩ := hO O[j] (List.getElem_mem hj)
  have hpl : p < L.length := (List.getElem?_eq_some_iff.1 ha).1
  have hLN := s.b.len
  have haN : a < N := s.b.lt a (List.mem_of_getElem? ha)
  have hbN : E[O[j]].2 < N := (hE _ (List.getElem_mem hi)).2
  have hmN := s.l.le s.b.mem hLN
  have hkm := s.l.top a k hk
  have hmem : (a, E[O[j]].2) ∈ E := by rw [← hia]; exact List.getElem_mem hi
  unfold fn_bfs_From_kpiz_l1
  dsimp only
  rw [li_len, dlt hj, cond_true, getI_li hj, Option.bind_some, Arc_of, dif_pos ⟨by omega, by omega⟩]
  simp only [Int.toNat_natCast, Option.bind_some]
  rw [dl_get hbN]
  simp only [Option.bind_some]
  rw [dl_get haN, hk, w64s hj (by omega)]
  simp only [Option.bind_some]
  have hw : IntKind.wrap .i64 (dN (some k) + 1) = ((k + 1 : Nat) : Int) := by rw [show dN (some k) = (k : Int) from rfl, w64 (by omega) (by omega)]; rfl
  rw [hw]
  cases hb : d E[O[j]].2 with
  | none =>
    have hbL : E[O[j]].2 ∉ L := fun hm => by have := (s.b.mem _).1 hm; rw [hb] at this; cases this
    have hB := s.b.find hE ha hmem hk hb
    have hLN2 := hB.len
    rw [List.length_append, List.length_singleton] at hLN2
    rw [show decide (dN none < 0) = true from rfl, cond_true, reach_ok s.l hbN hbL (by omega) (by omega) (by omega)]
    simp only [Option.bind_some]
    have hd1 : (li (L.drop (p + 1))).length = L.length - (p + 1) := by rw [li_len, List.length_drop]
    obtain ⟨q', f', e1, e2, e3⟩ := Push_eq (v := ((E[O[j]].2 : Nat) : Int)) (B := N) s.r (by rw [hd1]; omega) s.ql (by omega)
    rw [e1]
    simp only [Option.bind_some]
    rw [dl_get hbN, dl_get haN]
    simp only [Option.bind_some]
    have hne : a ≠ E[O[j]].2 := fun e => by rw [← e, hk] at hb; cases hb
    rw [if_pos trivial, if_neg hne, hk, hw, show decide (dN (some (k + 1)) = ((k + 1 : Nat) : Int)) = true from decide_eq_true rfl, cond_true, lead_ok hbN]
    simp only [Option.bind_some]
    have hlen : ((L ++ [E[O[j]].2]).length - (p + 1) : Nat) = L.length - (p + 1) + 1 := by rw [List.length_append, List.length_singleton]; omega
    refine ⟨L ++ [E[O[j]].2], fun x => if x = E[O[j]].2 then some (k + 1) else d x, if k + 1 = m then m + 1 else m, fun x => if x = E[O[j]].2 then some (less O[j] (β E[O[j]].2)) else β x, q', f', ?_, ⟨hB, s.l.reach hb (by omega), (s.k.find hb).tell hi ⟨hi, k, rfl, ?_, ?_⟩, ?_, e3⟩, ?_, ?_, ?_, ?_, ⟨_, rfl⟩⟩
    · rw [hlen]; rfl
    · dsimp only; rw [hia, if_neg hne, hk]
    · dsimp only; rw [if_pos rfl]
    · rw [hlen, List.drop_append_of_le_length (by omega)]
      simpa [li] using e2
    · rw [List.getElem?_append_left hpl, ha]
    · dsimp only; rw [if_neg hne, hk]
    · intro _; simp
    · intro x hx; dsimp only; split
      · rfl
      · exact hx
  | some l =>
    rw [show decide (dN (some l) < 0) = false from decide_eq_false (by show ¬ ((l : Int) < 0); omega), cond_false, Option.bind_some]
    simp only []
    rw [dl_get hbN, dl_get haN]
    simp only [Option.bind_some]
    rw [hk, hb, hw]
    by_cases c : l = k + 1
    · subst c
      rw [show decide (dN (some (k + 1)) = ((k + 1 : Nat) : Int)) = true from decide_eq_true rfl, cond_true, lead_ok hbN]
      simp only [Option.bind_some]
      exact ⟨_, _, _, _, _, _, rfl, ⟨s.b, s.l, s.k.tell hi ⟨hi, k, rfl, by rw [hia, hk], hb⟩, s.r, s.ql⟩, ha, hk, fun _ => by rw [hb]; rfl, fun _ h => h, List.prefix_refl _⟩
    · rw [show decide (dN (some l) = ((k + 1 : Nat) : Int)) = false from decide_eq_false (by show ¬ ((l : Int) = ((k + 1 : Nat) : Int)); omega), cond_false]
      refine ⟨_, _, _, _, _, _, rfl, ⟨s.b, s.l, s.k.pass hi ?_ (by rw [hia, hk]; rfl) (by rw [hb]; rfl), s.r, s.ql⟩, ha, hk, fun _ => by rw [hb]; rfl, fun _ h => h, List.prefix_refl _⟩
      rintro ⟨_, k2, _, e2, e3⟩
      rw [hia, hk] at e2
      rw [hb] at e3
      cases e2; cases e3
      exact c rfl
theorem inner_from {N : Nat} {E : ArG} {v p a k : Nat} (hE : inN N E) (hn : N ≤ 1000) (he : E.length ≤ 10000) {O : List Nat} (hO : ∀ i ∈ O, ∃ h : i < E.length, E[i].1 = a) (hOl : O.length ≤ 10000) :
    ∀ (r j : Nat) (L : List Nat) (d : Nat → Option Nat) (m : Nat) (β : Nat → Option Nat) (T : List Nat) (q : List Int) (f : Int), j + r = O.length → Sr N E v L p d m β T q f (p + 1) → L[p]? = some a → d a = some k → (∀ i ∈ O.take j, ∀ h : i < E.length, (d E[i].2).isSome) →
    ∃ L' d' m' β' q' f', loop (fn_bfs_From_kpiz_l1 (some (mkG N E)) (a : Int) (li O)) ((j : Int), dl N d, dl N β, ly m L d, q, f, ((L.length - (p + 1) : Nat) : Int)) = some (dl N d', dl N β', ly m' L' d', q', f', ((L'.length - (p + 1) : Nat) : Int))
      ∧ Sr N E v L' p d' m' β' (T ++ O.drop j) q' f' (p + 1) ∧ L'[p]? = some a ∧ d' a = some k ∧ (∀ i ∈ O, ∀ h : i < E.length, (d' E[i].2).isSome) ∧ L <+: L' := by
  intro r
  induction r with
  | zero =>
    intro j L d m β T q f hj s ha hk ht
    refine ⟨L, d, m, β, q, f, ?_, ?_, ha, hk, ?_, List.prefix_refl _⟩
    · apply loop_end
      unfold fn_bfs_From_kpiz_l1
      dsimp only
      rw [li_len, dge (by omega), cond_false]
    · rw [List.drop_of_length_le (by omega), List.append_nil]; exact s
    · rw [List.take_of_length_le (by omega)] at ht; exact ht
  | succ r ih =>
    intro j L d m β T q f hj s ha hk ht
    have hjl : j < O.length := by omega
    obtain ⟨L1, d1, m1, β1, q1, f1, e1, s1, a1, k1, t1, mo, pf⟩ := inner_step hE hn he s ha hk hO hOl hjl
    obtain ⟨L2, d2, m2, β2, q2, f2, e2, s2, a2, k2, t2, pf2⟩ := ih (j + 1) L1 d1 m1 β1 (T ++ [O[j]]) q1 f1 (by omega) s1 a1 k1 (fun i hi h => by
      rw [take_snoc hjl] at hi
      rcases List.mem_append.1 hi with hi | hi
      · exact mo _ (ht i hi h)
      · simp only [List.mem_singleton] at hi; subst hi; exact t1 h)
    refine ⟨L2, d2, m2, β2, q2, f2, by rw [loop_next e1]; exact e2, ?_, a2, k2, t2, pf.trans pf2⟩
    rw [List.append_assoc, List.singleton_append, ← List.drop_eq_getElem_cons hjl] at s2
    exact s2
/-- What has been told when the first p are done. -/
def told (E : ArG) (L : List Nat) (p : Nat) (T : List Nat) : Prop := ∀ i : Nat, i ∈ T ↔ ∃ h : i < E.length, E[i].1 ∈ L.take p
theorem outer_step {N : Nat} {E : ArG} {v : Nat} {L : List Nat} {p : Nat} {d : Nat → Option Nat} {m : Nat} {β : Nat → Option Nat} {T : List Nat} {q : List Int} {f : Int} (hE : inN N E) (hn : N ≤ 1000) (he : E.length ≤ 10000) (s : Sr N E v L p d m β T q f p) (ht : told E L p T) (hp : p < L.length) :
    ∃ L' d' m' β' T' q' f', fn_bfs_From_kpiz_l2 (some (mkG N E)) (dl N d, dl N β, ly m L d, q, f, ((L.length - p : Nat) : Int)) = some (.inl (dl N d', dl N β', ly m' L' d', q', f', ((L'.length - (p + 1) : Nat) : Int)))
      ∧ Sr N E v L' (p + 1) d' m' β' T' q' f' (p + 1) ∧ told E L' (p + 1) T' := by
  have hLN := s.b.len
  have ha : L[p]? = some L[p] := List.getElem?_eq_getElem hp
  have haL : L[p] ∈ L := List.getElem_mem hp
  have haN := s.b.lt _ haL
  obtain ⟨k, hk⟩ := Option.isSome_iff_exists.1 ((s.b.mem _).1 haL)
  have hr := s.r
  have hdrop : li (L.drop p) = ((L[p] : Nat) : Int) :: li (L.drop (p + 1)) := by rw [List.drop_eq_getElem_cons hp]; rfl
  rw [hdrop] at hr
  obtain ⟨q1, f1, e1, r1, l1⟩ := Pop_eq hr (by have := s.ql; omega)
  have hm1 : ((L.length - p : Nat) : Int) - 1 = ((L.length - (p + 1) : Nat) : Int) := by omega
  rw [hm1] at e1 r1
  have hOl : (occ (E.map (·.1)) L[p]).length ≤ 10000 := by have := occ_bound (E.map (·.1)) L[p]; rw [List.length_map] at this; omega
  obtain ⟨L2, d2, m2, β2, q2, f2, e2, s2, a2, k2, t2, pf⟩ := inner_from (v := v) (p := p) (k := k) hE hn he (O := occ (E.map (·.1)) L[p]) (fun i hi => occ_arc hi) hOl _ 0 L d m β T q1 f1 (Nat.zero_add _) ⟨s.b, s.l, s.k, r1, by rw [l1]; exact s.ql⟩ ha hk (fun i hi => by simp at hi)
  have hnext := s2.b.next a2 k2 (fun b hb => by
    obtain ⟨i, hi, e⟩ := List.mem_iff_getElem.1 hb
    have := t2 i (occ_mem.2 ⟨by rw [List.length_map]; exact hi, by simp [e]⟩) hi
    rw [e] at this; exact this)
  refine ⟨L2, d2, m2, β2, _, q2, f2, ?_, ⟨hnext, s2.l, s2.k, s2.r, s2.ql⟩, ?_⟩
  · unfold fn_bfs_From_kpiz_l2 fn_stack_Queue_int_Len_p0_rii
    simp only [Option.bind_some]
    rw [show decide ((0 : Int) < ((L.length - p : Nat) : Int)) = true by simp; omega, cond_true, e1]
    simp only [Option.bind_some]
    rw [Out_of (by omega) (by omega) haN]
    simp only [Option.bind_some]
    rw [show fn_tick_Counter_Add_zii 6 _ = some () from rfl, Option.bind_some]
    have e2' : loop (fn_bfs_From_kpiz_l1 (some (mkG N E)) ((L[p] : Nat) : Int) ((occ (E.map (·.1)) L[p]).map (fun i : Nat => (i : Int)))) (0, dl N d, dl N β, ly m L d, q1, f1, ((L.length - (p + 1) : Nat) : Int)) = _ := e2
    rw [e2']
    rfl
  · intro i
    have hp2 : p < L2.length := (List.getElem?_eq_some_iff.1 a2).1
    have hLp : L2[p] = L[p] := by rw [List.getElem?_eq_getElem hp2] at a2; exact Option.some.inj a2
    have hpre : L2.take p = L.take p := by
      obtain ⟨M, rfl⟩ := pf
      rw [List.take_append_of_le_length (by omega)]
    rw [take_snoc hp2, hpre, hLp, List.drop_zero, List.mem_append, ht i, occ_mem]
    constructor
    · rintro (⟨h, h1⟩ | ⟨h, h1⟩)
      · exact ⟨h, List.mem_append_left _ h1⟩
      · rw [List.length_map] at h
        exact ⟨h, List.mem_append_right _ (by simp at h1; simp [h1])⟩
    · rintro ⟨h, h1⟩
      rcases List.mem_append.1 h1 with h1 | h1
      · exact .inl ⟨h, h1⟩
      · simp at h1
        exact .inr ⟨by rw [List.length_map]; exact h, by simp [h1]⟩
/-- What a search that has ended knows. -/
structure Bend (N : Nat) (E : ArG) (v : Nat) (L : List Nat) (d : Nat → Option Nat) (m : Nat) (β : Nat → Option Nat) : Prop where
  b : Bfs N E v L L.length d
  l : Lm d m
  yes : ∀ w i : Nat, β w = some i → Lead E d i w
  low : ∀ w i : Nat, Lead E d i w → ∃ j, β w = some j ∧ j ≤ i
theorem outer_loop {N : Nat} {E : ArG} {v : Nat} (hE : inN N E) (hn : N ≤ 1000) (he : E.length ≤ 10000) : ∀ (r p : Nat) (L : List Nat) (d : Nat → Option Nat) (m : Nat) (β : Nat → Option Nat) (T : List Nat) (q : List Int) (f : Int), N ≤ p + r → Sr N E v L p d m β T q f p → told E L p T →
    ∃ L' d' m' β', loop (fn_bfs_From_kpiz_l2 (some (mkG N E))) (dl N d, dl N β, ly m L d, q, f, ((L.length - p : Nat) : Int)) = some (dl N d', dl N β', ly m' L' d') ∧ Bend N E v L' d' m' β' := by
  have fin : ∀ (p : Nat) (L : List Nat) (d : Nat → Option Nat) (m : Nat) (β : Nat → Option Nat) (T : List Nat) (q : List Int) (f : Int), Sr N E v L p d m β T q f p → told E L p T → ¬ p < L.length →
      ∃ L' d' m' β', loop (fn_bfs_From_kpiz_l2 (some (mkG N E))) (dl N d, dl N β, ly m L d, q, f, ((L.length - p : Nat) : Int)) = some (dl N d', dl N β', ly m' L' d') ∧ Bend N E v L' d' m' β' := by
    intro p L d m β T q f s ht hp
    obtain rfl : p = L.length := by have := s.b.pl; omega
    refine ⟨L, d, m, β, ?_, s.b, s.l, fun w i h => (s.k.yes w i h).2, fun w i h => s.k.low w i ?_ h⟩
    · apply loop_end
      unfold fn_bfs_From_kpiz_l2 fn_stack_Queue_int_Len_p0_rii
      simp only [Option.bind_some]
      rw [Nat.sub_self]
      rfl
    · obtain ⟨hi, k, _, e2, _⟩ := h
      refine (ht i).2 ⟨hi, ?_⟩
      rw [List.take_length]
      exact (s.b.mem _).2 (by rw [e2]; rfl)
  intro r
  induction r with
  | zero =>
    intro p L d m β T q f hr s ht
    exact fin p L d m β T q f s ht (by have := s.b.len; omega)
  | succ r ih =>
    intro p L d m β T q f hr s ht
    by_cases hp : p < L.length
    · obtain ⟨L1, d1, m1, β1, T1, q1, f1, e1, s1, t1⟩ := outer_step hE hn he s ht hp
      obtain ⟨L2, d2, m2, β2, e2, b2⟩ := ih (p + 1) L1 d1 m1 β1 T1 q1 f1 (by omega) s1 t1
      exact ⟨L2, d2, m2, β2, by rw [loop_next e1]; exact e2, b2⟩
    · exact fin p L d m β T q f s ht hp
/-- Layers, each rising. -/
def lyS (N m : Nat) (d : Nat → Option Nat) : List (List Int) := (List.range m).map fun k => li ((List.range N).filter fun w => decide (d w = some k))
theorem sort_loop {N : Nat} {E : ArG} {v : Nat} {L : List Nat} {d : Nat → Option Nat} {m : Nat} {β : Nat → Option Nat} (h : Bend N E v L d m β) (hn : N ≤ 1000) : loop (fn_bfs_From_kpiz_l3 (ly m L d)) (0, ly m L d) = some (lyS N m d) := by
  have hLN := h.b.len
  have hm := h.l.le h.b.mem hLN
  have hsrt : ∀ k, srt (li (L.filter fun w => decide (d w = some k))) = some (li ((List.range N).filter fun w => decide (d w = some k))) := fun k =>
    srt_set (h.b.nd.filter _) (range_strict N _) (fun w => by
      rw [List.mem_filter, List.mem_filter, List.mem_range]
      constructor
      · rintro ⟨a, b⟩; exact ⟨h.b.lt w a, b⟩
      · rintro ⟨a, b⟩
        refine ⟨(h.b.mem w).2 ?_, b⟩
        rw [of_decide_eq_true b]; rfl) (by have := List.length_filter_le (fun w => decide (d w = some k)) L; omega)
  have := loop_nat (body := fn_bfs_From_kpiz_l3 (ly m L d)) (fun k => ((k : Int), (List.range m).map fun j => if j < k then li ((List.range N).filter fun w => decide (d w = some j)) else li (L.filter fun w => decide (d w = some j)))) m (b := lyS N m d) ?_ ?_
  · simpa [ly] using this
  · intro k hk
    unfold fn_bfs_From_kpiz_l3
    dsimp only
    rw [ly_len, dlt hk, cond_true, getI_map hk, if_neg (Nat.lt_irrefl k)]
    simp only [Option.bind_some]
    rw [show chkI (k : Int) (k : Int) = some () by simp [chkI], Option.bind_some, hsrt, Option.bind_some, Int.toNat_natCast, set_map, w64s hk (by omega)]
    congr 3
    apply map_congr_range
    intro j hj
    by_cases c : j = k
    · subst c; simp
    · by_cases c2 : j < k
      · simp [c, c2, show j < k + 1 by omega]
      · simp [c, c2, show ¬ j < k + 1 by omega]
  · unfold fn_bfs_From_kpiz_l3
    dsimp only
    rw [ly_len, dge (Nat.lt_irrefl m), cond_false]
    congr 2
    unfold lyS
    apply map_congr_range
    intro j hj
    simp [hj]
end Go.Proofs.Ytepfibiddkcpkaa
namespace Go.Proofs.Ytepfibiddkcpkaa
open Go.RowKit
set_option linter.unusedVariables false
set_option linter.unusedSimpArgs false
set_option linter.unnecessarySimpa false
theorem Mul_small : ∀ n : Fin 17, fn_math_bits_Mul 1 (n.val : Int) = some (0, (n.val : Int)) := by decide +kernel
theorem Rep_small : ∀ n : Fin 17, iter fn_slices_Repeat_int_int_l1 7 (cpy (List.replicate n.val (0 : Int)) ((0 : Int).toNat) (([-1] : List Int).take (n.val - (0 : Int).toNat)), ((min ([-1] : List Int).length (n.val - (0 : Int).toNat) : Nat) : Int)) = some (List.replicate n.val (-1)) := by decide +kernel
theorem Repeat_eq {n : Nat} (hn : n ≤ 16) : fn_slices_Repeat_int_int [-1] (n : Int) = some (List.replicate n (-1)) := by
  unfold fn_slices_Repeat_int_int
  rw [show decide ((n : Int) < 0) = false from decide_eq_false (by omega), cond_false]
  have hw : ∀ x : Int, 0 ≤ x → x < 1000 → IntKind.wrap .u64 x = x := fun x h0 h1 => by unfold IntKind.wrap; simp [IntKind.bits, IntKind.signed] <;> omega
  simp only [Option.bind_some]
  rw [show IntKind.wrap .u64 ((([-1] : List Int).length : Nat) : Int) = 1 from rfl, hw _ (by omega) (by omega), Mul_small ⟨n, by omega⟩]
  simp only [Option.bind_some]
  rw [show (decide ((0 : Int) < 0) || decide ((9223372036854775807 : Int) < (n : Int))) = false by simp; omega, cond_false]
  simp only [Option.bind_some]
  rw [w64 (x := (n : Int)) (by omega) (by omega)]
  have e1 : mk (n : Int) (n : Int) (0 : Int) = some (List.replicate n 0) := by unfold mk; rw [if_pos (by omega), Int.toNat_natCast]
  rw [e1]
  simp only [Option.bind_some]
  rw [List.length_replicate, loop_of (Rep_small ⟨n, by omega⟩)]
  rfl
theorem rep_dl (N : Nat) : List.replicate N (-1 : Int) = dl N fun _ => none := replicate_map N _
theorem Lm.start (v : Nat) : Lm (fun w => if w = v then some 0 else none) 1 where
  top := fun w k h => by
    split at h
    · cases h; omega
    · cases h
  full := fun k hk => ⟨v, by simp; omega⟩
theorem start_ok {N v : Nat} (hv : v < N) (bk : List Int) : fn_bfs_Tree_reach_p0ii_rrn (v : Int) 0 (dl N fun _ => none) bk = some (dl N (fun w => if w = v then some 0 else none), bk, ly 1 [v] (fun w => if w = v then some 0 else none)) := by
  unfold fn_bfs_Tree_reach_p0ii_rrn
  rw [dl_get hv]
  simp only [Option.bind_some, Int.toNat_natCast]
  have e := dl_set (k := 0) (d := fun _ => none) hv
  rw [show ((0 : Nat) : Int) = 0 from rfl] at e
  rw [e]
  rw [show (bif decide True then (app ([] : List (List Int)) [[]]).bind fun z => some z else some []) = some [[]] by simp [app]]
  have e1 : ly 1 [v] (fun w => if w = v then some 0 else none) = [[(v : Int)]] := by simp [ly, li]
  rw [e1]
  rfl
theorem From_ok {N : Nat} {E : ArG} {v : Nat} (hE : inN N E) (hn : N ≤ 16) (he : E.length ≤ 10000) (hv : v < N) : ∃ L d m β, fn_bfs_From_kpiz (some (mkG N E)) (v : Int) = some (some (dl N d, dl N β, lyS N m d)) ∧ Bend N E v L d m β := by
  obtain ⟨L, d, m, β, e, b⟩ := outer_loop (v := v) hE (by omega) he N 0 [v] (fun w => if w = v then some 0 else none) 1 (fun _ => none) [] [(v : Int)] 0 (by omega) ⟨Bfs.start hv, Lm.start v, Bck.start E _, RQ.one _, by simp⟩ (fun i => by simp)
  refine ⟨L, d, m, β, ?_, b⟩
  unfold fn_bfs_From_kpiz
  rw [Nodes_eq]
  simp only [Option.bind_some]
  rw [Repeat_eq hn, rep_dl]
  simp only [Option.bind_some]
  rw [show decide (0 ≤ (v : Int)) = true by simp, cond_true, Option.bind_some, show decide ((v : Int) < (N : Int)) = true by simp; omega, cond_true, start_ok hv]
  simp only [Option.bind_some]
  rw [Push_first]
  simp only [Option.bind_some]
  have e' : loop (fn_bfs_From_kpiz_l2 (some (mkG N E))) (dl N (fun w => if w = v then some 0 else none), dl N (fun _ => none), ly 1 [v] (fun w => if w = v then some 0 else none), [(v : Int)], 0, 1) = _ := e
  rw [e']
  simp only [Option.bind_some]
  rw [sort_loop b (by omega)]
  rfl
theorem From_not {N : Nat} {E : ArG} {v : Int} (hn : N ≤ 16) (hv : v < 0 ∨ (N : Int) ≤ v) : fn_bfs_From_kpiz (some (mkG N E)) v = some (some (dl N (fun _ => none), dl N (fun _ => none), [])) := by
  unfold fn_bfs_From_kpiz
  rw [Nodes_eq]
  simp only [Option.bind_some]
  rw [Repeat_eq hn, rep_dl]
  simp only [Option.bind_some]
  have hc : (cond (decide (0 ≤ v)) (some (decide (v < (N : Int)))) (some false) : Option Bool) = some false := by
    rcases hv with h | h
    · rw [show decide (0 ≤ v) = false by simp; omega]; rfl
    · rw [show decide (v < (N : Int)) = false by simp; omega]; cases decide (0 ≤ v) <;> rfl
  rw [hc]
  simp only [Option.bind_some, cond_false]
  rw [loop_end (b := (dl N (fun _ => none), dl N (fun _ => none), [])) rfl]
  simp only [Option.bind_some]
  rw [loop_end (b := []) rfl]
  rfl
theorem From_none (v : Int) : fn_bfs_From_kpiz none v = some (some ([], [], [])) := by
  unfold fn_bfs_From_kpiz
  rw [Nodes_none]
  simp only [Option.bind_some]
  rw [show fn_slices_Repeat_int_int [-1] 0 = some [] from Repeat_eq (n := 0) (by omega)]
  simp only [Option.bind_some]
  have hc : (cond (decide (0 ≤ v)) (some (decide (v < 0))) (some false) : Option Bool) = some false := by
    by_cases h : 0 ≤ v
    · rw [show decide (v < 0) = false by simp; omega]; cases decide (0 ≤ v) <;> rfl
    · rw [show decide (0 ≤ v) = false by simp; omega]; rfl
  rw [hc]
  simp only [Option.bind_some, cond_false]
  rw [loop_end (b := ([], [], [])) rfl]
  simp only [Option.bind_some]
  rw [loop_end (b := []) rfl]
  rfl
end Go.Proofs.Ytepfibiddkcpkaa
namespace Go.Proofs.Ytepfibiddkcpkaa
open Go.RowKit
set_option linter.unusedVariables false
set_option linter.unusedSimpArgs false
set_option linter.unnecessarySimpa false
theorem Of_eq (n : Int) (xb : List (Int × Int)) (hn : xb.length ≤ 1000000) : fn_law10_Of n xb = fn_graph_New n xb := by
  unfold fn_law10_Of
  have := loop_map xb (fun x : Int × Int => x) [] (by simp; omega) (body := fn_law10_Of_l1 xb) (fun c i => by
    unfold fn_law10_Of_l1
    cases hg : getI xb i with
    | none => simp [hg]
    | some x => simp [hg])
  rw [this]
  simp only [List.nil_append, List.map_id', Option.bind_some]
  cases fn_graph_New n xb with
  | none => rfl
  | some r => rfl
theorem Dist_of {N w : Nat} {d : Nat → Option Nat} {bk : List Int} {ls : List (List Int)} (h : w < N) : fn_bfs_Tree_Dist (some (dl N d, bk, ls)) (w : Int) = some (dN (d w)) := by
  unfold fn_bfs_Tree_Dist fn_bfs_Tree_isNode
  rw [show ((!(some (dl N d, bk, ls)).isNone) && decide (0 ≤ (w : Int))) = true by simp, cond_true, Option.bind_some, dl_len, show decide ((w : Int) < (N : Int)) = true from decide_eq_true (by omega)]
  simp only [Option.bind_some, Bool.not_true, cond_false]
  rw [dl_get h]
  rfl
theorem Dist_not {N : Nat} {w : Int} {d : Nat → Option Nat} {bk : List Int} {ls : List (List Int)} (h : w < 0 ∨ (N : Int) ≤ w) : fn_bfs_Tree_Dist (some (dl N d, bk, ls)) w = some (-1) := by
  unfold fn_bfs_Tree_Dist fn_bfs_Tree_isNode
  rcases h with h | h
  · rw [show decide (0 ≤ w) = false from decide_eq_false (by omega), Bool.and_false]; rfl
  · rw [show decide (0 ≤ w) = true from decide_eq_true (by omega), Bool.and_true]
    simp only [Option.isNone_some, Bool.not_false, cond_true, Option.bind_some]
    rw [dl_len, show decide (w < (N : Int)) = false from decide_eq_false (by omega)]
    rfl
theorem Back_of {N w : Nat} {d β : Nat → Option Nat} {ls : List (List Int)} (h : w < N) : fn_bfs_Tree_Back (some (dl N d, dl N β, ls)) (w : Int) = some (dN (β w)) := by
  unfold fn_bfs_Tree_Back fn_bfs_Tree_isNode
  rw [show ((!(some (dl N d, dl N β, ls)).isNone) && decide (0 ≤ (w : Int))) = true by simp, cond_true, Option.bind_some, dl_len, show decide ((w : Int) < (N : Int)) = true from decide_eq_true (by omega)]
  simp only [Option.bind_some, Bool.not_true, cond_false]
  rw [dl_get h]
  rfl
theorem Far_of {N m : Nat} {d β : Nat → Option Nat} (h : m ≤ 1000) : fn_bfs_Tree_Far (some (dl N d, dl N β, lyS N m d)) = some ((m : Int) - 1) := by
  unfold fn_bfs_Tree_Far
  simp only [Option.isNone_some, cond_false, Option.bind_some]
  rw [show (lyS N m d).length = m by simp [lyS], w64 (by omega) (by omega)]
theorem Layer_of {N m k : Nat} {d β : Nat → Option Nat} (h : m ≤ 1000) (hk : k < m) (hN : N ≤ 1000) : fn_bfs_Tree_Layer (some (dl N d, dl N β, lyS N m d)) (k : Int) = some (li ((List.range N).filter fun w => decide (d w = some k))) := by
  unfold fn_bfs_Tree_Layer
  rw [Far_of h, show decide ((k : Int) < 0) = false from decide_eq_false (by omega), cond_false]
  simp only [Option.bind_some]
  rw [show decide ((m : Int) - 1 < (k : Int)) = false from decide_eq_false (by omega), cond_false]
  have e1 : getI (lyS N m d) (k : Int) = some (li ((List.range N).filter fun w => decide (d w = some k))) := getI_map hk
  rw [e1]
  simp only [Option.bind_some]
  unfold fn_slices_Clone_int_int
  rw [clone_eq _ (by rw [li_len]; have := List.length_filter_le (fun w => decide (d w = some k)) (List.range N); rw [List.length_range] at this; omega)]
  rfl
/-- What rises by at most one over an arc is a bound from below. -/
theorem Wk.pot {E : ArG} {v k w : Nat} (h : Nat → Nat) (h0 : h v = 0) (hE : ∀ a b, (a, b) ∈ E → h b ≤ h a + 1) (hw : Wk E v k w) : h w ≤ k := by
  induction hw with
  | zero => omega
  | step _ e ih => have := hE _ _ e; omega
def E13 : ArG := [(0, 1), (0, 2), (2, 1), (1, 3), (2, 3)]
theorem awake13 : fn_law13_awake = some true := by
  have hE : inN 4 E13 := by unfold inN E13; decide
  obtain ⟨L, d, m, β, e, b⟩ := From_ok (v := 0) hE (by omega) (by decide) (by omega)
  have hpot : ∀ a c, (a, c) ∈ E13 → (match c with | 0 => 0 | 1 => 1 | 2 => 1 | _ => 2 : Nat) ≤ (match a with | 0 => 0 | 1 => 1 | 2 => 1 | _ => 2 : Nat) + 1 := by
    intro a c h
    simp [E13] at h
    rcases h with ⟨rfl, rfl⟩ | ⟨rfl, rfl⟩ | ⟨rfl, rfl⟩ | ⟨rfl, rfl⟩ | ⟨rfl, rfl⟩ <;> decide
  have lowb : ∀ j w, Wk E13 0 j w → (match w with | 0 => 0 | 1 => 1 | 2 => 1 | _ => 2 : Nat) ≤ j := fun j w h => Wk.pot (fun c => match c with | 0 => 0 | 1 => 1 | 2 => 1 | _ => 2) rfl hpot h
  have d0 : d 0 = some 0 := b.b.d0
  have d1 : d 1 = some 1 := (b.b.far 1 1).2 ⟨.step .zero (by decide), fun j h => lowb j 1 h⟩
  have d2 : d 2 = some 1 := (b.b.far 2 1).2 ⟨.step .zero (by decide), fun j h => lowb j 2 h⟩
  have d3 : d 3 = some 2 := (b.b.far 3 2).2 ⟨.step (a := 1) (.step .zero (by decide)) (by decide), fun j h => lowb j 3 h⟩
  have hm : m = 3 := by
    have h1 := b.l.top 3 2 d3
    by_cases c : m = 3
    · exact c
    · obtain ⟨w, hw⟩ := b.l.full 3 (by omega)
      have hwN := b.b.lt w ((b.b.mem w).2 (by rw [hw]; rfl))
      match w, hwN with
      | 0, _ => rw [d0] at hw; cases hw
      | 1, _ => rw [d1] at hw; cases hw
      | 2, _ => rw [d2] at hw; cases hw
      | 3, _ => rw [d3] at hw; cases hw
  subst hm
  have β3 : β 3 = some 3 := by
    obtain ⟨j, h1, h2⟩ := b.low 3 3 ⟨by decide, 1, rfl, d1, d3⟩
    obtain ⟨hj, k, h3, _⟩ := b.yes 3 j h1
    match j, h2, hj, h3, h1 with
    | 0, _, _, h3, _ => cases h3
    | 1, _, _, h3, _ => cases h3
    | 2, _, _, h3, _ => cases h3
    | 3, _, _, _, h1 => exact h1
  unfold fn_law13_awake
  rw [Of_eq _ _ (by decide), show ([(0, 1), (0, 2), (2, 1), (1, 3), (2, 3)] : List (Int × Int)) = ai E13 from rfl, show (4 : Int) = ((4 : Nat) : Int) from rfl, New_ok hE (by omega) (by decide)]
  simp only [Option.bind_some]
  rw [show (0 : Int) = ((0 : Nat) : Int) from rfl, e]
  simp only [Option.bind_some]
  have x1 : fn_bfs_Tree_Dist (some (dl 4 d, dl 4 β, lyS 4 3 d)) 3 = some 2 := by rw [show (3 : Int) = ((3 : Nat) : Int) from rfl, Dist_of (by omega), d3]; rfl
  have x2 : fn_bfs_Tree_Back (some (dl 4 d, dl 4 β, lyS 4 3 d)) 3 = some 3 := by rw [show (3 : Int) = ((3 : Nat) : Int) from rfl, Back_of (by omega), β3]; rfl
  have x3 : fn_bfs_Tree_Layer (some (dl 4 d, dl 4 β, lyS 4 3 d)) 1 = some [1, 2] := by
    rw [show (1 : Int) = ((1 : Nat) : Int) from rfl, Layer_of (by omega) (by omega) (by omega)]
    have : (List.range 4).filter (fun w => decide (d w = some 1)) = [1, 2] := by
      rw [show List.range 4 = [0, 1, 2, 3] from rfl]
      simp [d0, d1, d2, d3]
    rw [this]; rfl
  have x4 : fn_bfs_Tree_Far (some (dl 4 d, dl 4 β, lyS 4 3 d)) = some 2 := Far_of (by omega)
  rw [x1, x2, x3, x4]
  simp only [Option.bind_some]
  rw [same01_eq _ _ (by simp)]
  rfl
theorem Bend.lt {N : Nat} {E : ArG} {v : Nat} {L : List Nat} {d : Nat → Option Nat} {m : Nat} {β : Nat → Option Nat} (h : Bend N E v L d m β) {w k : Nat} (hw : d w = some k) : k < N := by
  have h1 := h.l.top w k hw
  have h2 := h.l.le h.b.mem h.b.len
  omega
theorem BfsMiddle_true (xa : Int) (xb : (List (Int × Int))) (xc : Int) (xd : Int) (xe : Int) (k0 : Tp.Ok (.int .i64) xa) (k1 : Tp.Ok (.sl (.cons (.int .i64) (.one (.int .i64)))) xb) (k2 : Tp.Ok (.int .i64) xc) (k3 : Tp.Ok (.int .i64) xd) (k4 : Tp.Ok (.int .i64) xe) : fn_law13_BfsMiddle xa xb xc xd xe = some true := by
  unfold fn_law13_BfsMiddle
  rw [awake13]
  simp only [Option.bind_some]
  by_cases hlen : 30 < xb.length
  · have : decide ((30 : Int) < ((xb.length : Nat) : Int)) = true := decide_eq_true (by omega)
    rw [this, Bool.or_true]; rfl
  have hl0 : decide ((30 : Int) < ((xb.length : Nat) : Int)) = false := decide_eq_false (by omega)
  by_cases hmid : 12 < xa
  · rw [decide_eq_true hmid]; rfl
  rw [hl0, show decide (12 < xa) = false from decide_eq_false hmid, Bool.or_self, cond_false, Of_eq _ _ (by omega)]
  rcases New_eq xa xb (by omega) with ⟨h, e⟩ | ⟨h, e⟩ | ⟨h1, h2, h3, e⟩ | ⟨N, E, rfl, hN, rfl, hE, hout, e⟩
  · rw [e]; rfl
  · omega
  · rw [e]; rfl
  have hEl : E.length ≤ 30 := by rw [ai_len] at hlen; omega
  rw [e]
  simp only [Option.bind_some, decide_true, Bool.not_true, Bool.false_or]
  by_cases hg : xc < 0 ∨ (N : Int) ≤ xc ∨ xd < 0 ∨ (N : Int) ≤ xd
  · have : (((decide (xc < 0) || decide ((N : Int) ≤ xc)) || decide (xd < 0)) || decide ((N : Int) ≤ xd)) = true := by simp; omega
    rw [this, cond_true]
  have hg0 : (((decide (xc < 0) || decide ((N : Int) ≤ xc)) || decide (xd < 0)) || decide ((N : Int) ≤ xd)) = false := by simp; omega
  rw [hg0, cond_false]
  obtain ⟨v, rfl⟩ := Int.eq_ofNat_of_zero_le (show 0 ≤ xc by omega)
  obtain ⟨u, rfl⟩ := Int.eq_ofNat_of_zero_le (show 0 ≤ xd by omega)
  have hv : v < N := by omega
  have hu : u < N := by omega
  obtain ⟨L1, d1, m1, β1, e1, b1⟩ := From_ok hE (by omega) (by omega) hv
  obtain ⟨L2, d2, m2, β2, e2, b2⟩ := From_ok hE (by omega) (by omega) hu
  obtain ⟨L3, d3, m3, β3, e3, b3⟩ := From_ok (tn_in hE) (by omega) (by rw [tn_len]; omega) hu
  rw [e1, e2]
  simp only [Option.bind_some]
  rw [Dist_of hv, Dist_of hu, b1.b.d0]
  simp only [Option.bind_some]
  rw [show (!decide (dN (some 0) = 0)) = false from rfl, cond_false]
  have hx : ∀ dist : Option Int, dist = fn_bfs_Tree_Dist (some (dl N d2, dl N β2, lyS N m2 d2)) xe → True := fun _ _ => trivial
  have key : ((cond (decide (0 ≤ dN (d1 u))) ((fn_bfs_Tree_Dist (some (dl N d2, dl N β2, lyS N m2 d2)) xe).bind fun i => some (decide (0 ≤ i))) (some false) : Option Bool).bind fun t => (cond t ((fn_bfs_Tree_Dist (some (dl N d1, dl N β1, lyS N m1 d1)) xe).bind fun i => (cond (decide (i < 0)) (some true) ((fn_bfs_Tree_Dist (some (dl N d1, dl N β1, lyS N m1 d1)) xe).bind fun i => (fn_bfs_Tree_Dist (some (dl N d2, dl N β2, lyS N m2 d2)) xe).bind fun j => some (decide (IntKind.wrap .i64 (dN (d1 u) + j) < i))) : Option Bool).bind fun t => some t) (some false) : Option Bool).bind fun t => some t) = some false := by
    cases hk : d1 u with
    | none => rfl
    | some k =>
      rw [show decide (0 ≤ dN (some k)) = true from decide_eq_true (by show (0 : Int) ≤ (k : Int); omega), cond_true]
      by_cases hxe : xe < 0 ∨ (N : Int) ≤ xe
      · rw [Dist_not hxe]; rfl
      obtain ⟨x, rfl⟩ := Int.eq_ofNat_of_zero_le (show 0 ≤ xe by omega)
      have hxN : x < N := by omega
      rw [Dist_of hxN, Dist_of hxN]
      cases hj : d2 x with
      | none => rfl
      | some j =>
        have f1 := (b1.b.far u k).1 hk
        have f2 := (b2.b.far x j).1 hj
        have hr := (f1.1.trans f2.1).rch
        cases hi : d1 x with
        | none => exact absurd hr ((b1.b.far_not x).1 hi)
        | some i =>
          have f3 := (b1.b.far x i).1 hi
          have hm := f1.middle f2 f3
          have hkN := b1.lt hk
          have hjN := b2.lt hj
          simp only [Option.bind_some]
          rw [show decide (0 ≤ dN (some j)) = true from decide_eq_true (by show (0 : Int) ≤ (j : Int); omega), cond_true, show decide (dN (some i) < 0) = false from decide_eq_false (by show ¬ ((i : Int) < 0); omega), cond_false, show dN (some k) + dN (some j) = ((k + j : Nat) : Int) from rfl, w64 (by omega) (by omega), show decide (((k + j : Nat) : Int) < dN (some i)) = false from decide_eq_false (by show ¬ (((k + j : Nat) : Int) < (i : Int)); omega)]
          rfl
  rw [key]
  simp only [Option.bind_some, cond_false]
  rw [Turn_of hE (by omega) (by omega)]
  simp only [Option.bind_some]
  rw [e3]
  simp only [Option.bind_some]
  rw [Dist_of hv]
  have : d3 v = d1 u := by
    cases hk : d1 u with
    | none =>
      cases h3 : d3 v with
      | none => rfl
      | some k => rw [(b1.b.far u k).2 (Far.turn.1 ((b3.b.far v k).1 h3))] at hk; cases hk
    | some k => exact (b3.b.far v k).2 (Far.turn.2 ((b1.b.far u k).1 hk))
  simp only [Option.bind_some]
  rw [this, decide_eq_true rfl]
  rfl
end Go.Proofs.Ytepfibiddkcpkaa
namespace Go.Proofs.Ytepfibiddkcpkaa
open Go.RowKit
set_option linter.unusedVariables false
set_option linter.unusedSimpArgs false
set_option linter.unnecessarySimpa false
theorem Bend.closed {N : Nat} {E : ArG} {v : Nat} {L : List Nat} {d : Nat → Option Nat} {m : Nat} {β : Nat → Option Nat} (h : Bend N E v L d m β) {a b k : Nat} (e : (a, b) ∈ E) (ha : d a = some k) : ∃ j, d b = some j ∧ j ≤ k + 1 := by
  obtain ⟨i, hi, e2⟩ := List.mem_iff_getElem.1 ((h.b.mem a).2 (by rw [ha]; rfl))
  exact h.b.done i a b k hi (by rw [List.getElem?_eq_getElem hi, e2]) e ha
theorem Bend.zero {N : Nat} {E : ArG} {v : Nat} {L : List Nat} {d : Nat → Option Nat} {m : Nat} {β : Nat → Option Nat} (h : Bend N E v L d m β) {x : Nat} (hx : d x = some 0) : β x = none := by
  cases hβ : β x with
  | none => rfl
  | some j =>
    obtain ⟨_, k, _, _, e⟩ := h.yes x j hβ
    rw [hx] at e; cases e
theorem Bend.back {N : Nat} {E : ArG} {v : Nat} {L : List Nat} {d : Nat → Option Nat} {m : Nat} {β : Nat → Option Nat} (h : Bend N E v L d m β) {x k : Nat} (hx : d x = some (k + 1)) : ∃ (j : Nat) (hj : j < E.length), β x = some j ∧ E[j].2 = x ∧ d E[j].1 = some k := by
  have hf := (h.b.far x (k + 1)).1 hx
  have : ∃ a, Wk E v k a ∧ (a, x) ∈ E := by
    cases hf.1 with
    | step g e => exact ⟨_, g, e⟩
  obtain ⟨a, g, e⟩ := this
  have hda : d a = some k := by
    cases ha : d a with
    | none => exact absurd g.rch ((h.b.far_not a).1 ha)
    | some j =>
      obtain ⟨i, h1, h2⟩ := h.closed e ha
      rw [hx] at h1; cases h1
      have := ((h.b.far a j).1 ha).2 _ g
      congr 1; omega
  obtain ⟨i, hi, ei⟩ := List.mem_iff_getElem.1 e
  obtain ⟨j, h1, _⟩ := h.low x i ⟨hi, k, by rw [ei], by rw [ei]; exact hda, hx⟩
  obtain ⟨hj, l, h2, h3, h4⟩ := h.yes x j h1
  rw [hx] at h4; cases h4
  exact ⟨j, hj, h1, h2, h3⟩
/-- How many are nearer than k. -/
def ncnt (N : Nat) (d : Nat → Option Nat) (k : Nat) : Nat := (List.range N).countP fun w => match d w with | some j => decide (j < k) | none => false
theorem ncnt_succ (N : Nat) (d : Nat → Option Nat) (k : Nat) : ncnt N d (k + 1) = ncnt N d k + ((List.range N).filter fun w => decide (d w = some k)).length := by
  unfold ncnt
  rw [← List.countP_eq_length_filter]
  induction List.range N with
  | nil => rfl
  | cons x xs ih =>
    rw [List.countP_cons, List.countP_cons, List.countP_cons, ih]
    cases hd : d x with
    | none => simp
    | some j =>
      by_cases c : j = k
      · subst c; simp; omega
      · by_cases c2 : j < k
        · simp [c, c2, show j < k + 1 by omega]; omega
        · simp [c, c2, show ¬ j < k + 1 by omega]
theorem ncnt_zero (N : Nat) (d : Nat → Option Nat) : ncnt N d 0 = 0 := by
  unfold ncnt
  rw [List.countP_eq_zero]
  intro w _
  cases d w <;> simp
theorem ncnt_le (N : Nat) (d : Nat → Option Nat) (k : Nat) : ncnt N d k ≤ N := by
  have := List.countP_le_length (p := fun w => match d w with | some j => decide (j < k) | none => false) (l := List.range N)
  rw [List.length_range] at this; exact this
theorem ncnt_all {N : Nat} {E : ArG} {v : Nat} {L : List Nat} {d : Nat → Option Nat} {m : Nat} {β : Nat → Option Nat} (hE : inN N E) (hv : v < N) (h : Bend N E v L d m β) : ncnt N d m = (rl N E v).length := by
  unfold ncnt
  rw [← rl_filter N E v, ← List.countP_eq_length_filter]
  apply List.countP_congr
  intro w _
  rw [decide_eq_true_iff, rl_mem hE hv]
  cases hd : d w with
  | none => simp; exact (h.b.far_not w).1 hd
  | some j => simp [h.l.top w j hd]; exact ((h.b.far w j).1 hd).1.rch
theorem l1_ok {N : Nat} {E : ArG} {v : Nat} {L : List Nat} {d : Nat → Option Nat} {m : Nat} {β : Nat → Option Nat} (hE : inN N E) (hN : N ≤ 1000) (he : E.length ≤ 10000) (h : Bend N E v L d m β) : loop (fn_law13_BfsLayers_l1 (ai E) (some (dl N d, dl N β, lyS N m d))) 0 = some (.inl ()) := by
  refine loop_nat (body := fn_law13_BfsLayers_l1 (ai E) (some (dl N d, dl N β, lyS N m d))) (fun k : Nat => (k : Int)) E.length ?_ ?_
  · intro i hi
    have h1 := (hE _ (List.getElem_mem hi)).1
    have h2 := (hE _ (List.getElem_mem hi)).2
    unfold fn_law13_BfsLayers_l1
    rw [ai_len, dlt hi, cond_true, getI_ai hi]
    simp only [Option.bind_some]
    rw [Dist_of h1, Dist_of h2, w64s hi (by omega)]
    simp only [Option.bind_some]
    cases hd : d E[i].1 with
    | none => rfl
    | some k =>
      obtain ⟨j, e1, e2⟩ := h.closed (a := E[i].1) (b := E[i].2) (List.getElem_mem hi) hd
      have hk := h.lt hd
      rw [e1, show decide (0 ≤ dN (some k)) = true from decide_eq_true (by show (0 : Int) ≤ (k : Int); omega), cond_true, show decide (dN (some j) < 0) = false from decide_eq_false (by show ¬ ((j : Int) < 0); omega), cond_false, show dN (some k) = (k : Int) from rfl, w64 (by omega) (by omega), show decide ((k : Int) + 1 < dN (some j)) = false from decide_eq_false (by show ¬ ((k : Int) + 1 < (j : Int)); omega), cond_false]
  · unfold fn_law13_BfsLayers_l1
    rw [ai_len, dge (Nat.lt_irrefl _), cond_false]
theorem l2_ok {N : Nat} {E : ArG} {v : Nat} {L : List Nat} {d : Nat → Option Nat} {m k : Nat} {β : Nat → Option Nat} (hE : inN N E) (hN : N ≤ 1000) (he : E.length ≤ 10000) (h : Bend N E v L d m β) {M : List Nat} (hM : ∀ x ∈ M, x < N ∧ d x = some k) (hMl : M.length ≤ 10000) : loop (fn_law13_BfsLayers_l2 (some (mkG N E)) (some (dl N d, dl N β, lyS N m d)) (k : Int) (li M)) 0 = some (.inl ()) := by
  refine loop_nat (body := fn_law13_BfsLayers_l2 (some (mkG N E)) (some (dl N d, dl N β, lyS N m d)) (k : Int) (li M)) (fun k : Nat => (k : Int)) M.length ?_ ?_
  · intro i hi
    obtain ⟨h1, h2⟩ := hM _ (List.getElem_mem hi)
    unfold fn_law13_BfsLayers_l2
    rw [li_len, dlt hi, cond_true, getI_li hi]
    simp only [Option.bind_some]
    rw [Back_of h1, w64s hi (by omega)]
    simp only [Option.bind_some]
    cases k with
    | zero => rw [h.zero h2, show dN none = -1 from rfl, Arc_of, dif_neg (by omega)]; rfl
    | succ k =>
      obtain ⟨j, hj, e1, e2, e3⟩ := h.back h2
      have h4 := (hE _ (List.getElem_mem hj)).1
      have hk := h.lt h2
      rw [e1, show dN (some j) = (j : Int) from rfl, Arc_of, dif_pos ⟨by omega, by omega⟩]
      simp only [Option.bind_some, Int.toNat_natCast]
      rw [show decide ((0 : Int) < ((k + 1 : Nat) : Int)) = true from decide_eq_true (by omega), Dist_of h4, e3, e2]
      simp only [Option.bind_some, decide_true, Bool.not_true, cond_false, cond_true, beq_self_eq_true]
      rw [w64 (by omega) (by omega), show decide (dN (some k) = ((k + 1 : Nat) : Int) - 1) = true from decide_eq_true (by show (k : Int) = _; omega)]
      rfl
  · unfold fn_law13_BfsLayers_l2
    rw [li_len, dge (Nat.lt_irrefl _), cond_false]
theorem l3_ok {N : Nat} {E : ArG} {v : Nat} {L : List Nat} {d : Nat → Option Nat} {m : Nat} {β : Nat → Option Nat} (hE : inN N E) (hN : N ≤ 1000) (he : E.length ≤ 10000) (h : Bend N E v L d m β) : loop (fn_law13_BfsLayers_l3 (some (mkG N E)) (some (dl N d, dl N β, lyS N m d))) (0, 0) = some (.inl ((ncnt N d m : Nat) : Int)) := by
  have hm := h.l.le h.b.mem h.b.len
  have := loop_nat (body := fn_law13_BfsLayers_l3 (some (mkG N E)) (some (dl N d, dl N β, lyS N m d))) (fun k : Nat => (((ncnt N d k : Nat) : Int), (k : Int))) m (b := .inl ((ncnt N d m : Nat) : Int)) ?_ ?_
  · simpa [ncnt_zero] using this
  · intro k hk
    have hfl : ((List.range N).filter fun w => decide (d w = some k)).length ≤ N := by have := List.length_filter_le (fun w => decide (d w = some k)) (List.range N); rw [List.length_range] at this; exact this
    unfold fn_law13_BfsLayers_l3
    dsimp only
    rw [Far_of (by omega)]
    simp only [Option.bind_some]
    rw [show decide ((k : Int) ≤ (m : Int) - 1) = true from decide_eq_true (by omega), cond_true, Layer_of (by omega) hk hN]
    simp only [Option.bind_some]
    rw [l2_ok hE hN he h (fun x hx => by
      rw [List.mem_filter, List.mem_range] at hx
      exact ⟨hx.1, of_decide_eq_true hx.2⟩) (by omega)]
    simp only [Option.bind_some]
    have hc := ncnt_le N d (k + 1)
    rw [ncnt_succ] at hc
    rw [li_len, w64 (x := ((ncnt N d k : Nat) : Int) + _) (by omega) (by omega), w64s hk (by omega), ncnt_succ]
    congr 3
  · unfold fn_law13_BfsLayers_l3
    dsimp only
    rw [Far_of (by omega)]
    simp only [Option.bind_some]
    rw [show decide ((m : Int) ≤ (m : Int) - 1) = false from decide_eq_false (by omega), cond_false]
theorem BfsLayers_true (xa : Int) (xb : (List (Int × Int))) (xc : Int) (k0 : Tp.Ok (.int .i64) xa) (k1 : Tp.Ok (.sl (.cons (.int .i64) (.one (.int .i64)))) xb) (k2 : Tp.Ok (.int .i64) xc) : fn_law13_BfsLayers xa xb xc = some true := by
  unfold fn_law13_BfsLayers
  rw [awake13]
  simp only [Option.bind_some]
  by_cases hlen : 40 < xb.length
  · have : decide ((40 : Int) < ((xb.length : Nat) : Int)) = true := decide_eq_true (by omega)
    rw [this, Bool.or_true]; rfl
  have hl0 : decide ((40 : Int) < ((xb.length : Nat) : Int)) = false := decide_eq_false (by omega)
  by_cases hmid : 16 < xa
  · rw [decide_eq_true hmid]; rfl
  rw [hl0, show decide (16 < xa) = false from decide_eq_false hmid, Bool.or_self, cond_false, Of_eq _ _ (by omega)]
  rcases New_eq xa xb (by omega) with ⟨h, e⟩ | ⟨h, e⟩ | ⟨h1, h2, h3, e⟩ | ⟨N, E, rfl, hN, rfl, hE, hout, e⟩
  · rw [e]; rfl
  · omega
  · rw [e]; rfl
  have hEl : E.length ≤ 40 := by rw [ai_len] at hlen; omega
  rw [e]
  simp only [Option.bind_some, decide_true, Bool.not_true, cond_false]
  by_cases hv : xc < 0 ∨ (N : Int) ≤ xc
  · rw [From_not (by omega) hv, Reach_not hv]
    simp only [Option.bind_some]
    have e1 : loop (fn_law13_BfsLayers_l1 (ai E) (some (dl N (fun _ => none), dl N (fun _ => none), []))) 0 = some (.inl ()) := by
      refine loop_nat (body := fn_law13_BfsLayers_l1 (ai E) (some (dl N (fun _ => none), dl N (fun _ => none), []))) (fun k : Nat => (k : Int)) E.length ?_ ?_
      · intro i hi
        unfold fn_law13_BfsLayers_l1
        rw [ai_len, dlt hi, cond_true, getI_ai hi]
        simp only [Option.bind_some]
        rw [Dist_of (hE _ (List.getElem_mem hi)).1, w64s hi (by omega)]
        rfl
      · unfold fn_law13_BfsLayers_l1
        rw [ai_len, dge (Nat.lt_irrefl _), cond_false]
    rw [e1]
    simp only [Option.bind_some]
    rw [loop_end (b := .inl 0) rfl]
    rfl
  · obtain ⟨v, rfl⟩ := Int.eq_ofNat_of_zero_le (show 0 ≤ xc by omega)
    have hvN : v < N := by omega
    obtain ⟨L, d, m, β, e1, b⟩ := From_ok hE (by omega) (by omega) hvN
    rw [e1, Reach_of hE hN (by omega) hvN]
    simp only [Option.bind_some]
    rw [l1_ok hE (by omega) (by omega) b]
    simp only [Option.bind_some]
    rw [l3_ok hE (by omega) (by omega) b]
    simp only [Option.bind_some]
    rw [li_len, ncnt_all hE hvN b, decide_eq_true rfl]
    rfl
end Go.Proofs.Ytepfibiddkcpkaa
namespace Go.Proofs.Ytepfibiddkcpkaa
open Go.RowKit
set_option linter.unusedVariables false
set_option linter.unusedSimpArgs false
set_option linter.unnecessarySimpa false
open Classical in
/-- Distances up to k, and those one more that the first i arcs tell. -/
noncomputable def stp (E : ArG) (d : Nat → Option Nat) (k i w : Nat) : Option Nat := match d w with
  | some j => if j ≤ k ∨ (j = k + 1 ∧ ∃ (q : Nat) (h : q < E.length), q < i ∧ E[q].2 = w ∧ d E[q].1 = some k) then some j else none
  | none => none
theorem stp_some {E : ArG} {d : Nat → Option Nat} {k i w j : Nat} (h : stp E d k i w = some j) : d w = some j := by
  unfold stp at h
  split at h
  · rename_i j' e
    split at h
    · cases h; exact e
    · cases h
  · cases h
theorem stp_low {E : ArG} {d : Nat → Option Nat} {k i w j : Nat} (h : d w = some j) (hj : j ≤ k) : stp E d k i w = some j := by
  unfold stp
  rw [h]
  simp [hj]
open Classical in
theorem stp_succ {E : ArG} {d : Nat → Option Nat} {k i : Nat} (hi : i < E.length) (x : Nat) : stp E d k (i + 1) x = if d E[i].1 = some k ∧ x = E[i].2 ∧ d x = some (k + 1) then some (k + 1) else stp E d k i x := by
  by_cases c : d E[i].1 = some k ∧ x = E[i].2 ∧ d x = some (k + 1)
  · rw [if_pos c]
    unfold stp
    rw [c.2.2]
    dsimp only
    rw [if_pos (.inr ⟨rfl, i, hi, by omega, c.2.1.symm, c.1⟩)]
  · rw [if_neg c]
    unfold stp
    cases hd : d x with
    | none => rfl
    | some j =>
      simp only
      have : (j ≤ k ∨ (j = k + 1 ∧ ∃ (q : Nat) (h : q < E.length), q < i + 1 ∧ E[q].2 = x ∧ d E[q].1 = some k)) ↔ (j ≤ k ∨ (j = k + 1 ∧ ∃ (q : Nat) (h : q < E.length), q < i ∧ E[q].2 = x ∧ d E[q].1 = some k)) := by
        refine or_congr_right (and_congr_right fun hj => ⟨?_, ?_⟩)
        · rintro ⟨q, h, h1, h2, h3⟩
          by_cases e : q = i
          · subst e; subst hj; exact absurd ⟨h3, h2.symm, hd⟩ c
          · exact ⟨q, h, by omega, h2, h3⟩
        · rintro ⟨q, h, h1, h2, h3⟩; exact ⟨q, h, by omega, h2, h3⟩
      by_cases g : (j ≤ k ∨ (j = k + 1 ∧ ∃ (q : Nat) (h : q < E.length), q < i ∧ E[q].2 = x ∧ d E[q].1 = some k))
      · rw [if_pos g, if_pos (this.2 g)]
      · rw [if_neg g, if_neg (fun h => g (this.1 h))]
theorem dN_eq {o : Option Nat} {k : Nat} : dN o = (k : Int) ↔ o = some k := by
  cases o with
  | none => simp [dN] <;> omega
  | some j => simp [dN] <;> omega
theorem dN_neg {o : Option Nat} : dN o < 0 ↔ o = none := by
  cases o with
  | none => simp [dN]
  | some j => simp [dN]
theorem inner13 {N : Nat} {E : ArG} {v : Nat} {L : List Nat} {d : Nat → Option Nat} {m : Nat} {β : Nat → Option Nat} (hE : inN N E) (he : E.length ≤ 10000) (h : Bend N E v L d m β) {k : Nat} (hk : k ≤ 1000) :
    loop (fn_ref13_Dist_l2 (ai E) (k : Int)) (dl N (stp E d k 0), 0) = some (dl N (stp E d k E.length)) := by
  refine loop_nat (body := fn_ref13_Dist_l2 (ai E) (k : Int)) (fun i : Nat => (dl N (stp E d k i), (i : Int))) E.length ?_ ?_
  · intro i hi
    have ha := (hE _ (List.getElem_mem hi)).1
    have hb := (hE _ (List.getElem_mem hi)).2
    have same : ¬ (d E[i].1 = some k ∧ d E[i].2 = some (k + 1)) → dl N (stp E d k (i + 1)) = dl N (stp E d k i) := fun hn => by
      unfold dl
      apply map_congr_range
      intro x hx
      rw [stp_succ hi, if_neg (fun ⟨c1, c2, c3⟩ => hn ⟨c1, by rw [← c2]; exact c3⟩)]
    unfold fn_ref13_Dist_l2
    dsimp only
    rw [ai_len, dlt hi, cond_true, getI_ai hi]
    simp only [Option.bind_some]
    rw [dl_get ha, dl_get hb, w64s hi (by omega)]
    simp only [Option.bind_some]
    by_cases c : d E[i].1 = some k
    · obtain ⟨j, e1, e2⟩ := h.closed (a := E[i].1) (b := E[i].2) (List.getElem_mem hi) c
      rw [show decide (dN (stp E d k i E[i].1) = (k : Int)) = true from decide_eq_true (dN_eq.2 (stp_low c (Nat.le_refl _))), cond_true]
      simp only [Option.bind_some]
      cases hs : stp E d k i E[i].2 with
      | some j' =>
        rw [show decide (dN (some j') < 0) = false from decide_eq_false (fun hh => by have := dN_neg.1 hh; cases this), cond_false]
        have : dl N (stp E d k (i + 1)) = dl N (stp E d k i) := by
          unfold dl
          apply map_congr_range
          intro x hx
          rw [stp_succ hi]
          split
          · rename_i hc
            have e3 : d E[i].2 = some (k + 1) := by rw [← hc.2.1]; exact hc.2.2
            have e4 := stp_some hs
            rw [e3] at e4; cases e4
            rw [hc.2.1, hs]
          · rfl
        rw [this]
      | none =>
        have hj : j = k + 1 := by
          by_cases hj : j ≤ k
          · rw [stp_low e1 hj] at hs; cases hs
          · omega
        subst hj
        rw [show decide (dN none < 0) = true from rfl, cond_true]
        simp only [Option.bind_some, Int.toNat_natCast]
        rw [w64 (x := (k : Int) + 1) (by omega) (by omega), show (k : Int) + 1 = ((k + 1 : Nat) : Int) by omega, dl_set hb]
        congr 3
        unfold dl
        apply map_congr_range
        intro x hx
        rw [stp_succ hi]
        show dN (if x = E[i].2 then some (k + 1) else stp E d k i x) = _
        by_cases cx : x = E[i].2
        · rw [if_pos cx, if_pos ⟨c, cx, by rw [cx]; exact e1⟩]
        · rw [if_neg cx, if_neg (fun hc => cx hc.2.1)]
    · rw [show decide (dN (stp E d k i E[i].1) = (k : Int)) = false from decide_eq_false (fun hh => c (stp_some (dN_eq.1 hh))), cond_false]
      simp only [Option.bind_some, cond_false]
      rw [same (fun hh => c hh.1)]
  · unfold fn_ref13_Dist_l2
    dsimp only
    rw [ai_len, dge (Nat.lt_irrefl _), cond_false]
theorem round13 {N : Nat} {E : ArG} {v : Nat} {L : List Nat} {d : Nat → Option Nat} {m : Nat} {β : Nat → Option Nat} (h : Bend N E v L d m β) (k : Nat) : dl N (stp E d k E.length) = dl N (stp E d (k + 1) 0) := by
  unfold dl
  apply map_congr_range
  intro x hx
  unfold stp
  cases hd : d x with
  | none => rfl
  | some j =>
    simp only
    have : (j ≤ k ∨ (j = k + 1 ∧ ∃ (q : Nat) (h : q < E.length), q < E.length ∧ E[q].2 = x ∧ d E[q].1 = some k)) ↔ (j ≤ k + 1 ∨ (j = k + 1 + 1 ∧ ∃ (q : Nat) (h : q < E.length), q < 0 ∧ E[q].2 = x ∧ d E[q].1 = some (k + 1))) := by
      constructor
      · rintro (h1 | ⟨h1, _⟩)
        · exact .inl (by omega)
        · exact .inl (by omega)
      · rintro (h1 | ⟨_, q, _, h2, _⟩)
        · by_cases e : j ≤ k
          · exact .inl e
          · obtain rfl : j = k + 1 := by omega
            obtain ⟨q, hq, _, h3, h4⟩ := h.back hd
            exact .inr ⟨rfl, q, hq, hq, h3, h4⟩
        · omega
    by_cases g : (j ≤ k ∨ (j = k + 1 ∧ ∃ (q : Nat) (h : q < E.length), q < E.length ∧ E[q].2 = x ∧ d E[q].1 = some k))
    · rw [if_pos g, if_pos (this.1 g)]
    · rw [if_neg g, if_neg (fun hh => g (this.2 hh))]
theorem refDist0 {N : Nat} {v : Int} (hN : N ≤ 1000) : loop (fn_ref13_Dist_l1 (N : Int)) ([], 0) = some (dl N fun _ => none) := by
  rw [← rep_dl]
  refine loop_nat (body := fn_ref13_Dist_l1 (N : Int)) (fun i : Nat => (List.replicate i (-1 : Int), (i : Int))) N ?_ ?_
  · intro i hi
    unfold fn_ref13_Dist_l1
    dsimp only
    rw [dlt hi, cond_true, app_eq (by rw [List.length_replicate]; simp; omega), Option.bind_some, w64s hi (by omega), List.replicate_succ']
  · unfold fn_ref13_Dist_l1
    dsimp only
    rw [dge (Nat.lt_irrefl _), cond_false]
theorem refDist_ok {N : Nat} {E : ArG} {v : Nat} {L : List Nat} {d : Nat → Option Nat} {m : Nat} {β : Nat → Option Nat} (hE : inN N E) (hN : N ≤ 1000) (he : E.length ≤ 10000) (hv : v < N) (h : Bend N E v L d m β) :
    fn_ref13_Dist (N : Int) (ai E) (v : Int) = some (dl N d) := by
  unfold fn_ref13_Dist
  rw [refDist0 (v := (v : Int)) hN]
  simp only [Option.bind_some]
  rw [show decide ((v : Int) < 0) = false from decide_eq_false (by omega), show decide ((N : Int) ≤ (v : Int)) = false from decide_eq_false (by omega), Bool.or_self, cond_false, dl_get hv]
  simp only [Option.bind_some, Int.toNat_natCast]
  have e0 := dl_set (k := 0) (d := fun _ => none) hv
  rw [show ((0 : Nat) : Int) = 0 from rfl] at e0
  rw [e0]
  have e1 : dl N (fun x => if x = v then some 0 else none) = dl N (stp E d 0 0) := by
    unfold dl
    apply map_congr_range
    intro x hx
    show dN (if x = v then some 0 else none) = _
    by_cases c : x = v
    · rw [if_pos c, c, stp_low h.b.d0 (Nat.le_refl _)]
    · rw [if_neg c]
      unfold stp
      cases hd : d x with
      | none => rfl
      | some j =>
        simp only
        rw [if_neg]
        rintro (h1 | ⟨_, q, _, h2, _⟩)
        · obtain rfl : j = 0 := by omega
          have := ((h.b.far x 0).1 hd).1
          cases this
          exact c rfl
        · omega
  rw [e1]
  have := loop_nat (body := fn_ref13_Dist_l3 (N : Int) (ai E)) (fun k : Nat => (dl N (stp E d k 0), (k : Int))) N (b := dl N (stp E d N 0)) ?_ ?_
  · have e' : loop (fn_ref13_Dist_l3 (N : Int) (ai E)) (dl N (stp E d 0 0), 0) = _ := this
    rw [e']
    simp only [Option.bind_some]
    congr 1
    unfold dl
    apply map_congr_range
    intro x hx
    cases hd : d x with
    | none => unfold stp; rw [hd]
    | some j => rw [stp_low hd (by have := h.lt hd; omega)]
  · intro k hk
    unfold fn_ref13_Dist_l3
    dsimp only
    rw [dlt hk, cond_true, inner13 hE he h (by omega)]
    simp only [Option.bind_some]
    rw [round13 h, w64s hk (by omega)]
  · unfold fn_ref13_Dist_l3
    dsimp only
    rw [dge (Nat.lt_irrefl _), cond_false]
theorem refDist_not {N : Nat} {E : ArG} {v : Int} (hN : N ≤ 1000) (hv : v < 0 ∨ (N : Int) ≤ v) : fn_ref13_Dist (N : Int) (ai E) v = some (dl N fun _ => none) := by
  unfold fn_ref13_Dist
  rw [refDist0 (v := v) hN]
  simp only [Option.bind_some]
  have : (decide (v < 0) || decide ((N : Int) ≤ v)) = true := by simp; omega
  rw [this, cond_true]
theorem refBack_ok {N : Nat} {E : ArG} {d β : Nat → Option Nat} (hE : inN N E) (he : E.length ≤ 10000) (hd : ∀ w k, d w = some k → k ≤ 1000) (yes : ∀ w i : Nat, β w = some i → Lead E d i w) (low : ∀ w i : Nat, Lead E d i w → ∃ j, β w = some j ∧ j ≤ i) {w : Nat} (hw : w < N) :
    fn_ref13_Back (ai E) (dl N d) (w : Int) = some (dN (β w)) := by
  unfold fn_ref13_Back
  have hl := loop_find (body := fn_ref13_Back_l1 (ai E) (dl N d) (w : Int)) (fun i => Lead E d i w) (fun i : Nat => (i : Int)) E.length (fun i => (.inr (i : Int) : Unit ⊕ Int)) (.inl ()) ?_ ?_ ?_
  · rcases hl with ⟨k, h1, h2, h3, h4⟩ | ⟨h1, h2⟩
    · have h4' : loop (fn_ref13_Back_l1 (ai E) (dl N d) (w : Int)) 0 = _ := h4
      rw [h4']
      simp only [Option.bind_some]
      obtain ⟨j, e1, e2⟩ := low w k h2
      have : ¬ j < k := fun hlt => h3 j hlt (yes w j e1)
      obtain rfl : j = k := by omega
      rw [e1]; rfl
    · have h2' : loop (fn_ref13_Back_l1 (ai E) (dl N d) (w : Int)) 0 = _ := h2
      rw [h2']
      simp only [Option.bind_some]
      cases e : β w with
      | none => rfl
      | some j => exact absurd (yes w j e) (h1 j (yes w j e).1)
  · intro i hi hp
    have ha := (hE _ (List.getElem_mem hi)).1
    unfold fn_ref13_Back_l1
    rw [ai_len, dlt hi, cond_true, getI_ai hi]
    simp only [Option.bind_some]
    rw [w64s hi (by omega), dl_get hw, dl_get ha]
    simp only [Option.bind_some]
    by_cases c : E[i].2 = w
    · rw [show decide (((E[i].2 : Nat) : Int) = (w : Int)) = true from decide_eq_true (by rw [c]), cond_true]
      cases e : d w with
      | none => rfl
      | some k =>
        cases k with
        | zero => rfl
        | succ k =>
          rw [show decide ((0 : Int) < dN (some (k + 1))) = true from decide_eq_true (by show (0 : Int) < ((k + 1 : Nat) : Int); omega), cond_true, show dN (some (k + 1)) = ((k + 1 : Nat) : Int) from rfl, w64 (by have := hd _ _ e; omega) (by have := hd _ _ e; omega)]
          rw [show decide (dN (d E[i].1) = ((k + 1 : Nat) : Int) - 1) = false from decide_eq_false (fun hh => hp ⟨hi, k, c, dN_eq.1 (by rw [hh]; omega), e⟩), cond_false]
    · rw [show decide (((E[i].2 : Nat) : Int) = (w : Int)) = false from decide_eq_false (by omega), cond_false]
  · rintro i hi ⟨_, k, c, e1, e⟩
    have ha := (hE _ (List.getElem_mem hi)).1
    unfold fn_ref13_Back_l1
    rw [ai_len, dlt hi, cond_true, getI_ai hi]
    simp only [Option.bind_some]
    rw [dl_get hw, dl_get ha, show decide (((E[i].2 : Nat) : Int) = (w : Int)) = true from decide_eq_true (by rw [c]), cond_true]
    simp only [Option.bind_some]
    rw [e, e1, show decide ((0 : Int) < dN (some (k + 1))) = true from decide_eq_true (by show (0 : Int) < ((k + 1 : Nat) : Int); omega), cond_true, show dN (some (k + 1)) = ((k + 1 : Nat) : Int) from rfl, w64 (by have := hd _ _ e; omega) (by have := hd _ _ e; omega)]
    rw [show decide (dN (some k) = ((k + 1 : Nat) : Int) - 1) = true from decide_eq_true (by show (k : Int) = _; omega), cond_true]
  · unfold fn_ref13_Back_l1
    rw [ai_len, dge (Nat.lt_irrefl _), cond_false]
theorem refLayer_ok {N : Nat} {d : Nat → Option Nat} (hN : N ≤ 1000) (x : Int) : fn_ref13_Layer (dl N d) x = some (li ((List.range N).filter fun w => decide (dN (d w) = x) && decide (0 ≤ x))) := by
  unfold fn_ref13_Layer
  have := loop_nat (body := fn_ref13_Layer_l1 (dl N d) x) (fun i : Nat => (li ((List.range i).filter fun w => decide (dN (d w) = x) && decide (0 ≤ x)), (i : Int))) N (b := li ((List.range N).filter fun w => decide (dN (d w) = x) && decide (0 ≤ x))) ?_ ?_
  · have e' : loop (fn_ref13_Layer_l1 (dl N d) x) ([], 0) = _ := this
    rw [e']
    rfl
  · intro i hi
    unfold fn_ref13_Layer_l1
    dsimp only
    rw [dl_len, dlt hi, cond_true, dl_get hi]
    simp only [Option.bind_some]
    rw [w64s hi (by omega), List.range_succ, List.filter_append]
    cases hc : (decide (dN (d i) = x) && decide (0 ≤ x)) with
    | true =>
      have hfl := List.length_filter_le (fun w => decide (dN (d w) = x) && decide (0 ≤ x)) (List.range i)
      rw [List.length_range] at hfl
      rw [cond_true, app_eq (by rw [li_len]; simp; omega)]
      simp [li, hc]
    | false => simp [li, hc]
  · unfold fn_ref13_Layer_l1
    dsimp only
    rw [dl_len, dge (Nat.lt_irrefl _), cond_false]
theorem Layer_any {N m : Nat} {d β : Nat → Option Nat} (hm : m ≤ 1000) (hN : N ≤ 1000) (ht : ∀ w k : Nat, d w = some k → k < m) (x : Int) : fn_bfs_Tree_Layer (some (dl N d, dl N β, lyS N m d)) x = some (li ((List.range N).filter fun w => decide (dN (d w) = x) && decide (0 ≤ x))) := by
  by_cases hx : 0 ≤ x ∧ x < m
  · obtain ⟨k, rfl⟩ := Int.eq_ofNat_of_zero_le hx.1
    rw [Layer_of hm (by omega) hN]
    congr 2
    apply List.filter_congr
    intro w hw
    rw [decide_eq_true (p := 0 ≤ (k : Int)) (by omega), Bool.and_true]
    exact decide_eq_decide.2 dN_eq.symm
  · have : (List.range N).filter (fun w => decide (dN (d w) = x) && decide (0 ≤ x)) = [] := by
      rw [List.filter_eq_nil_iff]
      intro w _ hh
      simp only [Bool.and_eq_true, decide_eq_true_eq] at hh
      obtain ⟨h1, h2⟩ := hh
      obtain ⟨k, rfl⟩ := Int.eq_ofNat_of_zero_le h2
      have := ht _ _ (dN_eq.1 h1)
      omega
    rw [this]
    unfold fn_bfs_Tree_Layer
    rw [Far_of hm]
    by_cases h0 : x < 0
    · rw [decide_eq_true h0]; rfl
    · rw [decide_eq_false h0]
      simp only [Option.bind_some, cond_false]
      rw [decide_eq_true (p := (m : Int) - 1 < x) (by omega)]
      rfl
end Go.Proofs.Ytepfibiddkcpkaa
namespace Go.Proofs.Ytepfibiddkcpkaa
open Go.RowKit
set_option linter.unusedVariables false
set_option linter.unusedSimpArgs false
set_option linter.unnecessarySimpa false
theorem l1_same : fn_bfs_From_kpip0_iiiiiii_l1 = fn_bfs_From_kpiz_l1 := rfl
theorem l3_same : fn_bfs_From_kpip0_iiiiiii_l3 = fn_bfs_From_kpiz_l3 := rfl
/-- What the first p have cost. -/
def cost (E : ArG) (L : List Nat) : Nat := (L.map fun x => 1 + (occ (E.map (·.1)) x).length).sum
theorem add_ok {c n : Nat} {a0 a1 a2 a3 a4 a5 : Int} (hc : c ≤ 1000000000) (hn : n ≤ 1000000000) : fn_tick_Counter_Add_p0c6i_iiiiiii (n : Int) a0 a1 a2 a3 a4 a5 (c : Int) = some ((c + n : Nat) : Int) := by
  unfold fn_tick_Counter_Add_p0c6i_iiiiiii fn_tick_isPart fn_tick_sum
  simp only [Option.bind_some]
  rw [show ((decide ((0 : Int) ≤ 6) && decide ((6 : Int) < 7)) && decide (0 ≤ (n : Int))) = true by simp, cond_true, w64 (x := 9223372036854775807 - (n : Int)) (by omega) (by omega), show decide (9223372036854775807 - (n : Int) < (c : Int)) = false from decide_eq_false (by omega), cond_false, w64 (by omega) (by omega)]
  rfl
theorem outer_step_c {N : Nat} {E : ArG} {v : Nat} {L : List Nat} {p : Nat} {d : Nat → Option Nat} {m : Nat} {β : Nat → Option Nat} {T : List Nat} {q : List Int} {f : Int} (hE : inN N E) (hn : N ≤ 1000) (he : E.length ≤ 10000) (s : Sr N E v L p d m β T q f p) (ht : told E L p T) (hp : p < L.length) {c : Nat} (hc : c ≤ 100000000) :
    ∃ L' d' m' β' T' q' f', fn_bfs_From_kpip0_iiiiiii_l2 (some (mkG N E)) 0 0 0 0 0 0 ((c : Int), dl N d, dl N β, ly m L d, q, f, ((L.length - p : Nat) : Int)) = some (.inl (((c + (1 + (occ (E.map (·.1)) L[p]).length) : Nat) : Int), dl N d', dl N β', ly m' L' d', q', f', ((L'.length - (p + 1) : Nat) : Int)))
      ∧ Sr N E v L' (p + 1) d' m' β' T' q' f' (p + 1) ∧ told E L' (p + 1) T' ∧ L <+: L' := by
  have hLN := s.b.len
  have ha : L[p]? = some L[p] := List.getElem?_eq_getElem hp
  have haL : L[p] ∈ L := List.getElem_mem hp
  have haN := s.b.lt _ haL
  obtain ⟨k, hk⟩ := Option.isSome_iff_exists.1 ((s.b.mem _).1 haL)
  have hr := s.r
  have hdrop : li (L.drop p) = ((L[p] : Nat) : Int) :: li (L.drop (p + 1)) := by rw [List.drop_eq_getElem_cons hp]; rfl
  rw [hdrop] at hr
  obtain ⟨q1, f1, e1, r1, l1⟩ := Pop_eq hr (by have := s.ql; omega)
  have hm1 : ((L.length - p : Nat) : Int) - 1 = ((L.length - (p + 1) : Nat) : Int) := by omega
  rw [hm1] at e1 r1
  have hOl : (occ (E.map (·.1)) L[p]).length ≤ 10000 := by have := occ_bound (E.map (·.1)) L[p]; rw [List.length_map] at this; omega
  obtain ⟨L2, d2, m2, β2, q2, f2, e2, s2, a2, k2, t2, pf⟩ := inner_from (v := v) (p := p) (k := k) hE hn he (O := occ (E.map (·.1)) L[p]) (fun i hi => occ_arc hi) hOl _ 0 L d m β T q1 f1 (Nat.zero_add _) ⟨s.b, s.l, s.k, r1, by rw [l1]; exact s.ql⟩ ha hk (fun i hi => by simp at hi)
  have hnext := s2.b.next a2 k2 (fun b hb => by
    obtain ⟨i, hi, e⟩ := List.mem_iff_getElem.1 hb
    have := t2 i (occ_mem.2 ⟨by rw [List.length_map]; exact hi, by simp [e]⟩) hi
    rw [e] at this; exact this)
  refine ⟨L2, d2, m2, β2, _, q2, f2, ?_, ⟨hnext, s2.l, s2.k, s2.r, s2.ql⟩, ?_, pf⟩
  · unfold fn_bfs_From_kpip0_iiiiiii_l2 fn_stack_Queue_int_Len_p0_rii
    simp only [Option.bind_some]
    rw [show decide ((0 : Int) < ((L.length - p : Nat) : Int)) = true by simp; omega, cond_true, e1]
    simp only [Option.bind_some]
    rw [Out_of (by omega) (by omega) haN]
    simp only [Option.bind_some]
    rw [l1_same, List.length_map, w64 (x := 1 + (((occ (E.map (·.1)) L[p]).length : Nat) : Int)) (by omega) (by omega), show (1 : Int) + (((occ (E.map (·.1)) L[p]).length : Nat) : Int) = ((1 + (occ (E.map (·.1)) L[p]).length : Nat) : Int) by omega, add_ok (by omega) (by omega)]
    simp only [Option.bind_some]
    have e2' : loop (fn_bfs_From_kpiz_l1 (some (mkG N E)) ((L[p] : Nat) : Int) ((occ (E.map (·.1)) L[p]).map (fun i : Nat => (i : Int)))) (0, dl N d, dl N β, ly m L d, q1, f1, ((L.length - (p + 1) : Nat) : Int)) = _ := e2
    rw [e2']
    rfl
  · intro i
    have hp2 : p < L2.length := (List.getElem?_eq_some_iff.1 a2).1
    have hLp : L2[p] = L[p] := by rw [List.getElem?_eq_getElem hp2] at a2; exact Option.some.inj a2
    have hpre : L2.take p = L.take p := by
      obtain ⟨M, rfl⟩ := pf
      rw [List.take_append_of_le_length (by omega)]
    rw [take_snoc hp2, hpre, hLp, List.drop_zero, List.mem_append, ht i, occ_mem]
    constructor
    · rintro (⟨h, h1⟩ | ⟨h, h1⟩)
      · exact ⟨h, List.mem_append_left _ h1⟩
      · rw [List.length_map] at h
        exact ⟨h, List.mem_append_right _ (by simp at h1; simp [h1])⟩
    · rintro ⟨h, h1⟩
      rcases List.mem_append.1 h1 with h1 | h1
      · exact .inl ⟨h, h1⟩
      · simp at h1
        exact .inr ⟨by rw [List.length_map]; exact h, by simp [h1]⟩
theorem sum_const (L : List Nat) (k : Nat) : (L.map fun _ => k).sum = L.length * k := by
  induction L with
  | nil => simp
  | cons y L ih => rw [List.map_cons, List.sum_cons, ih, List.length_cons, Nat.succ_mul, Nat.add_comm]
theorem cnt_cons (k : Nat) (ks : List Nat) (x : Nat) : cnt (k :: ks) x = cnt ks x + (if k = x then 1 else 0) := by
  unfold cnt
  rw [List.countP_cons]
  by_cases h : k = x <;> simp [h]
theorem sum_hit {L : List Nat} (k : Nat) (h : L.Nodup) : (L.map fun x => if k = x then 1 else 0).sum ≤ 1 := by
  induction L with
  | nil => simp
  | cons y L ih =>
    rw [List.nodup_cons] at h
    rw [List.map_cons, List.sum_cons]
    by_cases c : k = y
    · subst c
      have : (L.map fun x => if k = x then 1 else 0).sum = 0 := by
        rw [List.map_congr_left (g := fun _ => 0) (fun x hx => if_neg (fun e => h.1 (by rw [e]; exact hx))), sum_const, Nat.mul_zero]
      rw [this, if_pos rfl]; omega
    · rw [if_neg c]; have := ih h.2; omega
theorem sum_add {L : List Nat} (f g : Nat → Nat) : (L.map fun x => f x + g x).sum = (L.map f).sum + (L.map g).sum := by
  induction L with
  | nil => rfl
  | cons y L ih => simp only [List.map_cons, List.sum_cons, ih]; omega
theorem sum_cnt {L : List Nat} (h : L.Nodup) : ∀ ks : List Nat, (L.map fun x => cnt ks x).sum ≤ ks.length
  | [] => by
    have : (L.map fun x => cnt [] x) = L.map fun _ => 0 := rfl
    rw [this, sum_const]; omega
  | k :: ks => by
    have h1 := sum_cnt h ks
    have h2 := sum_hit k h
    simp only [cnt_cons]
    rw [sum_add (fun x => cnt ks x) (fun x => if k = x then 1 else 0), List.length_cons]
    omega
theorem cost_le (E : ArG) {L : List Nat} (h : L.Nodup) : cost E L ≤ L.length + E.length := by
  have h1 := sum_cnt h (E.map (·.1))
  unfold cost
  rw [sum_add (fun _ => 1) (fun x => (occ (E.map (·.1)) x).length)]
  simp only [occ_len]
  rw [List.length_map] at h1
  have h2 : (L.map fun _ => 1).sum = L.length := by rw [sum_const, Nat.mul_one]
  omega
theorem outer_loop_c {N : Nat} {E : ArG} {v : Nat} (hE : inN N E) (hn : N ≤ 1000) (he : E.length ≤ 10000) : ∀ (r p : Nat) (L : List Nat) (d : Nat → Option Nat) (m : Nat) (β : Nat → Option Nat) (T : List Nat) (q : List Int) (f : Int) (c : Nat), N ≤ p + r → Sr N E v L p d m β T q f p → told E L p T → c = cost E (L.take p) →
    ∃ L' d' m' β', loop (fn_bfs_From_kpip0_iiiiiii_l2 (some (mkG N E)) 0 0 0 0 0 0) ((c : Int), dl N d, dl N β, ly m L d, q, f, ((L.length - p : Nat) : Int)) = some (((cost E L' : Nat) : Int), dl N d', dl N β', ly m' L' d') ∧ Bend N E v L' d' m' β' := by
  have fin : ∀ (p : Nat) (L : List Nat) (d : Nat → Option Nat) (m : Nat) (β : Nat → Option Nat) (T : List Nat) (q : List Int) (f : Int) (c : Nat), Sr N E v L p d m β T q f p → told E L p T → c = cost E (L.take p) → ¬ p < L.length →
      ∃ L' d' m' β', loop (fn_bfs_From_kpip0_iiiiiii_l2 (some (mkG N E)) 0 0 0 0 0 0) ((c : Int), dl N d, dl N β, ly m L d, q, f, ((L.length - p : Nat) : Int)) = some (((cost E L' : Nat) : Int), dl N d', dl N β', ly m' L' d') ∧ Bend N E v L' d' m' β' := by
    intro p L d m β T q f c s ht hc hp
    obtain rfl : p = L.length := by have := s.b.pl; omega
    refine ⟨L, d, m, β, ?_, s.b, s.l, fun w i h => (s.k.yes w i h).2, fun w i h => s.k.low w i ?_ h⟩
    · apply loop_end
      unfold fn_bfs_From_kpip0_iiiiiii_l2 fn_stack_Queue_int_Len_p0_rii
      simp only [Option.bind_some]
      rw [Nat.sub_self, hc, List.take_length]
      rfl
    · obtain ⟨hi, k, _, e2, _⟩ := h
      refine (ht i).2 ⟨hi, ?_⟩
      rw [List.take_length]
      exact (s.b.mem _).2 (by rw [e2]; rfl)
  intro r
  induction r with
  | zero =>
    intro p L d m β T q f c hr s ht hc
    exact fin p L d m β T q f c s ht hc (by have := s.b.len; omega)
  | succ r ih =>
    intro p L d m β T q f c hr s ht hc
    by_cases hp : p < L.length
    · have hb : cost E (L.take p) ≤ 20000 := by
        have h1 := cost_le E (s.b.nd.sublist (List.take_sublist p L))
        have h2 := s.b.len
        rw [List.length_take] at h1
        omega
      obtain ⟨L1, d1, m1, β1, T1, q1, f1, e1, s1, t1, pf⟩ := outer_step_c hE hn he s ht hp (c := c) (by omega)
      have hc1 : c + (1 + (occ (E.map (·.1)) L[p]).length) = cost E (L1.take (p + 1)) := by
        obtain ⟨M, rfl⟩ := pf
        rw [List.take_append_of_le_length (by omega), take_snoc hp, hc]
        unfold cost
        rw [List.map_append, List.sum_append, List.map_cons, List.map_nil, List.sum_cons, List.sum_nil, Nat.add_zero]
      obtain ⟨L2, d2, m2, β2, e2, b2⟩ := ih (p + 1) L1 d1 m1 β1 T1 q1 f1 _ (by omega) s1 t1 hc1
      exact ⟨L2, d2, m2, β2, by rw [loop_next e1]; exact e2, b2⟩
    · exact fin p L d m β T q f c s ht hc hp
theorem From_c_ok {N : Nat} {E : ArG} {v : Nat} (hE : inN N E) (hn : N ≤ 16) (he : E.length ≤ 10000) (hv : v < N) : ∃ L d m β, fn_bfs_From_kpip0_iiiiiii (some (mkG N E)) (v : Int) 0 0 0 0 0 0 0 = some (some (dl N d, dl N β, lyS N m d), ((cost E L : Nat) : Int)) ∧ Bend N E v L d m β := by
  obtain ⟨L, d, m, β, e, b⟩ := outer_loop_c (v := v) hE (by omega) he N 0 [v] (fun w => if w = v then some 0 else none) 1 (fun _ => none) [] [(v : Int)] 0 0 (by omega) ⟨Bfs.start hv, Lm.start v, Bck.start E _, RQ.one _, by simp⟩ (fun i => by simp) rfl
  refine ⟨L, d, m, β, ?_, b⟩
  unfold fn_bfs_From_kpip0_iiiiiii
  rw [Nodes_eq]
  simp only [Option.bind_some]
  rw [Repeat_eq hn, rep_dl]
  simp only [Option.bind_some]
  rw [show decide (0 ≤ (v : Int)) = true by simp, cond_true, Option.bind_some, show decide ((v : Int) < (N : Int)) = true by simp; omega, cond_true, start_ok hv]
  simp only [Option.bind_some]
  rw [Push_first]
  simp only [Option.bind_some]
  have e' : loop (fn_bfs_From_kpip0_iiiiiii_l2 (some (mkG N E)) 0 0 0 0 0 0) (0, dl N (fun w => if w = v then some 0 else none), dl N (fun _ => none), ly 1 [v] (fun w => if w = v then some 0 else none), [(v : Int)], 0, 1) = _ := e
  rw [e']
  simp only [Option.bind_some]
  rw [l3_same, sort_loop b (by omega)]
  rfl
theorem From_c_not {N : Nat} {E : ArG} {v : Int} (hn : N ≤ 16) (hv : v < 0 ∨ (N : Int) ≤ v) : fn_bfs_From_kpip0_iiiiiii (some (mkG N E)) v 0 0 0 0 0 0 0 = some (some (dl N (fun _ => none), dl N (fun _ => none), []), 0) := by
  unfold fn_bfs_From_kpip0_iiiiiii
  rw [Nodes_eq]
  simp only [Option.bind_some]
  rw [Repeat_eq hn, rep_dl]
  simp only [Option.bind_some]
  have hc : (cond (decide (0 ≤ v)) (some (decide (v < (N : Int)))) (some false) : Option Bool) = some false := by
    rcases hv with h | h
    · rw [show decide (0 ≤ v) = false by simp; omega]; rfl
    · rw [show decide (v < (N : Int)) = false by simp; omega]; cases decide (0 ≤ v) <;> rfl
  rw [hc]
  simp only [Option.bind_some, cond_false]
  rw [loop_end (b := (0, dl N (fun _ => none), dl N (fun _ => none), [])) rfl]
  simp only [Option.bind_some]
  rw [loop_end (b := []) rfl]
  rfl
end Go.Proofs.Ytepfibiddkcpkaa
namespace Go.Proofs.Ytepfibiddkcpkaa
open Go.RowKit
set_option linter.unusedVariables false
set_option linter.unusedSimpArgs false
set_option linter.unnecessarySimpa false
/-- The farthest of the first. -/
def mx (d : Nat → Option Nat) : Nat → Int
  | 0 => -1
  | w + 1 => if mx d w < dN (d w) then dN (d w) else mx d w
theorem mx_le {d : Nat → Option Nat} {m : Nat} (h : ∀ w k : Nat, d w = some k → k < m) : ∀ N, mx d N ≤ (m : Int) - 1
  | 0 => by show (-1 : Int) ≤ _; omega
  | N + 1 => by
    have := mx_le h N
    unfold mx
    split
    · cases e : d N with
      | none => show (-1 : Int) ≤ _; omega
      | some k => have := h _ _ e; show (k : Int) ≤ _; omega
    · exact this
theorem mx_ge {d : Nat → Option Nat} : ∀ {N w : Nat}, w < N → dN (d w) ≤ mx d N
  | N + 1, w, h => by
    unfold mx
    by_cases c : w = N
    · subst c; split <;> omega
    · have := mx_ge (d := d) (N := N) (w := w) (by omega)
      split <;> omega
theorem mx_eq {d : Nat → Option Nat} {m N : Nat} (h : ∀ w k : Nat, d w = some k → k < m) (f : ∀ k : Nat, k < m → ∃ w : Nat, d w = some k) (hN : ∀ w k : Nat, d w = some k → w < N) : mx d N = (m : Int) - 1 := by
  have h1 := mx_le h N
  have h0 : (-1 : Int) ≤ mx d N := by
    clear h1
    induction N with
    | zero => exact Int.le_refl _
    | succ N ih =>
      clear ih
      have : ∀ M, (-1 : Int) ≤ mx d M := fun M => by
        induction M with
        | zero => exact Int.le_refl _
        | succ M ih => unfold mx; split <;> omega
      exact this _
  by_cases c : m = 0
  · omega
  · obtain ⟨w, hw⟩ := f (m - 1) (by omega)
    have := mx_ge (d := d) (hN _ _ hw)
    rw [hw] at this
    have e : dN (some (m - 1)) = ((m - 1 : Nat) : Int) := rfl
    omega
theorem tl1_ok {N : Nat} {E : ArG} {d β : Nat → Option Nat} {ls : List (List Int)} (hN : N ≤ 1000) (hb : ∀ w, w < N → fn_ref13_Back (ai E) (dl N d) (w : Int) = some (dN (β w))) :
    loop (fn_law13_BfsTells_l1 (N : Int) (ai E) (some (dl N d, dl N β, ls)) (dl N d)) (-1, 0) = some (.inl (mx d N)) := by
  refine loop_nat (body := fn_law13_BfsTells_l1 (N : Int) (ai E) (some (dl N d, dl N β, ls)) (dl N d)) (fun k : Nat => (mx d k, (k : Int))) N ?_ ?_
  · intro w hw
    unfold fn_law13_BfsTells_l1
    dsimp only
    rw [dlt hw, cond_true, dl_get hw]
    simp only [Option.bind_some]
    rw [Dist_of hw, Back_of hw, hb w hw, w64s hw (by omega)]
    simp only [Option.bind_some, decide_true, Bool.not_true, cond_false]
    rw [show mx d (w + 1) = if mx d w < dN (d w) then dN (d w) else mx d w from rfl]
    by_cases c : mx d w < dN (d w)
    · rw [decide_eq_true c, if_pos c]; rfl
    · rw [decide_eq_false c, if_neg c]; rfl
  · unfold fn_law13_BfsTells_l1
    dsimp only
    rw [dge (Nat.lt_irrefl _), cond_false]
theorem total_ok {c : Nat} (hc : c ≤ 1000000000) : fn_tick_Counter_Total_p0_iiiiiii 0 0 0 0 0 0 (c : Int) = some (c : Int) := by
  have e1 : fn_tick_sum 0 0 = some 0 := rfl
  have e2 : fn_tick_sum 0 (c : Int) = some (c : Int) := by
    unfold fn_tick_sum
    rw [w64 (by omega) (by omega), decide_eq_false (by omega), cond_false, w64 (by omega) (by omega), Int.zero_add]
  have o0 : ∀ a, fn_tick_Counter_Of_p0c0_iiiiiii 0 0 0 0 0 0 a = some 0 := fun a => rfl
  have o1 : ∀ a, fn_tick_Counter_Of_p0c1_iiiiiii 0 0 0 0 0 0 a = some 0 := fun a => rfl
  have o2 : ∀ a, fn_tick_Counter_Of_p0c2_iiiiiii 0 0 0 0 0 0 a = some 0 := fun a => rfl
  have o3 : ∀ a, fn_tick_Counter_Of_p0c3_iiiiiii 0 0 0 0 0 0 a = some 0 := fun a => rfl
  have o4 : ∀ a, fn_tick_Counter_Of_p0c4_iiiiiii 0 0 0 0 0 0 a = some 0 := fun a => rfl
  have o5 : ∀ a, fn_tick_Counter_Of_p0c5_iiiiiii 0 0 0 0 0 0 a = some 0 := fun a => rfl
  have o6 : ∀ a, fn_tick_Counter_Of_p0c6_iiiiiii 0 0 0 0 0 0 a = some a := fun a => rfl
  unfold fn_tick_Counter_Total_p0_iiiiiii
  simp only [o0, o1, o2, o3, o4, o5, o6, Option.bind_some, e1, e2]
/-- What is told of a tree with so many steps. -/
theorem tells_end {N : Nat} {E : ArG} {d β : Nat → Option Nat} {m c : Nat} {vv : Int} {xd xe : Int} (hN : N ≤ 16) (he : E.length ≤ 40) (hm : m ≤ 1000)
    (hF : fn_bfs_From_kpip0_iiiiiii (some (mkG N E)) vv 0 0 0 0 0 0 0 = some (some (dl N d, dl N β, lyS N m d), (c : Int)))
    (hD : fn_ref13_Dist (N : Int) (ai E) vv = some (dl N d)) (hb : ∀ w, w < N → fn_ref13_Back (ai E) (dl N d) (w : Int) = some (dN (β w)))
    (ht : ∀ w k : Nat, d w = some k → k < m) (hf : ∀ k : Nat, k < m → ∃ w : Nat, d w = some k) (hlt : ∀ w k : Nat, d w = some k → w < N) (hc : c ≤ 2 * (N + E.length)) :
    fn_law10_Of (N : Int) (ai E) = some (some (mkG N E), 0) → fn_law13_BfsTells (N : Int) (ai E) vv xd xe = some true := by
  intro hO
  have e1 : ∀ x, fn_bfs_Tree_Dist none x = some (-1) := fun x => rfl
  have e2 : ∀ x, fn_bfs_Tree_Back none x = some (-1) := fun x => rfl
  have e3 : fn_bfs_Tree_Far none = some (-1) := rfl
  have e4 : fn_bfs_Tree_Layer none 0 = some [] := rfl
  have o6 : ∀ a, fn_tick_Counter_Of_p0c6_iiiiiii 0 0 0 0 0 0 a = some a := fun a => rfl
  unfold fn_law13_BfsTells
  rw [awake13, hO]
  rw [decide_eq_false (p := 16 < (N : Int)) (by omega), decide_eq_false (p := (40 : Int) < (((ai E).length : Nat) : Int)) (by rw [ai_len]; omega), Bool.or_self, cond_false]
  simp only [Option.bind_some, decide_true, Bool.not_true, cond_false]
  rw [hF, hD]
  simp only [Option.bind_some]
  rw [tl1_ok (by omega) hb]
  simp only [Option.bind_some, e1, e2, e3, e4, o6, total_ok (c := c) (by omega), decide_true, Bool.not_true, cond_false, List.length_nil]
  rw [ai_len, w64 (x := (N : Int) + ((E.length : Nat) : Int)) (by omega) (by omega), w64 (x := 2 * _) (by omega) (by omega)]
  rw [decide_eq_false (p := (0 : Int) < ((0 : Nat) : Int)) (by omega), decide_eq_false (p := (c : Int) < 0) (by omega), decide_eq_false (p := 2 * ((N : Int) + ((E.length : Nat) : Int)) < (c : Int)) (by omega)]
  simp only [cond_false, Option.bind_some]
  rw [Far_of hm, mx_eq ht hf hlt]
  simp only [Option.bind_some, decide_true, cond_true]
  rw [Layer_any hm (by omega) ht, refLayer_ok (by omega)]
  simp only [Option.bind_some]
  rw [same01_eq _ _ (by rw [li_len]; have := List.length_filter_le (fun w => decide (dN (d w) = xd) && decide (0 ≤ xd)) (List.range N); rw [List.length_range] at this; omega), decide_eq_true rfl]
  simp only [Option.bind_some, cond_true]
  by_cases hx : 0 ≤ xe ∧ xe < N
  · rw [decide_eq_true hx.1, decide_eq_true hx.2]; rfl
  · have : (decide (0 ≤ xe) && decide (xe < (N : Int))) = false := by
      rw [Bool.and_eq_false_iff, decide_eq_false_iff_not, decide_eq_false_iff_not]; omega
    rw [this, cond_false, Dist_not (by omega)]
    have hB : fn_bfs_Tree_Back (some (dl N d, dl N β, lyS N m d)) xe = some (-1) := by
      unfold fn_bfs_Tree_Back fn_bfs_Tree_isNode
      by_cases h : xe < 0
      · rw [show decide (0 ≤ xe) = false from decide_eq_false (by omega), Bool.and_false]; rfl
      · rw [show decide (0 ≤ xe) = true from decide_eq_true (by omega), Bool.and_true]
        simp only [Option.isNone_some, Bool.not_false, cond_true, Option.bind_some]
        rw [dl_len, show decide (xe < (N : Int)) = false from decide_eq_false (by omega)]
        rfl
    rw [hB]
    rfl
theorem BfsTells_true (xa : Int) (xb : (List (Int × Int))) (xc : Int) (xd : Int) (xe : Int) (k0 : Tp.Ok (.int .i64) xa) (k1 : Tp.Ok (.sl (.cons (.int .i64) (.one (.int .i64)))) xb) (k2 : Tp.Ok (.int .i64) xc) (k3 : Tp.Ok (.int .i64) xd) (k4 : Tp.Ok (.int .i64) xe) : fn_law13_BfsTells xa xb xc xd xe = some true := by
  by_cases hlen : 40 < xb.length
  · unfold fn_law13_BfsTells
    rw [awake13, decide_eq_true (p := (40 : Int) < ((xb.length : Nat) : Int)) (by omega), Bool.or_true]; rfl
  by_cases hmid : 16 < xa
  · unfold fn_law13_BfsTells
    rw [awake13, decide_eq_true hmid]; rfl
  have hne : ∀ {e : Int}, e ≠ 0 → fn_graph_New xa xb = some (none, e) → fn_law13_BfsTells xa xb xc xd xe = some true := by
    intro e he h
    unfold fn_law13_BfsTells
    rw [awake13, decide_eq_false hmid, decide_eq_false (p := (40 : Int) < ((xb.length : Nat) : Int)) (by omega), Bool.or_self, cond_false, Of_eq _ _ (by omega), h]
    simp only [Option.bind_some]
    rw [decide_eq_false he, Bool.not_false, cond_true, From_none]
    simp only [Option.bind_some]
    have e2 : fn_bfs_Tree_Far (some ([], [], [])) = some (-1) := rfl
    have e1 : fn_bfs_Tree_Dist (some ([], [], [])) xc = some (-1) := by
      have := Dist_not (N := 0) (w := xc) (d := fun _ => none) (bk := []) (ls := []) (by omega)
      simpa [dl] using this
    rw [e1, e2]
    rfl
  rcases New_eq xa xb (by omega) with ⟨h, e⟩ | ⟨h, e⟩ | ⟨h1, h2, h3, e⟩ | ⟨N, E, rfl, hN, rfl, hE, hout, e⟩
  · exact hne (by decide) e
  · omega
  · exact hne (by decide) e
  have hEl : E.length ≤ 40 := by rw [ai_len] at hlen; omega
  have hO : fn_law10_Of (N : Int) (ai E) = some (some (mkG N E), 0) := by rw [Of_eq _ _ (by omega), e]
  by_cases hv : xc < 0 ∨ (N : Int) ≤ xc
  · refine tells_end (d := fun _ => none) (β := fun _ => none) (m := 0) (c := 0) (by omega) hEl (by omega) (From_c_not (by omega) hv) (refDist_not (by omega) hv) (fun w hw => refBack_ok (d := fun _ => none) (β := fun _ => none) hE (by omega) (fun w k h => by cases h) (fun w i h => by cases h) (fun w i h => by obtain ⟨_, _, _, _, h⟩ := h; cases h) hw) (fun w k h => by cases h) (fun k h => by omega) (fun w k h => by cases h) (by omega) hO
  · obtain ⟨v, rfl⟩ := Int.eq_ofNat_of_zero_le (show 0 ≤ xc by omega)
    have hvN : v < N := by omega
    obtain ⟨L, d, m, β, e1, b⟩ := From_c_ok hE (by omega) (by omega) hvN
    have hm := b.l.le b.b.mem b.b.len
    have hcl := cost_le E b.b.nd
    have hLl := b.b.len
    exact tells_end (by omega) hEl (by omega) e1 (refDist_ok hE (by omega) (by omega) hvN b) (fun w hw => refBack_ok hE (by omega) (fun w k h => by have := b.lt h; omega) b.yes b.low hw) b.l.top b.l.full (fun w k h => b.b.lt w ((b.b.mem w).2 (by rw [h]; rfl))) (by omega) hO
end Go.Proofs.Ytepfibiddkcpkaa
namespace Go.Proofs.Ytepfibiddkcpkaa
open Go.RowKit
set_option linter.unusedVariables false
set_option linter.unnecessarySimpa false
set_option linter.unusedSimpArgs false
set_option maxRecDepth 20000
theorem BfsTells_walk {H : Type} (enc : TypeId × Value → H) (W : World) (base : Nat) {v0 v1 v2 v3 v4 : Value} {d0 d1 d2 d3 d4 : DataW H} {p0 p1 p2 p3 p4 : List MemPlace}
    (h0 : DataW.Trod enc Try.prog W 0 (fun _ => true) true 3 v0 d0 p0) (h1 : DataW.Trod enc Try.prog W 0 (fun _ => true) true 22 v1 d1 p1) (h2 : DataW.Trod enc Try.prog W 0 (fun _ => true) true 3 v2 d2 p2) (h3 : DataW.Trod enc Try.prog W 0 (fun _ => true) true 3 v3 d3 p3) (h4 : DataW.Trod enc Try.prog W 0 (fun _ => true) true 3 v4 d4 p4)
    (o0 : Value.okWide Try.prog W .any base 3 v0) (o1 : Value.okWide Try.prog W .any base 22 v1) (o2 : Value.okWide Try.prog W .any base 3 v2) (o3 : Value.okWide Try.prog W .any base 3 v3) (o4 : Value.okWide Try.prog W .any base 3 v4) :
    Calls Try.prog 3 #[v0, v1, v2, v3, v4] W fun e W' => e = .returned (.bool true) ∧ Below W.heap.size W W' := by
  obtain ⟨xa, i0, k0⟩ := Tp.arg (.int .i64) (by kernel_rfl) o0 h0
  obtain ⟨xb, i1, k1⟩ := Tp.arg (.sl (.cons (.int .i64) (.one (.int .i64)))) (by kernel_rfl) o1 h1
  obtain ⟨xc, i2, k2⟩ := Tp.arg (.int .i64) (by kernel_rfl) o2 h2
  obtain ⟨xd, i3, k3⟩ := Tp.arg (.int .i64) (by kernel_rfl) o3 h3
  obtain ⟨xe, i4, k4⟩ := Tp.arg (.int .i64) (by kernel_rfl) o4 h4
  exact walkX (s := sp_law13_BfsTells) (x := (xa, xb, xc, xd, xe)) (args := [v0, v1, v2, v3, v4]) law13_BfsTells_is (BfsTells_true xa xb xc xd xe k0 k1 k2 k3 k4) rfl rfl ⟨_, _, rfl, of_rel _ i0, _, _, rfl, of_rel _ i1, _, _, rfl, of_rel _ i2, _, _, rfl, of_rel _ i3, _, _, rfl, of_rel _ i4, rfl⟩
end Go.Proofs.Ytepfibiddkcpkaa
namespace Go.Proofs.Ytepfibiddkcpkaa.bfsTellsFrame
set_option maxRecDepth 40000
open Go.ChangeShapes Go.WideShapes Go.ChangeAt Go.RowKit
theorem own : ownKnob Try.prog.godebug = none := by kernel_rfl
theorem contract (H : Type) (enc : TypeId × Value → H) (W : World) (base : Nat) (args : Array Value) (ds gs : List (DataW H)) (before : List MemPlace)
    (hval : ∀ (j : Nat) t v, Try.f3.params[j]? = some t → args[j]? = some v → Value.okWide Try.prog W .any base t v)
    (hW : DataW.Whole enc Try.prog Try.f3.params.toList Rows.bfsTellsSpec.vars false W args.toList ds gs before) :
    Calls Try.prog 3 args W fun e W' => ∃ v, e = .returned v ∧ Rows.bfsTellsSpec.post enc Try.prog Try.f3 false true false false W args v W' := by
  have hW' := hW
  obtain ⟨p, q, hA0, hV, rfl, hfz, hnd⟩ := hW
  have hA : DataW.TrodAll enc Try.prog W 0 (fun _ => true) true Try.f3.params.toList args.toList ds p := hA0
  rw [Try.params3] at hA hval
  obtain ⟨v0, vs0, d0, ds0, p0, q0, hargs, rfl, rfl, h0, r0⟩ := trodAll_cons hA
  obtain ⟨v1, vs1, d1, ds1, p1, q1, rfl, rfl, rfl, h1, r1⟩ := trodAll_cons r0
  obtain ⟨v2, vs2, d2, ds2, p2, q2, rfl, rfl, rfl, h2, r2⟩ := trodAll_cons r1
  obtain ⟨v3, vs3, d3, ds3, p3, q3, rfl, rfl, rfl, h3, r3⟩ := trodAll_cons r2
  obtain ⟨v4, vs4, d4, ds4, p4, q4, rfl, rfl, rfl, h4, r4⟩ := trodAll_cons r3
  obtain ⟨rfl, rfl, rfl⟩ := trodAll_nil r4
  obtain rfl : args = #[v0, v1, v2, v3, v4] := by cases args; simp_all
  refine (BfsTells_walk enc W base h0 h1 h2 h3 h4 (hval 0 _ v0 rfl rfl) (hval 1 _ v1 rfl rfl) (hval 2 _ v2 rfl rfl) (hval 3 _ v3 rfl rfl) (hval 4 _ v4 rfl rfl)).mono fun e W' ⟨he, hb⟩ => ?_
  subst he
  exact ⟨_, rfl, law_post (tb := _) rfl hW' rfl rfl (by kernel_rfl) (by kernel_rfl) (of_decide_eq_true (by kernel_rfl)) hb⟩
noncomputable def world (os : Os) : World := World.holding Try.prog os ⟨#[], #[], []⟩
theorem reads (os : Os) {H : Type} (enc : TypeId × Value → H) : ∃ x, DataW.whole enc Try.prog ((world os).forCall (fun _ _ => 0) ⟨#[], #[.int .i64 0, .slice none 0 0, .int .i64 0, .int .i64 0, .int .i64 0], []⟩).memory Try.f3.params.toList Rows.bfsTellsSpec.vars false (#[.int .i64 0, .slice none 0 0, .int .i64 0, .int .i64 0, .int .i64 0] : Array Value).toList 8 = some x :=
  Option.isSome_iff_exists.1 (by kernel_rfl)
set_option maxRecDepth 100000 in
theorem lifted (os : Os) (started : os.Started) (H : Type) (enc : TypeId × Value → H) (F : Stop.Interp) :
    ReturnsInHanded {} Try.checked os 3 .any ((OpenSpec.ofChange Rows.bfsTellsSpec).preRow enc Try.prog Try.f3 Rows.bfsTellsRow.domain false Rows.bfsTellsRow.laid) (((OpenSpec.ofChange Rows.bfsTellsSpec).at F).post enc Try.prog Try.f3 false true false false) := by
  obtain ⟨x, hx⟩ := reads os enc
  refine returnsInHanded_of_row (C := Try.checked) (s := OpenSpec.ofChange Rows.bfsTellsSpec) own started (by kernel_rfl) Try.func3
    (witness_row_at (enc := enc) (C := Try.checked) false (world os) #[.int .i64 0, .slice none 0 0, .int .i64 0, .int .i64 0, .int .i64 0] rfl (by kernel_rfl) (by kernel_rfl) (by kernel_rfl)
      (OpenSpec.preRow_of_cond 8 hx (by kernel_rfl) (fun k hk => by cases hk) (by kernel_rfl) (laidMet_of_run' 8 (by kernel_rfl) (by kernel_rfl)))) ?_
  intro W base args ds gs before hval hW _ _ _ hL _ _
  exact contract H enc W base args ds gs before hval hW
theorem proved : Rows.BfsTellsSaid :=
  OpenClaim.holds_of_cond 3 Try.f3 rfl rfl rfl rfl rfl rfl rfl ⟨rfl, rfl, rfl, rfl, rfl⟩ rfl rfl rfl rfl rfl (by kernel_rfl) Try.func3 (by kernel_rfl)
    (of_decide_eq_true (by kernel_rfl)) (by unfold Func.isWrapper; first | (rw [if_pos (by decide +kernel)]; kernel_rfl) | (rw [if_neg (by decide +kernel)]; exact ⟨rfl, rfl⟩))
    (fun os started H enc _ F => by rw [OpenClaim.pre_eq_preRow]; exact lifted os started H enc F)
end Go.Proofs.Ytepfibiddkcpkaa.bfsTellsFrame
