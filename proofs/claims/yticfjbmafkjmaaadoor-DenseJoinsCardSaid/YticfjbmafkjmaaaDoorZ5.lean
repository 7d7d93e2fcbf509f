/- 'easement/easementlaw03.DenseJoins' returns true for every input, and each argument reads afterwards as it read before: the row's frame round the walk. -/
import Derived.Test.YticfjbmafkjmaaaDoorZ4
import Derived.Test.YticfjbmafkjmaaaDoorRows
import Derived.Lib.LaidTab
import Derived.Test.YticfjbmafkjmaaaDoorCards
import Derived.Test.YticfjbmafkjmaaaDoorTie
import Derived.Lay
import Derived.SevenTiedAt
namespace Go.Proofs.YticfjbmafkjmaaaDoor
open Go.RowKit
set_option linter.unusedVariables false
set_option linter.unusedSimpArgs false
set_option linter.unnecessarySimpa false
theorem rOr_le {n m : Nat} {l l' L L' : List Int} (h : Rp n l L) (h' : Rp m l' L') (hn : n ≤ 300) (hm : m ≤ 300) : L.length ≤ 300 ∧ L'.length ≤ 300 := ⟨Nat.le_trans h.le hn, Nat.le_trans h'.le hm⟩
/-- One act, on both sides. -/
theorem Do_sim {n m : Nat} {l l' L L' : List Int} (h : Rp n l L) (h' : Rp m l' L') (hn : n ≤ 300) (hm : m ≤ 300) (a : Int × Int) :
    ∃ L1 L2 ok l1 l2, fn_ref03_Do ((n : Int), L) ((m : Int), L') a = some ((n : Int), L1, (m : Int), L2, ok) ∧ fn_law03_does_p0p1a_ir_ir a n l m l' = some (ok, l1, l2) ∧ Rp n l1 L1 ∧ Rp m l2 L2 := by
  obtain ⟨b1, b2⟩ := rOr_le h h' hn hm
  obtain ⟨q1, a1, a2⟩ := h.add a.2
  obtain ⟨q2, a3, a4⟩ := h.del a.2
  obtain ⟨q3, a5, a6⟩ := h'.add a.2
  obtain ⟨q4, a7, a8⟩ := h'.del a.2
  obtain ⟨q5, a9, a10⟩ := h.or h'
  obtain ⟨q6, a11, a12⟩ := h'.or h
  unfold fn_ref03_Do fn_law03_does_p0p1a_ir_ir
  dsimp only
  rw [rfAdd (by omega), rfAdd (by omega), rfDel (by omega), rfDel (by omega), rfOr (by omega) (by omega), rfOr (by omega) (by omega), a1, a3, a5, a7, a9, a11]
  simp only [Option.bind_some, rDel_len]
  by_cases h0 : a.1 = 0
  · rw [decide_eq_true h0]; exact ⟨_, _, _, _, _, rfl, rfl, a2, h'⟩
  by_cases h1 : a.1 = 1
  · rw [decide_eq_false h0, decide_eq_true h1]; exact ⟨_, _, _, _, _, rfl, rfl, a4, h'⟩
  by_cases h2 : a.1 = 2
  · rw [decide_eq_false h0, decide_eq_false h1, decide_eq_true h2]; exact ⟨_, _, _, _, _, rfl, rfl, h, a6⟩
  by_cases h3 : a.1 = 3
  · rw [decide_eq_false h0, decide_eq_false h1, decide_eq_false h2, decide_eq_true h3]; exact ⟨_, _, _, _, _, rfl, rfl, h, a8⟩
  by_cases h4 : a.1 = 4
  · rw [decide_eq_false h0, decide_eq_false h1, decide_eq_false h2, decide_eq_false h3, decide_eq_true h4]; exact ⟨_, _, _, _, _, rfl, rfl, a10, h'⟩
  by_cases h5 : a.1 = 5
  · rw [decide_eq_false h0, decide_eq_false h1, decide_eq_false h2, decide_eq_false h3, decide_eq_false h4, decide_eq_true h5]; exact ⟨_, _, _, _, _, rfl, rfl, h, a12⟩
  · rw [decide_eq_false h0, decide_eq_false h1, decide_eq_false h2, decide_eq_false h3, decide_eq_false h4, decide_eq_false h5]; exact ⟨_, _, _, _, _, rfl, rfl, h, h'⟩
theorem tells_true {n : Nat} {l L : List Int} (h : Rp n l L) (hn : n ≤ 300) (i : Int) : fn_law03_tells_p0ai_ir ((n : Int), L) i n l = some (true, l) := by
  have hl := h.le
  unfold fn_law03_tells_p0ai_ir
  dsimp only
  rw [show fn_dense_Set_Size (some ((n : Int), l)) = some (n : Int) from rfl, h.has, h.count, h.next, h.list, rfHas (by omega), rfNext (by omega)]
  simp only [Option.bind_some, decide_true, cond_true, beq_self_eq_true]
  rw [rfSame (by omega)]
  simp
theorem Same_some {n m : Nat} {l l' L L' : List Int} (h : Rp n l L) (h' : Rp m l' L') : fn_dense_Same (some ((n : Int), l)) (some ((m : Int), l')) = some (decide ((n : Int) = (m : Int) ∧ L = L')) := by
  unfold fn_dense_Same
  simp only [Option.isNone_some, Bool.or_self, cond_false, Option.bind_some, h.within h', h'.within h]
  by_cases e : (n : Int) = (m : Int)
  · rw [decide_eq_true e]
    simp only [cond_true]
    have key : (L.all (fun x => decide (x ∈ L')) = true ∧ L'.all (fun x => decide (x ∈ L)) = true) ↔ L = L' := by
      constructor
      · rintro ⟨h1, h2⟩
        refine strict_eq h.rs h'.rs fun x => ⟨fun hx => ?_, fun hx => ?_⟩
        · have := List.all_eq_true.1 h1 x hx; simpa using this
        · have := List.all_eq_true.1 h2 x hx; simpa using this
      · rintro rfl
        constructor <;> (rw [List.all_eq_true]; intro x hx; simpa using hx)
    cases h1 : L.all (fun x => decide (x ∈ L')) with
    | false =>
      have : ¬ L = L' := fun hc => by have := key.2 hc; rw [h1] at this; cases this.1
      simp [this]
    | true =>
      cases h2 : L'.all (fun x => decide (x ∈ L)) with
      | false =>
        have : ¬ L = L' := fun hc => by have := key.2 hc; rw [h2] at this; cases this.2
        simp [this]
      | true =>
        have : L = L' := key.1 ⟨h1, h2⟩
        simp [this, e]
  · rw [decide_eq_false e, decide_eq_false (fun h => e h.1)]
    rfl
theorem DensePlays_true (xa : Int) (xb : Int) (xc : (List (Int × Int))) (xd : Int) (k0 : Tp.Ok (.int .i64) xa) (k1 : Tp.Ok (.int .i64) xb) (k2 : Tp.Ok (.sl (.cons (.int .i64) (.one (.int .i64)))) xc) (k3 : Tp.Ok (.int .i64) xd) : fn_law03_DensePlays xa xb xc xd = some true := by
  unfold fn_law03_DensePlays
  rw [awake03]
  by_cases hg : (((((decide (30 < (((xc.length : Nat) : Int)))) || ((decide (300 < xa)) && (decide (xa ≤ 1048576)))) || (decide (xb < 0))) || (decide (300 < xb)))) = true
  · rw [hg]; rfl
  · rw [Bool.eq_false_iff.2 hg]
    simp only [Bool.or_eq_true, Bool.and_eq_true, decide_eq_true_eq, not_or, not_and] at hg
    obtain ⟨⟨⟨g1, g2⟩, g3⟩, g4⟩ := hg
    rw [cond_false, New_some, New_some]
    have e2 : ¬ xb < 0 := g3
    have e3 : ¬ 1048576 < xb := by omega
    rw [if_neg e2, if_neg e3]
    by_cases hneg : xa < 0
    · rw [if_pos hneg]
      simp [hneg]
    · rw [if_neg hneg]
      by_cases hbig : 1048576 < xa
      · rw [if_pos hbig]
        simp [hneg, hbig]
      · rw [if_neg hbig]
        have ha : xa ≤ 300 := by
          refine Classical.byContradiction fun h => ?_
          exact g2 (by omega) (by omega)
        obtain ⟨n, rfl⟩ := Int.eq_ofNat_of_zero_le (by omega : 0 ≤ xa)
        obtain ⟨m, rfl⟩ := Int.eq_ofNat_of_zero_le (by omega : 0 ≤ xb)
        have hn : n ≤ 300 := by omega
        have hm : m ≤ 300 := by omega
        have hlp : loop (fn_law03_DensePlays_l1 n m xc xd) ((0 : Int), List.replicate ((n + 63) / 64) (0 : Int), List.replicate ((m + 63) / 64) (0 : Int), (n : Int), ([] : List Int), (m : Int), ([] : List Int)) = some (.inl ()) := by
          refine loop_val (fun s => ∃ (k : Nat) (l l' L L' : List Int), k ≤ xc.length ∧ s = ((k : Int), l, l', (n : Int), L, (m : Int), L') ∧ Rp n l L ∧ Rp m l' L') (fun s => xc.length - s.1.toNat) ?_ ⟨0, _, _, _, _, Nat.zero_le _, rfl, Rp_new (by omega), Rp_new (by omega)⟩
          rintro s ⟨k, l, l', L, L', hk, rfl, r1, r2⟩
          unfold fn_law03_DensePlays_l1
          by_cases hkl : k < xc.length
          · left
            obtain ⟨L1, L2, ok, l1, l2, d1, d2, d3, d4⟩ := Do_sim r1 r2 hn hm xc[k]
            obtain ⟨c1, c2⟩ := rOr_le d3 d4 hn hm
            refine ⟨(((k + 1 : Nat) : Int), l1, l2, (n : Int), L1, (m : Int), L2), ?_, ⟨k + 1, l1, l2, L1, L2, by omega, rfl, d3, d4⟩, ?_⟩
            · simp only [dlt hkl, cond_true, getN hkl, Option.bind_some, d1, d2, agr_self, beq_self_eq_true, Bool.not_true, cond_false, tells_true d3 hn, tells_true d4 hm, d3.within d4, rfWithin (s := (n : Int)) (t := (m : Int)) (L := L1) (l := L2) (by omega) (by omega), Same_some d3 d4, rfSame (A := L1) (B := L2) (by omega), w64s hkl (by omega)]
              by_cases e : (n : Int) = (m : Int)
              · simp [e]
              · simp [e]
            · show xc.length - ((k + 1 : Nat) : Int).toNat < xc.length - ((k : Nat) : Int).toNat
              rw [Int.toNat_natCast, Int.toNat_natCast]; omega
          · right
            simp only [dge hkl, cond_false]
        have f1 : ¬ ((n : Int) < 0) := by omega
        have f2 : ¬ ((m : Int) < 0) := by omega
        simp only [Option.bind_some, decide_eq_false f1, decide_eq_false hbig, cond_false, decide_true, Bool.not_true, Bool.or_self, Int.toNat_natCast, hlp]
theorem New_small {n : Nat} (h : n ≤ 300) : fn_dense_New (n : Int) = some (.inr (0, List.replicate ((n + 63) / 64) 0)) := by
  unfold fn_dense_New
  have e : IntKind.wrap .i64 (Int.tdiv (IntKind.wrap .i64 (IntKind.wrap .i64 ((n : Int) + 64) - 1)) 64) = (((n + 63) / 64 : Nat) : Int) := by
    rw [w64 (x := (n : Int) + 64) (by omega) (by omega), w64 (x := (n : Int) + 64 - 1) (by omega) (by omega), show (n : Int) + 64 - 1 = ((n + 63 : Nat) : Int) by omega]
    rw [show Int.tdiv ((n + 63 : Nat) : Int) 64 = (((n + 63) / 64 : Nat) : Int) from rfl]
    exact w64 (by omega) (by omega)
  rw [e]
  have hm : (mk ((((n + 63) / 64 : Nat) : Int)) ((((n + 63) / 64 : Nat) : Int)) (0 : Int)) = some (List.replicate ((n + 63) / 64) 0) := by
    unfold mk
    rw [if_pos (by constructor <;> omega), Int.toNat_natCast]
  have h1 : ¬ ((n : Int) < 0) := by omega
  have h2 : ¬ (1048576 < (n : Int)) := by omega
  rw [hm, decide_eq_false h1, decide_eq_false h2]
  rfl
theorem adds_loop1 {n : Nat} (hn : n ≤ 300) {xb : List Int} (hb : xb.length ≤ 60) : ∀ {l L : List Int}, Rp n l L → ∃ l' L', loop (fn_law03_DenseJoins_l1 n xb) ((0 : Int), l) = some l' ∧ Rp n l' L' := by
  intro l L h
  have key := loop_inv (body := fn_law03_DenseJoins_l1 n xb) (fun s => ∃ (k : Nat) (L' : List Int), k ≤ xb.length ∧ s.1 = (k : Int) ∧ Rp n s.2 L') (fun s => xb.length - s.1.toNat) (Q := fun r => ∃ L', Rp n r L') ?_ (s := ((0 : Int), l)) ⟨0, L, Nat.zero_le _, rfl, h⟩
  · obtain ⟨r, h1, L', h2⟩ := key
    exact ⟨r, L', h1, h2⟩
  · rintro ⟨i, q⟩ ⟨k, M, hk, rfl, hM⟩
    unfold fn_law03_DenseJoins_l1
    by_cases hkl : k < xb.length
    · left
      obtain ⟨q2, a1, a2⟩ := hM.add xb[k]
      refine ⟨(((k + 1 : Nat) : Int), q2), ?_, ⟨k + 1, _, by omega, rfl, a2⟩, ?_⟩
      · simp only [dlt hkl, cond_true, getN hkl, Option.bind_some, a1, w64s hkl (by omega)]
      · show xb.length - ((k + 1 : Nat) : Int).toNat < xb.length - ((k : Nat) : Int).toNat
        rw [Int.toNat_natCast, Int.toNat_natCast]; omega
    · right
      exact ⟨q, by simp only [dge hkl, cond_false], M, hM⟩
theorem l2_eq (n : Int) (xb : List Int) : fn_law03_DenseJoins_l2 n xb = fn_law03_DenseJoins_l1 n xb := rfl
theorem met_loop {n : Nat} {l L : List Int} (h : Rp n l L) (hn : n ≤ 300) : ∃ o, ((fn_dense_Set_Next (some ((n : Int), l)) 0).bind fun i => (loop (fn_law03_DenseJoins_l3 n l) (i, (0 : Int)) : Option (Int ⊕ Int)).bind fun o => match o with | .inr r => some r | .inl i => some i) = some o ∧ o = if 2 < L.length then 2 else (L.length : Int) := by
  have nx := h.next
  have h0 : ∀ x ∈ L, 0 ≤ x := fun x hx => ((h.mm x).1 hx).1
  have hlt : ∀ x ∈ L, x < 300 := fun x hx => by
    have := lt_of_mem h.ds ((h.mm x).1 hx).2
    have := h0 x hx
    omega
  have hs := h.rs
  rw [nx]
  simp only [Option.bind_some]
  match L, h0, hlt, hs, nx with
  | [], _, _, _, _ =>
    refine ⟨0, ?_, rfl⟩
    rw [loop_end (b := .inl 0) (by rfl)]
    rfl
  | [a], h0, hlt, hs, nx =>
    have ha : 0 ≤ a := h0 a (by simp)
    have ha2 := hlt a (by simp)
    have e1 : ([a].find? (fun x => decide ((0 : Int) ≤ x))).getD (-1) = a := by simp [ha]
    have e2 : ([a].find? (fun x => decide (a + 1 ≤ x))).getD (-1) = -1 := by
      have : ¬ (a + 1 ≤ a) := by omega
      simp [this]
    have hna : ¬ a < 0 := by omega
    refine ⟨1, ?_, rfl⟩
    rw [e1, loop_next (s' := (-1, 1)) (by
      unfold fn_law03_DenseJoins_l3
      simp only [decide_eq_true ha, decide_eq_false hna, cond_true, Bool.false_or, w64 (x := a + 1) (by omega) (by omega), nx, e2, Option.bind_some]
      rfl), loop_end (b := .inl 1) (by rfl)]
    rfl
  | a :: b :: M, h0, hlt, hs, nx =>
    have ha : 0 ≤ a := h0 a (by simp)
    have hb : 0 ≤ b := h0 b (by simp)
    have ha2 := hlt a (by simp)
    have hb2 := hlt b (by simp)
    have hab : a < b := (List.pairwise_cons.1 hs).1 b (by simp)
    have e1 : ((a :: b :: M).find? (fun x => decide ((0 : Int) ≤ x))).getD (-1) = a := by simp [ha]
    have e2 : ((a :: b :: M).find? (fun x => decide (a + 1 ≤ x))).getD (-1) = b := by
      have h1 : ¬ (a + 1 ≤ a) := by omega
      have h2 : a + 1 ≤ b := by omega
      simp [h1, h2]
    have hna : ¬ a < 0 := by omega
    have hnb : ¬ b < 0 := by omega
    refine ⟨2, ?_, ?_⟩
    · rw [e1, loop_next (s' := (b, 1)) (by
        unfold fn_law03_DenseJoins_l3
        simp only [decide_eq_true ha, decide_eq_false hna, cond_true, Bool.false_or, w64 (x := a + 1) (by omega) (by omega), nx, e2, Option.bind_some]
        rfl), loop_end (b := .inr 2) (by
        unfold fn_law03_DenseJoins_l3
        simp only [decide_eq_true hb, cond_true]
        rw [show IntKind.wrap .i64 ((1 : Int) + 1) = 2 from rfl]
        simp)]
      rfl
    · simp only [List.length_cons]
      split <;> omega
theorem len_or (n : Int) : ∀ (l L : List Int), (rOr n L l).1.length ≤ L.length + l.length := rOr_len n
theorem DenseJoins_true (xa : Int) (xb : (List Int)) (xc : (List Int)) (xd : Int) (k0 : Tp.Ok (.int .i64) xa) (k1 : Tp.Ok (.sl (.int .i64)) xb) (k2 : Tp.Ok (.sl (.int .i64)) xc) (k3 : Tp.Ok (.int .i64) xd) : fn_law03_DenseJoins xa xb xc xd = some true := by
  unfold fn_law03_DenseJoins
  rw [awake03]
  by_cases hg : ((((decide (60 < (((xb.length : Nat) : Int)))) || (decide (60 < (((xc.length : Nat) : Int))))) || (decide (xa < 0))) || (decide (300 < xa))) = true
  · rw [hg]; rfl
  · rw [Bool.eq_false_iff.2 hg]
    simp only [Bool.or_eq_true, decide_eq_true_eq, not_or] at hg
    obtain ⟨⟨⟨g1, g2⟩, g3⟩, g4⟩ := hg
    obtain ⟨n, rfl⟩ := Int.eq_ofNat_of_zero_le (by omega : 0 ≤ xa)
    have hn : n ≤ 300 := by omega
    rw [cond_false, New_small hn]
    obtain ⟨a, A, a1, a2⟩ := adds_loop1 hn (xb := xb) (by omega) (Rp_new (n := n) (by omega))
    obtain ⟨b, B, b1, b2⟩ := adds_loop1 hn (xb := xc) (by omega) (Rp_new (n := n) (by omega))
    obtain ⟨q, c1, c2⟩ := a2.or b2
    rw [if_pos rfl] at c2
    obtain ⟨q', d1, d2⟩ := c2.or b2
    rw [if_pos rfl] at d2
    obtain ⟨u, e1, e2⟩ := d2.add xd
    obtain ⟨v, f1, f2⟩ := e2.del xd
    have la := a2.le
    have lb := b2.le
    have hin : (rOr (n : Int) A B).2 = !(B.all (fun x => decide (x ∈ A))) := by
      rw [Bool.eq_iff_iff, rOr_ok, Bool.not_eq_true', List.all_eq_false]
      constructor
      · rintro ⟨x, h1, h2, h3⟩; exact ⟨x, h1, by simpa using h3⟩
      · rintro ⟨x, h1, h2⟩
        have := (b2.mm x).1 h1
        have := lt_of_mem b2.ds this.2
        exact ⟨x, h1, ⟨by omega, by omega⟩, by simpa using h2⟩
    have hQ : ∀ x, x ∈ (rOr (n : Int) A B).1 ↔ x ∈ A ∨ x ∈ B := fun x => by
      rw [rOr_mem]
      constructor
      · rintro (h | h)
        · exact .inl h
        · exact .inr h.1
      · rintro (h | h)
        · exact .inl h
        · have := (b2.mm x).1 h
          have := lt_of_mem b2.ds this.2
          exact .inr ⟨h, by omega, by omega⟩
    have hsec : (rOr (n : Int) (rOr (n : Int) A B).1 B).2 = false := by
      rw [Bool.eq_false_iff, Ne, rOr_ok]
      rintro ⟨x, h1, _, h3⟩
      exact h3 ((hQ x).2 (.inr h1))
    have hsame : (rOr (n : Int) (rOr (n : Int) A B).1 B).1 = (rOr (n : Int) A B).1 := by
      refine strict_eq d2.rs c2.rs fun x => ?_
      rw [rOr_mem, hQ]
      constructor
      · rintro (h | h)
        · exact h
        · exact .inr h.1
      · exact .inl
    rw [hsame] at d2 e1 e2 f1 f2
    have w1 : B.all (fun x => decide (x ∈ (rOr (n : Int) A B).1)) = true := List.all_eq_true.2 fun x hx => by rw [decide_eq_true_eq, hQ]; exact .inr hx
    have w2 : A.all (fun x => decide (x ∈ (rOr (n : Int) A B).1)) = true := List.all_eq_true.2 fun x hx => by rw [decide_eq_true_eq, hQ]; exact .inl hx
    have w3 := len_or (n : Int) B A
    have w4 : rHas (rDel (rAdd (n : Int) (rOr (n : Int) A B).1 xd) xd) xd = false := by
      unfold rHas rDel
      rw [decide_eq_false_iff_not, List.mem_filter]
      simp
    obtain ⟨o, m1, m2⟩ := met_loop f2 hn
    have hlv := f2.le
    simp only [Option.bind_some, decide_true, Bool.not_true, Bool.or_self, cond_false, a1, l2_eq, b1, Clone_some a2.ds, b2.within a2, c1, d1, Bool.true_and]
    have hne : ((rOr (n : Int) A B).2 == B.all (fun x => decide (x ∈ A))) = false := by
      rw [hin]
      cases B.all (fun x => decide (x ∈ A)) <;> rfl
    rw [hne]
    simp only [cond_false, hsec, Option.bind_some, b2.within d2, w1, Bool.not_true, a2.within d2, w2, d2.count, a2.count, b2.count]
    rw [w64 (x := ((A.length : Nat) : Int) + ((B.length : Nat) : Int)) (by omega) (by omega)]
    have hcnt : ¬ (((A.length : Nat) : Int) + ((B.length : Nat) : Int) < (((rOr (n : Int) A B).1.length : Nat) : Int)) := by omega
    rw [decide_eq_false hcnt]
    simp only [cond_false, Option.bind_some, e1, f1, show fn_dense_Set_All_p0_ir (n : Int) v = some v from rfl, decide_true, Bool.not_true, f2.has, w4, f2.count]
    have hw : (cond (decide (2 < (((rDel (rAdd (n : Int) (rOr (n : Int) A B).1 xd) xd).length : Nat) : Int))) (some (2 : Int)) (some (((rDel (rAdd (n : Int) (rOr (n : Int) A B).1 xd) xd).length : Nat) : Int))) = some o := by
      rw [m2]
      by_cases h : 2 < (rDel (rAdd (n : Int) (rOr (n : Int) A B).1 xd) xd).length
      · have h2 : 2 < (((rDel (rAdd (n : Int) (rOr (n : Int) A B).1 xd) xd).length : Nat) : Int) := by omega
        rw [if_pos h, decide_eq_true h2]; rfl
      · have h2 : ¬ 2 < (((rDel (rAdd (n : Int) (rOr (n : Int) A B).1 xd) xd).length : Nat) : Int) := by omega
        rw [if_neg h, decide_eq_false h2]; rfl
    refine (congrArg (fun z => Option.bind z _) m1).trans ?_
    simp [hw]
end Go.Proofs.YticfjbmafkjmaaaDoor
namespace Go.Proofs.YticfjbmafkjmaaaDoor
open Go.RowKit
set_option linter.unusedVariables false
set_option linter.unnecessarySimpa false
set_option linter.unusedSimpArgs false
set_option maxRecDepth 20000
theorem DenseJoins_walk {H : Type} (enc : TypeId × Value → H) (W : World) (base : Nat) {v0 v1 v2 v3 : Value} {d0 d1 d2 d3 : DataW H} {p0 p1 p2 p3 : List MemPlace}
    (h0 : DataW.Trod enc Tryd.prog W 0 (fun _ => true) true 3 v0 d0 p0) (h1 : DataW.Trod enc Tryd.prog W 0 (fun _ => true) true 28 v1 d1 p1) (h2 : DataW.Trod enc Tryd.prog W 0 (fun _ => true) true 28 v2 d2 p2) (h3 : DataW.Trod enc Tryd.prog W 0 (fun _ => true) true 3 v3 d3 p3)
    (o0 : Value.okWide Tryd.prog W .any base 3 v0) (o1 : Value.okWide Tryd.prog W .any base 28 v1) (o2 : Value.okWide Tryd.prog W .any base 28 v2) (o3 : Value.okWide Tryd.prog W .any base 3 v3)
    (hgk : tzGk (Hp.of W)) :
    Calls Tryd.prog 4 #[v0, v1, v2, v3] W fun e W' => e = .returned (.bool true) ∧ Below W.heap.size W W' := by
  obtain ⟨xa, i0, k0⟩ := Tp.arg (.int .i64) (by kernel_rfl) o0 h0
  obtain ⟨xb, i1, k1⟩ := Tp.arg (.sl (.int .i64)) (by kernel_rfl) o1 h1
  obtain ⟨xc, i2, k2⟩ := Tp.arg (.sl (.int .i64)) (by kernel_rfl) o2 h2
  obtain ⟨xd, i3, k3⟩ := Tp.arg (.int .i64) (by kernel_rfl) o3 h3
  exact walkX (s := sp_law03_DenseJoins) (x := (xa, xb, xc, xd)) (args := [v0, v1, v2, v3]) law03_DenseJoins_is (DenseJoins_true xa xb xc xd k0 k1 k2 k3) hgk rfl rfl ⟨_, _, rfl, of_rel _ i0, _, _, rfl, of_rel _ i1, _, _, rfl, of_rel _ i2, _, _, rfl, of_rel _ i3, rfl⟩
end Go.Proofs.YticfjbmafkjmaaaDoor
namespace Go.Proofs.YticfjbmafkjmaaaDoor
open Go.RowKit
theorem tz_tab : ∀ j, j < 64 → (Lib.deBruijn64tab.map Int.ofNat).getD j 0 = ((Lib.deBruijn64tab.getD j 0 : Nat) : Int) := by decide +kernel
theorem tzGk_of {W : World} {rest : List (String × DataW Unit)} (h : laidMet Tryd.prog (("math/bits.deBruijn64tab", Rows.laid_math_bits_deBruijn64tab) :: rest) W) : tzGk (Hp.of W) := by
  have hg : Tryd.prog.globalNamed "math/bits.deBruijn64tab" = some 0 := by kernel_rfl
  have hT : Lib.TabIs Tryd.prog W "math/bits.deBruijn64tab" .u8 (Lib.deBruijn64tab.map Int.ofNat) :=
    Lib.tabIs_of_head (t := 62) (e := 5) (n := 64) hg (by kernel_rfl) (by kernel_rfl) (by kernel_rfl) (by kernel_rfl) (by kernel_rfl) h
  intro j hj
  rw [← tz_tab j hj]
  exact cellK_of (hT.cell hg j (by simpa [Lib.deBruijn64tab] using hj))
end Go.Proofs.YticfjbmafkjmaaaDoor
namespace Go.Proofs.YticfjbmafkjmaaaDoor.denseJoinsFrame
set_option maxRecDepth 40000
open Go.ChangeShapes Go.WideShapes Go.ChangeAt Go.RowKit
theorem own : ownKnob Tryd.prog.godebug = none := by kernel_rfl
theorem contract (H : Type) (enc : TypeId × Value → H) (W : World) (base : Nat) (args : Array Value) (ds gs : List (DataW H)) (before : List MemPlace)
    (hval : ∀ (j : Nat) t v, Tryd.f4.params[j]? = some t → args[j]? = some v → Value.okWide Tryd.prog W .any base t v)
    (hW : DataW.Whole enc Tryd.prog Tryd.f4.params.toList Rows.denseJoinsSpec.vars false W args.toList ds gs before) (hgk : tzGk (Hp.of W)) :
    Calls Tryd.prog 4 args W fun e W' => ∃ v, e = .returned v ∧ Rows.denseJoinsSpec.post enc Tryd.prog Tryd.f4 false true false false W args v W' := by
  have hW' := hW
  obtain ⟨p, q, hA0, hV, rfl, hfz, hnd⟩ := hW
  have hA : DataW.TrodAll enc Tryd.prog W 0 (fun _ => true) true Tryd.f4.params.toList args.toList ds p := hA0
  rw [Tryd.params4] at hA hval
  obtain ⟨v0, vs0, d0, ds0, p0, q0, hargs, rfl, rfl, h0, r0⟩ := trodAll_cons hA
  obtain ⟨v1, vs1, d1, ds1, p1, q1, rfl, rfl, rfl, h1, r1⟩ := trodAll_cons r0
  obtain ⟨v2, vs2, d2, ds2, p2, q2, rfl, rfl, rfl, h2, r2⟩ := trodAll_cons r1
  obtain ⟨v3, vs3, d3, ds3, p3, q3, rfl, rfl, rfl, h3, r3⟩ := trodAll_cons r2
  obtain ⟨rfl, rfl, rfl⟩ := trodAll_nil r3
  obtain rfl : args = #[v0, v1, v2, v3] := by cases args; simp_all
  refine (DenseJoins_walk enc W base h0 h1 h2 h3 (hval 0 _ v0 rfl rfl) (hval 1 _ v1 rfl rfl) (hval 2 _ v2 rfl rfl) (hval 3 _ v3 rfl rfl) hgk).mono fun e W' ⟨he, hb⟩ => ?_
  subst he
  exact ⟨_, rfl, law_post (tb := _) rfl hW' rfl rfl (by kernel_rfl) (by kernel_rfl) (of_decide_eq_true (by kernel_rfl)) hb⟩
noncomputable def world (os : Os) : World := World.laidAll Tryd.prog os Rows.denseJoinsRow.laid
theorem reads (os : Os) {H : Type} (enc : TypeId × Value → H) : ∃ x, DataW.whole enc Tryd.prog ((world os).forCall (fun _ _ => 0) ⟨#[], #[.int .i64 0, .slice none 0 0, .slice none 0 0, .int .i64 0], []⟩).memory Tryd.f4.params.toList Rows.denseJoinsSpec.vars false (#[.int .i64 0, .slice none 0 0, .slice none 0 0, .int .i64 0] : Array Value).toList 8 = some x :=
  Option.isSome_iff_exists.1 (by kernel_rfl)
set_option maxRecDepth 100000 in
theorem lifted (os : Os) (started : os.Started) (H : Type) (enc : TypeId × Value → H) (F : Stop.Interp) :
    ReturnsInHanded {} Tryd.checked os 4 .any ((OpenSpec.ofChange Rows.denseJoinsSpec).preRow enc Tryd.prog Tryd.f4 Rows.denseJoinsRow.domain false Rows.denseJoinsRow.laid) (((OpenSpec.ofChange Rows.denseJoinsSpec).at F).post enc Tryd.prog Tryd.f4 false true false false) := by
  obtain ⟨x, hx⟩ := reads os enc
  refine returnsInHanded_of_row (C := Tryd.checked) (s := OpenSpec.ofChange Rows.denseJoinsSpec) own started (by kernel_rfl) Tryd.func4
    ⟨world os, fun _ _ => 0, ⟨#[], #[.int .i64 0, .slice none 0 0, .slice none 0 0, .int .i64 0], []⟩, World.laidAll_os _ _ _, World.shaped_of_ZipB (by kernel_rfl) (by kernel_rfl), rfl, (Input.okWide_of_okWideB (by kernel_rfl)).2,
      OpenSpec.preRow_of_cond 8 hx (by kernel_rfl) (fun k hk => by cases hk) (by kernel_rfl) (by rw [MakeChecks.laidMetH_plain _ _ _ (by kernel_rfl)]; exact laidMet_laidAll _ (by kernel_rfl) (by kernel_rfl)),
      by simp only [Assume.holds]; exact ⟨by simp, by simp, by simp, by simp, by simp⟩⟩ ?_
  intro W base args ds gs before hval hW _ _ _ hL _ _
  exact contract H enc W base args ds gs before hval hW (tzGk_of (rest := []) (by rw [MakeChecks.laidMetH_plain _ _ _ (by kernel_rfl)] at hL; exact hL))
theorem proved : Rows.DenseJoinsSaid :=
  OpenClaim.holds_of_cond 4 Tryd.f4 rfl rfl rfl rfl rfl rfl rfl ⟨rfl, rfl, rfl, rfl, rfl⟩ rfl rfl rfl rfl rfl (by kernel_rfl) Tryd.func4 (by kernel_rfl)
    (of_decide_eq_true (by kernel_rfl)) (by unfold Func.isWrapper; first | (rw [if_pos (by decide +kernel)]; kernel_rfl) | (rw [if_neg (by decide +kernel)]; exact ⟨rfl, rfl⟩))
    (fun os started H enc _ F => by rw [OpenClaim.pre_eq_preRow]; exact lifted os started H enc F)
theorem card : Rows.DenseJoinsCardSaid :=
  Claim7.holds_tied_plain_at .later [] [.data] true (true, "88ebde6e07b87bd53fb105e822cf7c3f8b0b095049ae10b5cd5c8c5a08fd798c") false proved (fun _ h => by cases h) (by kernel_rfl) (fun _ h => by cases h) denseJoins_row_tie rfl ⟨rfl, rfl⟩ (by kernel_rfl) rfl
    (fun f fn hf hfn => by
      obtain rfl : f = 4 := Option.some.inj ((show Tryd.prog.funcNamed "easement/easementlaw03.DenseJoins" = some 4 by kernel_rfl).symm.trans hf) |>.symm
      obtain rfl : fn = Tryd.f4 := (Option.some.inj (Tryd.func4.symm.trans hfn)).symm
      exact ⟨by kernel_rfl, fun j t ht => by
        rw [Tryd.params4] at ht
        have hm : t ∈ [3, 28, 28, 3] := by simpa using Array.mem_of_getElem? ht
        have hall : ([3, 28, 28, 3].all fun u => !Tryd.prog.wantsStandIn u) = true := by kernel_rfl
        exact (show Tryd.prog.wantsStandIn t = false by simpa using List.all_eq_true.1 hall t hm)⟩)
    (by kernel_rfl)
end Go.Proofs.YticfjbmafkjmaaaDoor.denseJoinsFrame
