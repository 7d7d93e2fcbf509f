import Derived.Test.YtmdmdmaekjpfjaaGreatA20
namespace Go.Proofs.YtmdmdmaekjpfjaaGreat
open Go.RowKit Lb
set_option linter.unusedVariables false
set_option linter.unnecessarySimpa false
set_option linter.unusedSimpArgs false
def snumW (x : St) : Int := if x.2 then IntKind.wrap .i64 (IntKind.wrap .i64 (2 * x.1) + 1) else IntKind.wrap .i64 (2 * x.1)
theorem snumW_eq (x : St) : (cond x.2 (some (IntKind.wrap .i64 ((IntKind.wrap .i64 (2 * x.1)) + 1))) (some (IntKind.wrap .i64 (2 * x.1))) : Option Int) = some (snumW x) := by
  obtain ⟨r, i⟩ := x
  cases i <;> rfl
def wslotW (x : St) : List UInt8 := put (snumW x)
def wtypeW (l : List St) : List UInt8 := put (l.length : Int) ++ l.flatMap wslotW
def wtypesW (l : List (List St)) : List UInt8 := put (l.length : Int) ++ l.flatMap wtypeW
def wsigW (g : Sgt) : List UInt8 := put g.1 ++ (wbounds g.2.1 ++ (wtypesW g.2.2.1 ++ wtypeW g.2.2.2))
theorem wslotW_len (x : St) : (wslotW x).length ≤ 5 := put_len5 _
theorem wtypeW_len (l : List St) : (wtypeW l).length ≤ 5 + l.length * 5 := by
  have h1 := put_len5 (l.length : Int)
  have h2 := fm_len wslotW 5 l (fun x _ => wslotW_len x)
  unfold wtypeW; rw [List.length_append]; omega
theorem sigPutTypeW_eq (l : List St) (hl : l.length ≤ 1000) : fn_sig_PutType l = some (wtypeW l) := by
  unfold fn_sig_PutType
  have hloop := loop_nat (body := fn_sig_PutType_l1 l) (fun k : Nat => ([(l.length : Int)] ++ (l.take k).map snumW, (k : Int))) l.length (b := [(l.length : Int)] ++ l.map snumW) ?_ ?_
  · have : loop (fn_sig_PutType_l1 l) ([(l.length : Int)], 0) = some ([(l.length : Int)] ++ l.map snumW) := by simpa using hloop
    rw [this, Option.bind_some, lebAll_eq _ (by simp; omega)]
    simp only [Option.bind_some, List.flatMap_append, fm_map]
    simp [wtypeW]; rfl
  · intro k hk
    unfold fn_sig_PutType_l1
    dsimp only
    rw [dlt hk, cond_true, getN hk, Option.bind_some, snumW_eq l[k], Option.bind_some, app_eq (by simp; omega), Option.bind_some, w64s hk (by omega)]
    rw [take_snoc hk, List.map_append]
    simp
  · unfold fn_sig_PutType_l1
    simp
theorem refPutTypeW_eq (l : List St) (hl : l.length ≤ 1000) : fn_ref17_PutType l = some (wtypeW l) := by
  unfold fn_ref17_PutType
  rw [refPut_eq, Option.bind_some]
  have hloop := loop_nat (body := fn_ref17_PutType_l1 l) (fun k : Nat => (put (l.length : Int) ++ (l.take k).flatMap wslotW, (k : Int))) l.length (b := wtypeW l) ?_ ?_
  · have : loop (fn_ref17_PutType_l1 l) (put (l.length : Int), 0) = some (wtypeW l) := by simpa using hloop
    rw [this]; rfl
  · intro k hk
    have l1 := put_len5 (l.length : Int)
    have l2 := fm_len wslotW 5 (l.take k) (fun x _ => wslotW_len x)
    have l3 : (l.take k).length ≤ 1000 := by simp; omega
    have l4 := wslotW_len l[k]
    unfold fn_ref17_PutType_l1
    dsimp only
    rw [dlt hk, cond_true, getN hk, Option.bind_some, Option.bind_some, snumW_eq l[k], Option.bind_some, refPut_eq, Option.bind_some, app_eq (by unfold wslotW at l4; simp only [List.length_append]; omega), Option.bind_some, w64s hk (by omega)]
    rw [take_snoc hk, List.flatMap_append]
    simp [wslotW]
  · unfold fn_ref17_PutType_l1
    simp [wtypeW]
def smS (g : Sgt) : Prop := g.2.1.length ≤ 20 ∧ g.2.2.1.length ≤ 20 ∧ (∀ t ∈ g.2.2.1, t.length ≤ 20) ∧ g.2.2.2.length ≤ 20
theorem sigPutW_eq (g : Sgt) (h : smS g) : fn_sig_Put g = some (wsigW g) := by
  obtain ⟨a2, a3, h3, a4⟩ := h
  obtain ⟨n, B, A, R⟩ := g
  dsimp only at *
  have l1 := put_len5 n
  have l2 := wbounds_len B
  have l4 := wtypeW_len R
  have l5 := put_len5 (A.length : Int)
  have l6 : ∀ q : List (List St), (∀ x ∈ q, x ∈ A) → (q.flatMap wtypeW).length ≤ q.length * 105 := fun q hq => fm_len wtypeW 105 q (fun x hx => by have := wtypeW_len x; have := h3 x (hq x hx); omega)
  unfold fn_sig_Put
  dsimp only
  rw [lebPut_eq, Option.bind_some, wrS_eq _ _ (by simp; omega), Option.bind_some, sigPutBounds_eq _ (by omega), Option.bind_some, wrS_eq _ _ (by simp; omega), Option.bind_some, lebPut_eq, Option.bind_some, wrS_eq _ _ (by simp; omega), Option.bind_some]
  have hloop := loop_nat (body := fn_sig_Put_l1 (n, B, A, R)) (fun k : Nat => ((k : Int), [] ++ put n ++ wbounds B ++ put (A.length : Int) ++ (A.take k).flatMap wtypeW)) A.length (b := [] ++ put n ++ wbounds B ++ put (A.length : Int) ++ A.flatMap wtypeW) ?_ ?_
  · have : loop (fn_sig_Put_l1 (n, B, A, R)) (0, [] ++ put n ++ wbounds B ++ put (A.length : Int)) = some ([] ++ put n ++ wbounds B ++ put (A.length : Int) ++ A.flatMap wtypeW) := by simpa using hloop
    have l7 := l6 A (fun x hx => hx)
    rw [this, Option.bind_some, sigPutTypeW_eq _ (by omega), Option.bind_some, wrS_eq _ _ (by simp only [List.length_append, List.length_nil]; omega)]
    simp [wsigW, wtypesW]
  · intro k hk
    have l7 := l6 (A.take k) (fun x hx => List.mem_of_mem_take hx)
    have l8 : (A.take k).length ≤ 20 := by simp; omega
    have l9 := h3 _ (List.getElem_mem hk)
    have l10 := wtypeW_len A[k]
    unfold fn_sig_Put_l1
    dsimp only
    rw [dlt hk, cond_true, getN hk, Option.bind_some, sigPutTypeW_eq _ (by omega), Option.bind_some, wrS_eq _ _ (by simp only [List.length_append, List.length_nil]; omega), Option.bind_some, w64s hk (by omega)]
    rw [take_snoc hk, List.flatMap_append]
    simp
  · unfold fn_sig_Put_l1
    simp
theorem refSigPutW_eq (g : Sgt) (h : smS g) : fn_ref17_Put g = some (wsigW g) := by
  obtain ⟨a2, a3, h3, a4⟩ := h
  obtain ⟨n, B, A, R⟩ := g
  dsimp only at *
  have l1 := put_len5 n
  have l2 := wbounds_len B
  have l4 := wtypeW_len R
  have l5 := put_len5 (A.length : Int)
  have l6 : ∀ q : List (List St), (∀ x ∈ q, x ∈ A) → (q.flatMap wtypeW).length ≤ q.length * 105 := fun q hq => fm_len wtypeW 105 q (fun x hx => by have := wtypeW_len x; have := h3 x (hq x hx); omega)
  unfold fn_ref17_Put
  dsimp only
  rw [refPut_eq, Option.bind_some, refPutBounds_eq _ (by omega), Option.bind_some, app_eq (by omega), Option.bind_some, refPut_eq, Option.bind_some, app_eq (by simp only [List.length_append]; omega), Option.bind_some]
  have hloop := loop_nat (body := fn_ref17_Put_l1 (n, B, A, R)) (fun k : Nat => (put n ++ wbounds B ++ put (A.length : Int) ++ (A.take k).flatMap wtypeW, (k : Int))) A.length (b := put n ++ wbounds B ++ put (A.length : Int) ++ A.flatMap wtypeW) ?_ ?_
  · have : loop (fn_ref17_Put_l1 (n, B, A, R)) (put n ++ wbounds B ++ put (A.length : Int), 0) = some (put n ++ wbounds B ++ put (A.length : Int) ++ A.flatMap wtypeW) := by simpa using hloop
    have l7 := l6 A (fun x hx => hx)
    rw [this, Option.bind_some, refPutTypeW_eq _ (by omega), Option.bind_some, app_eq (by simp only [List.length_append]; omega)]
    simp [wsigW, wtypesW]
  · intro k hk
    have l7 := l6 (A.take k) (fun x hx => List.mem_of_mem_take hx)
    have l8 : (A.take k).length ≤ 20 := by simp; omega
    have l9 := h3 _ (List.getElem_mem hk)
    have l10 := wtypeW_len A[k]
    unfold fn_ref17_Put_l1
    dsimp only
    rw [dlt hk, cond_true, getN hk, Option.bind_some, refPutTypeW_eq _ (by omega), Option.bind_some, app_eq (by simp only [List.length_append]; omega), Option.bind_some, w64s hk (by omega)]
    rw [take_snoc hk, List.flatMap_append]
    simp
  · unfold fn_ref17_Put_l1
    simp
theorem wsigW_len {g : Sgt} (h : smS g) : (wsigW g).length ≤ 2500 := by
  obtain ⟨a2, a3, h3, a4⟩ := h
  have l1 := put_len5 g.1
  have l2 := wbounds_len g.2.1
  have l4 := wtypeW_len g.2.2.2
  have l5 := put_len5 (g.2.2.1.length : Int)
  have l6 := fm_len wtypeW 105 g.2.2.1 (fun x hx => by have := wtypeW_len x; have := h3 x hx; omega)
  unfold wsigW wtypesW; simp only [List.length_append]; omega
def sNumW (r : Int) (m : Bool) : Int := if m then IntKind.wrap .i64 (IntKind.wrap .i64 (2 * r) + 1) else IntKind.wrap .i64 (2 * r)
def sPutW (x : Stm) : List UInt8 := numsPut [true, sDst x.1, sSrc x.1, sReg x.1] [x.1, x.2.1, x.2.2.1, sNumW x.2.2.2.1 x.2.2.2.2]
theorem sNumW_eq (r : Int) (m : Bool) : (cond m (some (IntKind.wrap .i64 ((IntKind.wrap .i64 (2 * r)) + 1))) (some (IntKind.wrap .i64 (2 * r))) : Option Int) = some (sNumW r m) := by
  cases m <;> rfl
theorem stmtPutW_eq (x : Stm) : fn_stmt_Put x = some (if fOk x then (sPutW x, 0) else ([], 3)) := by
  obtain ⟨k, d, s, r, m⟩ := x
  unfold fn_stmt_Put
  rw [form_eq]
  cases hf : fOk (k, d, s, r, m) with
  | false => rfl
  | true =>
    simp only [if_true, Option.bind_some, show (!decide ((0 : Int) = 0)) = false from rfl, cond_false, sNumW_eq r m, sPutW]
    cases sDst k <;> cases sSrc k <;> cases sReg k <;>
      simp only [cond_true, cond_false, Option.bind_some, app_eq (a := [k]) (b := [d]) (by simp), app_eq (a := [k]) (b := [s]) (by simp), app_eq (a := [k]) (b := [sNumW r m]) (by simp), List.singleton_append,
        app_eq (a := [k, d]) (b := [s]) (by simp), app_eq (a := [k, d]) (b := [sNumW r m]) (by simp), app_eq (a := [k, s]) (b := [sNumW r m]) (by simp), List.cons_append, List.nil_append, app_eq (a := [k, d, s]) (b := [sNumW r m]) (by simp)] <;>
      (rw [lebAll_eq _ (by simp)]; simp [numsPut])
theorem refSPutW_eq (x : Stm) : fn_ref18_Put x = some (if fOk x then (sPutW x, 0) else ([], 3)) := by
  obtain ⟨k, d, s, r, m⟩ := x
  unfold fn_ref18_Put
  rw [refForm_eq]
  cases hf : fOk (k, d, s, r, m) with
  | false => rfl
  | true =>
    have g1 : fn_ref18_Dst k = some (sDst k) := rfl
    have g2 : fn_ref18_Src k = some (sSrc k) := rfl
    have g3 : fn_ref18_Region k = some (sReg k) := rfl
    have b (n : Int) : (put n).length ≤ 5 := put_len5 n
    simp only [if_true, Option.bind_some, Bool.not_true, cond_false, refPut_eq, g1, g2, g3, sPutW]
    have e1 : sNumW r true = IntKind.wrap .i64 (IntKind.wrap .i64 (2 * r) + 1) := rfl
    have e2 : sNumW r false = IntKind.wrap .i64 (2 * r) := rfl
    have bk := b k; have bd := b d; have bs := b s; have b1 := b (IntKind.wrap .i64 (IntKind.wrap .i64 (2 * r) + 1)); have b2 := b (IntKind.wrap .i64 (2 * r))
    cases sDst k <;> cases sSrc k <;> cases sReg k <;> cases m <;>
      simp only [e1, e2, numsPut, cond_true, cond_false, Option.bind_some, Bool.and_true, Bool.and_false, Bool.not_true, Bool.not_false, List.append_nil] <;>
      (repeat (rw [app_eq (by (try simp only [List.length_append]); omega)]; simp only [Option.bind_some])) <;>
      (try rfl) <;> (try simp)
section
variable {α σ ρ : Type}
theorem loop_err {body : σ → Option (σ ⊕ ρ)} (X : List α) (bad : α → Bool) (st : Nat → σ) (hit : Nat → ρ) (fin : ρ) (hgo : ∀ k (h : k < X.length), (∀ j (h : j < X.length), j < k → bad X[j] = false) → bad X[k] = false → body (st k) = some (.inl (st (k + 1))))
    (hbad : ∀ k (h : k < X.length), (∀ j (h : j < X.length), j < k → bad X[j] = false) → bad X[k] = true → body (st k) = some (.inr (hit k))) (hend : body (st X.length) = some (.inr fin)) :
    (X.find? bad = none ∧ loop body (st 0) = some fin) ∨ ∃ (k : Nat) (h : k < X.length), X.find? bad = some X[k] ∧ bad X[k] = true ∧ loop body (st 0) = some (hit k) := by
  have gen : ∀ (m j : Nat), j + m = X.length → (∀ i (h : i < X.length), i < j → bad X[i] = false) → ((X.drop j).find? bad = none ∧ loop body (st j) = some fin) ∨ ∃ (k : Nat) (h : k < X.length), (X.drop j).find? bad = some X[k] ∧ bad X[k] = true ∧ loop body (st j) = some (hit k) := by
    intro m
    induction m with
    | zero =>
      intro j hj hg
      obtain rfl : j = X.length := by omega
      exact .inl ⟨by simp, loop_end hend⟩
    | succ m ih =>
      intro j hj hg
      have hk : j < X.length := by omega
      have e := List.drop_eq_getElem_cons hk
      cases hb : bad X[j] with
      | true => exact .inr ⟨j, hk, by rw [e, List.find?_cons, hb], hb, loop_end (hbad j hk hg hb)⟩
      | false =>
        rw [loop_next (hgo j hk hg hb)]
        have := ih (j + 1) (by omega) (fun i h hi => by
          rcases Nat.lt_succ_iff_lt_or_eq.1 hi with h1 | h1
          · exact hg i h h1
          · subst h1; exact hb)
        have e2 : (X.drop j).find? bad = (X.drop (j + 1)).find? bad := by rw [e, List.find?_cons, hb]
        rw [e2]; exact this
  simpa using gen X.length 0 (by omega) (fun i h hi => by omega)
end
def bErr (x : Blok) : Int := if x.1.any (fun s => !fOk s) then 3 else tForm x.2
def wblkW (x : Blok) : List UInt8 := put (x.1.length : Int) ++ x.1.flatMap sPutW ++ tPut x.2
def bHead (b : Bod) : List UInt8 := [109, 105, 114, 1] ++ put b.1 ++ put b.2.1 ++ wbounds b.2.2.1 ++ put (b.2.2.2.1.length : Int) ++ b.2.2.2.1.flatMap wtypeW ++ wtypeW b.2.2.2.2.1 ++ put (b.2.2.2.2.2.1.length : Int) ++ b.2.2.2.2.2.1.flatMap wsigW ++ put (b.2.2.2.2.2.2.length : Int)
def bPut (b : Bod) : List UInt8 × Int := match b.2.2.2.2.2.2.find? (fun x => !decide (bErr x = 0)) with
  | some x => ([], bErr x)
  | none => (bHead b ++ b.2.2.2.2.2.2.flatMap wblkW, 0)
structure Pz (b : Bod) : Prop where
  B : b.2.2.1.length ≤ 1000
  L : b.2.2.2.1.length ≤ 1000 ∧ ∀ t ∈ b.2.2.2.1, t.length ≤ 20
  R : b.2.2.2.2.1.length ≤ 20
  S : b.2.2.2.2.2.1.length ≤ 1000 ∧ ∀ g ∈ b.2.2.2.2.2.1, smS g
  X : b.2.2.2.2.2.2.length ≤ 1000 ∧ ∀ x ∈ b.2.2.2.2.2.2, x.1.length ≤ 1000
theorem tPut_len {x : Tm} (h : tForm x = 0) : (tPut x).length ≤ 300 := by
  obtain ⟨_, h1, h2, h3⟩ := tForm_zero h
  have p1 := pl_len _ h1
  have p2 := pl_len _ h2
  have p3 := pl_len _ h3
  have q (n : Int) : (put n).length ≤ 5 := put_len5 n
  have q0 := q x.1; have q1 := q (x.2.2.2.1.getD 0 0); have q2 := q x.2.1; have q3 := q x.2.2.1
  unfold tPut
  split
  · simp only [List.length_append]; omega
  · split
    · simp only [List.length_append]; omega
    · split
      · simp only [List.length_append]; omega
      · simp only [List.length_append, List.length_nil]; omega
theorem sPutW_len (x : Stm) : (sPutW x).length ≤ 20 := by
  have q (n : Int) : (put n).length ≤ 5 := put_len5 n
  have q0 := q x.1; have q1 := q x.2.1; have q2 := q x.2.2.1; have q3 := q (sNumW x.2.2.2.1 x.2.2.2.2)
  unfold sPutW
  cases sDst x.1 <;> cases sSrc x.1 <;> cases sReg x.1 <;> simp only [numsPut, List.length_append, List.length_nil] <;> omega
theorem find_any {α : Type} (l : List α) (p : α → Bool) : l.find? p = none ↔ l.any p = false := by
  rw [List.find?_eq_none, List.any_eq_false]
theorem wblkW_len {x : Blok} (h : bErr x = 0) (hx : x.1.length ≤ 1000) : (wblkW x).length ≤ 20305 := by
  have h1 := put_len5 (x.1.length : Int)
  have h2 := fm_len sPutW 20 x.1 (fun s _ => sPutW_len s)
  have h3 : tForm x.2 = 0 := by
    unfold bErr at h; split at h
    · cases h
    · exact h
  have h4 := tPut_len h3
  unfold wblkW; simp only [List.length_append]; omega
theorem putBlock_eq (x : Blok) (s : List UInt8) (hs : s.length ≤ 1000000000) (hx : x.1.length ≤ 1000) : (bErr x = 0 → fn_body_putBlock_p0a_s x s = some (0, s ++ wblkW x)) ∧ (bErr x ≠ 0 → ∃ s', fn_body_putBlock_p0a_s x s = some (bErr x, s')) := by
  have h1 := put_len5 (x.1.length : Int)
  have h2 (q : List Stm) := fm_len sPutW 20 q (fun s _ => sPutW_len s)
  have h2a := h2 x.1
  unfold fn_body_putBlock_p0a_s
  rw [lebPut_eq, Option.bind_some, show wrS s (put (x.1.length : Int)) = _ from app_eq (by omega), Option.bind_some]
  have hl := loop_err (body := fn_body_putBlock_p0a_s_l1 x) x.1 (fun t => !fOk t) (fun k => ((k : Int), s ++ put (x.1.length : Int) ++ (x.1.take k).flatMap sPutW)) (fun k => .inr (3, s ++ put (x.1.length : Int) ++ (x.1.take k).flatMap sPutW)) (.inl (s ++ put (x.1.length : Int) ++ x.1.flatMap sPutW)) ?_ ?_ ?_
  · simp only [List.take_zero, List.flatMap_nil, List.append_nil] at hl
    rw [show ((0 : Nat) : Int) = 0 from rfl] at hl
    rcases hl with ⟨hf, hl⟩ | ⟨k, hk, hf, hb, hl⟩
    · have ha := (find_any _ _).1 hf
      have he : bErr x = tForm x.2 := by unfold bErr; rw [ha]; rfl
      rw [hl, he]
      simp only [Option.bind_some, show fn_term_Put (x.2.1, x.2.2.1, x.2.2.2.1, x.2.2.2.2.1, x.2.2.2.2.2.1, x.2.2.2.2.2.2) = _ from tPut_eq x.2]
      by_cases ht : tForm x.2 = 0
      · have h4 := tPut_len ht
        refine ⟨fun _ => ?_, fun h => absurd ht h⟩
        rw [if_pos ht]
        dsimp only
        rw [show wrS (s ++ put (x.1.length : Int) ++ x.1.flatMap sPutW) (tPut x.2) = _ from app_eq (by simp only [List.length_append]; omega)]
        simp [wblkW]
      · refine ⟨fun h => absurd h ht, fun _ => ?_⟩
        rw [if_neg ht]
        dsimp only
        rw [show wrS (s ++ put (x.1.length : Int) ++ x.1.flatMap sPutW) [] = _ from app_eq (by simp only [List.length_append, List.length_nil]; omega)]
        exact ⟨_, rfl⟩
    · have ha : x.1.any (fun t => !fOk t) = true := List.any_eq_true.2 ⟨_, List.getElem_mem hk, hb⟩
      have he : bErr x = 3 := by unfold bErr; rw [ha]; rfl
      rw [hl, he]
      exact ⟨fun h => absurd h (by decide), fun _ => ⟨_, rfl⟩⟩
  · intro k hk _ hb
    have h3 := h2 (x.1.take k)
    have h4 : (x.1.take k).length ≤ 1000 := by simp; omega
    have h5 := sPutW_len x.1[k]
    have hb' : fOk x.1[k] = true := by simpa using hb
    unfold fn_body_putBlock_p0a_s_l1
    dsimp only
    rw [dlt hk, cond_true, getN hk, Option.bind_some, show fn_stmt_Put (x.1[k].1, x.1[k].2.1, x.1[k].2.2.1, x.1[k].2.2.2.1, x.1[k].2.2.2.2) = _ from stmtPutW_eq x.1[k], if_pos hb', Option.bind_some]
    dsimp only
    rw [show (!decide ((0 : Int) = 0)) = false from rfl, cond_false, show wrS (s ++ put (x.1.length : Int) ++ (x.1.take k).flatMap sPutW) (sPutW x.1[k]) = _ from app_eq (by simp only [List.length_append]; omega), Option.bind_some, w64s hk (by omega), take_snoc hk, List.flatMap_append]
    simp
  · intro k hk _ hb
    have hb' : fOk x.1[k] = false := by simpa using hb
    unfold fn_body_putBlock_p0a_s_l1
    dsimp only
    rw [dlt hk, cond_true, getN hk, Option.bind_some, show fn_stmt_Put (x.1[k].1, x.1[k].2.1, x.1[k].2.2.1, x.1[k].2.2.2.1, x.1[k].2.2.2.2) = _ from stmtPutW_eq x.1[k], if_neg (by rw [hb']; simp), Option.bind_some]
    rfl
  · unfold fn_body_putBlock_p0a_s_l1
    simp
theorem blk_take (X : List Blok) (hX : ∀ x ∈ X, x.1.length ≤ 1000) (k : Nat) (hk : k ≤ X.length) (hl : X.length ≤ 1000) (hg : ∀ j (h : j < X.length), j < k → bErr X[j] = 0) : ((X.take k).flatMap wblkW).length ≤ 21000000 := by
  have := fm_len wblkW 20305 (X.take k) (fun x hx => by
    obtain ⟨j, hj, rfl⟩ := List.getElem_of_mem hx
    simp only [List.length_take] at hj
    rw [List.getElem_take]
    exact wblkW_len (hg j (by omega) (by omega)) (hX _ (List.getElem_mem _)))
  simp only [List.length_take] at this
  have h2 : min k X.length * 20305 ≤ 1000 * 20305 := Nat.mul_le_mul_right _ (by omega)
  omega
theorem head_lens {b : Bod} (h : Pz b) : (wbounds b.2.2.1).length ≤ 10005 ∧ (∀ k, ((b.2.2.2.1.take k).flatMap wtypeW).length ≤ 105000) ∧ (wtypeW b.2.2.2.2.1).length ≤ 105 ∧ (∀ k, ((b.2.2.2.2.2.1.take k).flatMap wsigW).length ≤ 2500000) ∧ (b.2.2.2.1.flatMap wtypeW).length ≤ 105000 ∧ (b.2.2.2.2.2.1.flatMap wsigW).length ≤ 2500000 := by
  have hB := h.B; have hL := h.L; have hR := h.R; have hS := h.S
  have l1 := wbounds_len b.2.2.1
  have l2 (k : Nat) : ((b.2.2.2.1.take k).flatMap wtypeW).length ≤ 105000 := by
    have h1 := fm_len wtypeW 105 (b.2.2.2.1.take k) (fun x hx => by have := wtypeW_len x; have := hL.2 x (List.mem_of_mem_take hx); omega)
    simp only [List.length_take] at h1
    have h2 : min k b.2.2.2.1.length * 105 ≤ 1000 * 105 := Nat.mul_le_mul_right _ (by omega)
    omega
  have l3 := wtypeW_len b.2.2.2.2.1
  have l4 (k : Nat) : ((b.2.2.2.2.2.1.take k).flatMap wsigW).length ≤ 2500000 := by
    have h1 := fm_len wsigW 2500 (b.2.2.2.2.2.1.take k) (fun x hx => wsigW_len (hS.2 x (List.mem_of_mem_take hx)))
    simp only [List.length_take] at h1
    have h2 : min k b.2.2.2.2.2.1.length * 2500 ≤ 1000 * 2500 := Nat.mul_le_mul_right _ (by omega)
    omega
  have l5 := l2 b.2.2.2.1.length
  have l6 := l4 b.2.2.2.2.2.1.length
  rw [List.take_length] at l5 l6
  exact ⟨by omega, l2, by omega, l4, l5, l6⟩
theorem bodyPut_eq (b : Bod) (h : Pz b) : fn_body_Put b = some (bPut b) := by
  obtain ⟨w1, w2, w3, w4, w5, w6⟩ := head_lens h
  have hB := h.B; have hL := h.L; have hR := h.R; have hS := h.S; have hX := h.X
  have q (n : Int) : (put n).length ≤ 5 := put_len5 n
  have q1 := q b.1; have q2 := q b.2.1; have q3 := q (b.2.2.2.1.length : Int); have q4 := q (b.2.2.2.2.2.1.length : Int); have q5 := q (b.2.2.2.2.2.2.length : Int)
  have W (x y : List UInt8) (h : x.length + y.length ≤ 1000000000) : wrS x y = some (x ++ y) := app_eq (by omega)
  have l1 (s : List UInt8) (hs : s.length ≤ 10000000) : loop (fn_body_Put_l1 b) (0, s) = some (s ++ b.2.2.2.1.flatMap wtypeW) := by
    have hloop := loop_nat (body := fn_body_Put_l1 b) (fun k : Nat => ((k : Int), s ++ (b.2.2.2.1.take k).flatMap wtypeW)) b.2.2.2.1.length (b := s ++ b.2.2.2.1.flatMap wtypeW) ?_ ?_
    · simpa using hloop
    · intro k hk
      have a1 := w2 k
      have a2 := wtypeW_len b.2.2.2.1[k]
      have a3 := hL.2 _ (List.getElem_mem hk)
      unfold fn_body_Put_l1
      dsimp only
      rw [dlt hk, cond_true, getN hk, Option.bind_some, sigPutTypeW_eq _ (by omega), Option.bind_some, W _ _ (by simp only [List.length_append]; omega), Option.bind_some, w64s hk (by omega), take_snoc hk, List.flatMap_append]
      simp
    · unfold fn_body_Put_l1
      simp
  have l2 (s : List UInt8) (hs : s.length ≤ 10000000) : loop (fn_body_Put_l2 b) (0, s) = some (s ++ b.2.2.2.2.2.1.flatMap wsigW) := by
    have hloop := loop_nat (body := fn_body_Put_l2 b) (fun k : Nat => ((k : Int), s ++ (b.2.2.2.2.2.1.take k).flatMap wsigW)) b.2.2.2.2.2.1.length (b := s ++ b.2.2.2.2.2.1.flatMap wsigW) ?_ ?_
    · simpa using hloop
    · intro k hk
      have a1 := w4 k
      have a3 := hS.2 _ (List.getElem_mem hk)
      have a2 := wsigW_len a3
      unfold fn_body_Put_l2
      dsimp only
      rw [dlt hk, cond_true, getN hk, Option.bind_some, show fn_sig_Put (b.2.2.2.2.2.1[k].1, b.2.2.2.2.2.1[k].2.1, b.2.2.2.2.2.1[k].2.2.1, b.2.2.2.2.2.1[k].2.2.2) = _ from sigPutW_eq b.2.2.2.2.2.1[k] a3, Option.bind_some, W _ _ (by simp only [List.length_append]; omega), Option.bind_some, w64s hk (by omega), take_snoc hk, List.flatMap_append]
      simp
    · unfold fn_body_Put_l2
      simp
  have l3 (s : List UInt8) (hs : s.length ≤ 10000000) : loop (fn_body_Put_l3 b) (0, s) = some (match b.2.2.2.2.2.2.find? (fun x => !decide (bErr x = 0)) with | some x => .inr ([], bErr x) | none => .inl (s ++ b.2.2.2.2.2.2.flatMap wblkW)) := by
    have hl := loop_err (body := fn_body_Put_l3 b) b.2.2.2.2.2.2 (fun x => !decide (bErr x = 0)) (fun k => ((k : Int), s ++ (b.2.2.2.2.2.2.take k).flatMap wblkW)) (fun k => .inr ([], bErr (b.2.2.2.2.2.2.getD k ([], 0, 0, 0, [], [], [])))) (.inl (s ++ b.2.2.2.2.2.2.flatMap wblkW)) ?_ ?_ ?_
    · simp only [List.take_zero, List.flatMap_nil, List.append_nil] at hl
      rw [show ((0 : Nat) : Int) = 0 from rfl] at hl
      rcases hl with ⟨hf, hl⟩ | ⟨k, hk, hf, hb, hl⟩
      · rw [hl, hf]
      · rw [hl, hf]; simp [List.getD, hk]
    · intro k hk hg hb
      have a0 := blk_take b.2.2.2.2.2.2 hX.2 k (by omega) hX.1 (fun j h1 h2 => by simpa using hg j h1 h2)
      have hb' : bErr b.2.2.2.2.2.2[k] = 0 := by simpa using hb
      have a1 := (putBlock_eq b.2.2.2.2.2.2[k] (s ++ (b.2.2.2.2.2.2.take k).flatMap wblkW) (by simp only [List.length_append]; omega) (hX.2 _ (List.getElem_mem hk))).1 hb'
      unfold fn_body_Put_l3
      dsimp only
      rw [dlt hk, cond_true, getN hk, Option.bind_some, show fn_body_putBlock_p0a_s (b.2.2.2.2.2.2[k].1, (b.2.2.2.2.2.2[k].2.1, b.2.2.2.2.2.2[k].2.2.1, b.2.2.2.2.2.2[k].2.2.2.1, b.2.2.2.2.2.2[k].2.2.2.2.1, b.2.2.2.2.2.2[k].2.2.2.2.2.1, b.2.2.2.2.2.2[k].2.2.2.2.2.2)) (s ++ (b.2.2.2.2.2.2.take k).flatMap wblkW) = _ from a1, Option.bind_some]
      dsimp only
      rw [show (!decide ((0 : Int) = 0)) = false from rfl, cond_false, w64s hk (by omega), take_snoc hk, List.flatMap_append]
      simp
    · intro k hk hg hb
      have a0 := blk_take b.2.2.2.2.2.2 hX.2 k (by omega) hX.1 (fun j h1 h2 => by simpa using hg j h1 h2)
      have hb' : bErr b.2.2.2.2.2.2[k] ≠ 0 := by simpa using hb
      obtain ⟨s', a1⟩ := (putBlock_eq b.2.2.2.2.2.2[k] (s ++ (b.2.2.2.2.2.2.take k).flatMap wblkW) (by simp only [List.length_append]; omega) (hX.2 _ (List.getElem_mem hk))).2 hb'
      unfold fn_body_Put_l3
      dsimp only
      rw [dlt hk, cond_true, getN hk, Option.bind_some, show fn_body_putBlock_p0a_s (b.2.2.2.2.2.2[k].1, (b.2.2.2.2.2.2[k].2.1, b.2.2.2.2.2.2[k].2.2.1, b.2.2.2.2.2.2[k].2.2.2.1, b.2.2.2.2.2.2[k].2.2.2.2.1, b.2.2.2.2.2.2[k].2.2.2.2.2.1, b.2.2.2.2.2.2[k].2.2.2.2.2.2)) (s ++ (b.2.2.2.2.2.2.take k).flatMap wblkW) = _ from a1, Option.bind_some]
      dsimp only
      rw [decide_eq_false hb']
      simp [List.getD, hk]
    · unfold fn_body_Put_l3
      simp
  unfold fn_body_Put
  rw [W _ _ (by simp), Option.bind_some, lebAll_eq _ (by simp), Option.bind_some, W _ _ (by simp only [List.length_append, List.length_cons, List.length_nil, List.flatMap_cons, List.flatMap_nil, List.append_nil]; omega), Option.bind_some, sigPutBounds_eq _ hB, Option.bind_some, W _ _ (by simp only [List.length_append, List.length_cons, List.length_nil, List.flatMap_cons, List.flatMap_nil, List.append_nil]; omega), Option.bind_some, lebPut_eq, Option.bind_some,
    W _ _ (by simp only [List.length_append, List.length_cons, List.length_nil, List.flatMap_cons, List.flatMap_nil, List.append_nil]; omega), Option.bind_some, l1 _ (by simp only [List.length_append, List.length_cons, List.length_nil, List.flatMap_cons, List.flatMap_nil, List.append_nil]; omega), Option.bind_some, sigPutTypeW_eq _ (by omega), Option.bind_some, W _ _ (by simp only [List.length_append, List.length_cons, List.length_nil, List.flatMap_cons, List.flatMap_nil, List.append_nil]; omega), Option.bind_some, lebPut_eq, Option.bind_some,
    W _ _ (by simp only [List.length_append, List.length_cons, List.length_nil, List.flatMap_cons, List.flatMap_nil, List.append_nil]; omega), Option.bind_some, l2 _ (by simp only [List.length_append, List.length_cons, List.length_nil, List.flatMap_cons, List.flatMap_nil, List.append_nil]; omega), Option.bind_some, lebPut_eq, Option.bind_some, W _ _ (by simp only [List.length_append, List.length_cons, List.length_nil, List.flatMap_cons, List.flatMap_nil, List.append_nil]; omega), Option.bind_some, l3 _ (by simp only [List.length_append, List.length_cons, List.length_nil, List.flatMap_cons, List.flatMap_nil, List.append_nil]; omega)]
  unfold bPut
  cases b.2.2.2.2.2.2.find? (fun x => !decide (bErr x = 0)) with
  | some x => rfl
  | none => simp [bHead]
theorem refStmts_eq (x : Blok) (s : List UInt8) (hs : s.length ≤ 1000000000) (hx : x.1.length ≤ 1000) : loop (fn_ref20_Put_l3 x) (s, 0) = some (if x.1.any (fun s => !fOk s) then (.inr (.inr (.inr ([], 3))) : List UInt8 ⊕ ((List UInt8 × Int) ⊕ (List UInt8 ⊕ (List UInt8 × Int)))) else .inl (s ++ x.1.flatMap sPutW)) := by
  have h2 (q : List Stm) := fm_len sPutW 20 q (fun s _ => sPutW_len s)
  have hl := loop_err (body := fn_ref20_Put_l3 x) x.1 (fun t => !fOk t) (fun k => (s ++ (x.1.take k).flatMap sPutW, (k : Int))) (fun k => .inr (.inr (.inr ([], 3)))) (.inl (s ++ x.1.flatMap sPutW)) ?_ ?_ ?_
  · simp only [List.take_zero, List.flatMap_nil, List.append_nil] at hl
    rw [show ((0 : Nat) : Int) = 0 from rfl] at hl
    rcases hl with ⟨hf, hl⟩ | ⟨k, hk, hf, hb, hl⟩
    · rw [hl, (find_any _ _).1 hf]; rfl
    · rw [hl, List.any_eq_true.2 ⟨_, List.getElem_mem hk, hb⟩]; rfl
  · intro k hk _ hb
    have h3 := h2 (x.1.take k)
    have h4 : (x.1.take k).length ≤ 1000 := by simp; omega
    have h5 := sPutW_len x.1[k]
    have hb' : fOk x.1[k] = true := by simpa using hb
    unfold fn_ref20_Put_l3
    dsimp only
    rw [dlt hk, cond_true, getN hk, Option.bind_some, show fn_ref18_Put (x.1[k].1, x.1[k].2.1, x.1[k].2.2.1, x.1[k].2.2.2.1, x.1[k].2.2.2.2) = _ from refSPutW_eq x.1[k], if_pos hb', Option.bind_some]
    dsimp only
    rw [show (!decide ((0 : Int) = 0)) = false from rfl, cond_false, app_eq (by simp only [List.length_append]; omega), Option.bind_some, w64s hk (by omega), take_snoc hk, List.flatMap_append]
    simp
  · intro k hk _ hb
    have hb' : fOk x.1[k] = false := by simpa using hb
    unfold fn_ref20_Put_l3
    dsimp only
    rw [dlt hk, cond_true, getN hk, Option.bind_some, show fn_ref18_Put (x.1[k].1, x.1[k].2.1, x.1[k].2.2.1, x.1[k].2.2.2.1, x.1[k].2.2.2.2) = _ from refSPutW_eq x.1[k], if_neg (by rw [hb']; simp), Option.bind_some]
    rfl
  · unfold fn_ref20_Put_l3
    simp
theorem refBody_eq (b : Bod) (h : Pz b) : fn_ref20_Put b = some (bPut b) := by
  obtain ⟨w1, w2, w3, w4, w5, w6⟩ := head_lens h
  have hB := h.B; have hL := h.L; have hR := h.R; have hS := h.S; have hX := h.X
  have q (n : Int) : (put n).length ≤ 5 := put_len5 n
  have q1 := q b.1; have q2 := q b.2.1; have q3 := q (b.2.2.2.1.length : Int); have q4 := q (b.2.2.2.2.2.1.length : Int); have q5 := q (b.2.2.2.2.2.2.length : Int)
  have W (x y : List UInt8) (h : x.length + y.length ≤ 1000000000) : app x y = some (x ++ y) := app_eq (by omega)
  have l1 (s : List UInt8) (hs : s.length ≤ 10000000) : loop (fn_ref20_Put_l1 b) (s, 0) = some (s ++ b.2.2.2.1.flatMap wtypeW) := by
    have hloop := loop_nat (body := fn_ref20_Put_l1 b) (fun k : Nat => (s ++ (b.2.2.2.1.take k).flatMap wtypeW, (k : Int))) b.2.2.2.1.length (b := s ++ b.2.2.2.1.flatMap wtypeW) ?_ ?_
    · simpa using hloop
    · intro k hk
      have a1 := w2 k
      have a2 := wtypeW_len b.2.2.2.1[k]
      have a3 := hL.2 _ (List.getElem_mem hk)
      unfold fn_ref20_Put_l1
      dsimp only
      rw [dlt hk, cond_true, getN hk, Option.bind_some, refPutTypeW_eq _ (by omega), Option.bind_some, W _ _ (by simp only [List.length_append]; omega), Option.bind_some, w64s hk (by omega), take_snoc hk, List.flatMap_append]
      simp
    · unfold fn_ref20_Put_l1
      simp
  have l2 (s : List UInt8) (hs : s.length ≤ 10000000) : loop (fn_ref20_Put_l2 b) (s, 0) = some (s ++ b.2.2.2.2.2.1.flatMap wsigW) := by
    have hloop := loop_nat (body := fn_ref20_Put_l2 b) (fun k : Nat => (s ++ (b.2.2.2.2.2.1.take k).flatMap wsigW, (k : Int))) b.2.2.2.2.2.1.length (b := s ++ b.2.2.2.2.2.1.flatMap wsigW) ?_ ?_
    · simpa using hloop
    · intro k hk
      have a1 := w4 k
      have a3 := hS.2 _ (List.getElem_mem hk)
      have a2 := wsigW_len a3
      unfold fn_ref20_Put_l2
      dsimp only
      rw [dlt hk, cond_true, getN hk, Option.bind_some, show fn_ref17_Put (b.2.2.2.2.2.1[k].1, b.2.2.2.2.2.1[k].2.1, b.2.2.2.2.2.1[k].2.2.1, b.2.2.2.2.2.1[k].2.2.2) = _ from refSigPutW_eq b.2.2.2.2.2.1[k] a3, Option.bind_some, W _ _ (by simp only [List.length_append]; omega), Option.bind_some, w64s hk (by omega), take_snoc hk, List.flatMap_append]
      simp
    · unfold fn_ref20_Put_l2
      simp
  have l4 (s : List UInt8) (hs : s.length ≤ 10000000) : loop (fn_ref20_Put_l4 b) (s, 0) = some (match b.2.2.2.2.2.2.find? (fun x => !decide (bErr x = 0)) with | some x => .inr ([], bErr x) | none => .inl (s ++ b.2.2.2.2.2.2.flatMap wblkW)) := by
    have hl := loop_err (body := fn_ref20_Put_l4 b) b.2.2.2.2.2.2 (fun x => !decide (bErr x = 0)) (fun k => (s ++ (b.2.2.2.2.2.2.take k).flatMap wblkW, (k : Int))) (fun k => .inr ([], bErr (b.2.2.2.2.2.2.getD k ([], 0, 0, 0, [], [], [])))) (.inl (s ++ b.2.2.2.2.2.2.flatMap wblkW)) ?_ ?_ ?_
    · simp only [List.take_zero, List.flatMap_nil, List.append_nil] at hl
      rw [show ((0 : Nat) : Int) = 0 from rfl] at hl
      rcases hl with ⟨hf, hl⟩ | ⟨k, hk, hf, hb, hl⟩
      · rw [hl, hf]
      · rw [hl, hf]; simp [List.getD, hk]
    · intro k hk hg hb
      have a0 := blk_take b.2.2.2.2.2.2 hX.2 k (by omega) hX.1 (fun j h1 h2 => by simpa using hg j h1 h2)
      have hb' : bErr b.2.2.2.2.2.2[k] = 0 := by simpa using hb
      have a2 := wblkW_len hb' (hX.2 _ (List.getElem_mem hk))
      have a3 := hX.2 _ (List.getElem_mem hk)
      have a4 := q (b.2.2.2.2.2.2[k].1.length : Int)
      unfold fn_ref20_Put_l4
      dsimp only
      rw [dlt hk, cond_true, getN hk, Option.bind_some, refPut_eq, Option.bind_some, W _ _ (by simp only [List.length_append]; omega), Option.bind_some, refStmts_eq _ _ (by simp only [List.length_append]; omega) a3, take_snoc hk, List.flatMap_append]
      generalize b.2.2.2.2.2.2[k] = x at *
      have a5 : (wblkW x).length = (put (x.1.length : Int)).length + (x.1.flatMap sPutW).length + (tPut x.2).length := by simp [wblkW]; omega
      unfold bErr at hb'
      cases ha : x.1.any (fun s => !fOk s) with
      | true => rw [ha, if_pos rfl] at hb'; cases hb'
      | false =>
        rw [ha] at hb'
        have ht : tForm x.2 = 0 := hb'
        simp only [Bool.false_eq_true, if_false, Option.bind_some, show fn_ref19_Put (x.2.1, x.2.2.1, x.2.2.2.1, x.2.2.2.2.1, x.2.2.2.2.2.1, x.2.2.2.2.2.2) = _ from refTPut_eq x.2, if_pos ht, decide_true, Bool.not_true, cond_false]
        rw [W _ _ (by simp only [List.length_append]; omega), Option.bind_some, w64s hk (by omega)]
        simp [wblkW]
    · intro k hk hg hb
      have a0 := blk_take b.2.2.2.2.2.2 hX.2 k (by omega) hX.1 (fun j h1 h2 => by simpa using hg j h1 h2)
      have hb' : bErr b.2.2.2.2.2.2[k] ≠ 0 := by simpa using hb
      have a3 := hX.2 _ (List.getElem_mem hk)
      have a4 := q (b.2.2.2.2.2.2[k].1.length : Int)
      have hd : b.2.2.2.2.2.2.getD k ([], 0, 0, 0, [], [], []) = b.2.2.2.2.2.2[k] := by simp [List.getD, hk]
      unfold fn_ref20_Put_l4
      dsimp only
      rw [dlt hk, cond_true, getN hk, Option.bind_some, refPut_eq, Option.bind_some, W _ _ (by simp only [List.length_append]; omega), Option.bind_some, refStmts_eq _ _ (by simp only [List.length_append]; omega) a3, hd]
      generalize b.2.2.2.2.2.2[k] = x at *
      cases ha : x.1.any (fun s => !fOk s) with
      | true =>
        have : bErr x = 3 := by unfold bErr; rw [ha]; rfl
        rw [this]; rfl
      | false =>
        have he : bErr x = tForm x.2 := by unfold bErr; rw [ha]; rfl
        rw [he] at hb' ⊢
        simp only [Bool.false_eq_true, if_false, Option.bind_some, show fn_ref19_Put (x.2.1, x.2.2.1, x.2.2.2.1, x.2.2.2.2.1, x.2.2.2.2.2.1, x.2.2.2.2.2.2) = _ from refTPut_eq x.2, if_neg hb', decide_eq_false hb', Bool.not_false, cond_true]
    · unfold fn_ref20_Put_l4
      simp
  unfold fn_ref20_Put
  rw [refPut_eq, Option.bind_some, W _ _ (by simp only [List.length_append, List.length_cons, List.length_nil, List.flatMap_cons, List.flatMap_nil, List.append_nil]; omega), Option.bind_some, refPut_eq, Option.bind_some, W _ _ (by simp only [List.length_append, List.length_cons, List.length_nil, List.flatMap_cons, List.flatMap_nil, List.append_nil]; omega), Option.bind_some, refPutBounds_eq _ hB, Option.bind_some, W _ _ (by simp only [List.length_append, List.length_cons, List.length_nil, List.flatMap_cons, List.flatMap_nil, List.append_nil]; omega), Option.bind_some, refPut_eq, Option.bind_some,
    W _ _ (by simp only [List.length_append, List.length_cons, List.length_nil, List.flatMap_cons, List.flatMap_nil, List.append_nil]; omega), Option.bind_some, l1 _ (by simp only [List.length_append, List.length_cons, List.length_nil, List.flatMap_cons, List.flatMap_nil, List.append_nil]; omega), Option.bind_some, refPutTypeW_eq _ (by omega), Option.bind_some, W _ _ (by simp only [List.length_append, List.length_cons, List.length_nil, List.flatMap_cons, List.flatMap_nil, List.append_nil]; omega), Option.bind_some, refPut_eq, Option.bind_some,
    W _ _ (by simp only [List.length_append, List.length_cons, List.length_nil, List.flatMap_cons, List.flatMap_nil, List.append_nil]; omega), Option.bind_some, l2 _ (by simp only [List.length_append, List.length_cons, List.length_nil, List.flatMap_cons, List.flatMap_nil, List.append_nil]; omega), Option.bind_some, refPut_eq, Option.bind_some, W _ _ (by simp only [List.length_append, List.length_cons, List.length_nil, List.flatMap_cons, List.flatMap_nil, List.append_nil]; omega), Option.bind_some, l4 _ (by simp only [List.length_append, List.length_cons, List.length_nil, List.flatMap_cons, List.flatMap_nil, List.append_nil]; omega)]
  unfold bPut
  cases b.2.2.2.2.2.2.find? (fun x => !decide (bErr x = 0)) with
  | some x => rfl
  | none => simp [bHead]
end Go.Proofs.YtmdmdmaekjpfjaaGreat
