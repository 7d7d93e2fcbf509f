import Derived.Test.YtmdmdmaekjpfjaaGreatT17
namespace Go.Proofs.YtmdmdmaekjpfjaaGreat
open Go.RowKit Lb
set_option linter.unusedVariables false
set_option linter.unnecessarySimpa false
set_option linter.unusedSimpArgs false
theorem refTakeType_eq (s : List UInt8) (hl : s.length ≤ 1000000) : fn_ref17_TakeType s = some (outT (ptype s)) := by
  have key : Goes (fn_ref17_TakeType s) (fun (l : List St) j => (l, (j : Int), (0 : Int))) (fun e g => g = ([], 0, e)) (ptype s) := by
    unfold fn_ref17_TakeType
    rw [refTake_eq s (by omega), Option.bind_some]
    cases hs : pcount 16 s with
    | inl e =>
      have : ptype s = .inl e := pb_err hs
      rw [this]
      rcases pb_inl (p := pnum) (q := fun n => if 16 < n then pfail 6 else pret n) hs with h | ⟨n, m, h, h2⟩
      · obtain ⟨h1, h2⟩ := pnum_inl h
        rw [h1]; exact ⟨([], 0, e), by simp [h2], rfl⟩
      · obtain ⟨h1, _⟩ := pnum_inr h
        rw [h1]
        split at h2
        · cases h2; rename_i q; exact ⟨([], 0, 6), by simp [q], rfl⟩
        · cases h2
    | inr x =>
      obtain ⟨n, j⟩ := x
      obtain ⟨h1, h2⟩ := pcount_inr hs
      obtain ⟨h3, n0, n1, _, m1, _⟩ := pnum_inr h1
      have e1 : ptype s = padd j (pmany pslot n.toNat (s.drop j)) := pb_of hs
      rw [h3]
      simp only [decide_true, Bool.not_true, cond_false]
      rw [decide_eq_false (by omega), cond_false]
      have hl' := loop_many Sane.slot slot_pos s (body := fn_ref17_TakeType_l1 s n) n.toNat (fun acc k => ((k : Int), acc, ((acc.length : Nat) : Int))) (fun acc k => .inl ((k : Int), acc)) (fun e r => r = .inr ([], 0, e)) ?_ ?_ (k0 := j) (by omega)
      · rw [e1]
        have hl2 : loop (fn_ref17_TakeType_l1 s n) ((j : Int), [], 0) = loop (fn_ref17_TakeType_l1 s n) ((j : Int), [], (([] : List St).length : Int)) := rfl
        rw [hl2]
        cases h5 : pmany pslot n.toNat (s.drop j) with
        | inl e => rw [h5] at hl'; obtain ⟨r, h6, rfl⟩ := hl'; rw [h6]; exact ⟨_, rfl, rfl⟩
        | inr y => obtain ⟨y, k⟩ := y; rw [h5] at hl'; rw [show loop _ _ = _ from hl']; rfl
      · intro acc k' a1 a2 a3
        have hb : ∀ g : Int × Int × Int, fn_ref02_Take (s.drop k') = some g → fn_ref17_TakeType_l1 s n ((k' : Int), acc, ((acc.length : Nat) : Int)) = if g.2.2 = 0 then some (.inl (IntKind.wrap .i64 ((k' : Int) + g.2.1), acc ++ [(IntKind.wrap .i64 (Int.tdiv g.1 2), decide ((Int.tmod g.1 2) = 1))], ((acc.length + 1 : Nat) : Int))) else some (.inr (.inr ([], 0, g.2.2))) := by
          intro g hg
          unfold fn_ref17_TakeType_l1
          dsimp only
          rw [decide_eq_true (by omega), cond_true, sub_tail s k' a3, Option.bind_some, hg, Option.bind_some]
          by_cases q : g.2.2 = 0
          · rw [if_pos q]
            simp only [q, decide_true, Bool.not_true, cond_false]
            rw [app_eq (by simp; omega), Option.bind_some, w64 (x := ((acc.length : Nat) : Int) + 1) (by omega) (by omega)]
            rfl
          · rw [if_neg q]; simp [q]
        have hr := refTake_eq (s.drop k') (by simp; omega)
        refine ⟨fun x m hx => ?_, fun e he => ?_⟩
        · obtain ⟨n', m', j', b1, b2, rfl⟩ := pb_inr (p := pnum) (q := fun n => pret (n / 2, decide (n % 2 = 1))) hx
          cases b2
          obtain ⟨c, c0, c1, _, c2, _⟩ := pnum_inr b1
          rw [List.length_drop] at c2
          rw [c] at hr
          rw [hb _ hr, half c0 c1, if_pos rfl]
          dsimp only
          rw [w64 (by omega) (by omega)]
          simp
        · rcases pb_inl (p := pnum) (q := fun n => pret (n / 2, decide (n % 2 = 1))) he with he | ⟨_, _, _, he⟩
          · obtain ⟨c, c0⟩ := pnum_inl he
            rw [c] at hr
            exact ⟨_, rfl, .inl (by rw [hb _ hr, if_neg c0])⟩
          · cases he
      · intro acc k' a1 a2
        unfold fn_ref17_TakeType_l1
        dsimp only
        rw [decide_eq_false (by omega)]
        rfl
  cases hs : ptype s with
  | inl e => rw [hs] at key; obtain ⟨g, g1, rfl⟩ := key; rw [g1]; rfl
  | inr x => obtain ⟨x, m⟩ := x; rw [hs] at key; exact key
theorem refTakeBounds_eq (s : List UInt8) (most : Int) (hl : s.length ≤ 1000000) : fn_ref17_TakeBounds s most = some (outB (pbounds most s)) := by
  have key : Goes (fn_ref17_TakeBounds s most) (fun (l : List (Int × Int)) j => (l, (j : Int), (0 : Int))) (fun e g => g = ([], 0, e)) (pbounds most s) := by
    unfold fn_ref17_TakeBounds
    rw [refTake_eq s (by omega), Option.bind_some]
    cases hs : pcount most s with
    | inl e =>
      have : pbounds most s = .inl e := pb_err hs
      rw [this]
      rcases pb_inl (p := pnum) (q := fun n => if most < n then pfail 6 else pret n) hs with h | ⟨n, m, h, h2⟩
      · obtain ⟨h1, h2⟩ := pnum_inl h
        rw [h1]; exact ⟨([], 0, e), by simp [h2], rfl⟩
      · obtain ⟨h1, _⟩ := pnum_inr h
        rw [h1]
        split at h2
        · cases h2; rename_i q; exact ⟨([], 0, 6), by simp [q], rfl⟩
        · cases h2
    | inr x =>
      obtain ⟨n, j⟩ := x
      obtain ⟨h1, h2⟩ := pcount_inr hs
      obtain ⟨h3, n0, n1, _, m1, _⟩ := pnum_inr h1
      have e1 : pbounds most s = padd j (pmany pbound n.toNat (s.drop j)) := pb_of hs
      rw [h3]
      simp only [decide_true, Bool.not_true, cond_false]
      rw [decide_eq_false (by omega), cond_false]
      have hl' := loop_many Sane.bound bound_pos s (body := fn_ref17_TakeBounds_l1 s n) n.toNat (fun acc k => ((k : Int), acc, ((acc.length : Nat) : Int))) (fun acc k => .inl ((k : Int), acc)) (fun e r => r = .inr ([], 0, e)) ?_ ?_ (k0 := j) (by omega)
      · rw [e1]
        have hl2 : loop (fn_ref17_TakeBounds_l1 s n) ((j : Int), [], 0) = loop (fn_ref17_TakeBounds_l1 s n) ((j : Int), [], (([] : List (Int × Int)).length : Int)) := rfl
        rw [hl2]
        cases h5 : pmany pbound n.toNat (s.drop j) with
        | inl e => rw [h5] at hl'; obtain ⟨r, h6, rfl⟩ := hl'; rw [h6]; exact ⟨_, rfl, rfl⟩
        | inr y => obtain ⟨y, k⟩ := y; rw [h5] at hl'; rw [show loop _ _ = _ from hl']; rfl
      · intro acc k' a1 a2 a3
        have hr := refTake_eq (s.drop k') (by simp; omega)
        refine ⟨fun x m hx => ?_, fun e he => ?_⟩
        · obtain ⟨n', m', j', b1, b2, rfl⟩ := pb_inr hx
          obtain ⟨n2, m2, j2, b3, b4, rfl⟩ := pb_inr b2
          cases b4
          rw [List.drop_drop] at b3
          obtain ⟨c, c0, c1, _, c2, _⟩ := pnum_inr b1
          obtain ⟨d, d0, d1, _, d2, _⟩ := pnum_inr b3
          rw [List.length_drop] at c2 d2
          have hr2 := refTake_eq (s.drop (k' + m')) (by simp; omega)
          rw [c] at hr
          rw [d] at hr2
          unfold fn_ref17_TakeBounds_l1
          dsimp only
          rw [decide_eq_true (by omega), cond_true, sub_tail s k' a3, Option.bind_some, hr, Option.bind_some]
          simp only [decide_true, Bool.not_true, cond_false]
          rw [w64 (x := (k' : Int) + (m' : Int)) (by omega) (by omega), show (k' : Int) + (m' : Int) = ((k' + m' : Nat) : Int) by omega, sub_tail s (k' + m') (by omega), Option.bind_some, hr2, Option.bind_some]
          simp only [decide_true, Bool.not_true, cond_false]
          rw [app_eq (by simp; omega), Option.bind_some, w64 (by omega) (by omega), w64 (by omega) (by omega)]
          simp; omega
        · rcases pb_inl he with he | ⟨n', m', b1, he⟩
          · obtain ⟨c, c0⟩ := pnum_inl he
            rw [c] at hr
            refine ⟨_, rfl, .inl ?_⟩
            unfold fn_ref17_TakeBounds_l1
            dsimp only
            rw [decide_eq_true (by omega), cond_true, sub_tail s k' a3, Option.bind_some, hr, Option.bind_some]
            simp [c0]
          · rcases pb_inl he with he | ⟨_, _, _, he⟩
            · rw [List.drop_drop] at he
              obtain ⟨c, c0, c1, _, c2, _⟩ := pnum_inr b1
              obtain ⟨d, d0⟩ := pnum_inl he
              rw [List.length_drop] at c2
              have hr2 := refTake_eq (s.drop (k' + m')) (by simp; omega)
              rw [c] at hr
              rw [d] at hr2
              refine ⟨_, rfl, .inl ?_⟩
              unfold fn_ref17_TakeBounds_l1
              dsimp only
              rw [decide_eq_true (by omega), cond_true, sub_tail s k' a3, Option.bind_some, hr, Option.bind_some]
              simp only [decide_true, Bool.not_true, cond_false]
              rw [w64 (x := (k' : Int) + (m' : Int)) (by omega) (by omega), show (k' : Int) + (m' : Int) = ((k' + m' : Nat) : Int) by omega, sub_tail s (k' + m') (by omega), Option.bind_some, hr2, Option.bind_some]
              simp [d0]
            · cases he
      · intro acc k' a1 a2
        unfold fn_ref17_TakeBounds_l1
        dsimp only
        rw [decide_eq_false (by omega)]
        rfl
  cases hs : pbounds most s with
  | inl e => rw [hs] at key; obtain ⟨g, g1, rfl⟩ := key; rw [g1]; rfl
  | inr x => obtain ⟨x, m⟩ := x; rw [hs] at key; exact key
theorem refSigTake_eq (s : List UInt8) (hl : s.length ≤ 1000000) : fn_ref17_Take s = some (outS (psig s)) := by
  unfold fn_ref17_Take
  rw [refTake_eq s (by omega), Option.bind_some]
  cases h1 : pnum s with
  | inl e =>
    obtain ⟨c, c0⟩ := pnum_inl h1
    rw [show psig s = .inl e from pb_err h1, c]
    simp [c0, outS]
  | inr x =>
    obtain ⟨n, m1⟩ := x
    obtain ⟨c, c0, c1, _, c2, _⟩ := pnum_inr h1
    rw [show psig s = _ from pb_of h1, c]
    simp only [decide_true, Bool.not_true, cond_false]
    rw [sub_tail s m1 (by omega), Option.bind_some, refTakeBounds_eq _ 16 (by simp; omega), Option.bind_some]
    cases h2 : pbounds 16 (s.drop m1) with
    | inl e =>
      have := (Sane.bounds 16).err _ _ h2
      rw [pb_err h2]; simp [outB, outS, padd, this]
    | inr x =>
      obtain ⟨B, m2⟩ := x
      have e2 := (Sane.bounds 16).len _ _ _ h2
      rw [List.length_drop] at e2
      rw [pb_of h2]
      simp only [outB, decide_true, Bool.not_true, cond_false]
      rw [w64 (x := (m1 : Int) + (m2 : Int)) (by omega) (by omega), show (m1 : Int) + (m2 : Int) = ((m1 + m2 : Nat) : Int) by omega, sub_tail s (m1 + m2) (by omega), Option.bind_some, refTake_eq _ (by simp; omega), Option.bind_some, List.drop_drop]
      cases h3 : pcount 16 (s.drop (m1 + m2)) with
      | inl e =>
        rw [pb_err (show ptypes (s.drop (m1 + m2)) = .inl e from pb_err h3)]
        rcases pb_inl (p := pnum) (q := fun n => if 16 < n then pfail 6 else pret n) h3 with h | ⟨n', m', h, h4⟩
        · obtain ⟨d1, d2⟩ := pnum_inl h
          rw [d1]; simp [d2, padd, outS]
        · obtain ⟨d1, _⟩ := pnum_inr h
          rw [d1]
          split at h4
          · cases h4; rename_i q; simp [q, padd, outS]
          · cases h4
      | inr x =>
        obtain ⟨n3, m3⟩ := x
        obtain ⟨g1, g2⟩ := pcount_inr h3
        obtain ⟨d, d0, d1, _, d2, _⟩ := pnum_inr g1
        rw [List.length_drop] at d2
        rw [d]
        simp only [decide_true, Bool.not_true, cond_false]
        rw [decide_eq_false (by omega), cond_false, w64 (x := ((m1 + m2 : Nat) : Int) + (m3 : Int)) (by omega) (by omega), show ((m1 + m2 : Nat) : Int) + (m3 : Int) = ((m1 + m2 + m3 : Nat) : Int) by omega]
        have e3 : ptypes (s.drop (m1 + m2)) = padd m3 (pmany ptype n3.toNat (s.drop (m1 + m2 + m3))) := by
          have := pb_of (q := fun n : Int => pmany ptype n.toNat) h3
          rw [List.drop_drop] at this
          exact this
        have hl' := loop_many Sane.type type_pos s (body := fn_ref17_Take_l1 s n3) n3.toNat (fun acc k => ((k : Int), acc, ((acc.length : Nat) : Int))) (fun acc k => .inl ((k : Int), acc)) (fun e r => r = .inr (0, [], [], [], 0, e)) ?_ ?_ (k0 := m1 + m2 + m3) (by omega)
        · have hl2 : loop (fn_ref17_Take_l1 s n3) (((m1 + m2 + m3 : Nat) : Int), [], 0) = loop (fn_ref17_Take_l1 s n3) (((m1 + m2 + m3 : Nat) : Int), [], (([] : List (List St)).length : Int)) := rfl
          rw [hl2]
          cases h5 : pmany ptype n3.toNat (s.drop (m1 + m2 + m3)) with
          | inl e =>
            rw [h5] at hl'
            obtain ⟨r, h6, rfl⟩ := hl'
            rw [h5] at e3
            rw [h6, pb_err e3]; rfl
          | inr y =>
            obtain ⟨A, k⟩ := y
            rw [h5] at hl' e3
            have e4 := (Sane.many Sane.type _).len _ _ _ h5
            rw [List.length_drop] at e4
            rw [show loop _ _ = _ from hl', pb_of e3]
            dsimp only [Option.bind_some]
            rw [sub_tail s _ (by omega), Option.bind_some, refTakeType_eq _ (by simp; omega), Option.bind_some, List.drop_drop, show m1 + m2 + (m3 + k) = m1 + m2 + m3 + k by omega]
            cases h6 : ptype (s.drop (m1 + m2 + m3 + k)) with
            | inl e =>
              have := Sane.type.err _ _ h6
              rw [pb_err h6]; simp [outT, padd, outS, this]
            | inr y =>
              obtain ⟨R, m4⟩ := y
              have e5 := Sane.type.len _ _ _ h6
              rw [List.length_drop] at e5
              rw [pb_of h6]
              simp only [outT, decide_true, Bool.not_true, cond_false, pret, padd, outS]
              rw [w64 (by omega) (by omega)]
              simp only [Option.some.injEq, Prod.mk.injEq, true_and, and_true]
              omega
        · intro acc k' a1 a2 a3
          have hr := refTakeType_eq (s.drop k') (by simp; omega)
          refine ⟨fun x m hx => ?_, fun e he => ?_⟩
          · have e6 := Sane.type.len _ _ _ hx
            rw [List.length_drop] at e6
            rw [hx] at hr
            unfold fn_ref17_Take_l1
            dsimp only
            rw [decide_eq_true (by omega), cond_true, sub_tail s k' a3, Option.bind_some, hr, Option.bind_some]
            simp only [outT, decide_true, Bool.not_true, cond_false]
            rw [app_eq (by simp; omega), Option.bind_some, w64 (by omega) (by omega), w64 (by omega) (by omega)]
            simp
          · have := Sane.type.err _ _ he
            rw [he] at hr
            refine ⟨_, rfl, .inl ?_⟩
            unfold fn_ref17_Take_l1
            dsimp only
            rw [decide_eq_true (by omega), cond_true, sub_tail s k' a3, Option.bind_some, hr, Option.bind_some]
            simp [outT, this]
        · intro acc k' a1 a2
          unfold fn_ref17_Take_l1
          dsimp only
          rw [decide_eq_false (by omega)]
          rfl
end Go.Proofs.YtmdmdmaekjpfjaaGreat
