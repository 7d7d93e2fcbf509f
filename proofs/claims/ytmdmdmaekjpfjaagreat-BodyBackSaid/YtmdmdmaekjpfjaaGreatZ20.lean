import Derived.Test.YtmdmdmaekjpfjaaGreatS20
namespace Go.Proofs.YtmdmdmaekjpfjaaGreat
open Go.RowKit Lb
set_option linter.unusedVariables false
set_option linter.unnecessarySimpa false
set_option linter.unusedSimpArgs false
theorem Sm.pz {b : Bo} (h : Sm b) : Pz b where
  B := by have := h.bounds; omega
  L := ⟨by have := h.locals; omega, h.loc⟩
  R := h.ret
  S := ⟨by have := h.sigs; omega, fun g hg => by obtain ⟨h1, h2, h3, h4⟩ := h.sig g hg; exact ⟨h1, h2, h4, h3⟩⟩
  X := ⟨by have := h.blocks; omega, fun x hx => by have := h.stmts hx; omega⟩
theorem Sm.sz {b : Bo} (h : Sm b) : Sz b where
  B := by have := h.bounds; omega
  L := ⟨by have := h.locals; omega, fun t ht => by have := h.loc t ht; omega⟩
  R := by have := h.ret; omega
  S := ⟨by have := h.sigs; omega, fun g hg => by
    obtain ⟨h1, h2, h3, h4⟩ := h.sig g hg
    exact ⟨by omega, by omega, fun t ht => by have := h4 t ht; omega, by omega⟩⟩
  X := ⟨by have := h.blocks; omega, fun x hx => by
    obtain ⟨h1, h2, h3⟩ := h.term x hx
    have := h.stmts hx
    exact ⟨by omega, h1, h2, h3⟩⟩
theorem bPut_len {b : Bo} (h : Sm b) : (bPut b).1.length ≤ 300000 := by
  unfold bPut
  cases hf : b.2.2.2.2.2.2.find? (fun x => !decide (bErr x = 0)) with
  | some x => simp
  | none =>
    have hb0 := h.bounds; have hb1 := h.locals; have hb2 := h.ret; have hb3 := h.sigs; have hb4 := h.blocks
    have q (n : Int) : (put n).length ≤ 5 := put_len5 n
    have q1 := q b.1; have q2 := q b.2.1; have q3 := q (b.2.2.2.1.length : Int); have q4 := q (b.2.2.2.2.2.1.length : Int); have q5 := q (b.2.2.2.2.2.2.length : Int)
    have l1 := wbounds_len b.2.2.1
    have l2 := fm_len wtypeW 105 b.2.2.2.1 (fun t ht => by have := wtypeW_len t; have := h.loc t ht; omega)
    have l3 := wtypeW_len b.2.2.2.2.1
    have l4 := fm_len wsigW 2500 b.2.2.2.2.2.1 (fun g hg => wsigW_len (h.pz.S.2 g hg))
    have l5 := fm_len wblkW 20305 b.2.2.2.2.2.2 (fun x hx => wblkW_len (by
      have := List.find?_eq_none.1 hf x hx; simpa using this) (h.pz.X.2 x hx))
    dsimp only
    unfold bHead
    simp only [List.length_append, List.length_cons, List.length_nil]; omega
theorem fm_congr {α : Type} {f g : α → List UInt8} : ∀ (l : List α), (∀ x ∈ l, f x = g x) → l.flatMap f = l.flatMap g
  | [], _ => rfl
  | x :: l, h => by rw [List.flatMap_cons, List.flatMap_cons, h x (by simp), fm_congr l (fun y hy => h y (by simp [hy]))]
theorem wtypeW_eq {t : List St} (h : okT t) : wtypeW t = wtype t := by
  unfold wtypeW wtype
  rw [fm_congr (f := wslotW) (g := wslot) t (fun x hx => by
    unfold wslotW wslot
    have := (snumW_eq x).symm.trans (snum_eq (h.2 x hx))
    rw [Option.some.inj this])]
theorem wsigW_eq {g : Sgt} (h : okS g) : wsigW g = wsig g := by
  unfold wsigW wsig wtypesW wtypes
  rw [wtypeW_eq h.2.2.2, fm_congr g.2.2.1 (fun t ht => wtypeW_eq (h.2.2.1.2 t ht))]
theorem wblkW_eq {x : Blok} (h : okBlk x) : wblkW x = wblk x := by
  unfold wblkW wblk
  rw [fm_congr (f := sPutW) (g := sPut) x.1 (fun s hs => by
    obtain ⟨_, _, _, h4, h5⟩ := h.1.2 s hs
    unfold sPutW sPut
    rw [Option.some.inj ((sNumW_eq s.2.2.2.1 s.2.2.2.2).symm.trans (sNum_eq h4 h5))])]
theorem okBlk_err {x : Blok} (h : okBlk x) : bErr x = 0 := by
  unfold bErr
  have : x.1.any (fun s => !fOk s) = false := by
    rw [List.any_eq_false]; intro s hs; simp [(h.1.2 s hs).1]
  rw [this]; exact h.2.1
theorem bPut_ok {b : Bod} (h : okBd b) : bPut b = ([109, 105, 114, 1] ++ wbody b, 0) := by
  unfold bPut
  have hf : b.2.2.2.2.2.2.find? (fun x => !decide (bErr x = 0)) = none := by
    rw [List.find?_eq_none]; intro x hx; simp [okBlk_err (h.X x hx)]
  rw [hf]
  dsimp only
  unfold bHead wbody
  rw [wtypeW_eq h.R, fm_congr b.2.2.2.1 (fun t ht => wtypeW_eq (h.L t ht)), fm_congr b.2.2.2.2.2.1 (fun g hg => wsigW_eq (h.S g hg)), fm_congr b.2.2.2.2.2.2 (fun x hx => wblkW_eq (h.X x hx))]
  simp
theorem pmany_all' {α : Type} {p : Ps α} (sp : Sane p) {N : Nat} {P : α → Prop} (hP : ∀ s x m, s.length ≤ N → p s = .inr (x, m) → P x) : ∀ (n : Nat) (s : List UInt8) (l : List α) (m : Nat), s.length ≤ N → pmany p n s = .inr (l, m) → ∀ x ∈ l, P x
  | 0, s, l, m, _, h => by cases h; simp
  | n + 1, s, l, m, hs, h => by
    obtain ⟨x, a, j, h1, h2, rfl⟩ := pb_inr h
    obtain ⟨ys, b, j', h3, h4, rfl⟩ := pb_inr h2
    cases h4
    have g2 := pmany_all' sp hP n _ _ _ (by rw [List.length_drop]; omega) h3
    intro y hy
    rcases List.mem_cons.1 hy with rfl | hy
    · exact hP _ _ _ hs h1
    · exact g2 y hy
theorem pz_of {s : List UInt8} {b : Bod} {m : Nat} (hs : s.length ≤ 1000) (h : pbody s = .inr (b, m)) : Pz b := by
  obtain ⟨hB, hL, hR, hS, hX⟩ := (body_back h).1
  obtain ⟨u, m1, j1, h1, g1, rfl⟩ := pb_inr h
  obtain ⟨n, m2, j2, h2, g2, rfl⟩ := pb_inr g1
  obtain ⟨B, m3, j3, h3, g3, rfl⟩ := pb_inr g2
  obtain ⟨L, m4, j4, h4, g4, rfl⟩ := pb_inr g3
  obtain ⟨R, m5, j5, h5, g5, rfl⟩ := pb_inr g4
  obtain ⟨S, m6, j6, h6, g6, rfl⟩ := pb_inr g5
  obtain ⟨X, m7, j7, h7, g7, rfl⟩ := pb_inr g6
  cases g7
  dsimp only at hB hL hR hS hX
  have d (k : Nat) (s : List UInt8) (hs : s.length ≤ 1000) : (s.drop k).length ≤ 1000 := by rw [List.length_drop]; omega
  have s1 := d m1 _ hs
  have s2 := d m2 _ s1
  have s3 := d m3 _ s2
  have s4 := d m4 _ s3
  have s5 := d m5 _ s4
  have s6 := d m6 _ s5
  have k3 := plist_len bound_pos h3
  have e3 := (Sane.bounds _).len _ _ _ h3
  have k4 := plist_len type_pos h4
  have e4 := (Sane.list _ Sane.type).len _ _ _ h4
  have k6 := plist_len sig_pos h6
  have e6 := (Sane.list _ Sane.sig).len _ _ _ h6
  have k7 := plist_len blk_pos h7
  have e7 := (Sane.list _ Sane.blk).len _ _ _ h7
  have x7 : ∀ x ∈ X, x.1.length ≤ 1000 := by
    obtain ⟨k, a, j, f1, f2, rfl⟩ := pb_inr h7
    refine pmany_all' Sane.blk (N := 1000) (P := fun x => x.1.length ≤ 1000) (fun s x m hs h => ?_) _ _ _ _ (d a _ s6) f2
    obtain ⟨l, a, j, f1, f2, rfl⟩ := pb_inr h
    obtain ⟨t, b, j', f3, f4, rfl⟩ := pb_inr f2
    cases f4
    have := plist_len stmt_pos f1
    have := (Sane.list _ Sane.stmt).len _ _ _ f1
    dsimp only; omega
  exact ⟨by dsimp only; omega, ⟨by dsimp only; omega, fun t ht => by have := (hL t ht).1; omega⟩, by have := hR.1; dsimp only; omega,
    ⟨by dsimp only; omega, fun g hg => by
      obtain ⟨_, f2, f3, f4⟩ := hS g hg
      have := f2.1; have := f3.1; have := f4.1
      exact ⟨by omega, by omega, fun t ht => by have := (f3.2 t ht).1; omega, by omega⟩⟩, ⟨by dsimp only; omega, x7⟩⟩
theorem tk_inr {s : List UInt8} {b : Bod} (h : tk s = (b, 0)) : headed s = true ∧ ∃ m, pbody (s.drop 4) = .inr (b, m) ∧ s.drop (4 + m) = [] := by
  unfold tk at h
  cases hh : headed s with
  | false => rw [hh] at h; simp at h
  | true =>
    rw [hh, if_pos rfl] at h
    refine ⟨rfl, ?_⟩
    cases hp : pbody (s.drop 4) with
    | inl e =>
      rw [hp] at h
      have h2 : e = 0 := (Prod.mk.inj h).2
      exact absurd h2 (Sane.body.err _ _ hp)
    | inr bm =>
      obtain ⟨b', m⟩ := bm
      rw [hp] at h
      dsimp only at h
      by_cases hz : s.drop (4 + m) = []
      · rw [if_pos hz] at h
        obtain rfl := (Prod.mk.inj h).1
        exact ⟨m, rfl, hz⟩
      · rw [if_neg hz] at h
        have h2 : (13 : Int) = 0 := (Prod.mk.inj h).2
        exact absurd h2 (by decide)
theorem tk_back {s : List UInt8} {b : Bod} (hs : s.length ≤ 1000) (h : tk s = (b, 0)) : Pz b ∧ bPut b = (s, 0) := by
  obtain ⟨hh, m, hp, hz⟩ := tk_inr h
  obtain ⟨ho, hb⟩ := body_back hp
  refine ⟨pz_of (by rw [List.length_drop]; omega) hp, ?_⟩
  rw [bPut_ok ho, ← hb]
  unfold headed at hh
  simp only [Bool.and_eq_true, decide_eq_true_eq] at hh
  rw [← hh.2, ← List.take_add, List.take_of_length_le (List.drop_eq_nil_iff.1 hz)]
theorem tk_cut {s : List UInt8} {b : Bod} {n : Nat} (hs : s.length ≤ 1000) (hn : n < s.length) (h : tk s = (b, 0)) : (tk (s.take n)).2 ≠ 0 := by
  intro hc
  obtain ⟨hh, m, hp, hz⟩ := tk_inr h
  obtain ⟨b', h1⟩ : ∃ b' : Bod, tk (s.take n) = (b', 0) := ⟨(tk (s.take n)).1, by rw [← hc]⟩
  obtain ⟨hh', m', hp', hz'⟩ := tk_inr h1
  unfold headed at hh'
  simp only [Bool.and_eq_true, decide_eq_true_eq] at hh'
  have h4 := hh'.1
  have hl := Sane.body.len _ _ _ hp'
  have hz2 := List.drop_eq_nil_iff.1 hz'
  have hz1 := List.drop_eq_nil_iff.1 hz
  rw [List.length_drop] at hl
  rw [List.length_take] at h4 hl hz2
  have e : (s.take n).drop 4 ++ s.drop n = s.drop 4 := by
    rw [← List.drop_append_of_le_length (by rw [List.length_take]; omega), List.take_append_drop]
  have hm := More.body _ _ _ (s.drop n) (by rw [e, List.length_drop]; omega) hp'
  rw [e, hp] at hm
  simp only [Sum.inr.injEq, Prod.mk.injEq] at hm
  obtain ⟨_, rfl⟩ := hm
  omega
theorem plain_cases {a : Bo} (h : Sm a) : fn_law20_plain a = some false ∨ (fn_law20_plain a = some true ∧ ((∃ e, e ≠ 0 ∧ bPut a = ([], e)) ∨ ∃ s, s.length ≤ 300000 ∧ bPut a = (s, 0) ∧ tk s = (a, 0))) := by
  unfold fn_law20_plain
  rw [show fn_ref20_Put (a.1, a.2.1, a.2.2.1, a.2.2.2.1, a.2.2.2.2.1, a.2.2.2.2.2.1, a.2.2.2.2.2.2) = _ from refBody_eq a h.pz]
  have hl := bPut_len h
  have he : (bPut a).2 ≠ 0 → (bPut a).1 = [] := by
    unfold bPut
    cases a.2.2.2.2.2.2.find? (fun x => !decide (bErr x = 0)) with
    | some x => exact fun _ => rfl
    | none => exact fun h => absurd rfl h
  generalize bPut a = q at *
  obtain ⟨s, e⟩ := q
  dsimp only at *
  simp only [Option.bind_some]
  by_cases h0 : e = 0
  · subst h0
    simp only [decide_true, Bool.not_true, cond_false]
    rw [refTake20_eq s (by omega)]
    cases ht : tk s with
    | mk c e2 =>
      simp only [Option.bind_some]
      rw [show fn_ref20_Same (a.1, a.2.1, a.2.2.1, a.2.2.2.1, a.2.2.2.2.1, a.2.2.2.2.2.1, a.2.2.2.2.2.2) (c.1, c.2.1, c.2.2.1, c.2.2.2.1, c.2.2.2.2.1, c.2.2.2.2.2.1, c.2.2.2.2.2.2) = _ from refSame20_eq a c h.sz]
      by_cases h2 : e2 = 0
      · subst h2
        by_cases h3 : (a : Bod) = c
        · subst h3
          exact .inr ⟨by simp, .inr ⟨s, hl, rfl, ht⟩⟩
        · refine .inl ?_
          rw [decide_eq_false h3]; rfl
      · refine .inl ?_
        rw [decide_eq_false h2]; rfl
  · rw [he h0, decide_eq_false h0]
    exact .inr ⟨rfl, .inl ⟨e, h0, rfl⟩⟩
theorem BodyBack_true (xa xb : Bo) (xc : (List UInt8)) (xd : Int) (k0 : Tp.Ok tyBody xa) (k1 : Tp.Ok tyBody xb) (k2 : Tp.Ok .str xc) (k3 : Tp.Ok (.int .i64) xd) (q0 : Tp.Fit tyBody xa) (q1 : Tp.Fit tyBody xb) (q2 : Tp.Fit .str xc) (q3 : Tp.Fit (.int .i64) xd) : fn_law20_BodyBack xa xb xc xd = some true := by
  unfold fn_law20_BodyBack
  rw [awake20]
  rcases small20 xa (fit_body q0) with h | ⟨h, ha⟩
  · rw [show fn_ref20_Small (xa.1, xa.2.1, xa.2.2.1, xa.2.2.2.1, xa.2.2.2.2.1, xa.2.2.2.2.2.1, xa.2.2.2.2.2.2) = some false from h]; rfl
  rcases small20 xb (fit_body q1) with h' | ⟨h', hb⟩
  · rw [show fn_ref20_Small (xa.1, xa.2.1, xa.2.2.1, xa.2.2.2.1, xa.2.2.2.2.1, xa.2.2.2.2.2.1, xa.2.2.2.2.2.2) = some true from h, show fn_ref20_Small (xb.1, xb.2.1, xb.2.2.1, xb.2.2.2.1, xb.2.2.2.2.1, xb.2.2.2.2.2.1, xb.2.2.2.2.2.2) = some false from h']; rfl
  rw [show fn_ref20_Small (xa.1, xa.2.1, xa.2.2.1, xa.2.2.2.1, xa.2.2.2.2.1, xa.2.2.2.2.2.1, xa.2.2.2.2.2.2) = some true from h, show fn_ref20_Small (xb.1, xb.2.1, xb.2.2.1, xb.2.2.2.1, xb.2.2.2.2.1, xb.2.2.2.2.2.1, xb.2.2.2.2.2.2) = some true from h']
  simp only [Option.bind_some, Bool.not_true, cond_false, Bool.false_or]
  by_cases hl : 500 < xc.length
  · rw [decide_eq_true (show (500 : Int) < ((xc.length : Nat) : Int) by omega)]; rfl
  rw [decide_eq_false (show ¬ (500 : Int) < ((xc.length : Nat) : Int) by omega), cond_false, takeZ_eq xc (by omega), Option.bind_some]
  dsimp only
  refine (congrArg (fun o => Option.bind o _) (?_ : _ = some (Sum.inl ()))).trans ?_
  · cases ht : tk xc with
    | mk c e =>
      dsimp only
      by_cases he : e = 0
      · subst he
        obtain ⟨hp, hq⟩ := tk_back (by omega) ht
        have hput : fn_body_Put (c.1, c.2.1, c.2.2.1, c.2.2.2.1, c.2.2.2.2.1, c.2.2.2.2.2.1, c.2.2.2.2.2.2) = some (xc, 0) := (bodyPut_eq c hp).trans (by rw [hq])
        rw [hput]
        simp only [decide_true, cond_true, Option.bind_some, Bool.not_true, Bool.or_self, cond_false]
        by_cases hd : 0 ≤ xd ∧ xd < ((xc.length : Nat) : Int)
        · obtain ⟨n, rfl⟩ := Int.eq_ofNat_of_zero_le hd.1
          have hn : n < xc.length := by omega
          rw [decide_eq_true hd.1, decide_eq_true hd.2, Bool.and_self, cond_true, subL_eq (by omega) (by omega) (by omega)]
          simp only [Int.toNat_zero, List.drop_zero, Int.toNat_natCast, Option.bind_some]
          rw [takeZ_eq _ (by rw [List.length_take]; omega), Option.bind_some]
          dsimp only
          rw [decide_eq_false (tk_cut (by omega) hn ht)]; rfl
        · have : (decide (0 ≤ xd) && decide (xd < ((xc.length : Nat) : Int))) = false := by
            by_cases h1 : 0 ≤ xd
            · rw [decide_eq_false (show ¬ xd < ((xc.length : Nat) : Int) from fun h2 => hd ⟨h1, h2⟩), Bool.and_false]
            · rw [decide_eq_false h1, Bool.false_and]
          rw [this]; rfl
      · rw [decide_eq_false he]; rfl
  · simp only [Option.bind_some]
    rcases plain_cases ha with pa | ⟨pa, ca⟩
    · rw [show fn_law20_plain (xa.1, xa.2.1, xa.2.2.1, xa.2.2.2.1, xa.2.2.2.2.1, xa.2.2.2.2.2.1, xa.2.2.2.2.2.2) = _ from pa]; rfl
    rcases plain_cases hb with pb' | ⟨pb', cb⟩
    · rw [show fn_law20_plain (xa.1, xa.2.1, xa.2.2.1, xa.2.2.2.1, xa.2.2.2.2.1, xa.2.2.2.2.2.1, xa.2.2.2.2.2.2) = _ from pa, show fn_law20_plain (xb.1, xb.2.1, xb.2.2.1, xb.2.2.2.1, xb.2.2.2.2.1, xb.2.2.2.2.2.1, xb.2.2.2.2.2.2) = _ from pb']; rfl
    rw [show fn_law20_plain (xa.1, xa.2.1, xa.2.2.1, xa.2.2.2.1, xa.2.2.2.2.1, xa.2.2.2.2.2.1, xa.2.2.2.2.2.2) = _ from pa, show fn_law20_plain (xb.1, xb.2.1, xb.2.2.1, xb.2.2.2.1, xb.2.2.2.2.1, xb.2.2.2.2.2.1, xb.2.2.2.2.2.2) = _ from pb',
      show fn_body_Put (xa.1, xa.2.1, xa.2.2.1, xa.2.2.2.1, xa.2.2.2.2.1, xa.2.2.2.2.2.1, xa.2.2.2.2.2.2) = _ from bodyPut_eq xa ha.pz, show fn_body_Put (xb.1, xb.2.1, xb.2.2.1, xb.2.2.2.1, xb.2.2.2.2.1, xb.2.2.2.2.2.1, xb.2.2.2.2.2.2) = _ from bodyPut_eq xb hb.pz]
    simp only [Option.bind_some, Bool.not_true, cond_false]
    rcases ca with ⟨e, he, ca⟩ | ⟨sa, la, ca, ta⟩
    · rcases cb with ⟨f, hf, cb⟩ | ⟨sb, lb, cb, tb⟩
      · rw [ca, cb]; dsimp only; rw [decide_eq_false he, decide_eq_false hf]; rfl
      · rw [ca, cb]; dsimp only; rw [decide_eq_false he]; simp
    · rcases cb with ⟨f, hf, cb⟩ | ⟨sb, lb, cb, tb⟩
      · rw [ca, cb]; dsimp only; rw [decide_eq_false hf]; simp
      · rw [ca, cb]
        dsimp only
        rw [takeZ_eq sa (by omega), ta]
        simp only [decide_true, Bool.not_true, Bool.or_self, cond_false, Option.bind_some, cond_true]
        rw [show fn_ref20_Same (xa.1, xa.2.1, xa.2.2.1, xa.2.2.2.1, xa.2.2.2.2.1, xa.2.2.2.2.2.1, xa.2.2.2.2.2.2) (xa.1, xa.2.1, xa.2.2.1, xa.2.2.2.1, xa.2.2.2.2.1, xa.2.2.2.2.2.1, xa.2.2.2.2.2.2) = _ from refSame20_eq xa xa ha.sz,
          show fn_ref20_Same (xa.1, xa.2.1, xa.2.2.1, xa.2.2.2.1, xa.2.2.2.2.1, xa.2.2.2.2.2.1, xa.2.2.2.2.2.2) (xb.1, xb.2.1, xb.2.2.1, xb.2.2.2.1, xb.2.2.2.2.1, xb.2.2.2.2.2.1, xb.2.2.2.2.2.2) = _ from refSame20_eq xa xb ha.sz]
        by_cases hab : (xa : Bod) = xb
        · have : sa = sb := by
            subst hab
            have := ca.symm.trans cb
            exact (Prod.mk.inj this).1
          rw [decide_eq_true hab, decide_eq_true this]; simp
        · have : ¬ sa = sb := fun h => by
            subst h
            have := ta.symm.trans tb
            exact hab (Prod.mk.inj this).1
          rw [decide_eq_false hab, decide_eq_false this]; simp
end Go.Proofs.YtmdmdmaekjpfjaaGreat
