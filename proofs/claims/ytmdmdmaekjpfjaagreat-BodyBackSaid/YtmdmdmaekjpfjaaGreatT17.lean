import Derived.Test.YtmdmdmaekjpfjaaGreatCd
import Derived.Test.YtmdmdmaekjpfjaaGreatQ15
namespace Go.Proofs.YtmdmdmaekjpfjaaGreat
open Go.RowKit Lb
set_option linter.unusedVariables false
set_option linter.unnecessarySimpa false
set_option linter.unusedSimpArgs false
abbrev Sgt := Int × List (Int × Int) × List (List St) × List St
def pslot : Ps St := pmap (fun n => (n / 2, decide (n % 2 = 1))) pnum
def ptype : Ps (List St) := plist 16 pslot
def pbound : Ps (Int × Int) := pb pnum fun a => pb pnum fun b => pret (a, b)
def pbounds (most : Int) : Ps (List (Int × Int)) := plist most pbound
def ptypes : Ps (List (List St)) := plist 16 ptype
def psig : Ps Sgt := pb pnum fun n => pb (pbounds 16) fun B => pb ptypes fun A => pb ptype fun R => pret (n, B, A, R)
theorem Sane.slot : Sane pslot := Sane.num.map
theorem Sane.type : Sane ptype := Sane.slot.list 16
theorem Sane.bound : Sane pbound := Sane.num.pb fun _ => Sane.num.pb fun _ => Sane.ret _
theorem Sane.bounds (most : Int) : Sane (pbounds most) := Sane.bound.list most
theorem Sane.types : Sane ptypes := Sane.type.list 16
theorem Sane.sig : Sane psig := Sane.num.pb fun _ => (Sane.bounds 16).pb fun _ => Sane.types.pb fun _ => Sane.type.pb fun _ => Sane.ret _
theorem slot_pos : ∀ (s : List UInt8) (x : St) (m : Nat), pslot s = .inr (x, m) → 1 ≤ m := fun s x m h => pb_pos (p := pnum) (q := fun n => pret (n / 2, decide (n % 2 = 1))) pnum_pos s x m h
theorem bound_pos : ∀ (s : List UInt8) (x : Int × Int) (m : Nat), pbound s = .inr (x, m) → 1 ≤ m := fun s x m h => pb_pos pnum_pos s x m h
theorem list_pos {α : Type} {p : Ps α} {most : Int} : ∀ (s : List UInt8) (x : List α) (m : Nat), plist most p s = .inr (x, m) → 1 ≤ m := fun s x m h => pb_pos (pb_pos pnum_pos) s x m h
theorem type_pos : ∀ (s : List UInt8) (x : List St) (m : Nat), ptype s = .inr (x, m) → 1 ≤ m := fun s x m h => list_pos s x m h
theorem half {n : Int} (h0 : 0 ≤ n) (h1 : n ≤ 4294967295) : (IntKind.wrap .i64 (Int.tdiv n 2), decide ((Int.tmod n 2) = 1)) = (n / 2, decide (n % 2 = 1)) := by
  rw [Int.tdiv_eq_ediv_of_nonneg h0, Int.tmod_eq_emod_of_nonneg h0, w64 (by omega) (by omega)]
theorem sigNum (s : List UInt8) (k : Nat) (h : k ≤ s.length) (hl : s.length ≤ 1073741824) : Goes (fn_sig_reader_number_p0_si s (k : Int)) (fun n j => (n, (0 : Int), ((k + j : Nat) : Int))) (fun e g => g.2.1 = e) (pnum (s.drop k)) := by
  unfold fn_sig_reader_number_p0_si
  rw [sub_tail s k h, Option.bind_some, lebTake_eq _ (by simp; omega), Option.bind_some]
  cases hs : pnum (s.drop k) with
  | inl e => obtain ⟨h1, _⟩ := pnum_inl hs; rw [h1]; exact ⟨_, rfl, rfl⟩
  | inr x =>
    obtain ⟨n, m⟩ := x
    obtain ⟨h1, _, _, _, h2, _⟩ := pnum_inr hs
    rw [List.length_drop] at h2
    rw [h1]
    show some _ = some _
    rw [w64 (by omega) (by omega)]; rfl
theorem sigMany (most : Int) (s : List UInt8) (k : Nat) (h : k ≤ s.length) (hl : s.length ≤ 1073741824) : Goes (fn_sig_reader_many_p0i_si most s (k : Int)) (fun n j => (n, (0 : Int), ((k + j : Nat) : Int))) (fun e g => g.2.1 = e) (pcount most (s.drop k)) := by
  unfold fn_sig_reader_many_p0i_si
  refine Goes.bind (sigNum s k h hl) (fun n j hs => ?_) (fun e g hs hg => ?_)
  · dsimp only
    by_cases q : most < n
    · rw [if_pos q]; simp only [decide_true, q, Bool.and_self, cond_true]; exact ⟨_, rfl, rfl⟩
    · rw [if_neg q]; simp [q, Goes, pret]
  · obtain ⟨a, b, c⟩ := g
    obtain rfl : b = e := hg
    have := (pnum_inl hs).2
    refine ⟨(a, b, c), ?_, rfl⟩
    simp [this]
theorem sigTyp (s : List UInt8) (k : Nat) (h : k ≤ s.length) (hl : s.length ≤ 1073741824) : Goes (fn_sig_reader_typ_p0_si s (k : Int)) (fun l j => (l, (0 : Int), ((k + j : Nat) : Int))) (fun e g => g.2.1 = e ∧ g.1.length ≤ 1000000) (ptype (s.drop k)) := by
  unfold fn_sig_reader_typ_p0_si
  refine Goes.bind (sigMany 16 s k h hl) (fun n j hs => ?_) (fun e g hs hg => ?_)
  · obtain ⟨h1, h2⟩ := pcount_inr hs
    obtain ⟨_, n0, n1, _, m1, _⟩ := pnum_inr h1
    rw [List.length_drop] at m1
    rw [List.drop_drop]
    have hl := loop_many Sane.slot slot_pos s (body := fn_sig_reader_typ_p0_si_l1 s n) n.toNat (fun acc k => ((0 : Int), ((acc.length : Nat) : Int), (k : Int), acc)) (fun acc k => ((0 : Int), (k : Int), acc)) (fun e r => r.1 = e ∧ r.2.2.length ≤ 1000000) ?_ ?_ (k0 := k + j) (by omega)
    · refine Goes.map hl (fun l i hl' => ?_) (fun e g hl' hg => ⟨_, rfl, hg⟩)
      simp [Nat.add_assoc]
    · intro acc k' a1 a2 a3
      have hn := sigNum s k' a3 hl
      have hb : ∀ g : Int × Int × Int, fn_sig_reader_number_p0_si s (k' : Int) = some g → fn_sig_reader_typ_p0_si_l1 s n ((0 : Int), ((acc.length : Nat) : Int), (k' : Int), acc) = some (.inl (g.2.1, ((acc.length + 1 : Nat) : Int), g.2.2, acc ++ [(IntKind.wrap .i64 (Int.tdiv g.1 2), decide ((Int.tmod g.1 2) = 1))])) := by
        intro g hg
        unfold fn_sig_reader_typ_p0_si_l1
        dsimp only
        rw [decide_eq_true (by omega), show decide ((0 : Int) = 0) = true from rfl, Bool.and_self, cond_true, hg, Option.bind_some]
        rw [app_eq (by simp; omega), Option.bind_some, w64 (by omega) (by omega)]
        rfl
      refine ⟨fun x m hx => ?_, fun e he => ?_⟩
      · obtain ⟨n', m', j', b1, b2, rfl⟩ := pb_inr (p := pnum) (q := fun n => pret (n / 2, decide (n % 2 = 1))) hx
        cases b2
        rw [b1] at hn
        rw [hb _ hn]
        obtain ⟨_, c0, c1, _⟩ := pnum_inr b1
        rw [half c0 c1]
        simp
      · rcases pb_inl (p := pnum) (q := fun n => pret (n / 2, decide (n % 2 = 1))) he with he | ⟨_, _, _, he⟩
        · rw [he] at hn
          obtain ⟨g, g1, g2⟩ := hn
          obtain rfl : g.2.1 = e := g2
          refine ⟨(g.2.1, g.2.2, acc ++ [(IntKind.wrap .i64 (Int.tdiv g.1 2), decide ((Int.tmod g.1 2) = 1))]), ⟨rfl, by simp; omega⟩, .inr ⟨_, hb g g1, ?_⟩⟩
          have := (pnum_inl he).2
          unfold fn_sig_reader_typ_p0_si_l1
          simp [this]
        · cases he
    · intro acc k' a1 a2
      unfold fn_sig_reader_typ_p0_si_l1
      dsimp only
      rw [decide_eq_false (by omega)]
      rfl
  · obtain ⟨a, b, c⟩ := g
    obtain rfl : b = e := hg
    have := (Sane.count 16).err _ _ hs
    have hl := loop_end (body := fn_sig_reader_typ_p0_si_l1 s a) (s := (b, 0, c, [])) (b := (b, c, [])) (by unfold fn_sig_reader_typ_p0_si_l1; simp [this])
    dsimp only
    rw [hl]
    exact ⟨_, rfl, rfl, by simp⟩
theorem sigBounds (most : Int) (s : List UInt8) (k : Nat) (h : k ≤ s.length) (hl : s.length ≤ 1000000) : Goes (fn_sig_reader_bounds_p0i_si most s (k : Int)) (fun l j => (l, (0 : Int), ((k + j : Nat) : Int))) (fun e g => g.2.1 = e) (pbounds most (s.drop k)) := by
  unfold fn_sig_reader_bounds_p0i_si
  refine Goes.bind (sigMany most s k h (by omega)) (fun n j hs => ?_) (fun e g hs hg => ?_)
  · obtain ⟨h1, h2⟩ := pcount_inr hs
    obtain ⟨_, n0, n1, _, m1, _⟩ := pnum_inr h1
    rw [List.length_drop] at m1
    rw [List.drop_drop]
    have hl' := loop_many Sane.bound bound_pos s (body := fn_sig_reader_bounds_p0i_si_l1 s n) n.toNat (fun acc k => (acc, (0 : Int), ((acc.length : Nat) : Int), (k : Int))) (fun acc k => (acc, (0 : Int), (k : Int))) (fun e r => r.2.1 = e) ?_ ?_ (k0 := k + j) (by omega)
    · refine Goes.map hl' (fun l i hl' => ?_) (fun e g hl' hg => ⟨_, rfl, hg⟩)
      simp [Nat.add_assoc]
    · intro acc k' a1 a2 a3
      have hn := sigNum s k' a3 (by omega)
      have hb : ∀ g g' : Int × Int × Int, fn_sig_reader_number_p0_si s (k' : Int) = some g → g' = (0, g.2.1, g.2.2) ∧ g.2.1 ≠ 0 ∨ g.2.1 = 0 ∧ fn_sig_reader_number_p0_si s g.2.2 = some g' → fn_sig_reader_bounds_p0i_si_l1 s n (acc, (0 : Int), ((acc.length : Nat) : Int), (k' : Int)) = some (.inl (acc ++ [(g.1, g'.1)], g'.2.1, ((acc.length + 1 : Nat) : Int), g'.2.2)) := by
        intro g g' hg hg'
        unfold fn_sig_reader_bounds_p0i_si_l1
        dsimp only
        rw [decide_eq_true (by omega), show decide ((0 : Int) = 0) = true from rfl, Bool.and_self, cond_true, hg, Option.bind_some]
        rcases hg' with ⟨rfl, h0⟩ | ⟨h0, h1⟩
        · rw [decide_eq_false h0, cond_false, Option.bind_some]
          rw [app_eq (by simp; omega), Option.bind_some, w64 (by omega) (by omega)]
          rfl
        · rw [decide_eq_true h0, cond_true, h1, Option.bind_some, Option.bind_some]
          rw [app_eq (by simp; omega), Option.bind_some, w64 (by omega) (by omega)]
          rfl
      have hbad : ∀ g : Int × Int × Int, g.2.1 ≠ 0 → ∀ l c, fn_sig_reader_bounds_p0i_si_l1 s n (l, g.2.1, c, g.2.2) = some (.inr (l, g.2.1, g.2.2)) := by
        intro g hg l c
        unfold fn_sig_reader_bounds_p0i_si_l1
        simp [hg]
      refine ⟨fun x m hx => ?_, fun e he => ?_⟩
      · obtain ⟨n', m', j', b1, b2, rfl⟩ := pb_inr hx
        obtain ⟨n2, m2, j2, b3, b4, rfl⟩ := pb_inr b2
        cases b4
        have c1 := (pnum_inr b1).2.2.2.2.1
        rw [List.length_drop] at c1
        rw [b1] at hn
        have hn2 := sigNum s (k' + m') (by omega) (by omega)
        rw [List.drop_drop] at b3
        rw [b3] at hn2
        rw [hb _ _ hn (.inr ⟨rfl, hn2⟩)]
        simp [Nat.add_assoc]
      · rcases pb_inl he with he | ⟨n', m', b1, he⟩
        · rw [he] at hn
          obtain ⟨g, g1, g2⟩ := hn
          obtain rfl : g.2.1 = e := g2
          have := (pnum_inl he).2
          exact ⟨_, rfl, .inr ⟨_, hb g _ g1 (.inl ⟨rfl, this⟩), hbad (0, g.2.1, g.2.2) this _ _⟩⟩
        · rcases pb_inl he with he | ⟨_, _, _, he⟩
          · have c1 := (pnum_inr b1).2.2.2.2.1
            rw [List.length_drop] at c1
            rw [b1] at hn
            have hn2 := sigNum s (k' + m') (by omega) (by omega)
            rw [List.drop_drop] at he
            rw [he] at hn2
            obtain ⟨g, g1, g2⟩ := hn2
            obtain rfl : g.2.1 = e := g2
            have := (pnum_inl he).2
            exact ⟨_, rfl, .inr ⟨_, hb _ g hn (.inr ⟨rfl, g1⟩), hbad g this _ _⟩⟩
          · cases he
    · intro acc k' a1 a2
      unfold fn_sig_reader_bounds_p0i_si_l1
      dsimp only
      rw [decide_eq_false (by omega)]
      rfl
  · obtain ⟨a, b, c⟩ := g
    obtain rfl : b = e := hg
    have := (Sane.count most).err _ _ hs
    have hl := loop_end (body := fn_sig_reader_bounds_p0i_si_l1 s a) (s := ([], b, 0, c)) (b := ([], b, c)) (by unfold fn_sig_reader_bounds_p0i_si_l1; simp [this])
    dsimp only
    rw [hl]
    exact ⟨_, rfl, rfl⟩
theorem sigTypes (s : List UInt8) (k : Nat) (h : k ≤ s.length) (hl : s.length ≤ 1000000) : Goes (fn_sig_reader_types_p0_si s (k : Int)) (fun l j => (l, (0 : Int), ((k + j : Nat) : Int))) (fun e g => g.2.1 = e) (ptypes (s.drop k)) := by
  unfold fn_sig_reader_types_p0_si
  refine Goes.bind (sigMany 16 s k h (by omega)) (fun n j hs => ?_) (fun e g hs hg => ?_)
  · obtain ⟨h1, h2⟩ := pcount_inr hs
    obtain ⟨_, n0, n1, _, m1, _⟩ := pnum_inr h1
    rw [List.length_drop] at m1
    rw [List.drop_drop]
    have hl' := loop_many Sane.type type_pos s (body := fn_sig_reader_types_p0_si_l1 s n) n.toNat (fun acc k => (acc, (0 : Int), ((acc.length : Nat) : Int), (k : Int))) (fun acc k => (acc, (0 : Int), (k : Int))) (fun e r => r.2.1 = e) ?_ ?_ (k0 := k + j) (by omega)
    · refine Goes.map hl' (fun l i hl' => ?_) (fun e g hl' hg => ⟨_, rfl, hg⟩)
      simp [Nat.add_assoc]
    · intro acc k' a1 a2 a3
      have hn := sigTyp s k' a3 (by omega)
      have hb : ∀ g : List St × Int × Int, fn_sig_reader_typ_p0_si s (k' : Int) = some g → fn_sig_reader_types_p0_si_l1 s n (acc, (0 : Int), ((acc.length : Nat) : Int), (k' : Int)) = some (.inl (acc ++ [g.1], g.2.1, ((acc.length + 1 : Nat) : Int), g.2.2)) := by
        intro g hg
        unfold fn_sig_reader_types_p0_si_l1
        dsimp only
        rw [decide_eq_true (by omega), show decide ((0 : Int) = 0) = true from rfl, Bool.and_self, cond_true, hg, Option.bind_some]
        rw [app_eq (by simp; omega), Option.bind_some, w64 (by omega) (by omega)]
        rfl
      refine ⟨fun x m hx => ?_, fun e he => ?_⟩
      · rw [hx] at hn
        rw [hb _ hn]
        simp
      · rw [he] at hn
        obtain ⟨g, g1, g2, _⟩ := hn
        obtain rfl : g.2.1 = e := g2
        have := Sane.type.err _ _ he
        refine ⟨(acc ++ [g.1], g.2.1, g.2.2), rfl, .inr ⟨_, hb g g1, ?_⟩⟩
        unfold fn_sig_reader_types_p0_si_l1
        simp [this]
    · intro acc k' a1 a2
      unfold fn_sig_reader_types_p0_si_l1
      dsimp only
      rw [decide_eq_false (by omega)]
      rfl
  · obtain ⟨a, b, c⟩ := g
    obtain rfl : b = e := hg
    have := (Sane.count 16).err _ _ hs
    have hl := loop_end (body := fn_sig_reader_types_p0_si_l1 s a) (s := ([], b, 0, c)) (b := ([], b, c)) (by unfold fn_sig_reader_types_p0_si_l1; simp [this])
    dsimp only
    rw [hl]
    exact ⟨_, rfl, rfl⟩
def outT (r : Int ⊕ (List St × Nat)) : List St × Int × Int := match r with | .inr (t, m) => (t, (m : Int), 0) | .inl e => ([], 0, e)
def outB (r : Int ⊕ (List (Int × Int) × Nat)) : List (Int × Int) × Int × Int := match r with | .inr (t, m) => (t, (m : Int), 0) | .inl e => ([], 0, e)
def outS (r : Int ⊕ (Sgt × Nat)) : Int × List (Int × Int) × List (List St) × List St × Int × Int := match r with | .inr (g, m) => (g.1, g.2.1, g.2.2.1, g.2.2.2, (m : Int), 0) | .inl e => (0, [], [], [], 0, e)
theorem sigTakeType_eq (s : List UInt8) (hl : s.length ≤ 1000000) : fn_sig_TakeType s = some (outT (ptype s)) := by
  unfold fn_sig_TakeType
  have h := sigTyp s 0 (by omega) (by omega)
  rw [List.drop_zero] at h
  cases hs : ptype s with
  | inl e =>
    rw [hs] at h
    obtain ⟨⟨a, b, c⟩, g1, g2, _⟩ := h
    obtain rfl : b = e := g2
    have := Sane.type.err _ _ hs
    rw [show ((0 : Nat) : Int) = 0 from rfl] at g1
    rw [g1]; simp [outT, this]
  | inr x =>
    obtain ⟨x, m⟩ := x
    rw [hs] at h
    have h' : fn_sig_reader_typ_p0_si s 0 = some (x, 0, ((0 + m : Nat) : Int)) := h
    rw [h']; simp [outT]
theorem sigTakeBounds_eq (s : List UInt8) (most : Int) (hl : s.length ≤ 1000000) : fn_sig_TakeBounds s most = some (outB (pbounds most s)) := by
  unfold fn_sig_TakeBounds
  have h := sigBounds most s 0 (by omega) (by omega)
  rw [List.drop_zero] at h
  cases hs : pbounds most s with
  | inl e =>
    rw [hs] at h
    obtain ⟨⟨a, b, c⟩, g1, g2⟩ := h
    obtain rfl : b = e := g2
    have := (Sane.bounds most).err _ _ hs
    rw [show ((0 : Nat) : Int) = 0 from rfl] at g1
    rw [g1]; simp [outB, this]
  | inr x =>
    obtain ⟨x, m⟩ := x
    rw [hs] at h
    have h' : fn_sig_reader_bounds_p0i_si most s 0 = some (x, 0, ((0 + m : Nat) : Int)) := h
    rw [h']; simp [outB]
theorem sigTake_eq (s : List UInt8) (hl : s.length ≤ 1000000) : fn_sig_Take s = some (outS (psig s)) := by
  have key : Goes (fn_sig_Take s) (fun (g : Sgt) j => (g.1, g.2.1, g.2.2.1, g.2.2.2, (j : Int), (0 : Int))) (fun e g => g = (0, [], [], [], 0, e)) (psig s) := by
    unfold fn_sig_Take fn_sig_Take_1_p0p1p2_si_innn_i fn_sig_Take_2_p0p1p2_si_innn_i fn_sig_Take_3_p0p1p2_si_irnn_i fn_sig_Take_4_p0p1p2_si_irrn_i
    have h1 := sigNum s 0 (by omega) (by omega)
    rw [List.drop_zero] at h1
    rw [Option.bind_assoc]
    refine Goes.bind h1 (fun n j hs => ?_) (fun e g hs hg => ?_)
    · simp only [Option.bind_some, decide_true, Bool.not_true, cond_false, Nat.zero_add]
      have e1 := Sane.num.len _ _ _ hs
      rw [Option.bind_assoc]
      refine Goes.bind (sigBounds 16 s j (by omega) hl) (fun B j2 hs2 => ?_) (fun e g hs2 hg => ?_)
      · simp only [Option.bind_some, decide_true, Bool.not_true, cond_false]
        have e2 := (Sane.bounds 16).len _ _ _ hs2
        rw [List.length_drop] at e2
        rw [Option.bind_assoc, List.drop_drop]
        refine Goes.bind (sigTypes s (j + j2) (by omega) hl) (fun A j3 hs3 => ?_) (fun e g hs3 hg => ?_)
        · simp only [Option.bind_some, decide_true, Bool.not_true, cond_false]
          have e3 := Sane.types.len _ _ _ hs3
          rw [List.length_drop] at e3
          rw [Option.bind_assoc, List.drop_drop]
          refine Goes.bind (sigTyp s (j + j2 + j3) (by omega) (by omega)) (fun R j4 hs4 => ?_) (fun e g hs4 hg => ?_)
          · simp [Goes, pret, Nat.add_assoc]
          · obtain ⟨a, b, c⟩ := g
            obtain rfl : b = e := hg.1
            have := Sane.type.err _ _ hs4
            exact ⟨(0, [], [], [], 0, b), by simp [this], rfl⟩
        · obtain ⟨a, b, c⟩ := g
          obtain rfl : b = e := hg
          have := Sane.types.err _ _ hs3
          exact ⟨(0, [], [], [], 0, b), by simp [this], rfl⟩
      · obtain ⟨a, b, c⟩ := g
        obtain rfl : b = e := hg
        have := (Sane.bounds 16).err _ _ hs2
        exact ⟨(0, [], [], [], 0, b), by simp [this], rfl⟩
    · obtain ⟨a, b, c⟩ := g
      obtain rfl : b = e := hg
      have := (pnum_inl hs).2
      exact ⟨(0, [], [], [], 0, b), by simp [this], rfl⟩
  cases hs : psig s with
  | inl e => rw [hs] at key; obtain ⟨g, g1, rfl⟩ := key; rw [g1]; rfl
  | inr x => obtain ⟨x, m⟩ := x; rw [hs] at key; exact key
end Go.Proofs.YtmdmdmaekjpfjaaGreat
