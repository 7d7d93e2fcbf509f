import Derived.Test.YtmdmdmaekjpfjaaGreatW20
namespace Go.Proofs.YtmdmdmaekjpfjaaGreat
open Go.RowKit Lb
set_option linter.unusedVariables false
set_option linter.unnecessarySimpa false
set_option linter.unusedSimpArgs false
theorem Cod.stmt : Cod pstmt sPut (fun x => fOk x = true ∧ okN x.2.1 ∧ okN x.2.2.1 ∧ 0 ≤ x.2.2.2.1 ∧ x.2.2.2.1 < 2147483648) where
  back := fun s x m h => by
    obtain ⟨_, _, _, h1, h2, h3, h4, h5, h6⟩ := pstmt_inr h
    exact ⟨⟨h1, h5, h6, h2, h3⟩, h4.symm⟩
  to := fun x T ⟨h1, h2, h3, h4, h5⟩ => by
    unfold pstmt
    rw [sTake_put x T h1 h2.1 h3.1 h4 h2.2 h3.2 h5]
    rfl
abbrev okBlk (x : Blok) : Prop := ((x.1.length : Int) ≤ 65536 ∧ ∀ s ∈ x.1, fOk s = true ∧ okN s.2.1 ∧ okN s.2.2.1 ∧ 0 ≤ s.2.2.2.1 ∧ s.2.2.2.1 < 2147483648) ∧ tForm x.2 = 0 ∧ okTm x.2
def wblk (x : Blok) : List UInt8 := (put (x.1.length : Int) ++ x.1.flatMap sPut) ++ tPut x.2
/-- What is taken is written; a longer text begins with the same. -/
structure Ext {α : Type} (p : Ps α) (w : α → List UInt8) (ok : α → Prop) : Prop where
  back : ∀ s x m, p s = .inr (x, m) → ok x ∧ s.take m = w x
  more : ∀ s x m T, (s ++ T).length ≤ 1000000 → p s = .inr (x, m) → p (s ++ T) = .inr (x, m)
section
variable {α β : Type} {p : Ps α} {w : α → List UInt8} {ok : α → Prop}
theorem Cod.ext (h : Cod p w ok) (hp : Sane p) : Ext p w ok := ⟨h.back, fun s x m T _ hs => by
  obtain ⟨h1, h2⟩ := h.back s x m hs
  have hl := hp.len _ _ _ hs
  have h3 := h.to x (s.drop m ++ T) h1
  rw [← h2, ← List.append_assoc, List.take_append_drop] at h3
  rw [h3, List.length_take]
  congr 2; omega⟩
theorem Ext.many (hp : Ext p w ok) (sp : Sane p) : ∀ n, Ext (pmany p n) (fun l => l.flatMap w) (fun l => l.length = n ∧ ∀ x ∈ l, ok x)
  | 0 => ⟨fun s l m h => by cases h; simp, fun s l m T hl h => by cases h; rfl⟩
  | n + 1 => by
    have ih := Ext.many hp sp n
    refine ⟨fun s l m h => ?_, fun s l m T hl h => ?_⟩
    · obtain ⟨x, a, j, h1, h2, rfl⟩ := pb_inr h
      obtain ⟨xs, b, j', h3, h4, rfl⟩ := pb_inr h2
      cases h4
      obtain ⟨o1, t1⟩ := hp.back _ _ _ h1
      obtain ⟨⟨o2, o3⟩, t2⟩ := ih.back _ _ _ h3
      refine ⟨⟨by simp [o2], fun y hy => ?_⟩, ?_⟩
      · rcases List.mem_cons.1 hy with rfl | hy
        · exact o1
        · exact o3 y hy
      · rw [Nat.add_zero, List.take_add, t1, t2]; rfl
    · obtain ⟨x, a, j, h1, h2, rfl⟩ := pb_inr h
      obtain ⟨xs, b, j', h3, h4, rfl⟩ := pb_inr h2
      cases h4
      have ha := sp.len _ _ _ h1
      have g1 := hp.more s x a T hl h1
      have g2 := ih.more (s.drop a) xs b T (by simp only [List.length_append, List.length_drop] at hl ⊢; omega) h3
      show pb p _ _ = _
      rw [pb_of g1, List.drop_append_of_le_length ha, pb_of g2]
      simp [pret, padd]
theorem more_bind {q : α → Ps β} (sp : Sane p) (h1 : ∀ s x m T, (s ++ T).length ≤ 1000000 → p s = .inr (x, m) → p (s ++ T) = .inr (x, m)) (h2 : ∀ a s x m T, (s ++ T).length ≤ 1000000 → q a s = .inr (x, m) → q a (s ++ T) = .inr (x, m)) (s : List UInt8) (x : β) (m : Nat) (T : List UInt8) (hl : (s ++ T).length ≤ 1000000) (h : pb p q s = .inr (x, m)) : pb p q (s ++ T) = .inr (x, m) := by
  obtain ⟨y, a, j, h3, h4, rfl⟩ := pb_inr h
  have ha := sp.len _ _ _ h3
  rw [pb_of (h1 s y a T hl h3), List.drop_append_of_le_length ha, h2 y _ _ _ T (by simp only [List.length_append, List.length_drop] at hl ⊢; omega) h4]
  rfl
end
abbrev More {α : Type} (p : Ps α) : Prop := ∀ s x m T, (s ++ T).length ≤ 1000000 → p s = .inr (x, m) → p (s ++ T) = .inr (x, m)
theorem More.ret {α : Type} (x : α) : More (pret x) := fun s y m T _ h => by cases h; rfl
theorem More.num : More pnum := (Cod.num.ext Sane.num).more
theorem More.count (most : Int) : More (pcount most) := more_bind Sane.num More.num (fun n => by
  split
  · intro s x m T _ h; cases h
  · exact More.ret _)
theorem More.list {α : Type} {p : Ps α} {w : α → List UInt8} {ok : α → Prop} (most : Int) (h : Ext p w ok) (sp : Sane p) : More (plist most p) := more_bind (Sane.count _) (More.count _) (fun n => (Ext.many h sp _).more)
theorem Ext.term : Ext pterm tPut (fun x => tForm x = 0 ∧ okTm x) where
  back := fun s x m h => by
    obtain ⟨_, _, _, _, h1, h2, h3⟩ := pterm_inr h
    exact ⟨⟨h1, h3⟩, h2.symm⟩
  more := fun s x m T hl h => by
    obtain ⟨_, _, h0, _, h1, h2, h3, h4, h5, h6, h7⟩ := pterm_inr h
    have hb := (takeB x (s.drop m ++ T) h1 (by simp only [List.length_append, List.length_drop] at hl ⊢; omega) h3 h4 h5 h6 h7).1
    rw [h2, ← List.append_assoc, List.take_append_drop, List.length_take] at hb
    unfold pterm
    rw [if_pos hl, hb]
    show (Sum.inr (_, _) : Int ⊕ (Tm × Nat)) = _
    congr 2; simp; omega
theorem Ext.stmt : Ext pstmt sPut (fun x => fOk x = true ∧ okN x.2.1 ∧ okN x.2.2.1 ∧ 0 ≤ x.2.2.2.1 ∧ x.2.2.2.1 < 2147483648) := Cod.stmt.ext Sane.stmt
theorem Ext.blk : Ext pblk wblk okBlk where
  back := fun s x m h => by
    obtain ⟨l, a, j, h1, h2, rfl⟩ := pb_inr h
    obtain ⟨t, b, j', h3, h4, rfl⟩ := pb_inr h2
    cases h4
    obtain ⟨o1, t1⟩ := (Cod.list (most := 65536) (by omega) Cod.stmt).back _ _ _ h1
    obtain ⟨o2, t2⟩ := Ext.term.back _ _ _ h3
    exact ⟨⟨o1, o2⟩, by rw [Nat.add_zero, List.take_add, t1, t2]; rfl⟩
  more := more_bind (Sane.list _ Sane.stmt) (More.list _ Ext.stmt Sane.stmt) (fun l => more_bind Sane.term Ext.term.more (fun t => More.ret _))
theorem More.body : More pbody :=
  more_bind (Sane.count _) (More.count _) fun u => more_bind (Sane.count _) (More.count _) fun n => more_bind (Sane.bounds _) ((Cod.bounds (by omega)).ext (Sane.bounds _)).more fun B => more_bind (Sane.list _ Sane.type) (More.list _ (Cod.type.ext Sane.type) Sane.type) fun L =>
    more_bind Sane.type (Cod.type.ext Sane.type).more fun R => more_bind (Sane.list _ Sane.sig) (More.list _ (Cod.sig.ext Sane.sig) Sane.sig) fun S => more_bind (Sane.list _ Sane.blk) (More.list _ Ext.blk Sane.blk) fun X => More.ret _
structure okBd (b : Bod) : Prop where
  B : okB 65536 b.2.2.1
  L : ∀ t ∈ b.2.2.2.1, okT t
  R : okT b.2.2.2.2.1
  S : ∀ g ∈ b.2.2.2.2.2.1, okS g
  X : ∀ x ∈ b.2.2.2.2.2.2, okBlk x
def wbody (b : Bod) : List UInt8 := put b.1 ++ (put b.2.1 ++ (wbounds b.2.2.1 ++ ((put (b.2.2.2.1.length : Int) ++ b.2.2.2.1.flatMap wtype) ++ (wtype b.2.2.2.2.1 ++ ((put (b.2.2.2.2.2.1.length : Int) ++ b.2.2.2.2.2.1.flatMap wsig) ++ (put (b.2.2.2.2.2.2.length : Int) ++ b.2.2.2.2.2.2.flatMap wblk))))))
theorem count_back {s : List UInt8} {n : Int} {m : Nat} (h : pcount 65536 s = .inr (n, m)) : s.take m = put n := by
  obtain ⟨_, _, _, _, _, h2⟩ := pnum_inr (pcount_inr h).1
  exact h2.symm
theorem list_back {α : Type} {p : Ps α} {w : α → List UInt8} {ok : α → Prop} (hp : Ext p w ok) (sp : Sane p) {s : List UInt8} {l : List α} {m : Nat} (h : plist 65536 p s = .inr (l, m)) : (∀ x ∈ l, ok x) ∧ s.take m = put (l.length : Int) ++ l.flatMap w := by
  obtain ⟨n, a, j, h1, h2, rfl⟩ := pb_inr h
  obtain ⟨h3, h4⟩ := pcount_inr h1
  obtain ⟨_, n0, n1, _, _, hp1⟩ := pnum_inr h3
  obtain ⟨⟨o1, o2⟩, t⟩ := (Ext.many hp sp n.toNat).back _ _ _ h2
  have e : (l.length : Int) = n := by omega
  exact ⟨o2, by rw [List.take_add, t, e, hp1]⟩
theorem body_back {s : List UInt8} {b : Bod} {m : Nat} (h : pbody s = .inr (b, m)) : okBd b ∧ s.take m = wbody b := by
  obtain ⟨u, m1, j1, h1, g1, rfl⟩ := pb_inr h
  obtain ⟨n, m2, j2, h2, g2, rfl⟩ := pb_inr g1
  obtain ⟨B, m3, j3, h3, g3, rfl⟩ := pb_inr g2
  obtain ⟨L, m4, j4, h4, g4, rfl⟩ := pb_inr g3
  obtain ⟨R, m5, j5, h5, g5, rfl⟩ := pb_inr g4
  obtain ⟨S, m6, j6, h6, g6, rfl⟩ := pb_inr g5
  obtain ⟨X, m7, j7, h7, g7, rfl⟩ := pb_inr g6
  cases g7
  obtain ⟨o3, t3⟩ := (Cod.bounds (most := 65536) (by omega)).back _ _ _ h3
  obtain ⟨o4, t4⟩ := list_back (Cod.type.ext Sane.type) Sane.type h4
  obtain ⟨o5, t5⟩ := Cod.type.back _ _ _ h5
  obtain ⟨o6, t6⟩ := list_back (Cod.sig.ext Sane.sig) Sane.sig h6
  obtain ⟨o7, t7⟩ := list_back Ext.blk Sane.blk h7
  refine ⟨⟨o3, o4, o5, o6, o7⟩, ?_⟩
  rw [Nat.add_zero]
  simp only [List.take_add, count_back h1, count_back h2, t3, t4, t5, t6, t7]
  rfl
end Go.Proofs.YtmdmdmaekjpfjaaGreat
