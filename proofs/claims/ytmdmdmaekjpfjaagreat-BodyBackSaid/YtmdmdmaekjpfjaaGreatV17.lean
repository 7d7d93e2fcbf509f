import Derived.Test.YtmdmdmaekjpfjaaGreatU17
namespace Go.Proofs.YtmdmdmaekjpfjaaGreat
open Go.RowKit Lb
set_option linter.unusedVariables false
set_option linter.unnecessarySimpa false
set_option linter.unusedSimpArgs false
def snum (x : St) : Int := 2 * x.1 + (if x.2 then 1 else 0)
def wslot (x : St) : List UInt8 := put (snum x)
def wtype (l : List St) : List UInt8 := put (l.length : Int) ++ l.flatMap wslot
def wbound (b : Int × Int) : List UInt8 := put b.1 ++ put b.2
def wbounds (l : List (Int × Int)) : List UInt8 := put (l.length : Int) ++ l.flatMap wbound
def wtypes (l : List (List St)) : List UInt8 := put (l.length : Int) ++ l.flatMap wtype
def wsig (g : Sgt) : List UInt8 := put g.1 ++ (wbounds g.2.1 ++ (wtypes g.2.2.1 ++ wtype g.2.2.2))
abbrev okN (n : Int) : Prop := 0 ≤ n ∧ n ≤ 4294967295
def okSl (x : St) : Prop := 0 ≤ x.1 ∧ x.1 ≤ 2147483647
def okT (l : List St) : Prop := (l.length : Int) ≤ 16 ∧ ∀ x ∈ l, okSl x
def okB (most : Int) (l : List (Int × Int)) : Prop := (l.length : Int) ≤ most ∧ ∀ b ∈ l, okN b.1 ∧ okN b.2
def okTs (l : List (List St)) : Prop := (l.length : Int) ≤ 16 ∧ ∀ x ∈ l, okT x
def okS (g : Sgt) : Prop := okN g.1 ∧ okB 16 g.2.1 ∧ okTs g.2.2.1 ∧ okT g.2.2.2
theorem Cod.slot : Cod pslot wslot okSl := by
  have h := Cod.map (fun n => ((n / 2, decide (n % 2 = 1)) : St)) snum Cod.num (fun n hn => by
    unfold snum
    by_cases q : n % 2 = 1
    · simp [q]; omega
    · simp [q]; omega)
  refine h.imp (fun x => ?_) (fun x _ => rfl)
  obtain ⟨r, i⟩ := x
  unfold snum okSl
  cases i with
  | true => simp; omega
  | false => simp; omega
theorem Cod.type : Cod ptype wtype okT := Cod.list (by decide) Cod.slot
theorem Cod.bound : Cod pbound wbound (fun b => okN b.1 ∧ okN b.2) := Cod.pair (q := fun _ => pnum) (v := fun _ => put) (ok' := fun _ => okN) Cod.num (fun _ _ => Cod.num)
theorem Cod.bounds {most : Int} (h : most ≤ 4294967295) : Cod (pbounds most) wbounds (okB most) := Cod.list h Cod.bound
theorem Cod.types : Cod ptypes wtypes okTs := Cod.list (by decide) Cod.type
theorem Cod.sig : Cod psig wsig okS := by
  refine ⟨fun s g m h => ?_, fun g T ⟨h1, h2, h3, h4⟩ => ?_⟩
  · obtain ⟨n, a, j, h1, h2, rfl⟩ := pb_inr h
    obtain ⟨B, b, j2, h3, h4, rfl⟩ := pb_inr h2
    obtain ⟨A, c, j3, h5, h6, rfl⟩ := pb_inr h4
    obtain ⟨R, d, j4, h7, h8, rfl⟩ := pb_inr h6
    cases h8
    obtain ⟨o1, t1⟩ := Cod.num.back _ _ _ h1
    obtain ⟨o2, t2⟩ := (Cod.bounds (by decide)).back _ _ _ h3
    obtain ⟨o3, t3⟩ := Cod.types.back _ _ _ h5
    obtain ⟨o4, t4⟩ := Cod.type.back _ _ _ h7
    refine ⟨⟨o1, o2, o3, o4⟩, ?_⟩
    rw [Nat.add_zero, List.take_add, t1, List.take_add, t2, List.take_add, t3, t4]; rfl
  · obtain ⟨n, B, A, R⟩ := g
    dsimp only at *
    unfold wsig psig
    simp only [List.append_assoc]
    rw [pb_of (Cod.num.to n _ h1), List.drop_left, pb_of ((Cod.bounds (by decide)).to B _ h2), List.drop_left, pb_of (Cod.types.to A _ h3), List.drop_left, pb_of (Cod.type.to R _ h4)]
    simp [pret, padd]
theorem fm_len {α : Type} (w : α → List UInt8) (c : Nat) : ∀ (l : List α), (∀ x ∈ l, (w x).length ≤ c) → (l.flatMap w).length ≤ l.length * c
  | [], _ => by simp
  | x :: l, h => by
    have h1 := h x (by simp)
    have h2 := fm_len w c l (fun y hy => h y (by simp [hy]))
    rw [List.flatMap_cons, List.length_append, List.length_cons, Nat.succ_mul]; omega
theorem wbounds_len (l : List (Int × Int)) : (wbounds l).length ≤ 5 + l.length * 10 := by
  have h1 := put_len5 (l.length : Int)
  have h2 := fm_len wbound 10 l (fun x _ => by have := put_len5 x.1; have := put_len5 x.2; unfold wbound; rw [List.length_append]; omega)
  unfold wbounds; rw [List.length_append]; omega
theorem fm_map {α β : Type} (f : α → β) (w : β → List UInt8) (l : List α) : (l.map f).flatMap w = l.flatMap (fun x => w (f x)) := by
  induction l with
  | nil => rfl
  | cons x l ih => simp [ih]
theorem snum_eq {x : St} (h : okSl x) : (cond x.2 (some (IntKind.wrap .i64 ((IntKind.wrap .i64 (2 * x.1)) + 1))) (some (IntKind.wrap .i64 (2 * x.1))) : Option Int) = some (snum x) := by
  obtain ⟨r, i⟩ := x
  obtain ⟨h0, h1⟩ := h
  dsimp only at *
  rw [w64 (x := 2 * r) (by omega) (by omega), w64 (by omega) (by omega)]
  cases i <;> simp [snum]
theorem wrS_eq (a b : List UInt8) (h : a.length + b.length ≤ 1000000) : wrS a b = some (a ++ b) := app_eq (by omega)
theorem lebPut_eq (n : Int) : fn_leb_Put n = some (put n) := by
  unfold fn_leb_Put; rw [lebAll_eq _ (by simp)]; simp
theorem sigPutType_eq (l : List St) (hl : l.length ≤ 1000) (h : ∀ x ∈ l, okSl x) : fn_sig_PutType l = some (wtype l) := by
  unfold fn_sig_PutType
  have hloop := loop_nat (body := fn_sig_PutType_l1 l) (fun k : Nat => ([(l.length : Int)] ++ (l.take k).map snum, (k : Int))) l.length (b := [(l.length : Int)] ++ l.map snum) ?_ ?_
  · have : loop (fn_sig_PutType_l1 l) ([(l.length : Int)], 0) = some ([(l.length : Int)] ++ l.map snum) := by simpa using hloop
    rw [this, Option.bind_some, lebAll_eq _ (by simp; omega)]
    simp only [Option.bind_some, List.flatMap_append, fm_map]
    simp [wtype]; rfl
  · intro k hk
    unfold fn_sig_PutType_l1
    dsimp only
    rw [dlt hk, cond_true, getN hk, Option.bind_some, snum_eq (h _ (List.getElem_mem hk)), Option.bind_some, app_eq (by simp; omega), Option.bind_some, w64s hk (by omega)]
    rw [take_snoc hk, List.map_append]
    simp
  · unfold fn_sig_PutType_l1
    simp
theorem two_len : ∀ l : List (Int × Int), (l.flatMap (fun b => [b.1, b.2])).length = 2 * l.length
  | [] => rfl
  | x :: l => by have := two_len l; simp only [List.flatMap_cons, List.length_append, List.length_cons, List.length_nil]; omega
theorem two_put : ∀ l : List (Int × Int), (l.flatMap (fun b => [b.1, b.2])).flatMap put = l.flatMap wbound
  | [] => rfl
  | x :: l => by have := two_put l; simp only [List.flatMap_cons, List.flatMap_append, this]; simp [wbound]
theorem sigPutBounds_eq (l : List (Int × Int)) (hl : l.length ≤ 1000) : fn_sig_PutBounds l = some (wbounds l) := by
  unfold fn_sig_PutBounds
  have hloop := loop_nat (body := fn_sig_PutBounds_l1 l) (fun k : Nat => ([(l.length : Int)] ++ (l.take k).flatMap (fun b => [b.1, b.2]), (k : Int))) l.length (b := [(l.length : Int)] ++ l.flatMap (fun b => [b.1, b.2])) ?_ ?_
  · have : loop (fn_sig_PutBounds_l1 l) ([(l.length : Int)], 0) = some ([(l.length : Int)] ++ l.flatMap (fun b => [b.1, b.2])) := by simpa using hloop
    have h2 := two_len l
    rw [this, Option.bind_some, lebAll_eq _ (by rw [List.length_append, h2]; simp; omega)]
    have h3 := two_put l
    simp only [Option.bind_some, List.flatMap_append, h3]
    simp [wbounds]
  · intro k hk
    have h2 : ((l.take k).flatMap (fun b => [b.1, b.2])).length ≤ 2 * l.length := by
      rw [two_len]; simp; omega
    unfold fn_sig_PutBounds_l1
    dsimp only
    rw [dlt hk, cond_true, getN hk, Option.bind_some, app_eq (by rw [List.length_append]; simp only [List.length_cons, List.length_nil]; omega), Option.bind_some, w64s hk (by omega)]
    rw [take_snoc hk, List.flatMap_append]
    simp
  · unfold fn_sig_PutBounds_l1
    simp
theorem refPutBounds_eq (l : List (Int × Int)) (hl : l.length ≤ 1000) : fn_ref17_PutBounds l = some (wbounds l) := by
  unfold fn_ref17_PutBounds
  rw [refPut_eq, Option.bind_some]
  have hloop := loop_nat (body := fn_ref17_PutBounds_l1 l) (fun k : Nat => (put (l.length : Int) ++ (l.take k).flatMap wbound, (k : Int))) l.length (b := wbounds l) ?_ ?_
  · have : loop (fn_ref17_PutBounds_l1 l) (put (l.length : Int), 0) = some (wbounds l) := by simpa using hloop
    rw [this]; rfl
  · intro k hk
    have l1 := put_len5 (l.length : Int)
    have l2 := fm_len wbound 10 (l.take k) (fun x _ => by have := put_len5 x.1; have := put_len5 x.2; unfold wbound; rw [List.length_append]; omega)
    have l3 : (l.take k).length ≤ 1000 := by simp; omega
    have l4 := put_len5 l[k].1
    have l5 := put_len5 l[k].2
    unfold fn_ref17_PutBounds_l1
    dsimp only
    rw [dlt hk, cond_true, getN hk, Option.bind_some, Option.bind_some, refPut_eq, Option.bind_some, app_eq (by simp only [List.length_append]; omega), Option.bind_some, refPut_eq, Option.bind_some, app_eq (by simp only [List.length_append]; omega), Option.bind_some, w64s hk (by omega)]
    rw [take_snoc hk, List.flatMap_append]
    simp [wbound]
  · unfold fn_ref17_PutBounds_l1
    simp [wbounds]
theorem pmany_len {α : Type} {p : Ps α} (hpos : ∀ s x m, p s = .inr (x, m) → 1 ≤ m) : ∀ (n : Nat) (s : List UInt8) (l : List α) (m : Nat), pmany p n s = .inr (l, m) → l.length = n ∧ n ≤ m
  | 0, s, l, m, h => by cases h; simp
  | n + 1, s, l, m, h => by
    obtain ⟨x, a, j, h1, h2, rfl⟩ := pb_inr h
    obtain ⟨xs, b, j', h3, h4, rfl⟩ := pb_inr h2
    cases h4
    have := pmany_len hpos n _ _ _ h3
    have := hpos _ _ _ h1
    simp; omega
theorem plist_len {α : Type} {p : Ps α} {most : Int} (hpos : ∀ s x m, p s = .inr (x, m) → 1 ≤ m) {s : List UInt8} {l : List α} {m : Nat} (h : plist most p s = .inr (l, m)) : l.length ≤ m := by
  obtain ⟨n, a, j, h1, h2, rfl⟩ := pb_inr h
  have := pmany_len hpos _ _ _ _ h2
  omega
theorem same15_eq (xa xb : List St) (hn : xa.length ≤ 1073741824) : fn_ref15_Same xa xb = some (decide (xa = xb)) := by
  unfold fn_ref15_Same
  rw [refShape_eq xa xb hn, Option.bind_some]
  cases hs : shp xa xb with
  | false =>
    have : ¬ xa = xb := fun h => by subst h; simp [shp] at hs
    simp [this]
  | true =>
    have hl := shp_len' hs
    rw [Bool.not_true, cond_false, loop_alike (body := fn_ref15_Same_l1 xa xb) xa xb (.inr false) (.inl ()) hl ?_ ?_]
    · by_cases h : xa = xb <;> simp [h]
    · intro k hk
      have h2 : k < xb.length := by omega
      have hm : (xa.map (·.2))[k]? = (xb.map (·.2))[k]? := by rw [of_decide_eq_true hs]
      simp [hk, h2] at hm
      unfold fn_ref15_Same_l1
      simp only [dlt hk, cond_true, getN hk, getN h2, Option.bind_some, w64s hk (by omega : xa.length ≤ 9223372036854775807)]
      generalize xa[k] = a at *
      generalize xb[k] = b at *
      obtain ⟨a1, a2⟩ := a
      obtain ⟨b1, b2⟩ := b
      dsimp only at hm ⊢
      subst hm
      by_cases q : a1 = b1 <;> simp [q]
    · simp [fn_ref15_Same_l1]
theorem refBounds_eq (xa xb : List (Int × Int)) (hn : xa.length ≤ 1073741824) : fn_ref17_Bounds xa xb = some (decide (xa = xb)) := by
  unfold fn_ref17_Bounds
  by_cases hl : xa.length = xb.length
  · rw [dlen hl, cond_false, loop_alike (body := fn_ref17_Bounds_l1 xa xb) xa xb (.inr false) (.inl ()) hl ?_ ?_]
    · by_cases h : xa = xb <;> simp [h]
    · intro k hk
      have h2 : k < xb.length := by omega
      unfold fn_ref17_Bounds_l1
      simp only [dlt hk, cond_true, getN hk, getN h2, Option.bind_some, w64s hk (by omega : xa.length ≤ 9223372036854775807)]
      generalize xa[k] = a
      generalize xb[k] = b
      obtain ⟨a1, a2⟩ := a
      obtain ⟨b1, b2⟩ := b
      by_cases q : a1 = b1 <;> by_cases q2 : a2 = b2 <;> simp [q, q2]
    · simp [fn_ref17_Bounds_l1]
  · rw [dlen' hl, cond_true]
    have : ¬ xa = xb := fun h => hl (by rw [h])
    simp [this]
theorem refTypes_eq (xa xb : List (List St)) (hn : xa.length ≤ 1073741824) (h : ∀ t ∈ xa, t.length ≤ 1073741824) : fn_ref17_Types xa xb = some (decide (xa = xb)) := by
  unfold fn_ref17_Types
  by_cases hl : xa.length = xb.length
  · rw [dlen hl, cond_false, loop_alike (body := fn_ref17_Types_l1 xa xb) xa xb (.inr false) (.inl ()) hl ?_ ?_]
    · by_cases h : xa = xb <;> simp [h]
    · intro k hk
      have h2 : k < xb.length := by omega
      unfold fn_ref17_Types_l1
      simp only [dlt hk, cond_true, getN hk, getN h2, Option.bind_some, w64s hk (by omega : xa.length ≤ 9223372036854775807), same15_eq _ _ (h _ (List.getElem_mem hk))]
      by_cases q : xa[k] = xb[k] <;> simp [q]
    · simp [fn_ref17_Types_l1]
  · rw [dlen' hl, cond_true]
    have : ¬ xa = xb := fun h => hl (by rw [h])
    simp [this]
theorem refSigSame_eq (a b : Sgt) (h1 : a.2.1.length ≤ 1073741824) (h2 : a.2.2.1.length ≤ 1073741824) (h3 : ∀ t ∈ a.2.2.1, t.length ≤ 1073741824) (h4 : a.2.2.2.length ≤ 1073741824) : fn_ref17_Same a b = some (decide (a = b)) := by
  unfold fn_ref17_Same
  rw [refBounds_eq _ _ h1, refTypes_eq _ _ h2 h3, same15_eq _ _ h4]
  obtain ⟨a1, a2, a3, a4⟩ := a
  obtain ⟨b1, b2, b3, b4⟩ := b
  dsimp only
  by_cases q1 : a1 = b1 <;> by_cases q2 : a2 = b2 <;> by_cases q3 : a3 = b3 <;> by_cases q4 : a4 = b4 <;> simp [q1, q2, q3, q4]
end Go.Proofs.YtmdmdmaekjpfjaaGreat
