/- What layer 15's functions compute, in plain words. -/
import Derived.Test.YtpoihacaljbaeaaF2
import Derived.Test.YtpoihacaljbaeaaPl
import Derived.Test.YtpoihacaljbaeaaUq
namespace Go.Proofs.Ytpoihacaljbaeaa
open Go.RowKit
set_option linter.unusedVariables false
abbrev St := Int × Bool
theorem Few_eq (xa : List St) (n : Int) : fn_ref15_Few xa n = some (decide ((xa.length : Int) ≤ n)) := rfl
theorem map_any2 {α : Type} [DecidableEq α] (f : St → α) {xa xb : List St} (hl : xa.length = xb.length) : (xa.zip xb).any (fun p => !decide (f p.1 = f p.2)) = !decide (xa.map f = xb.map f) := by
  rw [← zip_any_ne (by simpa using hl), List.zip_map, List.any_map]; rfl
theorem len_ne {xa xb : List St} {α : Type} (f : St → α) (h : ¬ xa.length = xb.length) : xa.map f ≠ xb.map f := fun e => h (by simpa using congrArg List.length e)
def shp (xa xb : List St) : Bool := decide (xa.map (·.2) = xb.map (·.2))
theorem refShape_eq (xa xb : List St) (hn : xa.length ≤ 9223372036854775807) : fn_ref15_Shape xa xb = some (shp xa xb) := by
  unfold fn_ref15_Shape
  by_cases hl : xa.length = xb.length
  · have e1 : (!decide (((xa.length : Nat) : Int) = ((xb.length : Nat) : Int))) = false := by simp [hl]
    rw [e1, cond_false]
    rw [loop_two xa xb (fun x y => !(x.2 == y.2)) _ _ hl hn]
    have := map_any2 (·.2) hl
    simp only [Bool.beq_eq_decide_eq]
    rw [this]; unfold shp
    by_cases hh : xa.map (·.2) = xb.map (·.2) <;> simp [hh]
  · have e1 : (!decide (((xa.length : Nat) : Int) = ((xb.length : Nat) : Int))) = true := by simp; omega
    rw [e1, cond_true]
    simp [shp, len_ne _ hl]
theorem lenT {xa xb : List St} (h : xa.length = xb.length) : (!decide (((xa.length : Nat) : Int) = ((xb.length : Nat) : Int))) = false := by simp [h]
theorem lenF {xa xb : List St} (h : ¬ xa.length = xb.length) : (!decide (((xa.length : Nat) : Int) = ((xb.length : Nat) : Int))) = true := by simp; omega
def sam (xa xb : List St) : Bool := decide (xa = xb)
theorem sam_parts {xa xb : List St} : xa = xb ↔ xa.map (·.2) = xb.map (·.2) ∧ xa.map (·.1) = xb.map (·.1) := by
  constructor
  · rintro rfl; exact ⟨rfl, rfl⟩
  · induction xa generalizing xb with
    | nil => cases xb <;> simp
    | cons x xa ih => cases xb with
      | nil => simp
      | cons y xb =>
        simp only [List.map_cons, List.cons.injEq]
        rintro ⟨⟨h1, h2⟩, h3, h4⟩
        exact ⟨Prod.ext h3 h1, ih ⟨h2, h4⟩⟩
theorem refSame_eq (xa xb : List St) (hn : xa.length ≤ 9223372036854775807) : fn_ref15_Same xa xb = some (sam xa xb) := by
  unfold fn_ref15_Same
  rw [refShape_eq xa xb hn, Option.bind_some]
  by_cases hs : xa.map (·.2) = xb.map (·.2)
  · have hl : xa.length = xb.length := by simpa using congrArg List.length hs
    have e : shp xa xb = true := by simp [shp, hs]
    rw [e]
    simp only [Bool.not_true, cond_false]
    rw [loop_two xa xb (fun x y => !decide (x.1 = y.1)) _ _ hl hn, map_any2 (·.1) hl]
    unfold sam
    by_cases hh : xa.map (·.1) = xb.map (·.1)
    · have := sam_parts.2 ⟨hs, hh⟩; subst this; simp
    · have : ¬ xa = xb := fun h => hh (h ▸ rfl)
      simp [this, hh]
  · have e : shp xa xb = false := by simp [shp, hs]
    have : ¬ xa = xb := fun h => hs (h ▸ rfl)
    simp [e, sam, this]
theorem rowShape_eq (xa xb : List St) (hn : xa.length ≤ 9223372036854775807) : fn_row_Shape xa xb = some (shp xa xb) := by
  unfold fn_row_Shape fn_slices_EqualFunc_api_Slot_api_Slot_api_Slot_api_Slot fn_row_Shape_1
  simp only [Option.bind_some]
  by_cases hl : xa.length = xb.length
  · rw [lenT hl, cond_false]
    rw [loop_two xa xb (fun x y => !(x.2 == y.2)) _ _ hl hn]
    have := map_any2 (·.2) hl
    simp only [Bool.beq_eq_decide_eq]
    rw [this]; unfold shp
    by_cases hh : xa.map (·.2) = xb.map (·.2) <;> simp [hh]
  · rw [lenF hl, cond_true]
    simp [shp, len_ne _ hl]
theorem rowSame_eq (xa xb : List St) (hn : xa.length ≤ 9223372036854775807) : fn_row_Same xa xb = some (sam xa xb) := by
  unfold fn_row_Same fn_slices_Equal_api_Slot_api_Slot
  by_cases hl : xa.length = xb.length
  · rw [lenT hl, cond_false]
    rw [loop_two xa xb (fun x y => !((decide (x.1 = y.1)) && (x.2 == y.2))) _ _ hl hn]
    have : (xa.zip xb).any (fun p => !((decide (p.1.1 = p.2.1)) && (p.1.2 == p.2.2))) = !decide (xa = xb) := by
      rw [← zip_any_ne hl]
      congr 1; funext p
      rw [Bool.beq_eq_decide_eq, ← Bool.decide_and]
      congr 1
      exact decide_eq_decide.2 ⟨fun h => Prod.ext h.1 h.2, fun h => ⟨by rw [h], by rw [h]⟩⟩
    rw [this]; unfold sam
    by_cases hh : xa = xb <;> simp [hh]
  · rw [lenF hl, cond_true]
    have : ¬ xa = xb := fun h => hl (h ▸ rfl)
    simp [sam, this]
theorem Clone_eq (xa : List St) (hn : xa.length ≤ 1073741824) : fn_slices_Clone_api_Slot_api_Slot xa = some xa := by
  unfold fn_slices_Clone_api_Slot_api_Slot
  rw [nilb_eq]
  · rw [app_eq (by simpa using hn)]; simp
  · rintro rfl; rw [app_eq (by simp)]; rfl
theorem rowClone_eq (xa : List St) (hn : xa.length ≤ 1073741824) : fn_row_Clone xa = some xa := by
  unfold fn_row_Clone; rw [Clone_eq xa hn]; rfl
def rin (n : Int) (xa : List St) : Bool := xa.any fun x => decide (x.1 < 0) || decide (n ≤ x.1)
theorem refCheck_eq (xa : List St) (n : Int) : fn_ref15_Check xa n = some (if 16 < xa.length then 6 else if rin n xa then 7 else 0) := by
  unfold fn_ref15_Check
  by_cases h : 16 < xa.length
  · have : decide ((16 : Int) < ((xa.length : Nat) : Int)) = true := by simp; omega
    rw [this]; simp [h]
  · have : decide ((16 : Int) < ((xa.length : Nat) : Int)) = false := by simp; omega
    rw [this, cond_false, if_neg h]
    have hb := loop_one xa (fun x => decide (x.1 < 0) || decide (n ≤ x.1)) (.inr 7 : Unit ⊕ Int) (.inl ()) (by omega)
    rw [show (fun (i365 : Int) => (cond (decide (i365 < (((xa.length : Nat) : Int)))) ((getI xa i365).bind fun x405 => (cond (decide (x405.1 < 0)) (some (true)) ((getI xa i365).bind fun x427 => some (decide (n ≤ x427.1)))).bind fun t424 => cond (t424) (some (.inr ((.inr (7))))) (some (.inl (IntKind.wrap .i64 (i365 + 1))))) (some (.inr ((.inl ())))) : Option (Int ⊕ (Unit ⊕ Int)))) = _ from ?_] at *
    · rw [hb]; unfold rin
      split <;> simp_all
    · funext i
      cases hg : getI xa i with
      | none => simp
      | some x => by_cases hx : x.1 < 0 <;> simp [hx]
theorem within_eq (xa : List St) (n : Int) (hn : xa.length ≤ 1073741824) : fn_row_within xa n = some (!rin n xa) := by
  unfold fn_row_within fn_slices_ContainsFunc_api_Slot_api_Slot_v2 fn_slices_IndexFunc_api_Slot_api_Slot_v2 fn_row_within_1
  simp only [Option.bind_some]
  obtain ⟨r, h1, h2⟩ := loop_idx xa (fun x c => decide (x.1 < 0) || decide (c ≤ x.1)) n (by omega)
  rw [h1]
  rcases h2 with ⟨rfl, h⟩ | ⟨k, rfl, h⟩ <;> simp [rin, h]
theorem rowHas_eq (xa : List St) (n : Int) (hn : xa.length ≤ 1073741824) : fn_row_Has xa n = some (xa.any fun x => decide (x.1 = n)) := by
  unfold fn_row_Has fn_slices_ContainsFunc_api_Slot_api_Slot fn_slices_IndexFunc_api_Slot_api_Slot fn_row_Has_1
  simp only [Option.bind_some]
  obtain ⟨r, h1, h2⟩ := loop_idx xa (fun x c => decide (x.1 = c)) n (by omega)
  rw [h1]
  rcases h2 with ⟨rfl, h⟩ | ⟨k, rfl, h⟩
  · rw [h]; rfl
  · rw [h]; simp
theorem refHas_eq (xa : List St) (n : Int) (hn : xa.length ≤ 1073741824) : fn_ref15_Has xa n = some (xa.any fun x => decide (x.1 = n)) := by
  unfold fn_ref15_Has
  rw [loop_one xa (fun x => decide (x.1 = n)) _ _ (by omega)]
  cases xa.any fun x => decide (x.1 = n) <;> rfl
theorem rowCheck_eq (xa : List St) (n : Int) (hn : xa.length ≤ 1073741824) : fn_row_Check xa n = some (if 16 < xa.length then 6 else if rin n xa then 7 else 0) := by
  unfold fn_row_Check
  rw [within_eq xa n hn]
  by_cases h : 16 < xa.length
  · have : decide ((16 : Int) < ((xa.length : Nat) : Int)) = true := by simp; omega
    rw [this]; simp [h]
  · have : decide ((16 : Int) < ((xa.length : Nat) : Int)) = false := by simp; omega
    rw [this]; simp only [Option.bind_some, cond_false, if_neg h, Bool.not_not]
    cases rin n xa <;> rfl
theorem rowRef_eq (xa : List St) (n : Int) (m : Bool) (hn : xa.length ≤ 1000000000) : fn_row_Ref xa n m = some ((n, false) :: xa.map fun x => (x.1, x.2 || m)) := by
  unfold fn_row_Ref
  rw [loop_map xa (fun x => (x.1, x.2 || m)) [(n, false)] (by simp; omega) (fun c i => rfl)]; rfl
theorem refRef_eq (xa : List St) (n : Int) (m : Bool) (hn : xa.length ≤ 1000000000) : fn_ref15_Ref xa n m = some ((n, false) :: xa.map fun x => (x.1, x.2 || m)) := by
  unfold fn_ref15_Ref
  rw [loop_map xa (fun x => (x.1, x.2 || m)) [(n, false)] (by simp; omega)]; rfl
  intro c i
  dsimp only
  cases hg : getI xa i with
  | none => simp
  | some x => cases h2 : x.2 <;> simp [h2]
theorem awake15 : fn_law15_awake = some true := by
  unfold fn_law15_awake
  rw [rowRef_eq _ _ _ (by decide), Option.bind_some, refSame_eq _ _ (by decide), Option.bind_some, rowHas_eq _ _ (by decide), rowCheck_eq _ _ (by decide)]
  decide
def drf : List St → List St × Int × Bool
  | [] => ([], 0, false)
  | x :: t => if x.2 then ([], 0, false) else (t, x.1, true)
theorem subL_tail (x : St) (t : List St) : subL (x :: t) 1 (((x :: t).length : Nat) : Int) = some t := by
  rw [subL_eq (by omega) (by simp; omega) (by simp)]; simp
theorem refDeref_eq (xa : List St) : fn_ref15_Deref xa = some (drf xa) := by
  unfold fn_ref15_Deref
  cases xa with
  | nil => rfl
  | cons x t =>
    have h0 : getI (x :: t) 0 = some x := rfl
    have h1 : decide ((((x :: t).length : Nat) : Int) = 0) = false := by simp; omega
    rw [subL_tail, h0, h1]
    cases h : x.2 <;> simp [drf, h]
theorem rowDeref_eq (xa : List St) (hn : xa.length ≤ 1073741824) : fn_row_Deref xa = some (drf xa) := by
  unfold fn_row_Deref
  cases xa with
  | nil => rfl
  | cons x t =>
    have h0 : getI (x :: t) 0 = some x := rfl
    have h1 : decide ((((x :: t).length : Nat) : Int) = 0) = false := by simp; omega
    rw [subL_tail, h0, h1]
    cases h : x.2 <;> simp [drf, h, Clone_eq t (by simp at hn; omega)]
def sbs (xb : List Int) (x : St) : St := (xb.getD x.1.toNat 0, x.2)
theorem rin_false {n : Int} {xa : List St} (h : rin n xa = false) {k : Nat} {x : St} (hx : xa[k]? = some x) : 0 ≤ x.1 ∧ x.1 < n := by
  unfold rin at h
  have := List.any_eq_false.1 h x (List.mem_of_getElem? hx)
  simp at this; omega
theorem getI_in {xb : List Int} {i : Int} (h : 0 ≤ i) (h2 : i < (xb.length : Nat)) : getI xb i = some (xb.getD i.toNat 0) := by
  unfold getI; rw [if_pos h]
  have : i.toNat < xb.length := by omega
  simp [this]
theorem rowSubst_eq (xa : List St) (xb : List Int) (hn : xa.length ≤ 1073741824) : fn_row_Subst xa xb = some (if rin xb.length xa then ([], 7) else (xa.map (sbs xb), 0)) := by
  unfold fn_row_Subst
  rw [within_eq xa _ hn, Option.bind_some, rowClone_eq xa hn]
  cases h : rin xb.length xa with
  | true => simp
  | false =>
    simp only [Bool.not_false, Bool.not_true, cond_false, Option.bind_some, Bool.false_eq_true, if_false]
    have hl := loop_nat (body := fun ((l616, i621) : ((List (Int × Bool)) × Int)) => (cond (decide (i621 < (((xa.length : Nat) : Int)))) ((getI l616 i621).bind fun x679 => (getI xb x679.1).bind fun x703 => (getI l616 i621).bind fun x712 => some (.inl ((l616.set i621.toNat (x703, x712.2), IntKind.wrap .i64 (i621 + 1))))) (some (.inr (l616))) : Option (((List (Int × Bool)) × Int) ⊕ (List (Int × Bool)))))
      (fun k : Nat => ((xa.take k).map (sbs xb) ++ xa.drop k, (k : Int))) xa.length (b := xa.map (sbs xb)) ?_ ?_
    · simp at hl; simp [hl]
    · intro k hk
      have hg : getI ((xa.take k).map (sbs xb) ++ xa.drop k) (k : Int) = some xa[k] := by
        rw [getN (by simp; omega)]
        rw [List.getElem_append_right (by simp; omega)]
        simp [List.getElem_drop, Nat.min_eq_left (Nat.le_of_lt hk)]
      have hr := rin_false h (k := k) (x := xa[k]) (by simp [hk])
      dsimp only
      rw [hg]
      simp only [Option.bind_some, getI_in hr.1 hr.2, Int.ofNat_lt.2 hk, decide_true, cond_true, w64s hk (by omega : xa.length ≤ 9223372036854775807), Int.toNat_natCast]
      congr 3
      rw [List.take_succ_eq_append_getElem hk, List.drop_eq_getElem_cons hk, List.set_append_right _ _ (by simp; omega)]
      rw [List.length_map, List.length_take, Nat.min_eq_left (Nat.le_of_lt hk), Nat.sub_self, List.set_cons_zero, List.map_append, List.append_assoc]
      rfl
    · simp
theorem refSubst_eq (xa : List St) (xb : List Int) (hn : xa.length ≤ 1073741824) : fn_ref15_Subst xa xb = some (if rin xb.length xa then ([], 7) else (xa.map (sbs xb), 0)) := by
  unfold fn_ref15_Subst
  have hl := loop_find (body := fun ((l746, i751) : ((List (Int × Bool)) × Int)) => (cond (decide (i751 < (((xa.length : Nat) : Int)))) ((getI xa i751).bind fun x825 => cond ((decide (x825.1 < 0)) || (decide ((((xb.length : Nat) : Int)) ≤ x825.1))) (some (.inr ((.inr (([], 7)))))) ((getI xb x825.1).bind fun x860 => (getI xa i751).bind fun x869 => (app l746 (([(x860, x869.2)] : List (Int × Bool)))).bind fun z881 => some (.inl ((z881, IntKind.wrap .i64 (i751 + 1)))))) (some (.inr (.inl l746))) : Option (((List (Int × Bool)) × Int) ⊕ ((List (Int × Bool)) ⊕ ((List (Int × Bool)) × Int)))))
    (fun k => ∃ x, xa[k]? = some x ∧ (x.1 < 0 ∨ (xb.length : Int) ≤ x.1)) (fun k : Nat => ((xa.take k).map (sbs xb), (k : Int))) xa.length (fun _ => .inr ([], 7)) (.inl (xa.map (sbs xb))) ?_ ?_ ?_
  · simp only [List.take_zero, List.map_nil] at hl
    rcases hl with ⟨k, h1, ⟨x, h2, h2'⟩, _, h3⟩ | ⟨h1, h3⟩
    · have : rin xb.length xa = true := List.any_eq_true.2 ⟨x, List.mem_of_getElem? h2, by simpa using h2'⟩
      rw [this]; erw [h3]; rfl
    · have : rin xb.length xa = false := by
        cases hh : rin xb.length xa with
        | false => rfl
        | true =>
          obtain ⟨x, h4, h5⟩ := List.any_eq_true.1 hh
          obtain ⟨k, h6, rfl⟩ := List.getElem_of_mem h4
          exact absurd ⟨xa[k], by simp [h6], by simpa using h5⟩ (h1 k h6)
      rw [this]; erw [h3]; rfl
  · intro k hk hp
    have hx : ¬ (xa[k].1 < 0 ∨ (xb.length : Int) ≤ xa[k].1) := fun h => hp ⟨_, by simp [hk], h⟩
    have h1 : ((decide (xa[k].1 < 0)) || (decide (((xb.length : Nat) : Int) ≤ xa[k].1))) = false := by simp; omega
    have ha := app_eq (a := (xa.take k).map (sbs xb)) (b := [sbs xb xa[k]]) (by simp; omega)
    have h5 : getI xb xa[k].1 = some (xb.getD xa[k].1.toNat 0) := getI_in (by omega) (by omega)
    dsimp only
    simp only [Option.bind_some, getN hk, h1, cond_false, h5, Int.ofNat_lt.2 hk, decide_true, cond_true, w64s hk (by omega : xa.length ≤ 9223372036854775807)]
    rw [show app ((xa.take k).map (sbs xb)) [(xb.getD xa[k].1.toNat 0, xa[k].2)] = _ from ha, List.take_succ_eq_append_getElem hk, List.map_append]
    rfl
  · rintro k hk ⟨x, h1, h2⟩
    have hx : xa[k] = x := by rw [List.getElem?_eq_getElem hk] at h1; exact Option.some.inj h1
    have h1 : ((decide (xa[k].1 < 0)) || (decide (((xb.length : Nat) : Int) ≤ xa[k].1))) = true := by rw [hx]; simpa using h2
    dsimp only
    simp only [Option.bind_some, getN hk, h1, cond_true, Int.ofNat_lt.2 hk, decide_true]
  · simp
theorem RowTurns_true (xa : (List (Int × Bool))) (xb : (List Int)) (xc : Int) (xd : Bool) (k0 : Tp.Ok (.one (.sl (.cons (.int .i64) (.one .bool)))) xa) (k1 : Tp.Ok (.sl (.int .i64)) xb) (k2 : Tp.Ok (.int .i64) xc) (k3 : Tp.Ok .bool xd) : fn_law15_RowTurns xa xb xc xd = some true := by
  unfold fn_law15_RowTurns
  rw [Few_eq, Option.bind_some, awake15]
  by_cases h : xa.length ≤ 30
  · rw [rowSubst_eq _ _ (by omega), refSubst_eq _ _ (by omega), rowDeref_eq _ (by omega), refDeref_eq, rowRef_eq _ _ _ (by omega), refRef_eq _ _ _ (by omega)]
    simp only [Option.bind_some]
    have hd : (drf xa).1.length ≤ 30 := by
      cases xa with
      | nil => decide
      | cons x t => simp at h; cases hx : x.2 <;> simp [drf, hx]; omega
    have hA : (if rin xb.length xa then (([], 7) : List St × Int) else (xa.map (sbs xb), 0)).1.length ≤ 30 := by split <;> simp; omega
    generalize (if rin xb.length xa then (([], 7) : List St × Int) else (xa.map (sbs xb), 0)) = A at hA ⊢
    generalize drf xa = D at hd ⊢
    obtain ⟨A1, A2⟩ := A
    obtain ⟨D1, D2, D3⟩ := D
    dsimp only at hA hd ⊢
    rw [refSame_eq _ _ (by omega), refSame_eq _ _ (by simp; omega), refSame_eq _ _ (by omega)]
    simp [sam]
  · have : decide (((xa.length : Nat) : Int) ≤ 30) = false := by simp; omega
    simp [this]
def rgs (xa : List St) : List Int := Lib.compact ((xa.map (·.1)).mergeSort fun x y => decide (x ≤ y))
theorem rgs_sorted (xa : List St) : (rgs xa).Pairwise (· < ·) ∧ ∀ a, a ∈ rgs xa ↔ a ∈ xa.map (·.1) := by
  have hs : ((xa.map (·.1)).mergeSort fun x y => decide (x ≤ y)).Pairwise (· ≤ ·) := by
    have := List.pairwise_mergeSort (le := fun x y : Int => decide (x ≤ y)) (fun a b c h1 h2 => by simp at *; omega) (fun a b => by simp; omega) (xa.map (·.1))
    exact this.imp (by simp)
  have h := compact_sorted hs
  exact ⟨h.1, fun a => (h.2 a).trans List.mem_mergeSort⟩
theorem rgs_len (xa : List St) : (rgs xa).length ≤ xa.length := by
  have := Lib.compact_length_le ((xa.map (·.1)).mergeSort fun x y => decide (x ≤ y))
  simpa [rgs] using this
theorem rowRegions_eq (xa : List St) (hn : xa.length ≤ 1000000000) : fn_row_Regions xa = some (rgs xa) := by
  unfold fn_row_Regions
  rw [loop_map xa (fun x => x.1) [] (by simp; omega) (fun c i => rfl)]
  have h : (xa.map fun x : St => x.1).length ≤ 1073741824 := by simp; omega
  rw [List.nil_append, Option.bind_some]
  unfold srt
  rw [if_pos h]; rfl
def lastLt (l : List Int) (x : St) : Prop := l = [] ∨ ∃ y, l[l.length - 1]? = some y ∧ y < x.1
theorem inner15 (xa : List St) (l : List Int) (hn : xa.length ≤ 1000000000) (hl : l.length ≤ 1000000000) :
    ∃ r, loop (fun ((l4310, i4315, i4316) : ((List Int) × Int × Int)) => (cond (decide (i4316 < (((xa.length : Nat) : Int)))) ((getI xa i4316).bind fun x4406 => (cond (decide ((((l4310.length : Nat) : Int)) = 0)) (some (true)) ((getI l4310 (IntKind.wrap .i64 ((((l4310.length : Nat) : Int)) - 1))).bind fun x4426 => some (decide (x4426 < x4406.1)))).bind fun t4423 => (cond (t4423) ((cond (decide (i4315 < 0)) (some (true)) ((getI xa i4315).bind fun x4472 => some (decide (x4406.1 < x4472.1)))).bind fun t4469 => some (t4469)) (some (false))).bind fun t4456 => cond (t4456) (some (.inl ((l4310, i4316, IntKind.wrap .i64 (i4316 + 1))))) (some (.inl ((l4310, i4315, IntKind.wrap .i64 (i4316 + 1)))))) (some (.inr (((l4310, i4315))))) : Option (((List Int) × Int × Int) ⊕ ((List Int) × Int)))) ((l, (-1), 0)) = some r ∧
      (r.1 = l ∧ ((r.2 = -1 ∧ ∀ x ∈ xa, ¬ lastLt l x) ∨ ∃ m : Nat, ∃ h : m < xa.length, r.2 = (m : Int) ∧ lastLt l xa[m] ∧ ∀ x ∈ xa, lastLt l x → xa[m].1 ≤ x.1)) := by
  refine loop_inv (fun s => s.1 = l ∧ ∃ j : Nat, s.2.2 = (j : Int) ∧ j ≤ xa.length ∧ ((s.2.1 = -1 ∧ ∀ x ∈ xa.take j, ¬ lastLt l x) ∨ ∃ m : Nat, ∃ h : m < xa.length, s.2.1 = (m : Int) ∧ lastLt l xa[m] ∧ ∀ x ∈ xa.take j, lastLt l x → xa[m].1 ≤ x.1)) (fun s => xa.length - s.2.2.toNat) ?_ ⟨rfl, 0, rfl, by omega, .inl ⟨rfl, by simp⟩⟩
  rintro ⟨l', b, i⟩ ⟨h1, j, h2, hj, h3⟩
  dsimp only at h1 h2 h3
  subst h1; subst h2
  by_cases hk : j < xa.length
  · left
    have hq : (cond (decide (((l'.length : Nat) : Int) = 0)) (some true) ((getI l' (IntKind.wrap .i64 (((l'.length : Nat) : Int) - 1))).bind fun y => some (decide (y < xa[j].1)))) = some (open Classical in decide (lastLt l' xa[j])) := by
      by_cases h0 : l'.length = 0
      · have : l' = [] := List.length_eq_zero_iff.1 h0
        subst this; simp [lastLt]
      · have e : IntKind.wrap .i64 (((l'.length : Nat) : Int) - 1) = ((l'.length - 1 : Nat) : Int) := by rw [w64 (by omega) (by omega)]; omega
        have hne : l' ≠ [] := fun h => h0 (by rw [h]; rfl)
        have hlt : l'.length - 1 < l'.length := by omega
        have hd : decide (((l'.length : Nat) : Int) = 0) = false := by simp; omega
        rw [hd, cond_false, e, getN hlt]
        simp [lastLt, hne, hlt]
    dsimp only
    rw [getN hk]
    simp only [Option.bind_some, hq, Int.ofNat_lt.2 hk, decide_true, cond_true, w64s hk (by omega : xa.length ≤ 9223372036854775807)]
    have htk : xa.take (j + 1) = xa.take j ++ [xa[j]] := List.take_succ_eq_append_getElem hk
    by_cases hL : lastLt l' xa[j]
    · rcases h3 with ⟨rfl, h4⟩ | ⟨m, hm, rfl, h5, h6⟩
      · refine ⟨(l', (j : Int), ((j + 1 : Nat) : Int)), by simp [hL], ⟨rfl, j + 1, rfl, hk, .inr ⟨j, hk, rfl, hL, fun x hx hq' => ?_⟩⟩, by dsimp only; omega⟩
        rw [htk, List.mem_append] at hx
        rcases hx with hx | hx
        · exact absurd hq' (h4 x hx)
        · simp at hx; subst hx; exact Int.le_refl _
      · have e2 : decide ((m : Int) < 0) = false := by simp
        by_cases hlt : xa[j].1 < xa[m].1
        · refine ⟨(l', (j : Int), ((j + 1 : Nat) : Int)), by simp [hL, e2, getN hm, hlt], ⟨rfl, j + 1, rfl, hk, .inr ⟨j, hk, rfl, hL, fun x hx hq' => ?_⟩⟩, by dsimp only; omega⟩
          rw [htk, List.mem_append] at hx
          rcases hx with hx | hx
          · have := h6 x hx hq'; omega
          · simp at hx; subst hx; exact Int.le_refl _
        · refine ⟨(l', (m : Int), ((j + 1 : Nat) : Int)), by simp [hL, e2, getN hm, hlt], ⟨rfl, j + 1, rfl, hk, .inr ⟨m, hm, rfl, h5, fun x hx hq' => ?_⟩⟩, by dsimp only; omega⟩
          rw [htk, List.mem_append] at hx
          rcases hx with hx | hx
          · exact h6 x hx hq'
          · simp at hx; subst hx; omega
    · refine ⟨(l', b, ((j + 1 : Nat) : Int)), by simp [hL], ⟨rfl, j + 1, rfl, hk, ?_⟩, by dsimp only; omega⟩
      rcases h3 with ⟨rfl, h4⟩ | ⟨m, hm, rfl, h5, h6⟩
      · refine .inl ⟨rfl, fun x hx => ?_⟩
        rw [htk, List.mem_append] at hx
        rcases hx with hx | hx
        · exact h4 x hx
        · simp at hx; subst hx; exact hL
      · refine .inr ⟨m, hm, rfl, h5, fun x hx hq' => ?_⟩
        rw [htk, List.mem_append] at hx
        rcases hx with hx | hx
        · exact h6 x hx hq'
        · simp at hx; subst hx; exact absurd hq' hL
  · right
    have : j = xa.length := by omega
    subst this
    dsimp only
    refine ⟨(l', b), by simp, rfl, ?_⟩
    rw [List.take_length] at h3
    exact h3
theorem bind_of {α β : Type} {m : Option α} {f : α → Option β} {y : β} {Q : α → Prop} (h : ∃ r, m = some r ∧ Q r) (k : ∀ r, Q r → f r = some y) : m.bind f = some y := by
  obtain ⟨r, rfl, h2⟩ := h; exact k r h2
theorem lt_of_strict {S : List Int} (hS : S.Pairwise (· < ·)) {i j : Nat} (hi : i < S.length) (hj : j < S.length) (h : i < j) : S[i] < S[j] := List.pairwise_iff_getElem.1 hS i j hi hj h
theorem lastLt_take {S : List Int} {k : Nat} (hk : k ≤ S.length) (x : St) : lastLt (S.take k) x ↔ k = 0 ∨ ∃ h : k - 1 < S.length, 0 < k ∧ S[k - 1] < x.1 := by
  unfold lastLt
  have e : (S.take k).length = k := by simp; omega
  rw [e]
  by_cases h0 : k = 0
  · subst h0; simp
  · have hlt : k - 1 < S.length := by omega
    have hne : S.take k ≠ [] := fun h => by rw [h] at e; simp at e; omega
    have e2 : (S.take k)[k - 1]? = some S[k - 1] := by rw [List.getElem?_take_of_lt (by omega), List.getElem?_eq_getElem hlt]
    rw [e2]
    simp [h0, hne, hlt]; omega
theorem refRegions_eq (xa : List St) (hn : xa.length ≤ 1000000000) : fn_ref15_Regions xa = some (rgs xa) := by
  obtain ⟨hS, hM⟩ := rgs_sorted xa
  have hL := rgs_len xa
  unfold fn_ref15_Regions
  generalize rgs xa = S at hS hM hL
  refine bind_of (Q := fun r : (List Int) ⊕ (List Int) => r = .inl S ∨ r = .inr S) (loop_inv (fun l => ∃ k, k ≤ S.length ∧ l = S.take k) (fun l => xa.length - l.length) ?_ ⟨0, by omega, by simp⟩) ?_
  rotate_left
  · rintro r (rfl | rfl) <;> rfl
  rintro l ⟨k, hk, rfl⟩
  · have hlen : (S.take k).length = k := by simp; omega
    by_cases hc : k < xa.length
    · have e0 : decide (((S.take k).length : Int) < (xa.length : Int)) = true := by rw [hlen]; simp; omega
      obtain ⟨⟨l', b⟩, g1, g2, g3⟩ := inner15 xa (S.take k) hn (by omega)
      dsimp only at g2 g3
      subst g2
      dsimp only
      rw [e0, cond_true]
      erw [g1]
      rcases g3 with ⟨rfl, h4⟩ | ⟨m, hm, rfl, h5, h6⟩
      · right
        refine ⟨.inr (S.take k), by simp, .inr ?_⟩
        have : ¬ k < S.length := fun hk2 => by
          obtain ⟨x, hx, hx2⟩ := List.mem_map.1 ((hM S[k]).1 (List.getElem_mem hk2))
          refine h4 x hx ((lastLt_take hk x).2 ?_)
          by_cases h0 : k = 0
          · exact .inl h0
          · exact .inr ⟨by omega, by omega, by rw [hx2]; exact lt_of_strict hS _ _ (by omega)⟩
        rw [List.take_of_length_le (by omega)]
      · left
        have hmem : xa[m].1 ∈ S := (hM _).2 (List.mem_map.2 ⟨_, List.getElem_mem hm, rfl⟩)
        obtain ⟨j, hj, hje⟩ := List.getElem_of_mem hmem
        have hkj : k ≤ j := by
          rcases (lastLt_take hk _).1 h5 with h0 | ⟨hlt, h0, h7⟩
          · omega
          · rcases Nat.lt_or_ge j k with q | q
            · exfalso
              rcases Nat.lt_or_ge j (k - 1) with q2 | q2
              · have := lt_of_strict hS hj hlt q2; omega
              · have : j = k - 1 := by omega
                subst this; omega
            · exact q
        have hkS : k < S.length := by omega
        have hjk : j = k := by
          rcases Nat.lt_or_ge k j with q | q
          · exfalso
            have h8 := lt_of_strict hS hkS hj q
            obtain ⟨x, hx, hx2⟩ := List.mem_map.1 ((hM S[k]).1 (List.getElem_mem hkS))
            have := h6 x hx ((lastLt_take hk x).2 (by
              by_cases h0 : k = 0
              · exact .inl h0
              · exact .inr ⟨by omega, by omega, by rw [hx2]; exact lt_of_strict hS _ _ (by omega)⟩))
            omega
          · omega
        subst hjk
        have hd : decide ((m : Int) < 0) = false := by simp
        have ha := app_eq (a := S.take j) (b := [xa[m].1]) (by simp; omega)
        refine ⟨S.take j ++ [xa[m].1], ?_, ⟨j + 1, by omega, by rw [List.take_succ_eq_append_getElem hkS, hje]⟩, by simp; omega⟩
        simp only [Option.bind_some, hd, cond_false, getN hm]
        rw [ha]; rfl
    · right
      have hkS : k = S.length := by omega
      have e0 : decide (((S.take k).length : Int) < (xa.length : Int)) = false := by rw [hlen]; simp; omega
      refine ⟨.inl S, ?_, .inl rfl⟩
      rw [e0, cond_false, hkS, List.take_length]
theorem same01_eq (xa xb : List Int) (hn : xa.length ≤ 9223372036854775807) : fn_ref01_Same xa xb = some (decide (xa = xb)) := by
  unfold fn_ref01_Same
  by_cases hl : xa.length = xb.length
  · have e1 : (!decide (((xa.length : Nat) : Int) = ((xb.length : Nat) : Int))) = false := by simp [hl]
    rw [e1, cond_false]
    rw [loop_two xa xb (fun x y => !decide (x = y)) _ _ hl hn, zip_any_ne hl]
    by_cases hh : xa = xb <;> simp [hh]
  · have e1 : (!decide (((xa.length : Nat) : Int) = ((xb.length : Nat) : Int))) = true := by simp; omega
    have : ¬ xa = xb := fun h => hl (h ▸ rfl)
    rw [e1, cond_true]; simp [this]
theorem RowTells_true (xa : (List (Int × Bool))) (xb : (List (Int × Bool))) (xc : Int) (xd : Int) (k0 : Tp.Ok (.one (.sl (.cons (.int .i64) (.one .bool)))) xa) (k1 : Tp.Ok (.one (.sl (.cons (.int .i64) (.one .bool)))) xb) (k2 : Tp.Ok (.int .i64) xc) (k3 : Tp.Ok (.int .i64) xd) : fn_law15_RowTells xa xb xc xd = some true := by
  unfold fn_law15_RowTells
  rw [Few_eq, Few_eq, awake15]
  by_cases h : xa.length ≤ 30
  · by_cases h2 : xb.length ≤ 30
    · have hr := rgs_len xa
      rw [rowCheck_eq _ _ (by omega), refCheck_eq, rowShape_eq _ _ (by omega), refShape_eq _ _ (by omega), rowSame_eq _ _ (by omega), refSame_eq _ _ (by omega), rowClone_eq _ (by omega), rowRegions_eq _ (by omega), refRegions_eq _ (by omega), rowHas_eq _ _ (by omega), refHas_eq _ _ (by omega)]
      simp only [Option.bind_some]
      rw [refSame_eq _ _ (by omega), same01_eq _ _ (by omega)]
      simp [sam, show (xa.length : Int) ≤ 30 by omega, show (xb.length : Int) ≤ 30 by omega]
    · have : decide (((xb.length : Nat) : Int) ≤ 30) = false := by simp; omega
      simp [this]
  · have : decide (((xa.length : Nat) : Int) ≤ 30) = false := by simp; omega
    simp [this]
theorem map_or_false (xa : List St) : (xa.map fun x => (x.1, x.2 || false)) = xa := by simp
def upto40 : List Int := (List.range 40).map fun k : Nat => (k : Int)
def down40 : List Int := (List.range 40).map fun k : Nat => (39 - k : Int)
theorem loop40 : loop (fun ((l954, l959, i964) : ((List Int) × (List Int) × Int)) => (cond (decide (i964 < 40)) ((app l954 ([i964] : List Int)).bind fun z1003 => (app l959 (([IntKind.wrap .i64 (39 - i964)] : List Int))).bind fun z1012 => some (.inl ((z1003, z1012, IntKind.wrap .i64 (i964 + 1))))) (some (.inr (((l954, l959))))) : Option (((List Int) × (List Int) × Int) ⊕ ((List Int) × (List Int))))) ((([] : List Int), ([] : List Int), 0)) = some (upto40, down40) := by
  have h := loop_nat (body := fun ((l954, l959, i964) : ((List Int) × (List Int) × Int)) => (cond (decide (i964 < 40)) ((app l954 ([i964] : List Int)).bind fun z1003 => (app l959 (([IntKind.wrap .i64 (39 - i964)] : List Int))).bind fun z1012 => some (.inl ((z1003, z1012, IntKind.wrap .i64 (i964 + 1))))) (some (.inr (((l954, l959))))) : Option (((List Int) × (List Int) × Int) ⊕ ((List Int) × (List Int)))))
    (fun k : Nat => ((List.range k).map (fun k : Nat => (k : Int)), (List.range k).map (fun k : Nat => (39 - k : Int)), (k : Int))) 40 (b := (upto40, down40)) ?_ ?_
  · exact h
  · intro k hk
    have e1 : decide ((k : Int) < 40) = true := by simp; omega
    have e2 : IntKind.wrap .i64 (39 - (k : Int)) = 39 - k := w64 (by omega) (by omega)
    have a1 := app_eq (a := (List.range k).map (fun k : Nat => (k : Int))) (b := [(k : Int)]) (by simp; omega)
    have a2 := app_eq (a := (List.range k).map (fun k : Nat => (39 - k : Int))) (b := [(39 - k : Int)]) (by simp; omega)
    dsimp only
    rw [e1, cond_true, a1, Option.bind_some, e2, a2, Option.bind_some, w64s hk (by omega), List.range_succ, List.map_append, List.map_append]
    rfl
  · rfl
theorem getD_up {i : Int} (h : 0 ≤ i) (h2 : i < 40) : upto40.getD i.toNat 0 = i := by
  obtain ⟨n, rfl⟩ := Int.eq_ofNat_of_zero_le h
  have : n < 40 := by omega
  simp [upto40, this]
theorem getD_down {i : Int} (h : 0 ≤ i) (h2 : i < 40) : down40.getD i.toNat 0 = 39 - i := by
  obtain ⟨n, rfl⟩ := Int.eq_ofNat_of_zero_le h
  have : n < 40 := by omega
  simp [down40, this]
theorem rin_mem {n : Int} {xa : List St} (h : rin n xa = false) {x : St} (hx : x ∈ xa) : 0 ≤ x.1 ∧ x.1 < n := by
  obtain ⟨k, hk, rfl⟩ := List.getElem_of_mem hx
  exact rin_false h (k := k) (by simp [hk])
theorem subst_up {xa : List St} (h : rin 40 xa = false) : xa.map (sbs upto40) = xa := by
  conv => rhs; rw [← List.map_id xa]
  exact List.map_congr_left fun x hx => Prod.ext (getD_up (rin_mem h hx).1 (rin_mem h hx).2) rfl
theorem subst_down {xa : List St} (h : rin 40 xa = false) : (xa.map (sbs down40)).map (sbs down40) = xa := by
  conv => rhs; rw [← List.map_id xa]
  rw [List.map_map]
  refine List.map_congr_left fun x hx => Prod.ext ?_ rfl
  have hm := rin_mem h hx
  show down40.getD (down40.getD x.1.toNat 0).toNat 0 = x.1
  rw [getD_down hm.1 hm.2, getD_down (by omega) (by omega)]; omega
theorem rin_down {xa : List St} (h : rin 40 xa = false) : rin 40 (xa.map (sbs down40)) = false := by
  unfold rin
  rw [List.any_eq_false]
  intro y hy
  obtain ⟨x, hx, rfl⟩ := List.mem_map.1 hy
  have hm := rin_mem h hx
  show ¬ ((decide (down40.getD x.1.toNat 0 < 0) || decide (40 ≤ down40.getD x.1.toNat 0)) = true)
  rw [getD_down hm.1 hm.2]; simp; omega
theorem rowCheck_big (xa : List St) (n : Int) (h : 16 < xa.length) : fn_row_Check xa n = some 6 := by
  unfold fn_row_Check
  have : decide ((16 : Int) < ((xa.length : Nat) : Int)) = true := by simp; omega
  rw [this]; rfl
theorem set_ne (x : St) (t : List St) : sam ((x.1, !x.2) :: t) (x :: t) = false ∧ shp ((x.1, !x.2) :: t) (x :: t) = false := by
  obtain ⟨a, b⟩ := x
  cases b <;> simp [sam, shp]
theorem RowBack_true (xa : (List (Int × Bool))) (xb : Int) (xc : Bool) (k0 : Tp.Ok (.one (.sl (.cons (.int .i64) (.one .bool)))) xa) (k1 : Tp.Ok (.int .i64) xb) (k2 : Tp.Ok .bool xc) : fn_law15_RowBack xa xb xc = some true := by
  unfold fn_law15_RowBack
  have hmax : xa.length ≤ maxLen := k0.1
  rw [refCheck_eq, Option.bind_some, awake15]
  by_cases h : 16 < xa.length
  · rw [if_pos h, rowCheck_big _ _ h]; rfl
  · rw [if_neg h]
    cases hr : rin 40 xa with
    | true => rw [rowCheck_eq _ _ (by omega)]; simp [h, hr]
    | false =>
      have e40 : ((upto40.length : Nat) : Int) = 40 := by decide
      have d40 : ((down40.length : Nat) : Int) = 40 := by decide
      have hd : drf ((xb, false) :: xa.map fun x => (x.1, x.2 || xc)) = (xa.map fun x => (x.1, x.2 || xc), xb, true) := by simp [drf]
      rw [rowRef_eq _ _ _ (by omega), loop40]
      simp only [Option.bind_some]
      rw [rowDeref_eq _ (by simp; omega), hd]
      simp only [Option.bind_some]
      rw [refSame_eq _ _ (by simp; omega), rowSubst_eq _ _ (by omega), rowSubst_eq _ _ (by omega), e40, d40, hr]
      simp only [Option.bind_some, Bool.false_eq_true, if_false]
      rw [rowSubst_eq _ _ (by simp; omega), d40, rin_down hr, subst_up hr]
      simp only [Option.bind_some, Bool.false_eq_true, if_false]
      rw [subst_down hr, refSame_eq _ _ (by omega), rowShape_eq _ _ (by simp; omega), rowClone_eq _ (by omega)]
      have e1 : sam xa xa = true := by simp [sam]
      have e2 : shp (xa.map (sbs down40)) xa = true := by simp [shp, sbs]
      have e3 : (if (false = true) then (6 : Int) else 0) = 0 := rfl
      have e4 : xc = false → sam (xa.map fun x => (x.1, x.2 || xc)) xa = true := by rintro rfl; simp [sam]
      simp only [Option.bind_some, e1, e2]
      cases xa with
      | nil =>
        have s1 : fn_row_Same [] [] = some true := by rw [rowSame_eq _ _ (by simp)]; simp [sam]
        cases xc <;> simp [sam, s1]
      | cons x t =>
        have h0 : getI (x :: t) 0 = some x := rfl
        have h1 : decide ((0 : Int) < (((x :: t).length : Nat) : Int)) = true := by simp
        have h2 : (x :: t).set (0 : Int).toNat (x.1, !x.2) = (x.1, !x.2) :: t := rfl
        have s2 : fn_row_Same ((x.1, !x.2) :: t) (x :: t) = some false := by rw [rowSame_eq _ _ (by simp at h ⊢; omega), (set_ne x t).1]
        have s3 : fn_row_Same (x :: t) (x :: t) = some true := by rw [rowSame_eq _ _ (by omega), e1]
        have s4 : fn_row_Shape ((x.1, !x.2) :: t) (x :: t) = some false := by rw [rowShape_eq _ _ (by simp at h ⊢; omega), (set_ne x t).2]
        simp only [h0, h1, h2, Option.bind_some, cond_true, s2, s4]
        cases xc with
        | true => simp [s3]
        | false => rw [e4 rfl]; simp [s3]
end Go.Proofs.Ytpoihacaljbaeaa
