/- What layer 15's functions compute (types), in plain words. -/
import Derived.Test.YtbennpandomacaaGreatF7
import Derived.Test.YtbennpandomacaaGreatPv
namespace Go.Proofs.YtbennpandomacaaGreat
open Go.RowKit
set_option linter.unusedVariables false
set_option linter.unnecessarySimpa false
set_option linter.unusedSimpArgs false
abbrev St := Int × Bool
def shp (xa xb : List St) : Bool := decide (xa.map (·.2) = xb.map (·.2))
theorem shp_of_loop (xa xb : List St) {body : Int → Option (Int ⊕ (Unit ⊕ Bool))} (hl : xa.length = xb.length) (hb : ∀ (k : Nat) (h : k < xa.length), body (k : Int) = some (if xa[k].2 = (xb[k]'(by omega)).2 then .inl ((k + 1 : Nat) : Int) else .inr (.inr false))) (he : body (xa.length : Int) = some (.inr (.inl ()))) :
    loop body 0 = some (if shp xa xb then .inl () else .inr false) := by
  have := loop_alike (body := body) (xa.map (·.2)) (xb.map (·.2)) (.inr false) (.inl ()) (by simp [hl]) (fun k h => by simpa using hb k (by simpa using h)) (by simpa using he)
  rw [this]; unfold shp
  by_cases h : xa.map (·.2) = xb.map (·.2) <;> simp [h]
theorem shp_len {xa xb : List St} (h : ¬ xa.length = xb.length) : shp xa xb = false := by
  unfold shp; simp only [decide_eq_false_iff_not]
  intro e; exact h (by simpa using congrArg List.length e)
theorem shp_len' {xa xb : List St} (h : shp xa xb = true) : xa.length = xb.length := by
  unfold shp at h; simpa using congrArg List.length (of_decide_eq_true h)
theorem shp_comm (xa xb : List St) : shp xa xb = shp xb xa := by unfold shp; simp only [eq_comm]
theorem Few_eq (xa : List St) (n : Int) : fn_ref15_Few xa n = some (decide ((xa.length : Int) ≤ n)) := rfl
theorem refShape_eq (xa xb : List St) (hn : xa.length ≤ 1073741824) : fn_ref15_Shape xa xb = some (shp xa xb) := by
  unfold fn_ref15_Shape
  by_cases hl : xa.length = xb.length
  · rw [dlen hl, cond_false, shp_of_loop xa xb hl ?_ ?_]
    · cases shp xa xb <;> rfl
    · intro k h; unfold fn_ref15_Shape_l1
      have h2 : k < xb.length := by omega
      by_cases q : xa[k].2 = xb[k].2 <;> simp [getN h, getN h2, h, q, w64s h (by omega), beq_dec]
    · simp [fn_ref15_Shape_l1]
  · rw [dlen' hl, cond_true, shp_len hl]
theorem rowShape_eq (xa xb : List St) (hn : xa.length ≤ 1073741824) : fn_row_Shape xa xb = some (shp xa xb) := by
  unfold fn_row_Shape fn_slices_EqualFunc_api_Slot_api_Slot_api_Slot_api_Slot_kk_row_Shape_1
  by_cases hl : xa.length = xb.length
  · rw [dlen hl, cond_false, shp_of_loop xa xb hl ?_ ?_]
    · cases shp xa xb <;> rfl
    · intro k h; unfold fn_slices_EqualFunc_api_Slot_api_Slot_api_Slot_api_Slot_kk_row_Shape_1_l1 fn_row_Shape_1
      have h2 : k < xb.length := by omega
      by_cases q : xa[k].2 = xb[k].2 <;> simp [getN h, getN h2, h, q, w64s h (by omega), beq_dec]
    · simp [fn_slices_EqualFunc_api_Slot_api_Slot_api_Slot_api_Slot_kk_row_Shape_1_l1]
  · rw [dlen' hl, cond_true, shp_len hl]; rfl
theorem rowRef_eq (xa : List St) (n : Int) (m : Bool) (hn : xa.length ≤ 1000000000) : fn_row_Ref xa n m = some ((n, false) :: xa.map fun x => (x.1, x.2 || m)) := by
  unfold fn_row_Ref
  have := loop_map xa (fun x : St => (x.1, x.2 || m)) [(n, false)] (by simp; omega) (body := fn_row_Ref_l1 xa m) (fun c i => rfl)
  rw [this]; rfl
theorem refRef_eq (xa : List St) (n : Int) (m : Bool) (hn : xa.length ≤ 1000000000) : fn_ref15_Ref xa n m = some ((n, false) :: xa.map fun x => (x.1, x.2 || m)) := by
  unfold fn_ref15_Ref
  have := loop_map xa (fun x : St => (x.1, x.2 || m)) [(n, false)] (by simp; omega) (body := fn_ref15_Ref_l1 xa m) (fun c i => by
    unfold fn_ref15_Ref_l1
    cases hg : getI xa i with
    | none => simp [hg]
    | some x => cases h2 : x.2 <;> simp [hg, h2])
  rw [this]; rfl
theorem find_cases {α : Type} (xa : List α) (t : α → Bool) : (∃ k, xa.findIdx? t = some k ∧ xa.any t = true) ∨ (xa.findIdx? t = none ∧ xa.any t = false) := by
  cases h : xa.findIdx? t with
  | none =>
    refine .inr ⟨rfl, ?_⟩
    rw [List.any_eq_false]; intro x hx; have := List.findIdx?_eq_none_iff.1 h x hx; simp [this]
  | some k =>
    obtain ⟨hk, h1, _⟩ := List.findIdx?_eq_some_iff_getElem.1 h
    exact .inl ⟨k, rfl, List.any_eq_true.2 ⟨_, List.getElem_mem hk, h1⟩⟩
def rin (n : Int) (xa : List St) : Bool := xa.any fun x => decide (x.1 < 0) || decide (n ≤ x.1)
def rck (n : Int) (xa : List St) : Int := if 16 < xa.length then 6 else if rin n xa then 7 else 0
def sbs (xb : List Int) (x : St) : St := (xb.getD x.1.toNat 0, x.2)
theorem rin_false {n : Int} {xa : List St} (h : rin n xa = false) {k : Nat} {x : St} (hx : xa[k]? = some x) : 0 ≤ x.1 ∧ x.1 < n := by
  unfold rin at h
  have := List.any_eq_false.1 h x (List.mem_of_getElem? hx)
  simp at this; omega
theorem getI_in {xb : List Int} {i : Int} (h : 0 ≤ i) (h2 : i < (xb.length : Nat)) : getI xb i = some (xb.getD i.toNat 0) := by
  unfold getI; rw [if_pos h]
  have : i.toNat < xb.length := by omega
  simp [this]
theorem rowWithin_eq (xa : List St) (n : Int) (hn : xa.length ≤ 1073741824) : fn_row_within xa n = some (!rin n xa) := by
  unfold fn_row_within fn_slices_ContainsFunc_api_Slot_api_Slot_k_row_within_1_p0_i fn_slices_IndexFunc_api_Slot_api_Slot_k_row_within_1_p0_i
  rw [loop_search (body := fn_slices_IndexFunc_api_Slot_api_Slot_k_row_within_1_p0_i_l1 xa n) xa (fun x => decide (x.1 < 0) || decide (n ≤ x.1)) (fun k => .inr (k : Int)) (.inl ()) ?_ ?_]
  · rcases find_cases xa (fun x => decide (x.1 < 0) || decide (n ≤ x.1)) with ⟨k, h1, h2⟩ | ⟨h1, h2⟩
    · rw [h1]; unfold rin; simp [h2]
    · rw [h1]; unfold rin; simp [h2]
  · intro k hk
    unfold fn_slices_IndexFunc_api_Slot_api_Slot_k_row_within_1_p0_i_l1 fn_row_within_1_ap0_i
    simp only [dlt hk, cond_true, getN hk, Option.bind_some, w64s hk (by omega : xa.length ≤ 9223372036854775807)]
    cases (decide (xa[k].1 < 0) || decide (n ≤ xa[k].1)) <;> rfl
  · simp [fn_slices_IndexFunc_api_Slot_api_Slot_k_row_within_1_p0_i_l1]
theorem rowCheck_eq (xa : List St) (n : Int) (hn : xa.length ≤ 1073741824) : fn_row_Check xa n = some (rck n xa) := by
  unfold fn_row_Check rck
  rw [rowWithin_eq xa n hn]
  by_cases h : 16 < xa.length
  · rw [decide_eq_true (by omega), if_pos h]; rfl
  · rw [decide_eq_false (by omega), if_neg h, cond_false]
    cases rin n xa <;> rfl
theorem refCheck_eq (xa : List St) (n : Int) : fn_ref15_Check xa n = some (rck n xa) := by
  unfold fn_ref15_Check rck
  by_cases h : 16 < xa.length
  · rw [decide_eq_true (by omega), if_pos h]; rfl
  · rw [decide_eq_false (by omega), if_neg h, cond_false]
    rw [loop_some (body := fn_ref15_Check_l1 xa n) xa (fun x => decide (x.1 < 0) || decide (n ≤ x.1)) (.inr 7) (.inl ()) ?_ ?_]
    · unfold rin; cases (xa.any fun x => decide (x.1 < 0) || decide (n ≤ x.1)) <;> rfl
    · intro k hk
      unfold fn_ref15_Check_l1
      by_cases q : xa[k].1 < 0 <;> by_cases q2 : n ≤ xa[k].1 <;> simp [hk, getN hk, w64s hk (by omega : xa.length ≤ 9223372036854775807), q, q2]
    · simp [fn_ref15_Check_l1]
theorem rowClone_eq (xa : List St) (hn : xa.length ≤ 1073741824) : fn_row_Clone xa = some xa := by
  unfold fn_row_Clone fn_slices_Clone_api_Slot_api_Slot
  rw [nilb_eq]
  · rw [app_eq (by simpa using hn)]; simp
  · rintro rfl; rw [app_eq (by simp)]; rfl
theorem rowSubst_eq (xa : List St) (xb : List Int) (hn : xa.length ≤ 1073741824) : fn_row_Subst xa xb = some (if rin xb.length xa then ([], 7) else (xa.map (sbs xb), 0)) := by
  unfold fn_row_Subst
  rw [rowWithin_eq xa _ hn, Option.bind_some, rowClone_eq xa hn]
  cases h : rin xb.length xa with
  | true => simp
  | false =>
    simp only [Bool.not_false, Bool.not_true, cond_false, Option.bind_some, Bool.false_eq_true, if_false]
    have hl := loop_nat (body := fn_row_Subst_l1 xb xa) (fun k : Nat => ((xa.take k).map (sbs xb) ++ xa.drop k, (k : Int))) xa.length (b := xa.map (sbs xb)) ?_ ?_
    · simp only [List.take_zero, List.map_nil, List.nil_append, List.drop_zero] at hl
      have hl' : loop (fn_row_Subst_l1 xb xa) (xa, 0) = some (xa.map (sbs xb)) := hl
      rw [hl']; rfl
    · intro k hk
      have hg : getI ((xa.take k).map (sbs xb) ++ xa.drop k) (k : Int) = some xa[k] := by
        rw [getN (by simp; omega)]
        rw [List.getElem_append_right (by simp; omega)]
        simp [List.getElem_drop, Nat.min_eq_left (Nat.le_of_lt hk)]
      have hr := rin_false h (k := k) (x := xa[k]) (by simp [hk])
      unfold fn_row_Subst_l1
      dsimp only
      rw [hg]
      simp only [Option.bind_some, getI_in hr.1 hr.2, Int.ofNat_lt.2 hk, decide_true, cond_true, w64s hk (by omega : xa.length ≤ 9223372036854775807), Int.toNat_natCast]
      congr 3
      rw [List.take_succ_eq_append_getElem hk, List.drop_eq_getElem_cons hk, List.set_append_right _ _ (by simp; omega)]
      rw [List.length_map, List.length_take, Nat.min_eq_left (Nat.le_of_lt hk), Nat.sub_self, List.set_cons_zero, List.map_append, List.append_assoc]
      rfl
    · simp [fn_row_Subst_l1]
theorem refSubst_eq (xa : List St) (xb : List Int) (hn : xa.length ≤ 1073741824) : fn_ref15_Subst xa xb = some (if rin xb.length xa then ([], 7) else (xa.map (sbs xb), 0)) := by
  unfold fn_ref15_Subst
  have hl := loop_find (body := fn_ref15_Subst_l1 xa xb)
    (fun k => ∃ x, xa[k]? = some x ∧ (x.1 < 0 ∨ (xb.length : Int) ≤ x.1)) (fun k : Nat => ((xa.take k).map (sbs xb), (k : Int))) xa.length (fun _ => .inr ([], 7)) (.inl (xa.map (sbs xb))) ?_ ?_ ?_
  · simp only [List.take_zero, List.map_nil] at hl
    rcases hl with ⟨k, h1, ⟨x, h2, h2'⟩, _, h3⟩ | ⟨h1, h3⟩
    · have : rin xb.length xa = true := List.any_eq_true.2 ⟨x, List.mem_of_getElem? h2, by simpa using h2'⟩
      rw [this]; erw [h3]; rfl
    · have : rin xb.length xa = false := by
        cases hh : rin xb.length xa with
        | false => rfl
        | true =>
          obtain ⟨x, h4, h5⟩ := List.any_eq_true.1 hh
          obtain ⟨k, h6, rfl⟩ := List.getElem_of_mem h4
          exact absurd ⟨xa[k], by simp [h6], by simpa using h5⟩ (h1 k h6)
      rw [this]; erw [h3]; rfl
  · intro k hk hp
    have hx : ¬ (xa[k].1 < 0 ∨ (xb.length : Int) ≤ xa[k].1) := fun h => hp ⟨_, by simp [hk], h⟩
    have h1 : ((decide (xa[k].1 < 0)) || (decide (((xb.length : Nat) : Int) ≤ xa[k].1))) = false := by simp; omega
    have ha := app_eq (a := (xa.take k).map (sbs xb)) (b := [sbs xb xa[k]]) (by simp; omega)
    have h5 : getI xb xa[k].1 = some (xb.getD xa[k].1.toNat 0) := getI_in (by omega) (by omega)
    unfold fn_ref15_Subst_l1
    dsimp only
    simp only [Option.bind_some, getN hk, h1, cond_false, h5, Int.ofNat_lt.2 hk, decide_true, cond_true, w64s hk (by omega : xa.length ≤ 9223372036854775807)]
    rw [show app ((xa.take k).map (sbs xb)) [(xb.getD xa[k].1.toNat 0, xa[k].2)] = _ from ha, List.take_succ_eq_append_getElem hk, List.map_append]
    rfl
  · rintro k hk ⟨x, h1, h2⟩
    have hx : xa[k] = x := by rw [List.getElem?_eq_getElem hk] at h1; exact Option.some.inj h1
    have h1 : ((decide (xa[k].1 < 0)) || (decide (((xb.length : Nat) : Int) ≤ xa[k].1))) = true := by rw [hx]; simpa using h2
    unfold fn_ref15_Subst_l1
    dsimp only
    simp only [Option.bind_some, getN hk, h1, cond_true, Int.ofNat_lt.2 hk, decide_true]
  · simp [fn_ref15_Subst_l1]
end Go.Proofs.YtbennpandomacaaGreat
