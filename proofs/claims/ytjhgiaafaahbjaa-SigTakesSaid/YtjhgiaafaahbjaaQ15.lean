/- What layer 15's functions compute (types), in plain words. -/
import Derived.Test.YtjhgiaafaahbjaaF4
import Derived.Test.YtjhgiaafaahbjaaPv
namespace Go.Proofs.Ytjhgiaafaahbjaa
open Go.RowKit
set_option linter.unusedVariables false
set_option linter.unnecessarySimpa false
set_option linter.unusedSimpArgs false
abbrev St := Int × Bool
def shp (xa xb : List St) : Bool := decide (xa.map (·.2) = xb.map (·.2))
theorem shp_of_loop (xa xb : List St) {body : Int → Option (Int ⊕ (Unit ⊕ Bool))} (hl : xa.length = xb.length) (hb : ∀ (k : Nat) (h : k < xa.length), body (k : Int) = some (if xa[k].2 = (xb[k]'(by omega)).2 then .inl ((k + 1 : Nat) : Int) else .inr (.inr false))) (he : body (xa.length : Int) = some (.inr (.inl ()))) :
    loop body 0 = some (if shp xa xb then .inl () else .inr false) := by
  have := loop_alike (body := body) (xa.map (·.2)) (xb.map (·.2)) (.inr false) (.inl ()) (by simp [hl]) (fun k h => by simpa using hb k (by simpa using h)) (by simpa using he)
  rw [this]; unfold shp
  by_cases h : xa.map (·.2) = xb.map (·.2) <;> simp [h]
theorem shp_len {xa xb : List St} (h : ¬ xa.length = xb.length) : shp xa xb = false := by
  unfold shp; simp only [decide_eq_false_iff_not]
  intro e; exact h (by simpa using congrArg List.length e)
theorem shp_len' {xa xb : List St} (h : shp xa xb = true) : xa.length = xb.length := by
  unfold shp at h; simpa using congrArg List.length (of_decide_eq_true h)
theorem shp_comm (xa xb : List St) : shp xa xb = shp xb xa := by unfold shp; simp only [eq_comm]
theorem Few_eq (xa : List St) (n : Int) : fn_ref15_Few xa n = some (decide ((xa.length : Int) ≤ n)) := rfl
theorem refShape_eq (xa xb : List St) (hn : xa.length ≤ 1073741824) : fn_ref15_Shape xa xb = some (shp xa xb) := by
  unfold fn_ref15_Shape
  by_cases hl : xa.length = xb.length
  · rw [dlen hl, cond_false, shp_of_loop xa xb hl ?_ ?_]
    · cases shp xa xb <;> rfl
    · intro k h; unfold fn_ref15_Shape_l1
      have h2 : k < xb.length := by omega
      by_cases q : xa[k].2 = xb[k].2 <;> simp [getN h, getN h2, h, q, w64s h (by omega), beq_dec]
    · simp [fn_ref15_Shape_l1]
  · rw [dlen' hl, cond_true, shp_len hl]
def rin (n : Int) (xa : List St) : Bool := xa.any fun x => decide (x.1 < 0) || decide (n ≤ x.1)
def rck (n : Int) (xa : List St) : Int := if 16 < xa.length then 6 else if rin n xa then 7 else 0
def sbs (xb : List Int) (x : St) : St := (xb.getD x.1.toNat 0, x.2)
theorem rin_false {n : Int} {xa : List St} (h : rin n xa = false) {k : Nat} {x : St} (hx : xa[k]? = some x) : 0 ≤ x.1 ∧ x.1 < n := by
  unfold rin at h
  have := List.any_eq_false.1 h x (List.mem_of_getElem? hx)
  simp at this; omega
theorem getI_in {xb : List Int} {i : Int} (h : 0 ≤ i) (h2 : i < (xb.length : Nat)) : getI xb i = some (xb.getD i.toNat 0) := by
  unfold getI; rw [if_pos h]
  have : i.toNat < xb.length := by omega
  simp [this]
theorem rowWithin_eq (xa : List St) (n : Int) (hn : xa.length ≤ 1073741824) : fn_row_within xa n = some (!rin n xa) := by
  unfold fn_row_within fn_slices_ContainsFunc_api_Slot_api_Slot_k_row_within_1_p0_i fn_slices_IndexFunc_api_Slot_api_Slot_k_row_within_1_p0_i
  have hl := loop_find (body := fn_slices_IndexFunc_api_Slot_api_Slot_k_row_within_1_p0_i_l1 xa) (fun k => ∃ h : k < xa.length, (decide (xa[k].1 < 0) || decide (n ≤ xa[k].1)) = true) (fun k : Nat => ((k : Int), n)) xa.length (fun k => .inr ((k : Int), n)) (.inl n) ?_ ?_ ?_
  · rcases hl with ⟨k, h1, ⟨h2, h3⟩, _, h4⟩ | ⟨h1, h2⟩
    · rw [show ((0 : Int), n) = (((0 : Nat) : Int), n) from rfl, h4]
      have : rin n xa = true := List.any_eq_true.2 ⟨_, List.getElem_mem h1, h3⟩
      simp [this]
    · rw [show ((0 : Int), n) = (((0 : Nat) : Int), n) from rfl, h2]
      have : rin n xa = false := by
        rw [rin, List.any_eq_false]
        intro x hx hc
        obtain ⟨k, hk, rfl⟩ := List.getElem_of_mem hx
        exact h1 k hk ⟨hk, hc⟩
      simp [this]
  · intro k hk hp
    have : (decide (xa[k].1 < 0) || decide (n ≤ xa[k].1)) = false := by
      cases q : (decide (xa[k].1 < 0) || decide (n ≤ xa[k].1)) with
      | false => rfl
      | true => exact absurd ⟨hk, q⟩ hp
    unfold fn_slices_IndexFunc_api_Slot_api_Slot_k_row_within_1_p0_i_l1 fn_row_within_1_ap0_i
    simp only [dlt hk, cond_true, getN hk, Option.bind_some, this, cond_false, w64s hk (by omega : xa.length ≤ 9223372036854775807)]
  · rintro k hk ⟨_, hp⟩
    unfold fn_slices_IndexFunc_api_Slot_api_Slot_k_row_within_1_p0_i_l1 fn_row_within_1_ap0_i
    simp only [dlt hk, cond_true, getN hk, Option.bind_some, hp]
  · simp [fn_slices_IndexFunc_api_Slot_api_Slot_k_row_within_1_p0_i_l1]
theorem rowCheck_eq (xa : List St) (n : Int) (hn : xa.length ≤ 1073741824) : fn_row_Check xa n = some (rck n xa) := by
  unfold fn_row_Check rck
  rw [rowWithin_eq xa n hn]
  by_cases h : 16 < xa.length
  · rw [decide_eq_true (by omega), if_pos h]; rfl
  · rw [decide_eq_false (by omega), if_neg h, cond_false]
    cases rin n xa <;> rfl
theorem refCheck_eq (xa : List St) (n : Int) : fn_ref15_Check xa n = some (rck n xa) := by
  unfold fn_ref15_Check rck
  by_cases h : 16 < xa.length
  · rw [decide_eq_true (by omega), if_pos h]; rfl
  · rw [decide_eq_false (by omega), if_neg h, cond_false]
    rw [loop_some (body := fn_ref15_Check_l1 xa n) xa (fun x => decide (x.1 < 0) || decide (n ≤ x.1)) (.inr 7) (.inl ()) ?_ ?_]
    · unfold rin; cases (xa.any fun x => decide (x.1 < 0) || decide (n ≤ x.1)) <;> rfl
    · intro k hk
      unfold fn_ref15_Check_l1
      by_cases q : xa[k].1 < 0 <;> by_cases q2 : n ≤ xa[k].1 <;> simp [hk, getN hk, w64s hk (by omega : xa.length ≤ 9223372036854775807), q, q2]
    · simp [fn_ref15_Check_l1]
end Go.Proofs.Ytjhgiaafaahbjaa
