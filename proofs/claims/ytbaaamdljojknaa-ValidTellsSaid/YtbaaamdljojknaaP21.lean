/- Layer 21's law of what is told. -/
import Derived.Test.YtbaaamdljojknaaC21
namespace Go.Proofs.Ytbaaamdljojknaa
open Go.RowKit
set_option linter.unusedVariables false
set_option linter.unnecessarySimpa false
set_option linter.unusedSimpArgs false
theorem tE_ret {a : Ar} {t : List St} {L : List (List St)} (h : a.2.2.1 = t :: L) (hs : shp t a.2.2.2.1 = true) (ht : t.length ≤ 20) : tE a (3, 0, 0, [], [], []) = 0 := by
  unfold tE
  have : ∃ l, fn_ref19_Needs (3, 0, 0, [], [], []) a = some (l, 0) := by
    unfold fn_ref19_Needs
    rw [show fn_ref19_Form ((3 : Int), 0, 0, [], [], []) = _ from refTForm_eq (3, 0, 0, [], [], [])]
    simp only [refWithin_eq _ _ (show ([] : List Int).length ≤ 1000 by simp)]
    have h0 : getI a.2.2.1 0 = some t := by rw [h]; rfl
    have h1 : ¬ ((a.2.2.1.length : Nat) : Int) = 0 := by rw [h]; simp; omega
    have h2 : ¬ a.2.2.1 = [] := by rw [h]; simp
    rw [h0]
    simp only [Option.bind_some]
    rw [refFlow_eq t a.2.2.2.1 7 0 (by omega) (by decide) (by decide), hs]
    refine ⟨rel 7 0 t a.2.2.2.1, ?_⟩
    have e1 : tForm (3, 0, 0, [], [], []) = 0 := by decide
    have e2 : ∀ n, bad n [] = false := fun n => rfl
    simp [e1, e2, h1, h2]
  obtain ⟨l, hl⟩ := this
  rw [hl]; rfl
theorem smAll (u n : Int) (L : List (List St)) (X : List Blk) (hL : L.length ≤ 10) (hl : ∀ t ∈ L, t.length ≤ 20) (hX : X.length ≤ 8) (ht : ∀ x ∈ X, x.2.2.2.2.1.length ≤ 20 ∧ x.2.2.2.2.2.1.length ≤ 20 ∧ x.2.2.2.2.2.2.length ≤ 20) (hm : stm X ≤ 24) : Sm (u, n, [], L, [], [], X) :=
  ⟨by simp, hL, hl, by simp, by simp, by simp, hX, ht, hm⟩
abbrev b21 : Bo := (1, 1, [], [[]], [], [], [([], (3, 0, 0, [], [], []))])
theorem vck21 : (vck b21).1 = 0 := by
  have hr : tE (arOf b21) (3, 0, 0, [], [], []) = 0 := tE_ret (t := []) (L := []) rfl rfl (by simp)
  have hc : vCode b21 = (0, 0, 0, 0) := by
    have h2 : blkE b21 ([], (3, 0, 0, [], [], [])) = none := by
      unfold blkE
      simp only [hr]
      rfl
    unfold vCode
    simp only [List.findIdx?_cons, h2]
    rfl
  unfold vck
  rw [hc]; rfl
theorem awake21 : fn_law21_awake = some true := by
  unfold fn_law21_awake fn_valid_OK
  have s1 : Sm (0, 0, [], [], [], [], []) := smAll 0 0 [] [] (by simp) (by simp) (by simp) (by simp) (by simp [stm])
  have s2 : Sm (1, 1, [], [], [], [], []) := smAll 1 1 [] [] (by simp) (by simp) (by simp) (by simp) (by simp [stm])
  have s3 : Sm b21 := smAll 1 1 [[]] _ (by simp) (by simp) (by simp) (by simp) (by simp [stm])
  have v1 : vck (0, 0, [], [], [], [], []) = (7, 0, 0, 0) := rfl
  have v2 : vck (1, 1, [], [], [], [], []) = (14, 2, 0, 0) := rfl
  have v3 := vck21
  rw [show fn_valid_Check_az (0, 0, [], [], [], [], []) = _ from validCheck_eq s1, show fn_valid_Check_az (1, 1, [], [], [], [], []) = _ from validCheck_eq s2, v1, v2]
  simp only [Option.bind_some]
  rw [show fn_valid_Check_az (1, 1, [], [[]], [], [], [([], (3, 0, 0, [], [], []))]) = _ from validCheck_eq s3]
  simp only [Option.bind_some]
  rw [v3]
  rfl
theorem error_eq (e : Int) : ∃ s, fn_api_Errno_Error e = some s ∧ s.length ≤ 1000 := by
  unfold fn_api_Errno_Error
  by_cases h : e < 0 ∨ 16 ≤ e
  · have : (decide (e < 0) || decide (16 ≤ e)) = true := by simpa using h
    rw [this]; exact ⟨_, rfl, by simp⟩
  · have : (decide (e < 0) || decide (16 ≤ e)) = false := by simpa using h
    obtain ⟨k, rfl⟩ := Int.eq_ofNat_of_zero_le (show 0 ≤ e by omega)
    rw [this, cond_false]
    have hk : k < 16 := by omega
    rw [getN (by simpa using hk)]
    refine ⟨_, rfl, ?_⟩
    have : ∀ s ∈ [([111, 107] : List UInt8), ([110, 105, 108] : List UInt8), ([97, 114, 103, 117, 109, 101, 110, 116] : List UInt8), ([102, 111, 114, 109] : List UInt8), ([115, 104, 111, 114, 116] : List UInt8), ([111, 118, 101, 114] : List UInt8), ([109, 97, 110, 121] : List UInt8), ([114, 97, 110, 103, 101] : List UInt8), ([115, 104, 97, 112, 101] : List UInt8), ([115, 116, 97, 116, 101] : List UInt8), ([102, 117, 108, 108] : List UInt8), ([110, 111, 110, 101] : List UInt8), ([104, 101, 97, 100] : List UInt8), ([109, 111, 114, 101] : List UInt8), ([109, 105, 115, 115, 105, 110, 103] : List UInt8), ([119, 114, 111, 110, 103] : List UInt8)], s.length ≤ 1000 := by simp
    exact this _ (List.getElem_mem _)
theorem text_eq (f : Flt) {s : List UInt8} (hs : fn_api_Errno_Error f.1 = some s) (hl : s.length ≤ 1000) : ∃ t, fn_valid_Text f = some t ∧ fn_ref21_Text f s = some t := by
  obtain ⟨e, p, i, k⟩ := f
  unfold fn_valid_Text fn_ref21_Text
  dsimp only at *
  rw [hs]
  have ec : (((decide (e = 0)) || (decide (p < 0))) || (decide (8 ≤ p))) = (((decide (e = 0)) || (decide (p < 0))) || (decide (7 < p))) := by
    have : decide (8 ≤ p) = decide (7 < p) := by
      by_cases h1 : 8 ≤ p
      · rw [decide_eq_true h1, decide_eq_true (show 7 < p by omega)]
      · rw [decide_eq_false h1, decide_eq_false (show ¬ 7 < p by omega)]
    rw [this]
  rw [ec]
  cases hc : (((decide (e = 0)) || (decide (p < 0))) || (decide (7 < p))) with
  | true => exact ⟨s, rfl, rfl⟩
  | false =>
    simp at hc
    obtain ⟨k, rfl⟩ := Int.eq_ofNat_of_zero_le (show 0 ≤ p by omega)
    have hk : k < 8 := by omega
    simp only [cond_false]
    rw [getN (by simpa using hk)]
    have : ∀ t ∈ [([104, 101, 97, 100] : List UInt8), ([98, 111, 117, 110, 100] : List UInt8), ([108, 111, 99, 97, 108] : List UInt8), ([114, 101, 116, 117, 114, 110] : List UInt8), ([115, 105, 103, 110, 97, 116, 117, 114, 101] : List UInt8), ([98, 108, 111, 99, 107] : List UInt8), ([115, 116, 97, 116, 101, 109, 101, 110, 116] : List UInt8), ([116, 101, 114, 109, 105, 110, 97, 116, 111, 114] : List UInt8)], t.length ≤ 1000 := by simp
    have hx := this _ (List.getElem_mem (by simpa using hk))
    simp only [Option.bind_some]
    rw [app_eq (by simp only [List.length_cons, List.length_nil]; omega)]
    simp only [Option.bind_some]
    rw [app_eq (by simp only [List.length_append, List.length_cons, List.length_nil]; omega)]
    exact ⟨_, rfl, rfl⟩
theorem size_eq {b : Bo} (h : Sm b) : fn_law21_size b = some ((b.2.2.1.length + b.2.2.2.1.length + b.2.2.2.2.2.1.length + b.2.2.2.2.2.2.length + stm b.2.2.2.2.2.2 : Nat) : Int) := by
  have hb0 := h.bounds
  have hb1 := h.locals
  have hb2 := h.sigs
  have hb3 := h.blocks
  have hb4 := h.many
  unfold fn_law21_size
  rw [w64 (x := ((b.2.2.1.length : Nat) : Int) + ((b.2.2.2.1.length : Nat) : Int)) (by omega) (by omega), w64 (x := ((b.2.2.1.length : Nat) : Int) + ((b.2.2.2.1.length : Nat) : Int) + ((b.2.2.2.2.2.1.length : Nat) : Int)) (by omega) (by omega), w64 (by omega) (by omega)]
  have hl := loop_nat (body := fn_law21_size_l1 b) (fun k : Nat => (((b.2.2.1.length + b.2.2.2.1.length + b.2.2.2.2.2.1.length + b.2.2.2.2.2.2.length + stm (b.2.2.2.2.2.2.take k) : Nat) : Int), (k : Int))) b.2.2.2.2.2.2.length (b := (((b.2.2.1.length + b.2.2.2.1.length + b.2.2.2.2.2.1.length + b.2.2.2.2.2.2.length + stm b.2.2.2.2.2.2 : Nat) : Int))) ?_ ?_
  · have e : ((b.2.2.1.length : Nat) : Int) + ((b.2.2.2.1.length : Nat) : Int) + ((b.2.2.2.2.2.1.length : Nat) : Int) + ((b.2.2.2.2.2.2.length : Nat) : Int) = ((b.2.2.1.length + b.2.2.2.1.length + b.2.2.2.2.2.1.length + b.2.2.2.2.2.2.length + stm (b.2.2.2.2.2.2.take 0) : Nat) : Int) := by simp [stm]
    rw [e, show ((0 : Int)) = ((0 : Nat) : Int) from rfl, hl]; rfl
  · intro k hk
    have a1 := stm_snoc hk
    have a2 := sum_take (fun x : Blk => x.1.length) b.2.2.2.2.2.2 (k + 1)
    have a3 : stm (b.2.2.2.2.2.2.take (k + 1)) ≤ stm b.2.2.2.2.2.2 := a2
    unfold fn_law21_size_l1
    simp only [dlt hk, cond_true, getN hk, Option.bind_some, w64s hk (by omega : b.2.2.2.2.2.2.length ≤ 9223372036854775807)]
    rw [w64 (by omega) (by omega), a1]
    simp only [Option.some.injEq, Sum.inl.injEq, Prod.mk.injEq, and_true]
    omega
  · unfold fn_law21_size_l1
    simp
theorem ValidTells_true (xa : Bo) (xb : Flt) (k0 : Tp.Ok tyBody xa) (k1 : Tp.Ok (.cons (.int .i64) (.cons (.int .i64) (.cons (.int .i64) (.one (.int .i64))))) xb) (q0 : Tp.Fit tyBody xa) (q1 : Tp.Fit (.cons (.int .i64) (.cons (.int .i64) (.cons (.int .i64) (.one (.int .i64))))) xb) : fn_law21_ValidTells xa xb = some true := by
  unfold fn_law21_ValidTells
  rw [awake21]
  rcases small20 xa (fit_body q0) with h | ⟨h, hs⟩
  · rw [show fn_ref20_Small (xa.1, xa.2.1, xa.2.2.1, xa.2.2.2.1, xa.2.2.2.2.1, xa.2.2.2.2.2.1, xa.2.2.2.2.2.2) = some false from h]; rfl
  · have hb0 := hs.bounds
    have hb1 := hs.locals
    have hb2 := hs.sigs
    have hb3 := hs.blocks
    have hb4 := hs.many
    obtain ⟨c, c1, c2, hc⟩ := cCheck_eq hs 0 0 0 0 0 0 (q := 0) (by omega)
    have hc' : fn_valid_Check_ap0_iiiiiii (xa.1, xa.2.1, xa.2.2.1, xa.2.2.2.1, xa.2.2.2.2.1, xa.2.2.2.2.2.1, xa.2.2.2.2.2.2) 0 0 0 0 0 0 0 = some (wc (vck xa) ((0 + c : Nat) : Int)) := hc
    have hr : fn_ref21_Check (xa.1, xa.2.1, xa.2.2.1, xa.2.2.2.1, xa.2.2.2.2.1, xa.2.2.2.2.2.1, xa.2.2.2.2.2.2) = some (vck xa) := refVCheck_eq hs
    have hv : fn_valid_OK (xa.1, xa.2.1, xa.2.2.1, xa.2.2.2.1, xa.2.2.2.2.1, xa.2.2.2.2.2.1, xa.2.2.2.2.2.2) = some (decide ((vck xa).1 = 0)) := by
      unfold fn_valid_OK
      rw [show fn_valid_Check_az (xa.1, xa.2.1, xa.2.2.1, xa.2.2.2.1, xa.2.2.2.2.1, xa.2.2.2.2.2.1, xa.2.2.2.2.2.2) = some (vck xa) from validCheck_eq hs]; rfl
    have hz : fn_law21_size (xa.1, xa.2.1, xa.2.2.1, xa.2.2.2.1, xa.2.2.2.2.1, xa.2.2.2.2.2.1, xa.2.2.2.2.2.2) = _ := size_eq hs
    obtain ⟨s1, g1, l1⟩ := error_eq xb.1
    obtain ⟨t1, x1, y1⟩ := text_eq xb g1 l1
    obtain ⟨s2, g2, l2⟩ := error_eq (vck xa).1
    obtain ⟨t2, x2, y2⟩ := text_eq (vck xa) g2 l2
    have of : fn_tick_Counter_Of_p0c1_iiiiiii 0 ((0 + c : Nat) : Int) 0 0 0 0 0 = some ((0 + c : Nat) : Int) := by
      unfold fn_tick_Counter_Of_p0c1_iiiiiii fn_tick_isPart; rfl
    rw [show fn_ref20_Small (xa.1, xa.2.1, xa.2.2.1, xa.2.2.2.1, xa.2.2.2.2.1, xa.2.2.2.2.2.1, xa.2.2.2.2.2.2) = some true from h, hc', hr, hv, hz]
    generalize vck xa = f at *
    obtain ⟨f1, f2, f3, f4⟩ := f
    simp only [Option.bind_some, wc, Bool.not_true, cond_false, decide_true, of, beq_self_eq_true]
    dsimp only at x2 y2 g2
    rw [decide_eq_false (by omega), cond_false, w64 (x := 4 * _) (by omega) (by omega), w64 (by omega) (by omega), decide_eq_false (by omega), cond_false, show fn_valid_Text (xb.1, xb.2.1, xb.2.2.1, xb.2.2.2) = some t1 from x1, Option.bind_some, g1, Option.bind_some, show fn_ref21_Text (xb.1, xb.2.1, xb.2.2.1, xb.2.2.2) s1 = some t1 from y1, Option.bind_some, x2, g2]
    simp only [Option.bind_some, decide_true, cond_true, y2]
end Go.Proofs.Ytbaaamdljojknaa
