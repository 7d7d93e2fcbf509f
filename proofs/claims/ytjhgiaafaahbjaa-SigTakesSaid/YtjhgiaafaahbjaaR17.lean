/- Layer 17's laws of bytes. -/
import Derived.Test.YtjhgiaafaahbjaaV17
import Derived.Test.YtjhgiaafaahbjaaQ17
namespace Go.Proofs.Ytjhgiaafaahbjaa
open Go.RowKit Lb
set_option linter.unusedVariables false
set_option linter.unnecessarySimpa false
set_option linter.unusedSimpArgs false
theorem awake17 : fn_law17_awake = some true := by
  unfold fn_law17_awake
  have h1 : ptype [2, 6, 9] = .inr ([(3, false), (4, true)], 3) := by
    have := Cod.type.to [(3, false), (4, true)] [] (by refine ⟨by simp, fun x hx => ?_⟩; simp at hx; rcases hx with rfl | rfl <;> simp [okSl])
    have e : wtype [(3, false), (4, true)] = [2, 6, 9] := by decide
    rw [e] at this
    exact this
  rw [sigTakeType_eq _ (by simp), h1]
  dsimp only [outT, Option.bind_some]
  rw [sigPutType_eq _ (by simp) (by intro x hx; simp at hx; rcases hx with rfl | rfl <;> simp [okSl]), Option.bind_some, show wtype [(3, false), (4, true)] = [2, 6, 9] from by decide, show fn_sig_Check (17, [], [], []) = _ from sigCheck_eq (17, [], [], []) (by simp) (by simp)]
  rfl
theorem okB_len {most : Int} {s : List UInt8} {l : List (Int × Int)} {m : Nat} (h : pbounds most s = .inr (l, m)) : l.length ≤ s.length := by
  have := plist_len bound_pos h
  have := (Sane.bounds most).len _ _ _ h
  omega
theorem SigTakes_true (xa : (List UInt8)) (xb : Int) (k0 : Tp.Ok .str xa) (k1 : Tp.Ok (.int .i64) xb) : fn_law17_SigTakes xa xb = some true := by
  unfold fn_law17_SigTakes
  rw [awake17]
  by_cases hl : 300 < xa.length
  · rw [decide_eq_true (by omega)]; rfl
  · rw [decide_eq_false (by omega), cond_false, sigTakeType_eq _ (by omega), refTakeType_eq _ (by omega), sigTakeBounds_eq _ _ (by omega), refTakeBounds_eq _ _ (by omega), sigTake_eq _ (by omega), refSigTake_eq _ (by omega)]
    have t1 : (outT (ptype xa)).1.length ≤ 1000 := by
      cases h : ptype xa with
      | inl e => simp [outT]
      | inr x => obtain ⟨l, m⟩ := x; have := (Cod.type.back _ _ _ h).1.1; simp only [outT]; omega
    have t2 : (outB (pbounds xb xa)).1.length ≤ 1000 := by
      cases h : pbounds xb xa with
      | inl e => simp [outB]
      | inr x => obtain ⟨l, m⟩ := x; have := okB_len h; simp only [outB]; omega
    have t3 : ∀ r, psig xa = r → (outS r).2.1.length ≤ 1000 ∧ (outS r).2.2.1.length ≤ 1000 ∧ (∀ t ∈ (outS r).2.2.1, t.length ≤ 1000) ∧ (outS r).2.2.2.1.length ≤ 1000 := by
      intro r h
      cases r with
      | inl e => simp [outS]
      | inr x =>
        obtain ⟨g, m⟩ := x
        obtain ⟨_, h2, h3, h4⟩ := (Cod.sig.back _ _ _ h).1
        have a2 := h2.1
        have a3 := h3.1
        have a4 := h4.1
        simp only [outS]
        exact ⟨by omega, by omega, fun t ht => by have := (h3.2 t ht).1; omega, by omega⟩
    obtain ⟨t4, t5, t6, t7⟩ := t3 _ rfl
    generalize outT (ptype xa) = A at *
    generalize outB (pbounds xb xa) = B at *
    generalize outS (psig xa) = C at *
    obtain ⟨a1, a2, a3⟩ := A
    obtain ⟨b1, b2, b3⟩ := B
    obtain ⟨c1, c2, c3, c4, c5, c6⟩ := C
    dsimp only at *
    simp only [Option.bind_some]
    rw [same15_eq _ _ (by omega), refBounds_eq _ _ (by omega), refSigSame_eq _ _ (by dsimp only; omega) (by dsimp only; omega) (fun t ht => by have := t6 t ht; omega) (by dsimp only; omega)]
    simp
theorem fewl {xa : List (List St)} {body : Int → Option (Int ⊕ (Unit ⊕ Bool))} (hn : xa.length ≤ 1000) (hb : ∀ i, body i = cond (decide (i < (((xa.length : Nat) : Int)))) ((getI xa i).bind fun x => (fn_ref15_Few x 20).bind fun t => cond (!t) (some (.inr ((.inr (false))))) (some (.inl (IntKind.wrap .i64 (i + 1))))) (some (.inr ((.inl ()))))) :
    loop body 0 = some (if xa.any (fun t => !decide (t.length ≤ 20)) then (Sum.inr false : Unit ⊕ Bool) else .inl ()) := by
  refine loop_some (β := Unit ⊕ Bool) xa (fun t => !decide (t.length ≤ 20)) (.inr false) (.inl ()) ?_ ?_
  · intro k hk
    rw [hb]
    simp only [dlt hk, cond_true, getN hk, Option.bind_some, w64s hk (by omega : xa.length ≤ 9223372036854775807), Few_eq]
    by_cases q : xa[k].length ≤ 20
    · have : decide (((xa[k].length : Nat) : Int) ≤ 20) = true := by simp; omega
      simp [this, q]
    · have : decide (((xa[k].length : Nat) : Int) ≤ 20) = false := by simp; omega
      simp [this, q]
  · rw [hb]; simp
theorem few_mem {xa : List (List St)} (h : xa.any (fun t => !decide (t.length ≤ 20)) = false) : ∀ t ∈ xa, t.length ≤ 20 := by
  intro t ht
  have := List.any_eq_false.1 h t ht
  simpa using this
theorem few17 (s : Sg) : fn_ref17_Few s = some false ∨ (fn_ref17_Few s = some true ∧ s.2.1.length ≤ 20 ∧ s.2.2.1.length ≤ 20 ∧ s.2.2.2.length ≤ 20 ∧ ∀ t ∈ s.2.2.1, t.length ≤ 20) := by
  unfold fn_ref17_Few
  by_cases h : 20 < s.2.1.length ∨ 20 < s.2.2.1.length
  · have : ((decide (20 < (((s.2.1.length : Nat) : Int)))) || (decide (20 < (((s.2.2.1.length : Nat) : Int))))) = true := by simp; omega
    rw [this]; exact .inl rfl
  · have : ((decide (20 < (((s.2.1.length : Nat) : Int)))) || (decide (20 < (((s.2.2.1.length : Nat) : Int))))) = false := by simp; omega
    rw [this, cond_false, Few_eq]
    by_cases q : s.2.2.2.length ≤ 20
    · have e : decide (((s.2.2.2.length : Nat) : Int) ≤ 20) = true := by simp; omega
      simp only [Option.bind_some, e, Bool.not_true, cond_false]
      rw [fewl (body := fn_ref17_Few_l1 s) (xa := s.2.2.1) (by omega) (fun i => rfl)]
      cases hf : s.2.2.1.any (fun t => !decide (t.length ≤ 20)) with
      | true => exact .inl rfl
      | false => exact .inr ⟨rfl, by omega, by omega, q, few_mem hf⟩
    · have e : decide (((s.2.2.2.length : Nat) : Int) ≤ 20) = false := by simp; omega
      simp only [Option.bind_some, e]; exact .inl rfl
theorem okT_of {n : Int} {t : List St} (hn : n ≤ 16) (h1 : t.length ≤ 16) (h2 : rin n t = false) : okT t := by
  refine ⟨by omega, fun x hx => ?_⟩
  have := List.any_eq_false.1 h2 x hx
  simp at this
  exact ⟨by omega, by omega⟩
theorem okS_of {g : Sgt} (h : chk g = 0) : okS g := by
  obtain ⟨h0, h1, h2, h3, h4, h5, h6, h7⟩ := chk_zero h
  refine ⟨⟨h0, by omega⟩, ⟨by omega, fun b hb => ?_⟩, ⟨by omega, fun t ht => okT_of h1 (h5 t ht).1 (h5 t ht).2⟩, okT_of h1 h6 h7⟩
  have := h4 b hb
  unfold bad1 at this
  simp at this
  exact ⟨⟨by omega, by omega⟩, by omega, by omega⟩
theorem back17 (g : Sgt) (more : List UInt8) (h : chk g = 0) (hm : more.length ≤ 300) :
    (((fn_sig_Put (g.1, g.2.1, g.2.2.1, g.2.2.2)).bind fun s633 => (app s633 more).bind fun z637 => (fn_sig_Take z637).bind fun (i641, l642, l643, l644, i645, i646) => (fn_sig_PutType g.2.2.2).bind fun s665 => (app s665 more).bind fun z669 => (fn_sig_TakeType z669).bind fun (l673, i674, i675) => (fn_sig_PutBounds g.2.1).bind fun s686 => (app s686 more).bind fun z690 => (fn_sig_TakeBounds z690 16).bind fun (l694, i695, i696) => (fn_ref17_Put (g.1, g.2.1, g.2.2.1, g.2.2.2)).bind fun s706 => (cond (((decide (s633 = s706)) && (decide (i646 = 0))) && (decide (i645 = (((s633.length : Nat) : Int))))) ((fn_ref17_Same (i641, l642, l643, l644) (g.1, g.2.1, g.2.2.1, g.2.2.2)).bind fun t746 => some (t746)) (some (false))).bind fun t732 => (cond (t732 && (decide (i675 = 0))) ((fn_ref17_PutType g.2.2.2).bind fun s765 => some (decide (i674 = (((s765.length : Nat) : Int))))) (some (false))).bind fun t760 => (cond (t760) ((fn_ref15_Same l673 g.2.2.2).bind fun t787 => some (t787)) (some (false))).bind fun t779 => (cond (t779 && (decide (i696 = 0))) ((fn_ref17_PutBounds g.2.1).bind fun s806 => some (decide (i695 = (((s806.length : Nat) : Int))))) (some (false))).bind fun t801 => (cond (t801) ((fn_ref17_Bounds l694 g.2.1).bind fun t828 => some (t828)) (some (false))).bind fun t820 => (cond (t820) ((fn_law17_awake).bind fun t844 => some (t844)) (some (false))).bind fun t839 => some (t839)) : Option Bool) = some true := by
  have ho := okS_of h
  obtain ⟨o1, o2, o3, o4⟩ := id ho
  have a2 := o2.1
  have a3 := o3.1
  have a4 := o4.1
  have l1 := okS_len ho
  have l2 := wtype_len g.2.2.2
  have l3 := wbounds_len g.2.1
  have e1 : psig (wsig g ++ more) = _ := Cod.sig.to g more ho
  have e2 : ptype (wtype g.2.2.2 ++ more) = _ := Cod.type.to g.2.2.2 more o4
  have e3 : pbounds 16 (wbounds g.2.1 ++ more) = _ := (Cod.bounds (by decide)).to g.2.1 more o2
  rw [show fn_sig_Put (g.1, g.2.1, g.2.2.1, g.2.2.2) = _ from sigPut_eq g ho, Option.bind_some, app_eq (by omega), Option.bind_some, sigTake_eq _ (by simp; omega), e1, Option.bind_some]
  dsimp only [outS]
  rw [sigPutType_eq _ (by omega) o4.2, Option.bind_some, app_eq (by omega), Option.bind_some, sigTakeType_eq _ (by simp; omega), e2, Option.bind_some]
  dsimp only [outT]
  rw [sigPutBounds_eq _ (by omega), Option.bind_some, app_eq (by omega), Option.bind_some, sigTakeBounds_eq _ _ (by simp; omega), e3, Option.bind_some]
  dsimp only [outB]
  rw [show fn_ref17_Put (g.1, g.2.1, g.2.2.1, g.2.2.2) = _ from refSigPut_eq g ho, Option.bind_some, refSigSame_eq _ _ (by dsimp only; omega) (by dsimp only; omega) (fun t ht => by have := (o3.2 t ht).1; omega) (by dsimp only; omega), refPutType_eq _ (by omega) o4.2, refPutBounds_eq _ (by omega), same15_eq _ _ (by omega), refBounds_eq _ _ (by omega), awake17]
  simp
theorem SigBack_true (xa : (Int × (List (Int × Int)) × (List (List (Int × Bool))) × (List (Int × Bool)))) (xb : (List UInt8)) (k0 : Tp.Ok (.cons (.int .i64) (.cons (.sl (.cons (.int .i64) (.one (.int .i64)))) (.cons (.sl (.one (.sl (.cons (.int .i64) (.one .bool))))) (.one (.one (.sl (.cons (.int .i64) (.one .bool)))))))) xa) (k1 : Tp.Ok .str xb) : fn_law17_SigBack xa xb = some true := by
  unfold fn_law17_SigBack
  rcases few17 xa with h | ⟨h, f1, f2, f3, f4⟩
  · rw [show fn_ref17_Few (xa.1, xa.2.1, xa.2.2.1, xa.2.2.2) = some false from h, awake17]; rfl
  · rw [show fn_ref17_Few (xa.1, xa.2.1, xa.2.2.1, xa.2.2.2) = some true from h]
    simp only [Option.bind_some, Bool.not_true, Bool.false_or]
    by_cases hb : 300 < xb.length
    · rw [decide_eq_true (by omega), awake17]; rfl
    · rw [decide_eq_false (by omega), cond_false, sigTake_eq _ (by omega), Option.bind_some]
      have hck : fn_ref17_Check (xa.1, xa.2.1, xa.2.2.1, xa.2.2.2) = some (chk xa) := refSCheck_eq xa
      have hrest : ∀ X : Option Bool, (X = some true) → (cond (!decide (chk xa = 0)) ((fn_law17_awake).bind fun t => some t) X) = some true ∨ chk xa = 0 := by
        intro X hX
        by_cases q : chk xa = 0
        · exact .inr q
        · exact .inl (by rw [decide_eq_false q, awake17]; rfl)
      cases h1 : psig xb with
      | inl e =>
        have := Sane.sig.err _ _ h1
        dsimp only [outS]
        simp only [this, decide_false, cond_false, hck, Option.bind_some]
        by_cases q : chk xa = 0
        · simp only [q, decide_true, Bool.not_true, cond_false]
          exact back17 xa xb q (by omega)
        · simp [q, awake17]
      | inr x =>
        obtain ⟨g, m⟩ := x
        have e1 := Sane.sig.len _ _ _ h1
        obtain ⟨ho, ht⟩ := Cod.sig.back _ _ _ h1
        dsimp only [outS]
        simp only [decide_true, cond_true]
        rw [subL_eq (by omega) (by omega) (by omega), Option.bind_some, show fn_sig_Put (g.1, g.2.1, g.2.2.1, g.2.2.2) = _ from sigPut_eq g ho, Option.bind_some]
        have e2 : (xb.take (m : Int).toNat).drop (0 : Int).toNat = wsig g := by simpa using ht
        simp only [e2, decide_true, Bool.not_true, cond_false, hck, Option.bind_some]
        by_cases q : chk xa = 0
        · simp only [q, decide_true, Bool.not_true, cond_false]
          exact back17 xa xb q (by omega)
        · simp [q, awake17]
end Go.Proofs.Ytjhgiaafaahbjaa
