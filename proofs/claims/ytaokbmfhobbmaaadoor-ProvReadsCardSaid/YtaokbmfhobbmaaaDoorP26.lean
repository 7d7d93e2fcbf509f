/- What layer 26's laws compute is true. -/
import Derived.Test.YtaokbmfhobbmaaaDoorR26
namespace Go.Proofs.YtaokbmfhobbmaaaDoor
open Go.RowKit Nu
set_option linter.unusedVariables false
set_option linter.unnecessarySimpa false
set_option linter.unusedSimpArgs false
set_option maxRecDepth 20000
theorem awake26 : fn_law26_awake = some true := by
  unfold fn_law26_awake
  have t1 : text 1 = [49] := by decide +kernel
  have t2 : text 2 = [50] := by decide +kernel
  have t3 : text 3 = [51] := by decide +kernel
  rw [provParse_eq _ (by decide)]
  have e : readP [49, 46, 50, 32, 102, 108, 111, 119, 32, 51, 32, 98, 97, 99, 107] = (1, 2, 1, 3, true, 0) := by decide +kernel
  rw [e]
  have e2 : ptext (1, 2, 1, 3, true) = [49, 46, 50, 32, 102, 108, 111, 119, 32, 51, 32, 98, 97, 99, 107] := by
    unfold ptext words
    simp only [t1, t2, t3]
    decide +kernel
  simp only [Option.bind_some]
  rw [provText_eq _ ⟨by decide, by decide, by decide⟩, e2]
  rfl
theorem pok {f : Pv} (h : Tp.Ok (.cons (.int .i64) (.cons (.int .i64) (.cons (.int .i64) (.cons (.int .i64) (.one .bool))))) f) : POk f := ⟨(ok64 h.1).2, (ok64 h.2.1).2, (ok64 h.2.2.2.1).2⟩
theorem ProvTells_true (xa : Int) (xb : (List UInt8)) (xc : (Int × Int × (Int × Int × Int × Int × Bool))) (k0 : Tp.Ok (.int .i64) xa) (k1 : Tp.Ok .str xb) (k2 : Tp.Ok (.cons (.int .i64) (.cons (.int .i64) (.one (.cons (.int .i64) (.cons (.int .i64) (.cons (.int .i64) (.cons (.int .i64) (.one .bool)))))))) xc) : fn_law26_ProvTells xa xb xc = some true := by
  unfold fn_law26_ProvTells
  rw [awake26]
  by_cases hl : 100 < xb.length
  · rw [decide_eq_true (show 100 < (((xb.length : Nat) : Int)) by omega)]; rfl
  · have hp := pok k2.2.2
    have he : EOk xc := ⟨(ok64 k2.1).2, (ok64 k2.2.1).2, hp⟩
    rw [decide_eq_false (show ¬ 100 < (((xb.length : Nat) : Int)) by omega), cond_false, provKind_eq, provName_eq, refName_eq, refKind_eq, provRight_eq, refRight_eq, provText_eq _ ⟨hp.a, hp.b, hp.c⟩, refText_eq _ ⟨hp.a, hp.b, hp.c⟩, provEdge_eq _ ⟨he.a, he.b, hp⟩, refEdge_eq _ ⟨he.a, he.b, hp⟩]
    simp
theorem ProvReads_true (xa : (List UInt8)) (xb : (Int × Int × Int × Int × Bool)) (k0 : Tp.Ok .str xa) (k1 : Tp.Ok (.cons (.int .i64) (.cons (.int .i64) (.cons (.int .i64) (.cons (.int .i64) (.one .bool))))) xb) : fn_law26_ProvReads xa xb = some true := by
  unfold fn_law26_ProvReads
  rw [awake26]
  by_cases hl : 100 < xa.length
  · rw [decide_eq_true (show 100 < (((xa.length : Nat) : Int)) by omega)]; rfl
  · have hp := pok k1
    have hlen := ptext_len hp
    rw [decide_eq_false (show ¬ 100 < (((xa.length : Nat) : Int)) by omega), cond_false, provParse_eq _ (by omega), refParse_eq _ (by omega), provText_eq _ ⟨hp.a, hp.b, hp.c⟩]
    simp only [Option.bind_some]
    rw [provParse_eq (ptext (xb.1, xb.2.1, xb.2.2.1, xb.2.2.2.1, xb.2.2.2.2)) (by show (ptext xb).length ≤ _; omega), refRight_eq]
    simp only [Option.bind_some, decide_true, Bool.and_self, beq_self_eq_true, Bool.not_true, Bool.or_self, cond_false]
    have c1 : (cond (decide ((readP xa).2.2.2.2.2 = 0)) ((fn_prov_Text ((readP xa).1, (readP xa).2.1, (readP xa).2.2.1, (readP xa).2.2.2.1, (readP xa).2.2.2.2.1)).bind fun s200 => some (!decide (s200 = xa))) (some (false)) : Option Bool) = some false := by
      by_cases h0 : (readP xa).2.2.2.2.2 = 0
      · obtain ⟨f, e, r, t, a, b, c⟩ := readP_ok h0
        rw [e]
        simp only [decide_true, cond_true]
        rw [provText_eq _ ⟨by show f.1 ≤ _; omega, by show f.2.1 ≤ _; omega, by show f.2.2.2.1 ≤ _; omega⟩]
        have t' : ptext (f.1, f.2.1, f.2.2.1, f.2.2.2.1, f.2.2.2.2) = xa := t
        rw [t']; simp
      · simp [h0]
    rw [c1]
    simp only [Option.bind_some, cond_false]
    have hr := readP_text xb
    have e5 : ptext (xb.1, xb.2.1, xb.2.2.1, xb.2.2.2.1, xb.2.2.2.2) = ptext xb := rfl
    rw [e5]
    have e6 : (((right (xb.1, xb.2.1, xb.2.2.1, xb.2.2.2.1, xb.2.2.2.2) && (decide (xb.1 ≤ 1048576))) && (decide (xb.2.1 ≤ 1048576))) && (decide (xb.2.2.2.1 ≤ 1048576))) = small26 xb := rfl
    rw [e6]
    cases hs : small26 xb with
    | true =>
      rw [hs, if_pos rfl] at hr
      rw [hr]; simp
    | false =>
      rw [hs, if_neg (by simp)] at hr
      simp [hr]
def c3 (a b r : Int) : Int := if a < b then -1 else if b < a then 1 else r
def bit (b : Bool) : Int := if b = true then 1 else 0
def cmpP (f g : Pv) : Int := c3 f.1 g.1 (c3 f.2.1 g.2.1 (c3 f.2.2.1 g.2.2.1 (c3 f.2.2.2.1 g.2.2.2.1 (c3 (bit f.2.2.2.2) (bit g.2.2.2.2) 0))))
theorem cmp_eq (a b : Int) : fn_cmp_Compare_int a b = some (c3 a b 0) := by
  unfold fn_cmp_Compare_int fn_cmp_isNaN_int c3
  by_cases h1 : a < b
  · simp [h1]
  · by_cases h2 : b < a <;> simp [h1, h2]
theorem bit_eq (f : Pv) : fn_prov_Compare_1 f = some (bit f.2.2.2.2) := by
  unfold fn_prov_Compare_1 bit
  cases f.2.2.2.2 <;> rfl
theorem or_eq (l : List Int) (hl : l.length ≤ 1000) : fn_cmp_Or_int l = some ((l.find? fun x => !decide (x = 0)).getD 0) := by
  unfold fn_cmp_Or_int
  have h := loop_search (body := fn_cmp_Or_int_l1 l) l (fun x => !decide (x = 0)) (fun k => .inr (l[k]?.getD 0)) (.inl ()) (fun k hk => by
    unfold fn_cmp_Or_int_l1
    simp only [dlt hk, cond_true, getN hk, Option.bind_some, w64s hk (by omega)]
    by_cases hz : l[k] = 0 <;> simp [hz, hk]) (by unfold fn_cmp_Or_int_l1; simp only [dge (show ¬ l.length < l.length by omega), cond_false])
  rw [h]
  cases hq : l.findIdx? (fun x => !decide (x = 0)) with
  | none =>
    have : l.find? (fun x => !decide (x = 0)) = none := by rw [List.find?_eq_none]; intro x hx; have := List.findIdx?_eq_none_iff.1 hq x hx; simp [this]
    rw [this]; rfl
  | some k =>
    obtain ⟨hk, h1, h2⟩ := List.findIdx?_eq_some_iff_getElem.1 hq
    have : l.find? (fun x => !decide (x = 0)) = some l[k] := by
      rw [List.find?_eq_some_iff_getElem]
      exact ⟨h1, k, hk, rfl, fun j hj => by have := h2 j hj; simpa using this⟩
    rw [this]; simp [hk]
theorem compare_eq (f g : Pv) : fn_prov_Compare f g = some (cmpP f g) := by
  unfold fn_prov_Compare
  rw [cmp_eq, cmp_eq, cmp_eq, cmp_eq, bit_eq, bit_eq]
  simp only [Option.bind_some]
  rw [cmp_eq]
  simp only [Option.bind_some]
  rw [or_eq _ (by simp)]
  simp only [Option.bind_some]
  unfold cmpP
  congr 1
  have step : ∀ (a b r : Int) (l : List Int), ((c3 a b 0 :: l).find? fun x => !decide (x = 0)).getD 0 = c3 a b ((l.find? fun x => !decide (x = 0)).getD 0) := by
    intro a b r l
    unfold c3
    by_cases h1 : a < b
    · simp [h1]
    · by_cases h2 : b < a <;> simp [h1, h2]
  rw [step _ _ 0, step _ _ 0, step _ _ 0, step _ _ 0, step _ _ 0]; rfl
/-- Of three, how they stand to one another. -/
structure Ord3 (ab bc ac ba : Int) : Prop where
  r1 : ab = -1 ∨ ab = 0 ∨ ab = 1
  r2 : bc = -1 ∨ bc = 0 ∨ bc = 1
  r3 : ac = -1 ∨ ac = 0 ∨ ac = 1
  op : ba = -ab
  tr : ab < 0 → bc < 0 → ac < 0
  e1 : ab = 0 → ac = bc
  e2 : bc = 0 → ac = ab
theorem Ord3.step {ab bc ac ba : Int} (h : Ord3 ab bc ac ba) (a b c : Int) : Ord3 (c3 a b ab) (c3 b c bc) (c3 a c ac) (c3 b a ba) := by
  obtain ⟨r1, r2, r3, op, tr, e1, e2⟩ := h
  unfold c3
  constructor <;> (repeat' split) <;> omega
theorem ord_all (f g h : Pv) : Ord3 (cmpP f g) (cmpP g h) (cmpP f h) (cmpP g f) := by
  unfold cmpP
  refine Ord3.step (Ord3.step (Ord3.step (Ord3.step (Ord3.step ?_ _ _ _) _ _ _) _ _ _) _ _ _) _ _ _
  constructor <;> omega
theorem c3_zero (a b r : Int) : decide (c3 a b r = 0) = (decide (a = b) && decide (r = 0)) := by
  unfold c3
  by_cases h1 : a < b
  · have : ¬ a = b := by omega
    simp [h1, this]
  · by_cases h2 : b < a
    · have : ¬ a = b := by omega
      simp [h1, h2, this]
    · have : a = b := by omega
      simp [h1, h2, this]
theorem c3_neg (a b r : Int) : decide (c3 a b r < 0) = cond (!decide (a = b)) (decide (a < b)) (decide (r < 0)) := by
  unfold c3
  by_cases h1 : a < b
  · have : ¬ a = b := by omega
    simp [h1, this]
  · by_cases h2 : b < a
    · have : ¬ a = b := by omega
      simp [h1, h2, this]
    · have : a = b := by omega
      subst this; simp
theorem c3_bit (a b : Bool) : decide (c3 (bit a) (bit b) 0 < 0) = (!a && b) ∧ decide (c3 (bit a) (bit b) 0 = 0) = (a == b) := by
  cases a <;> cases b <;> decide
theorem ahead_eq (f g : Pv) : fn_ref26_Ahead f g = some (decide (cmpP f g < 0)) := by
  unfold fn_ref26_Ahead cmpP
  rw [c3_neg, c3_neg, c3_neg, c3_neg, (c3_bit _ _).1]
  cases decide (f.1 = g.1) <;> cases decide (f.2.1 = g.2.1) <;> cases decide (f.2.2.1 = g.2.2.1) <;> cases decide (f.2.2.2.1 = g.2.2.2.1) <;> rfl
theorem ProvOrder_true (xa : (Int × Int × Int × Int × Bool)) (xb : (Int × Int × Int × Int × Bool)) (xc : (Int × Int × Int × Int × Bool)) (k0 : Tp.Ok (.cons (.int .i64) (.cons (.int .i64) (.cons (.int .i64) (.cons (.int .i64) (.one .bool))))) xa) (k1 : Tp.Ok (.cons (.int .i64) (.cons (.int .i64) (.cons (.int .i64) (.cons (.int .i64) (.one .bool))))) xb) (k2 : Tp.Ok (.cons (.int .i64) (.cons (.int .i64) (.cons (.int .i64) (.cons (.int .i64) (.one .bool))))) xc) : fn_law26_ProvOrder xa xb xc = some true := by
  have h := ord_all xa xb xc
  have hz : (decide (xa.1 = xb.1) && (decide (xa.2.1 = xb.2.1) && (decide (xa.2.2.1 = xb.2.2.1) && (decide (xa.2.2.2.1 = xb.2.2.2.1) && (xa.2.2.2.2 == xb.2.2.2.2))))) = decide (cmpP xa xb = 0) := by
    unfold cmpP
    rw [c3_zero, c3_zero, c3_zero, c3_zero, (c3_bit _ _).2]
  unfold fn_law26_ProvOrder
  rw [awake26, compare_eq, compare_eq, compare_eq, compare_eq, ahead_eq, ahead_eq, hz]
  have e1 : cmpP (xa.1, xa.2.1, xa.2.2.1, xa.2.2.2.1, xa.2.2.2.2) (xb.1, xb.2.1, xb.2.2.1, xb.2.2.2.1, xb.2.2.2.2) = cmpP xa xb := rfl
  have e2 : cmpP (xb.1, xb.2.1, xb.2.2.1, xb.2.2.2.1, xb.2.2.2.2) (xc.1, xc.2.1, xc.2.2.1, xc.2.2.2.1, xc.2.2.2.2) = cmpP xb xc := rfl
  have e3 : cmpP (xa.1, xa.2.1, xa.2.2.1, xa.2.2.2.1, xa.2.2.2.2) (xc.1, xc.2.1, xc.2.2.1, xc.2.2.2.1, xc.2.2.2.2) = cmpP xa xc := rfl
  have e4 : cmpP (xb.1, xb.2.1, xb.2.2.1, xb.2.2.2.1, xb.2.2.2.2) (xa.1, xa.2.1, xa.2.2.1, xa.2.2.2.1, xa.2.2.2.2) = cmpP xb xa := rfl
  rw [e1, e2, e3, e4]
  obtain ⟨r1, r2, r3, op, tr, q1, q2⟩ := h
  rw [op]
  have a1 : decide (-cmpP xa xb < 0) = decide (0 < cmpP xa xb) := by
    by_cases h : 0 < cmpP xa xb
    · rw [decide_eq_true h, decide_eq_true (by omega)]
    · rw [decide_eq_false h, decide_eq_false (by omega)]
  have a2 : ((decide (0 ≤ cmpP xa xb) || decide (0 ≤ cmpP xb xc)) || decide (cmpP xa xc < 0)) = true := by
    simp only [Bool.or_eq_true, decide_eq_true_eq]
    by_cases h1 : cmpP xa xb < 0
    · by_cases h2 : cmpP xb xc < 0
      · exact .inr (tr h1 h2)
      · exact .inl (.inr (by omega))
    · exact .inl (.inl (by omega))
  simp only [Option.bind_some, a1, a2, beq_self_eq_true, Bool.not_true, Bool.or_self, cond_false, cond_true]
end Go.Proofs.YtaokbmfhobbmaaaDoor
