/- What terminators need, in plain words. -/
import Derived.Test.YtbennpandomacaaGreatQ17
import Derived.Test.YtbennpandomacaaGreatN18
namespace Go.Proofs.YtbennpandomacaaGreat
open Go.RowKit
set_option linter.unusedVariables false
set_option linter.unnecessarySimpa false
set_option linter.unusedSimpArgs false
abbrev Tm := Int × Int × Int × List Int × List Int × List Int
def tCalls (x : Tm) : Bool := ((!decide (x.2.1 = 0)) || (!decide (x.2.2.1 = 0))) || (decide (0 < x.2.2.2.2.2.length))
def tRight (x : Tm) : Bool :=
  if x.1 = 1 then decide (x.2.2.2.1.length = 1) && decide (x.2.2.2.2.1.length = 0) && !tCalls x
  else if x.1 = 2 then decide (0 < x.2.2.2.1.length) && !tCalls x
  else if x.1 = 3 then decide (x.2.2.2.1.length = 0) && decide (x.2.2.2.2.1.length = 0) && !tCalls x
  else if x.1 = 4 then decide (x.2.2.2.1.length = 1) else false
def tForm (x : Tm) : Int := if tRight x = true then if 16 < x.2.2.2.1.length ∨ 16 < x.2.2.2.2.1.length ∨ 16 < x.2.2.2.2.2.length then 6 else 0 else 3
theorem bnd (a b : Bool) : (cond a (some b) (some false) : Option Bool) = some (a && b) := by cases a <;> rfl
theorem dn1 (n : Nat) : decide ((n : Int) = 1) = decide (n = 1) := by by_cases h : n = 1 <;> simp [h] <;> omega
theorem dn0 (n : Nat) : decide ((n : Int) = 0) = decide (n = 0) := by by_cases h : n = 0 <;> simp [h] <;> omega
theorem dp0 (n : Nat) : decide (0 < (n : Int)) = decide (0 < n) := by by_cases h : 0 < n <;> simp [h] <;> omega
theorem d16 (n : Nat) : decide (16 < (n : Int)) = decide (16 < n) := by by_cases h : 16 < n <;> simp [h] <;> omega
theorem tForm_eq (x : Tm) : fn_term_form x = some (tForm x) := by
  obtain ⟨k, g, d, to, args, ps⟩ := x
  have hc : fn_term_calls (k, g, d, to, args, ps) = some (tCalls (k, g, d, to, args, ps)) := by unfold fn_term_calls tCalls; simp only [dp0]
  unfold fn_term_form tForm
  have hr : ∀ b : Bool, (cond (!b) (some 3) (cond (((decide (16 < ((to.length : Nat) : Int))) || (decide (16 < ((args.length : Nat) : Int)))) || (decide (16 < ((ps.length : Nat) : Int)))) (some 6) (some 0)) : Option Int) = some (if b = true then if 16 < to.length ∨ 16 < args.length ∨ 16 < ps.length then 6 else 0 else 3) := by
    intro b
    cases b with
    | false => rfl
    | true =>
      simp only [d16, Bool.not_true, cond_false, if_true]
      by_cases h1 : 16 < to.length <;> by_cases h2 : 16 < args.length <;> by_cases h3 : 16 < ps.length <;> simp [h1, h2, h3]
  dsimp only at *
  have hm : ∀ (m : Option Bool) (b : Bool), m = some b → (m.bind fun t194 => cond (!t194) (some 3) (cond (((decide (16 < ((to.length : Nat) : Int))) || (decide (16 < ((args.length : Nat) : Int)))) || (decide (16 < ((ps.length : Nat) : Int)))) (some 6) (some 0)) : Option Int) = some (if b = true then if 16 < to.length ∨ 16 < args.length ∨ 16 < ps.length then 6 else 0 else 3) := by
    rintro _ b rfl; exact hr b
  refine hm _ _ ?_
  simp only [hc, Option.bind_some, dn1, dn0, dp0]
  unfold tRight
  dsimp only
  by_cases k1 : k = 1
  · simp [k1, bnd, Bool.and_assoc]
  · by_cases k2 : k = 2
    · simp [k2, bnd, Bool.and_assoc]
    · by_cases k3 : k = 3
      · simp [k3, bnd, Bool.and_assoc]
      · by_cases k4 : k = 4
        · simp [k4]
        · simp [k1, k2, k3, k4]
theorem within_eq (xa : List Int) (n : Int) (hn : xa.length ≤ 1073741824) : fn_ref19_within xa n = some (!xa.any (fun x => decide (x < 0) || decide (n ≤ x))) := by
  unfold fn_ref19_within
  rw [loop_some (body := fn_ref19_within_l1 xa n) xa (fun x => decide (x < 0) || decide (n ≤ x)) (.inr false) (.inl ()) ?_ ?_]
  · cases xa.any (fun x => decide (x < 0) || decide (n ≤ x)) <;> rfl
  · intro k hk
    unfold fn_ref19_within_l1
    by_cases q : xa[k] < 0 <;> by_cases q2 : n ≤ xa[k] <;> simp [hk, getN hk, w64s hk (by omega : xa.length ≤ 9223372036854775807), q, q2]
  · simp [fn_ref19_within_l1]
theorem refTForm_eq (x : Tm) : fn_ref19_Form x = some (tForm x) := by
  obtain ⟨k, g, d, to, args, ps⟩ := x
  unfold fn_ref19_Form tForm tRight tCalls
  dsimp only
  simp only [dn1, dn0, d16, dp0]
  have hps : decide (0 < ps.length) = !decide (ps.length = 0) := by by_cases h : ps.length = 0 <;> simp [h] <;> omega
  have hto : decide (0 < to.length) = !decide (to.length = 0) := by by_cases h : to.length = 0 <;> simp [h] <;> omega
  rw [hps, hto]
  have last : (cond (((decide (16 < to.length)) || (decide (16 < args.length))) || (decide (16 < ps.length))) (some 6) (some 0) : Option Int) = some (if 16 < to.length ∨ 16 < args.length ∨ 16 < ps.length then 6 else 0) := by
    by_cases h1 : 16 < to.length <;> by_cases h2 : 16 < args.length <;> by_cases h3 : 16 < ps.length <;> simp [h1, h2, h3]
  rw [last]
  generalize (if 16 < to.length ∨ 16 < args.length ∨ 16 < ps.length then (6 : Int) else 0) = z
  generalize decide (to.length = 1) = t1
  generalize decide (to.length = 0) = t0
  generalize decide (args.length = 0) = a0
  generalize decide (ps.length = 0) = p0
  generalize decide (g = 0) = g0
  generalize decide (d = 0) = d0
  by_cases k1 : k = 1
  · subst k1; cases t1 <;> cases t0 <;> cases a0 <;> cases p0 <;> cases g0 <;> cases d0 <;> simp
  · by_cases k2 : k = 2
    · subst k2; cases t1 <;> cases t0 <;> cases a0 <;> cases p0 <;> cases g0 <;> cases d0 <;> simp
    · by_cases k3 : k = 3
      · subst k3; cases t1 <;> cases t0 <;> cases a0 <;> cases p0 <;> cases g0 <;> cases d0 <;> simp
      · by_cases k4 : k = 4
        · subst k4; cases t1 <;> cases t0 <;> cases a0 <;> cases p0 <;> cases g0 <;> cases d0 <;> simp
        · have : (decide (k < 1) || decide (4 < k)) = true := by simp; omega
          simp [this, k1, k2, k3, k4]
theorem fewl {xa : List (List St)} {body : Int → Option (Int ⊕ (Unit ⊕ Bool))} (hn : xa.length ≤ 1000) (hb : ∀ i, body i = cond (decide (i < (((xa.length : Nat) : Int)))) ((getI xa i).bind fun x => (fn_ref15_Few x 20).bind fun t => cond (!t) (some (.inr ((.inr (false))))) (some (.inl (IntKind.wrap .i64 (i + 1))))) (some (.inr ((.inl ()))))) :
    loop body 0 = some (if xa.any (fun t => !decide (t.length ≤ 20)) then (Sum.inr false : Unit ⊕ Bool) else .inl ()) := by
  refine loop_some (β := Unit ⊕ Bool) xa (fun t => !decide (t.length ≤ 20)) (.inr false) (.inl ()) ?_ ?_
  · intro k hk
    rw [hb]
    simp only [dlt hk, cond_true, getN hk, Option.bind_some, w64s hk (by omega : xa.length ≤ 9223372036854775807), Few_eq]
    by_cases q : xa[k].length ≤ 20
    · have : decide (((xa[k].length : Nat) : Int) ≤ 20) = true := by simp; omega
      simp [this, q]
    · have : decide (((xa[k].length : Nat) : Int) ≤ 20) = false := by simp; omega
      simp [this, q]
  · rw [hb]; simp
theorem few_mem {xa : List (List St)} (h : xa.any (fun t => !decide (t.length ≤ 20)) = false) : ∀ t ∈ xa, t.length ≤ 20 := by
  intro t ht
  have := List.any_eq_false.1 h t ht
  simpa using this
theorem few17 (s : Sg) : fn_ref17_Few s = some false ∨ (fn_ref17_Few s = some true ∧ s.2.1.length ≤ 20 ∧ s.2.2.1.length ≤ 20 ∧ s.2.2.2.length ≤ 20 ∧ ∀ t ∈ s.2.2.1, t.length ≤ 20) := by
  unfold fn_ref17_Few
  by_cases h : 20 < s.2.1.length ∨ 20 < s.2.2.1.length
  · have : ((decide (20 < (((s.2.1.length : Nat) : Int)))) || (decide (20 < (((s.2.2.1.length : Nat) : Int))))) = true := by simp; omega
    rw [this]; exact .inl rfl
  · have : ((decide (20 < (((s.2.1.length : Nat) : Int)))) || (decide (20 < (((s.2.2.1.length : Nat) : Int))))) = false := by simp; omega
    rw [this, cond_false, Few_eq]
    by_cases q : s.2.2.2.length ≤ 20
    · have e : decide (((s.2.2.2.length : Nat) : Int) ≤ 20) = true := by simp; omega
      simp only [Option.bind_some, e, Bool.not_true, cond_false]
      rw [fewl (body := fn_ref17_Few_l1 s) (xa := s.2.2.1) (by omega) (fun i => rfl)]
      cases hf : s.2.2.1.any (fun t => !decide (t.length ≤ 20)) with
      | true => exact .inl rfl
      | false => exact .inr ⟨rfl, by omega, by omega, q, few_mem hf⟩
    · have e : decide (((s.2.2.2.length : Nat) : Int) ≤ 20) = false := by simp; omega
      simp only [Option.bind_some, e]; exact .inl rfl
def bad (n : Int) (xa : List Int) : Bool := xa.any (fun x => decide (x < 0) || decide (n ≤ x))
theorem contains_eq (xa : List Int) (n : Int) (hn : xa.length ≤ 1000) : fn_slices_ContainsFunc_int_int_k_term_beyond_1_p0_i xa n = some (bad n xa) := by
  unfold fn_slices_ContainsFunc_int_int_k_term_beyond_1_p0_i fn_slices_IndexFunc_int_int_k_term_beyond_1_p0_i
  rw [loop_search (body := fn_slices_IndexFunc_int_int_k_term_beyond_1_p0_i_l1 xa n) xa (fun x => decide (x < 0) || decide (n ≤ x)) (fun k => .inr (k : Int)) (.inl ()) ?_ ?_]
  · rcases find_cases xa (fun x => decide (x < 0) || decide (n ≤ x)) with ⟨k, h1, h2⟩ | ⟨h1, h2⟩
    · rw [h1]; unfold bad; simp [h2]
    · rw [h1]; unfold bad; simp [h2]
  · intro k hk
    unfold fn_slices_IndexFunc_int_int_k_term_beyond_1_p0_i_l1 fn_term_beyond_1_ip0_i
    simp only [dlt hk, cond_true, getN hk, Option.bind_some, w64s hk (by omega : xa.length ≤ 9223372036854775807)]
    cases (decide (xa[k] < 0) || decide (n ≤ xa[k])) <;> rfl
  · simp [fn_slices_IndexFunc_int_int_k_term_beyond_1_p0_i_l1]
theorem refWithin_eq (xa : List Int) (n : Int) (hn : xa.length ≤ 1000) : fn_ref19_within xa n = some (!bad n xa) := within_eq xa n (by omega)
abbrev Ar := Int × Int × List (List St) × List St × List Sg
theorem args_loop {x : Tm} {a : Ar} (hx : x.2.2.2.2.1.length ≤ 20) (hb : bad (a.2.2.1.length : Int) x.2.2.2.2.1 = false) (hL : ∀ t ∈ a.2.2.1, t.length ≤ 20) :
    ∃ C : List (List St), loop (fn_term_Needs_l1 x a) ([], 0) = some C ∧ (∀ t ∈ C, t.length ≤ 20) ∧ ∀ t ∈ C, t ∈ a.2.2.1 := by
  have hin (k : Nat) (hk : k < x.2.2.2.2.1.length) : 0 ≤ x.2.2.2.2.1[k] ∧ x.2.2.2.2.1[k] < (a.2.2.1.length : Int) := by
    have := List.any_eq_false.1 hb _ (List.getElem_mem hk)
    simp at this; omega
  have hl := loop_nat (body := fn_term_Needs_l1 x a) (fun k : Nat => ((x.2.2.2.2.1.take k).map (fun i => a.2.2.1.getD i.toNat []), (k : Int))) x.2.2.2.2.1.length (b := x.2.2.2.2.1.map (fun i => a.2.2.1.getD i.toNat [])) ?_ ?_
  · have hm : ∀ t ∈ x.2.2.2.2.1.map (fun i => a.2.2.1.getD i.toNat []), t ∈ a.2.2.1 := by
      intro t ht
      obtain ⟨i, hi, rfl⟩ := List.mem_map.1 ht
      obtain ⟨k, hk, rfl⟩ := List.getElem_of_mem hi
      have h2 := hin k hk
      have : x.2.2.2.2.1[k].toNat < a.2.2.1.length := by omega
      have e : a.2.2.1.getD x.2.2.2.2.1[k].toNat [] = a.2.2.1[x.2.2.2.2.1[k].toNat] := by simp [List.getD, this]
      rw [e]; exact List.getElem_mem _
    refine ⟨_, hl, fun t ht => ?_, hm⟩
    obtain ⟨i, hi, rfl⟩ := List.mem_map.1 ht
    obtain ⟨k, hk, rfl⟩ := List.getElem_of_mem hi
    have h2 := hin k hk
    have : x.2.2.2.2.1[k].toNat < a.2.2.1.length := by omega
    have e : a.2.2.1.getD x.2.2.2.2.1[k].toNat [] = a.2.2.1[x.2.2.2.2.1[k].toNat] := by simp [List.getD, this]
    rw [e]; exact hL _ (List.getElem_mem _)
  · intro k hk
    have h2 := hin k hk
    have h3 : x.2.2.2.2.1[k].toNat < a.2.2.1.length := by omega
    have e : a.2.2.1.getD x.2.2.2.2.1[k].toNat [] = a.2.2.1[x.2.2.2.2.1[k].toNat] := by simp [List.getD, h3]
    unfold fn_term_Needs_l1
    simp only [dlt hk, cond_true, getN hk, Option.bind_some]
    rw [getZ h2.1 h2.2, Option.bind_some, app_eq (by simp; omega), Option.bind_some, w64s hk (by omega), take_snoc hk, List.map_append]
    simp only [List.map_cons, List.map_nil, e]
  · simp [fn_term_Needs_l1]
theorem getD_good {R : Int} {names : List Int} (hR : 0 < R) (hn : bad R names = false) (i : Nat) : 0 ≤ names.getD i 0 ∧ names.getD i 0 < R := by
  by_cases q : i < names.length
  · have e : names.getD i 0 = names[i] := by simp [List.getD, q]
    rw [e]
    have := List.any_eq_false.1 hn _ (List.getElem_mem q)
    simp at this; omega
  · have e : names.getD i 0 = 0 := by simp [List.getD, List.getElem?_eq_none (Nat.not_lt.1 q)]
    rw [e]; omega
theorem sbs_good {R : Int} {names : List Int} (hR : 0 < R) (hn : bad R names = false) {t : List St} : rin R (t.map (sbs names)) = false := by
  refine rin_of fun x hx => ?_
  obtain ⟨y, _, rfl⟩ := List.mem_map.1 hx
  exact getD_good hR hn _
theorem csp_good {R : Int} {s : Sg} {names : List Int} {C : List (List St)} {D : List St} (hR : 0 < R) (hn : bad R names = false) (hC : ∀ t ∈ C, t.length ≤ 20 ∧ rin R t = false) (hD : rin R D = false) (hs : s.2.1.length ≤ 20 ∧ s.2.2.1.length ≤ 20 ∧ s.2.2.2.length ≤ 20) : ∀ n ∈ (csp s names C D).1, Gd R n := by
  intro n h
  unfold csp at h
  split at h
  · simp at h
  split at h
  · simp at h
  split at h
  · simp at h
  split at h
  · have hb : ∀ k, k ≤ 20 → ∀ n ∈ bds names s.2.1 k, Gd R n := by
      intro k
      induction k with
      | zero => intro _ n hn; simp [bds] at hn
      | succ k ih =>
        intro hk n hn'
        simp only [bds, List.mem_append, List.mem_singleton] at hn'
        rcases hn' with hn' | rfl
        · exact ih (by omega) n hn'
        · exact ⟨getD_good hR hn _, getD_good hR hn _, by simp, by show (0 : Int) ≤ (k : Int); omega, by show (k : Int) ≤ _; omega⟩
    have hf : ∀ k, k ≤ 20 → ∀ n ∈ fls names s.2.2.1 C k, Gd R n := by
      intro k
      induction k with
      | zero => intro _ n hn; simp [fls] at hn
      | succ k ih =>
        intro hk n hn'
        simp only [fls, List.mem_append] at hn'
        rcases hn' with hn' | hn'
        · exact ih (by omega) n hn'
        · unfold fl at hn'
          have hc : (C.getD k []).length ≤ 20 ∧ rin R (C.getD k []) = false := by
            by_cases q : k < C.length
            · have e : C.getD k [] = C[k] := by simp [List.getD, q]
              rw [e]; exact hC _ (List.getElem_mem q)
            · have e : C.getD k [] = [] := by simp [List.getD, List.getElem?_eq_none (Nat.not_lt.1 q)]
              rw [e]; exact ⟨by simp, rfl⟩
          exact rel_good (by decide) _ _ _ (by omega) (by omega) hc.2 (sbs_good hR hn) n hn'
    rcases List.mem_append.1 h with h | h
    · rcases List.mem_append.1 h with h | h
      · exact hb _ hs.1 n h
      · exact hf _ hs.2.1 n h
    · exact rel_good (by decide) _ _ 0 (by omega) (by simp; omega) (sbs_good hR hn) hD n h
  · simp at h
theorem needs19 (x : Tm) (a : Ar) (l2 : x.2.2.2.1.length ≤ 20) (l3 : x.2.2.2.2.1.length ≤ 20) (l4 : x.2.2.2.2.2.length ≤ 20) (hR : a.2.2.2.1.length ≤ 20) (hL : ∀ t ∈ a.2.2.1, t.length ≤ 20) (hS : ∀ s ∈ a.2.2.2.2, s.2.1.length ≤ 20 ∧ s.2.2.1.length ≤ 20 ∧ s.2.2.2.length ≤ 20 ∧ ∀ t ∈ s.2.2.1, t.length ≤ 20) :
    ∃ l e, fn_term_Needs x a = some (l, e) ∧ fn_ref19_Needs x a = some (l, e) ∧ l.length ≤ 1000000 ∧ ((0 < a.2.1 ∧ (∀ t ∈ a.2.2.1, rin a.2.1 t = false) ∧ rin a.2.1 a.2.2.2.1 = false) → ∀ n ∈ l, Gd a.2.1 n) := by
  have same : fn_ref19_Needs_l1 x a = fn_term_Needs_l1 x a := rfl
  unfold fn_term_Needs fn_ref19_Needs
  rw [show fn_term_form (x.1, x.2.1, x.2.2.1, x.2.2.2.1, x.2.2.2.2.1, x.2.2.2.2.2) = some (tForm x) from tForm_eq x, show fn_ref19_Form (x.1, x.2.1, x.2.2.1, x.2.2.2.1, x.2.2.2.2.1, x.2.2.2.2.2) = some (tForm x) from refTForm_eq x, same]
  have hw : fn_term_within (x.1, x.2.1, x.2.2.1, x.2.2.2.1, x.2.2.2.2.1, x.2.2.2.2.2) (a.1, a.2.1, a.2.2.1, a.2.2.2.1, a.2.2.2.2) = some (!(bad a.1 x.2.2.2.1 || bad (a.2.2.1.length : Int) x.2.2.2.2.1 || bad a.2.1 x.2.2.2.2.2 || (decide (x.1 = 4) && (bad (a.2.2.1.length : Int) [x.2.2.1] || bad (a.2.2.2.2.length : Int) [x.2.1])))) := by
    unfold fn_term_within fn_term_beyond fn_term_beyond_1_ip0_i
    simp only [Option.bind_some, contains_eq x.2.2.2.1 _ (by omega : x.2.2.2.1.length ≤ 1000), contains_eq x.2.2.2.2.1 _ (by omega : x.2.2.2.2.1.length ≤ 1000), contains_eq x.2.2.2.2.2 _ (by omega : x.2.2.2.2.2.length ≤ 1000)]
    have e (n i : Int) : bad n [i] = (decide (i < 0) || decide (n ≤ i)) := by simp [bad]
    rw [e, e]
    cases bad a.1 x.2.2.2.1 <;> cases bad (a.2.2.1.length : Int) x.2.2.2.2.1 <;> cases bad a.2.1 x.2.2.2.2.2 <;> cases decide (x.1 = 4) <;> cases (decide (x.2.2.1 < 0) || decide ((a.2.2.1.length : Int) ≤ x.2.2.1)) <;> cases (decide (x.2.1 < 0) || decide ((a.2.2.2.2.length : Int) ≤ x.2.1)) <;> rfl
  rw [hw]
  by_cases hf : tForm x = 0
  · have o1 (i n : Int) : fn_ref19_within [i] n = some (!bad n [i]) := refWithin_eq [i] n (by simp)
    simp only [hf, Option.bind_some, decide_true, Bool.not_true, cond_false, refWithin_eq x.2.2.2.1 _ (by omega : x.2.2.2.1.length ≤ 1000), refWithin_eq x.2.2.2.2.1 _ (by omega : x.2.2.2.2.1.length ≤ 1000), refWithin_eq x.2.2.2.2.2 _ (by omega : x.2.2.2.2.2.length ≤ 1000), o1, Bool.not_not]
    have seven : ∃ l e, (some (([] : List Nd), (7 : Int)) : Option (List Nd × Int)) = some (l, e) ∧ (some (([] : List Nd), (7 : Int)) : Option (List Nd × Int)) = some (l, e) ∧ l.length ≤ 1000000 ∧ ((0 < a.2.1 ∧ (∀ t ∈ a.2.2.1, rin a.2.1 t = false) ∧ rin a.2.1 a.2.2.2.1 = false) → ∀ n ∈ l, Gd a.2.1 n) := ⟨[], 7, rfl, rfl, by simp, by simp⟩
    cases b1 : bad a.1 x.2.2.2.1 with
    | true => exact seven
    | false =>
      cases b2 : bad (a.2.2.1.length : Int) x.2.2.2.2.1 with
      | true => exact seven
      | false =>
        cases b3 : bad a.2.1 x.2.2.2.2.2 with
        | true => exact seven
        | false =>
          by_cases k4 : x.1 = 4
          · have n3 : ¬ x.1 = 3 := by omega
            rw [decide_eq_true k4, decide_eq_false n3]
            cases b4 : bad (a.2.2.1.length : Int) [x.2.2.1] with
            | true => exact seven
            | false =>
              cases b5 : bad (a.2.2.2.2.length : Int) [x.2.1] with
              | true => exact seven
              | false =>
                obtain ⟨C, c1, c2, c3⟩ := args_loop l3 b2 hL
                simp [bad] at b4 b5
                simp only [Bool.or_self, Bool.and_false, Bool.not_false, Bool.not_true, cond_false, cond_true, Option.bind_some, c1, Bool.false_and, Bool.true_and]
                rw [getZ b5.1 b5.2, getZ b4.1 b4.2]
                have hs := hS _ (List.getElem_mem (l := a.2.2.2.2) (n := x.2.1.toNat) (by omega))
                have ht := hL _ (List.getElem_mem (l := a.2.2.1) (n := x.2.2.1.toNat) (by omega))
                have hDm := List.getElem_mem (l := a.2.2.1) (n := x.2.2.1.toNat) (by omega)
                simp only [Option.bind_some]
                generalize a.2.2.2.2[x.2.1.toNat] = S at hs ⊢
                generalize a.2.2.1[x.2.2.1.toNat] = D at ht hDm ⊢
                rw [show fn_sig_Call (S.1, S.2.1, S.2.2.1, S.2.2.2) x.2.2.2.2.2 C D = _ from sigCall_eq S _ C D hs.2.2.1 hs.2.2.2 c2 ht, show fn_ref17_Call (S.1, S.2.1, S.2.2.1, S.2.2.2) x.2.2.2.2.2 C D = _ from refCall_eq S _ C D hs.2.2.1 hs.2.2.2 c2 ht]
                have hn := csp_len S x.2.2.2.2.2 C D ⟨hs.1, hs.2.1, hs.2.2.1⟩ c2
                exact ⟨(csp S x.2.2.2.2.2 C D).1, (csp S x.2.2.2.2.2 C D).2, rfl, rfl, hn, fun hg => csp_good hg.1 b3 (fun t ht => ⟨c2 t ht, hg.2.1 t (c3 t ht)⟩) (hg.2.1 _ hDm) ⟨hs.1, hs.2.1, hs.2.2.1⟩⟩
          · rw [decide_eq_false k4]
            by_cases k3 : x.1 = 3
            · rw [decide_eq_true k3]
              cases hz : a.2.2.1 with
              | nil => exact ⟨[], 14, by simp, by simp, by simp, by simp⟩
              | cons t ts =>
                have ht := hL t (by rw [hz]; simp)
                have hl0 : decide ((((t :: ts).length : Nat) : Int) = 0) = false := decide_eq_false (by simp; omega)
                simp only [hl0, Bool.or_self, Bool.and_false, Bool.false_and, Bool.not_false, Bool.not_true, cond_false, cond_true, Option.bind_some, show getI (t :: ts) 0 = some t from rfl]
                rw [relFlow_eq _ _ _ _ (by omega) (by omega) (by omega), refFlow_eq _ _ _ _ (by omega) (by omega) (by omega)]
                have hr := rel_len 7 t a.2.2.2.1 0
                by_cases q : shp t a.2.2.2.1 = true
                · exact ⟨rel 7 0 t a.2.2.2.1, 0, by simp [q], by simp [q], by omega, fun hg => rel_good (by decide) _ _ 0 (by omega) (by omega) (hg.2.1 t (by simp)) hg.2.2⟩
                · exact ⟨[], 8, by simp [q], by simp [q], by simp, by simp⟩
            · rw [decide_eq_false k3]
              exact ⟨[], 0, rfl, rfl, by simp, by simp⟩
  · exact ⟨[], tForm x, by simp [hf], by simp [hf], by simp, by simp⟩
end Go.Proofs.YtbennpandomacaaGreat
