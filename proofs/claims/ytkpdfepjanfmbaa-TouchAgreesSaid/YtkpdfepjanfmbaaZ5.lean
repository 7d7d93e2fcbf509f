/- 'easement/easementlaw24.TouchAgrees' returns true for every input, and each argument reads afterwards as it read before: the row's frame round the walk. -/
import Derived.Test.YtkpdfepjanfmbaaZ4
import Derived.Lib.RowBridge
namespace Go.Proofs.Ytkpdfepjanfmbaa
open Go.RowKit
set_option linter.unusedVariables false
set_option linter.unnecessarySimpa false
set_option linter.unusedSimpArgs false
abbrev Tm := Int × Int × Int × List Int × List Int × List Int
def tCalls (x : Tm) : Bool := ((!decide (x.2.1 = 0)) || (!decide (x.2.2.1 = 0))) || (decide (0 < x.2.2.2.2.2.length))
def tRight (x : Tm) : Bool :=
  if x.1 = 1 then decide (x.2.2.2.1.length = 1) && decide (x.2.2.2.2.1.length = 0) && !tCalls x
  else if x.1 = 2 then decide (0 < x.2.2.2.1.length) && !tCalls x
  else if x.1 = 3 then decide (x.2.2.2.1.length = 0) && decide (x.2.2.2.2.1.length = 0) && !tCalls x
  else if x.1 = 4 then decide (x.2.2.2.1.length = 1) else false
def tForm (x : Tm) : Int := if tRight x = true then if 16 < x.2.2.2.1.length ∨ 16 < x.2.2.2.2.1.length ∨ 16 < x.2.2.2.2.2.length then 6 else 0 else 3
theorem bnd (a b : Bool) : (cond a (some b) (some false) : Option Bool) = some (a && b) := by cases a <;> rfl
theorem dn1 (n : Nat) : decide ((n : Int) = 1) = decide (n = 1) := by by_cases h : n = 1 <;> simp [h] <;> omega
theorem dn0 (n : Nat) : decide ((n : Int) = 0) = decide (n = 0) := by by_cases h : n = 0 <;> simp [h] <;> omega
theorem dp0 (n : Nat) : decide (0 < (n : Int)) = decide (0 < n) := by by_cases h : 0 < n <;> simp [h] <;> omega
theorem d16 (n : Nat) : decide (16 < (n : Int)) = decide (16 < n) := by by_cases h : 16 < n <;> simp [h] <;> omega
theorem tForm_eq (x : Tm) : fn_term_form x = some (tForm x) := by
  obtain ⟨k, g, d, to, args, ps⟩ := x
  have hc : fn_term_calls (k, g, d, to, args, ps) = some (tCalls (k, g, d, to, args, ps)) := by unfold fn_term_calls tCalls; simp only [dp0]
  unfold fn_term_form tForm
  have hr : ∀ b : Bool, (cond (!b) (some 3) (cond (((decide (16 < ((to.length : Nat) : Int))) || (decide (16 < ((args.length : Nat) : Int)))) || (decide (16 < ((ps.length : Nat) : Int)))) (some 6) (some 0)) : Option Int) = some (if b = true then if 16 < to.length ∨ 16 < args.length ∨ 16 < ps.length then 6 else 0 else 3) := by
    intro b
    cases b with
    | false => rfl
    | true =>
      simp only [d16, Bool.not_true, cond_false, if_true]
      by_cases h1 : 16 < to.length <;> by_cases h2 : 16 < args.length <;> by_cases h3 : 16 < ps.length <;> simp [h1, h2, h3]
  dsimp only at *
  have hm : ∀ (m : Option Bool) (b : Bool), m = some b → (m.bind fun t194 => cond (!t194) (some 3) (cond (((decide (16 < ((to.length : Nat) : Int))) || (decide (16 < ((args.length : Nat) : Int)))) || (decide (16 < ((ps.length : Nat) : Int)))) (some 6) (some 0)) : Option Int) = some (if b = true then if 16 < to.length ∨ 16 < args.length ∨ 16 < ps.length then 6 else 0 else 3) := by
    rintro _ b rfl; exact hr b
  refine hm _ _ ?_
  simp only [hc, Option.bind_some, dn1, dn0, dp0]
  unfold tRight
  dsimp only
  by_cases k1 : k = 1
  · simp [k1, bnd, Bool.and_assoc]
  · by_cases k2 : k = 2
    · simp [k2, bnd, Bool.and_assoc]
    · by_cases k3 : k = 3
      · simp [k3, bnd, Bool.and_assoc]
      · by_cases k4 : k = 4
        · simp [k4]
        · simp [k1, k2, k3, k4]
theorem tForm_zero {x : Tm} (h : tForm x = 0) : tRight x = true ∧ x.2.2.2.1.length ≤ 16 ∧ x.2.2.2.2.1.length ≤ 16 ∧ x.2.2.2.2.2.length ≤ 16 := by
  unfold tForm at h
  split at h
  · split at h
    · cases h
    · rename_i q; exact ⟨by assumption, by omega, by omega, by omega⟩
  · cases h
theorem within_eq (xa : List Int) (n : Int) (hn : xa.length ≤ 1073741824) : fn_ref19_within xa n = some (!xa.any (fun x => decide (x < 0) || decide (n ≤ x))) := by
  unfold fn_ref19_within
  rw [loop_some (body := fn_ref19_within_l1 xa n) xa (fun x => decide (x < 0) || decide (n ≤ x)) (.inr false) (.inl ()) ?_ ?_]
  · cases xa.any (fun x => decide (x < 0) || decide (n ≤ x)) <;> rfl
  · intro k hk
    unfold fn_ref19_within_l1
    by_cases q : xa[k] < 0 <;> by_cases q2 : n ≤ xa[k] <;> simp [hk, getN hk, w64s hk (by omega : xa.length ≤ 9223372036854775807), q, q2]
  · simp [fn_ref19_within_l1]
theorem refTForm_eq (x : Tm) : fn_ref19_Form x = some (tForm x) := by
  obtain ⟨k, g, d, to, args, ps⟩ := x
  unfold fn_ref19_Form tForm tRight tCalls
  dsimp only
  simp only [dn1, dn0, d16, dp0]
  have hps : decide (0 < ps.length) = !decide (ps.length = 0) := by by_cases h : ps.length = 0 <;> simp [h] <;> omega
  have hto : decide (0 < to.length) = !decide (to.length = 0) := by by_cases h : to.length = 0 <;> simp [h] <;> omega
  rw [hps, hto]
  have last : (cond (((decide (16 < to.length)) || (decide (16 < args.length))) || (decide (16 < ps.length))) (some 6) (some 0) : Option Int) = some (if 16 < to.length ∨ 16 < args.length ∨ 16 < ps.length then 6 else 0) := by
    by_cases h1 : 16 < to.length <;> by_cases h2 : 16 < args.length <;> by_cases h3 : 16 < ps.length <;> simp [h1, h2, h3]
  rw [last]
  generalize (if 16 < to.length ∨ 16 < args.length ∨ 16 < ps.length then (6 : Int) else 0) = z
  generalize decide (to.length = 1) = t1
  generalize decide (to.length = 0) = t0
  generalize decide (args.length = 0) = a0
  generalize decide (ps.length = 0) = p0
  generalize decide (g = 0) = g0
  generalize decide (d = 0) = d0
  by_cases k1 : k = 1
  · subst k1; cases t1 <;> cases t0 <;> cases a0 <;> cases p0 <;> cases g0 <;> cases d0 <;> simp
  · by_cases k2 : k = 2
    · subst k2; cases t1 <;> cases t0 <;> cases a0 <;> cases p0 <;> cases g0 <;> cases d0 <;> simp
    · by_cases k3 : k = 3
      · subst k3; cases t1 <;> cases t0 <;> cases a0 <;> cases p0 <;> cases g0 <;> cases d0 <;> simp
      · by_cases k4 : k = 4
        · subst k4; cases t1 <;> cases t0 <;> cases a0 <;> cases p0 <;> cases g0 <;> cases d0 <;> simp
        · have : (decide (k < 1) || decide (4 < k)) = true := by simp; omega
          simp [this, k1, k2, k3, k4]
theorem fewl {xa : List (List St)} {body : Int → Option (Int ⊕ (Unit ⊕ Bool))} (hn : xa.length ≤ 1000) (hb : ∀ i, body i = cond (decide (i < (((xa.length : Nat) : Int)))) ((getI xa i).bind fun x => (fn_ref15_Few x 20).bind fun t => cond (!t) (some (.inr ((.inr (false))))) (some (.inl (IntKind.wrap .i64 (i + 1))))) (some (.inr ((.inl ()))))) :
    loop body 0 = some (if xa.any (fun t => !decide (t.length ≤ 20)) then (Sum.inr false : Unit ⊕ Bool) else .inl ()) := by
  refine loop_some (β := Unit ⊕ Bool) xa (fun t => !decide (t.length ≤ 20)) (.inr false) (.inl ()) ?_ ?_
  · intro k hk
    rw [hb]
    simp only [dlt hk, cond_true, getN hk, Option.bind_some, w64s hk (by omega : xa.length ≤ 9223372036854775807), Few_eq]
    by_cases q : xa[k].length ≤ 20
    · have : decide (((xa[k].length : Nat) : Int) ≤ 20) = true := by simp; omega
      simp [this, q]
    · have : decide (((xa[k].length : Nat) : Int) ≤ 20) = false := by simp; omega
      simp [this, q]
  · rw [hb]; simp
theorem few_mem {xa : List (List St)} (h : xa.any (fun t => !decide (t.length ≤ 20)) = false) : ∀ t ∈ xa, t.length ≤ 20 := by
  intro t ht
  have := List.any_eq_false.1 h t ht
  simpa using this
theorem few17 (s : Sg) : fn_ref17_Few s = some false ∨ (fn_ref17_Few s = some true ∧ s.2.1.length ≤ 20 ∧ s.2.2.1.length ≤ 20 ∧ s.2.2.2.length ≤ 20 ∧ ∀ t ∈ s.2.2.1, t.length ≤ 20) := by
  unfold fn_ref17_Few
  by_cases h : 20 < s.2.1.length ∨ 20 < s.2.2.1.length
  · have : ((decide (20 < (((s.2.1.length : Nat) : Int)))) || (decide (20 < (((s.2.2.1.length : Nat) : Int))))) = true := by simp; omega
    rw [this]; exact .inl rfl
  · have : ((decide (20 < (((s.2.1.length : Nat) : Int)))) || (decide (20 < (((s.2.2.1.length : Nat) : Int))))) = false := by simp; omega
    rw [this, cond_false, Few_eq]
    by_cases q : s.2.2.2.length ≤ 20
    · have e : decide (((s.2.2.2.length : Nat) : Int) ≤ 20) = true := by simp; omega
      simp only [Option.bind_some, e, Bool.not_true, cond_false]
      rw [fewl (body := fn_ref17_Few_l1 s) (xa := s.2.2.1) (by omega) (fun i => rfl)]
      cases hf : s.2.2.1.any (fun t => !decide (t.length ≤ 20)) with
      | true => exact .inl rfl
      | false => exact .inr ⟨rfl, by omega, by omega, q, few_mem hf⟩
    · have e : decide (((s.2.2.2.length : Nat) : Int) ≤ 20) = false := by simp; omega
      simp only [Option.bind_some, e]; exact .inl rfl
def bad (n : Int) (xa : List Int) : Bool := xa.any (fun x => decide (x < 0) || decide (n ≤ x))
theorem contains_eq (xa : List Int) (n : Int) (hn : xa.length ≤ 1000) : fn_slices_ContainsFunc_int_int_k_term_beyond_1_p0_i xa n = some (bad n xa) := by
  unfold fn_slices_ContainsFunc_int_int_k_term_beyond_1_p0_i fn_slices_IndexFunc_int_int_k_term_beyond_1_p0_i
  rw [loop_search (body := fn_slices_IndexFunc_int_int_k_term_beyond_1_p0_i_l1 xa n) xa (fun x => decide (x < 0) || decide (n ≤ x)) (fun k => .inr (k : Int)) (.inl ()) ?_ ?_]
  · rcases find_cases xa (fun x => decide (x < 0) || decide (n ≤ x)) with ⟨k, h1, h2⟩ | ⟨h1, h2⟩
    · rw [h1]; unfold bad; simp [h2]
    · rw [h1]; unfold bad; simp [h2]
  · intro k hk
    unfold fn_slices_IndexFunc_int_int_k_term_beyond_1_p0_i_l1 fn_term_beyond_1_ip0_i
    simp only [dlt hk, cond_true, getN hk, Option.bind_some, w64s hk (by omega : xa.length ≤ 9223372036854775807)]
    cases (decide (xa[k] < 0) || decide (n ≤ xa[k])) <;> rfl
  · simp [fn_slices_IndexFunc_int_int_k_term_beyond_1_p0_i_l1]
theorem refWithin_eq (xa : List Int) (n : Int) (hn : xa.length ≤ 1000) : fn_ref19_within xa n = some (!bad n xa) := within_eq xa n (by omega)
abbrev Ar := Int × Int × List (List St) × List St × List Sg
theorem args_loop {x : Tm} {a : Ar} (hx : x.2.2.2.2.1.length ≤ 20) (hb : bad (a.2.2.1.length : Int) x.2.2.2.2.1 = false) (hL : ∀ t ∈ a.2.2.1, t.length ≤ 20) :
    ∃ C : List (List St), loop (fn_term_Needs_l1 x a) ([], 0) = some C ∧ (∀ t ∈ C, t.length ≤ 20) ∧ ∀ t ∈ C, t ∈ a.2.2.1 := by
  have hin (k : Nat) (hk : k < x.2.2.2.2.1.length) : 0 ≤ x.2.2.2.2.1[k] ∧ x.2.2.2.2.1[k] < (a.2.2.1.length : Int) := by
    have := List.any_eq_false.1 hb _ (List.getElem_mem hk)
    simp at this; omega
  have hl := loop_nat (body := fn_term_Needs_l1 x a) (fun k : Nat => ((x.2.2.2.2.1.take k).map (fun i => a.2.2.1.getD i.toNat []), (k : Int))) x.2.2.2.2.1.length (b := x.2.2.2.2.1.map (fun i => a.2.2.1.getD i.toNat [])) ?_ ?_
  · have hm : ∀ t ∈ x.2.2.2.2.1.map (fun i => a.2.2.1.getD i.toNat []), t ∈ a.2.2.1 := by
      intro t ht
      obtain ⟨i, hi, rfl⟩ := List.mem_map.1 ht
      obtain ⟨k, hk, rfl⟩ := List.getElem_of_mem hi
      have h2 := hin k hk
      have : x.2.2.2.2.1[k].toNat < a.2.2.1.length := by omega
      have e : a.2.2.1.getD x.2.2.2.2.1[k].toNat [] = a.2.2.1[x.2.2.2.2.1[k].toNat] := by simp [List.getD, this]
      rw [e]; exact List.getElem_mem _
    refine ⟨_, hl, fun t ht => ?_, hm⟩
    obtain ⟨i, hi, rfl⟩ := List.mem_map.1 ht
    obtain ⟨k, hk, rfl⟩ := List.getElem_of_mem hi
    have h2 := hin k hk
    have : x.2.2.2.2.1[k].toNat < a.2.2.1.length := by omega
    have e : a.2.2.1.getD x.2.2.2.2.1[k].toNat [] = a.2.2.1[x.2.2.2.2.1[k].toNat] := by simp [List.getD, this]
    rw [e]; exact hL _ (List.getElem_mem _)
  · intro k hk
    have h2 := hin k hk
    have h3 : x.2.2.2.2.1[k].toNat < a.2.2.1.length := by omega
    have e : a.2.2.1.getD x.2.2.2.2.1[k].toNat [] = a.2.2.1[x.2.2.2.2.1[k].toNat] := by simp [List.getD, h3]
    unfold fn_term_Needs_l1
    simp only [dlt hk, cond_true, getN hk, Option.bind_some]
    rw [getZ h2.1 h2.2, Option.bind_some, app_eq (by simp; omega), Option.bind_some, w64s hk (by omega), take_snoc hk, List.map_append]
    simp only [List.map_cons, List.map_nil, e]
  · simp [fn_term_Needs_l1]
theorem getD_good {R : Int} {names : List Int} (hR : 0 < R) (hn : bad R names = false) (i : Nat) : 0 ≤ names.getD i 0 ∧ names.getD i 0 < R := by
  by_cases q : i < names.length
  · have e : names.getD i 0 = names[i] := by simp [List.getD, q]
    rw [e]
    have := List.any_eq_false.1 hn _ (List.getElem_mem q)
    simp at this; omega
  · have e : names.getD i 0 = 0 := by simp [List.getD, List.getElem?_eq_none (Nat.not_lt.1 q)]
    rw [e]; omega
theorem sbs_good {R : Int} {names : List Int} (hR : 0 < R) (hn : bad R names = false) {t : List St} : rin R (t.map (sbs names)) = false := by
  refine rin_of fun x hx => ?_
  obtain ⟨y, _, rfl⟩ := List.mem_map.1 hx
  exact getD_good hR hn _
theorem csp_good {R : Int} {s : Sg} {names : List Int} {C : List (List St)} {D : List St} (hR : 0 < R) (hn : bad R names = false) (hC : ∀ t ∈ C, t.length ≤ 20 ∧ rin R t = false) (hD : rin R D = false) (hs : s.2.1.length ≤ 20 ∧ s.2.2.1.length ≤ 20 ∧ s.2.2.2.length ≤ 20) : ∀ n ∈ (csp s names C D).1, Gd R n := by
  intro n h
  unfold csp at h
  split at h
  · simp at h
  split at h
  · simp at h
  split at h
  · simp at h
  split at h
  · have hb : ∀ k, k ≤ 20 → ∀ n ∈ bds names s.2.1 k, Gd R n := by
      intro k
      induction k with
      | zero => intro _ n hn; simp [bds] at hn
      | succ k ih =>
        intro hk n hn'
        simp only [bds, List.mem_append, List.mem_singleton] at hn'
        rcases hn' with hn' | rfl
        · exact ih (by omega) n hn'
        · exact ⟨getD_good hR hn _, getD_good hR hn _, by simp, by show (0 : Int) ≤ (k : Int); omega, by show (k : Int) ≤ _; omega⟩
    have hf : ∀ k, k ≤ 20 → ∀ n ∈ fls names s.2.2.1 C k, Gd R n := by
      intro k
      induction k with
      | zero => intro _ n hn; simp [fls] at hn
      | succ k ih =>
        intro hk n hn'
        simp only [fls, List.mem_append] at hn'
        rcases hn' with hn' | hn'
        · exact ih (by omega) n hn'
        · unfold fl at hn'
          have hc : (C.getD k []).length ≤ 20 ∧ rin R (C.getD k []) = false := by
            by_cases q : k < C.length
            · have e : C.getD k [] = C[k] := by simp [List.getD, q]
              rw [e]; exact hC _ (List.getElem_mem q)
            · have e : C.getD k [] = [] := by simp [List.getD, List.getElem?_eq_none (Nat.not_lt.1 q)]
              rw [e]; exact ⟨by simp, rfl⟩
          exact rel_good (by decide) _ _ _ (by omega) (by omega) hc.2 (sbs_good hR hn) n hn'
    rcases List.mem_append.1 h with h | h
    · rcases List.mem_append.1 h with h | h
      · exact hb _ hs.1 n h
      · exact hf _ hs.2.1 n h
    · exact rel_good (by decide) _ _ 0 (by omega) (by simp; omega) (sbs_good hR hn) hD n h
  · simp at h
theorem needs19 (x : Tm) (a : Ar) (l2 : x.2.2.2.1.length ≤ 20) (l3 : x.2.2.2.2.1.length ≤ 20) (l4 : x.2.2.2.2.2.length ≤ 20) (hR : a.2.2.2.1.length ≤ 20) (hL : ∀ t ∈ a.2.2.1, t.length ≤ 20) (hS : ∀ s ∈ a.2.2.2.2, s.2.1.length ≤ 20 ∧ s.2.2.1.length ≤ 20 ∧ s.2.2.2.length ≤ 20 ∧ ∀ t ∈ s.2.2.1, t.length ≤ 20) :
    ∃ l e, fn_term_Needs x a = some (l, e) ∧ fn_ref19_Needs x a = some (l, e) ∧ l.length ≤ 1000000 ∧ ((0 < a.2.1 ∧ (∀ t ∈ a.2.2.1, rin a.2.1 t = false) ∧ rin a.2.1 a.2.2.2.1 = false) → ∀ n ∈ l, Gd a.2.1 n) := by
  have same : fn_ref19_Needs_l1 x a = fn_term_Needs_l1 x a := rfl
  unfold fn_term_Needs fn_ref19_Needs
  rw [show fn_term_form (x.1, x.2.1, x.2.2.1, x.2.2.2.1, x.2.2.2.2.1, x.2.2.2.2.2) = some (tForm x) from tForm_eq x, show fn_ref19_Form (x.1, x.2.1, x.2.2.1, x.2.2.2.1, x.2.2.2.2.1, x.2.2.2.2.2) = some (tForm x) from refTForm_eq x, same]
  have hw : fn_term_within (x.1, x.2.1, x.2.2.1, x.2.2.2.1, x.2.2.2.2.1, x.2.2.2.2.2) (a.1, a.2.1, a.2.2.1, a.2.2.2.1, a.2.2.2.2) = some (!(bad a.1 x.2.2.2.1 || bad (a.2.2.1.length : Int) x.2.2.2.2.1 || bad a.2.1 x.2.2.2.2.2 || (decide (x.1 = 4) && (bad (a.2.2.1.length : Int) [x.2.2.1] || bad (a.2.2.2.2.length : Int) [x.2.1])))) := by
    unfold fn_term_within fn_term_beyond fn_term_beyond_1_ip0_i
    simp only [Option.bind_some, contains_eq x.2.2.2.1 _ (by omega : x.2.2.2.1.length ≤ 1000), contains_eq x.2.2.2.2.1 _ (by omega : x.2.2.2.2.1.length ≤ 1000), contains_eq x.2.2.2.2.2 _ (by omega : x.2.2.2.2.2.length ≤ 1000)]
    have e (n i : Int) : bad n [i] = (decide (i < 0) || decide (n ≤ i)) := by simp [bad]
    rw [e, e]
    cases bad a.1 x.2.2.2.1 <;> cases bad (a.2.2.1.length : Int) x.2.2.2.2.1 <;> cases bad a.2.1 x.2.2.2.2.2 <;> cases decide (x.1 = 4) <;> cases (decide (x.2.2.1 < 0) || decide ((a.2.2.1.length : Int) ≤ x.2.2.1)) <;> cases (decide (x.2.1 < 0) || decide ((a.2.2.2.2.length : Int) ≤ x.2.1)) <;> rfl
  rw [hw]
  by_cases hf : tForm x = 0
  · have o1 (i n : Int) : fn_ref19_within [i] n = some (!bad n [i]) := refWithin_eq [i] n (by simp)
    simp only [hf, Option.bind_some, decide_true, Bool.not_true, cond_false, refWithin_eq x.2.2.2.1 _ (by omega : x.2.2.2.1.length ≤ 1000), refWithin_eq x.2.2.2.2.1 _ (by omega : x.2.2.2.2.1.length ≤ 1000), refWithin_eq x.2.2.2.2.2 _ (by omega : x.2.2.2.2.2.length ≤ 1000), o1, Bool.not_not]
    have seven : ∃ l e, (some (([] : List Nd), (7 : Int)) : Option (List Nd × Int)) = some (l, e) ∧ (some (([] : List Nd), (7 : Int)) : Option (List Nd × Int)) = some (l, e) ∧ l.length ≤ 1000000 ∧ ((0 < a.2.1 ∧ (∀ t ∈ a.2.2.1, rin a.2.1 t = false) ∧ rin a.2.1 a.2.2.2.1 = false) → ∀ n ∈ l, Gd a.2.1 n) := ⟨[], 7, rfl, rfl, by simp, by simp⟩
    cases b1 : bad a.1 x.2.2.2.1 with
    | true => exact seven
    | false =>
      cases b2 : bad (a.2.2.1.length : Int) x.2.2.2.2.1 with
      | true => exact seven
      | false =>
        cases b3 : bad a.2.1 x.2.2.2.2.2 with
        | true => exact seven
        | false =>
          by_cases k4 : x.1 = 4
          · have n3 : ¬ x.1 = 3 := by omega
            rw [decide_eq_true k4, decide_eq_false n3]
            cases b4 : bad (a.2.2.1.length : Int) [x.2.2.1] with
            | true => exact seven
            | false =>
              cases b5 : bad (a.2.2.2.2.length : Int) [x.2.1] with
              | true => exact seven
              | false =>
                obtain ⟨C, c1, c2, c3⟩ := args_loop l3 b2 hL
                simp [bad] at b4 b5
                simp only [Bool.or_self, Bool.and_false, Bool.not_false, Bool.not_true, cond_false, cond_true, Option.bind_some, c1, Bool.false_and, Bool.true_and]
                rw [getZ b5.1 b5.2, getZ b4.1 b4.2]
                have hs := hS _ (List.getElem_mem (l := a.2.2.2.2) (n := x.2.1.toNat) (by omega))
                have ht := hL _ (List.getElem_mem (l := a.2.2.1) (n := x.2.2.1.toNat) (by omega))
                have hDm := List.getElem_mem (l := a.2.2.1) (n := x.2.2.1.toNat) (by omega)
                simp only [Option.bind_some]
                generalize a.2.2.2.2[x.2.1.toNat] = S at hs ⊢
                generalize a.2.2.1[x.2.2.1.toNat] = D at ht hDm ⊢
                rw [show fn_sig_Call (S.1, S.2.1, S.2.2.1, S.2.2.2) x.2.2.2.2.2 C D = _ from sigCall_eq S _ C D hs.2.2.1 hs.2.2.2 c2 ht, show fn_ref17_Call (S.1, S.2.1, S.2.2.1, S.2.2.2) x.2.2.2.2.2 C D = _ from refCall_eq S _ C D hs.2.2.1 hs.2.2.2 c2 ht]
                have hn := csp_len S x.2.2.2.2.2 C D ⟨hs.1, hs.2.1, hs.2.2.1⟩ c2
                exact ⟨(csp S x.2.2.2.2.2 C D).1, (csp S x.2.2.2.2.2 C D).2, rfl, rfl, hn, fun hg => csp_good hg.1 b3 (fun t ht => ⟨c2 t ht, hg.2.1 t (c3 t ht)⟩) (hg.2.1 _ hDm) ⟨hs.1, hs.2.1, hs.2.2.1⟩⟩
          · rw [decide_eq_false k4]
            by_cases k3 : x.1 = 3
            · rw [decide_eq_true k3]
              cases hz : a.2.2.1 with
              | nil => exact ⟨[], 14, by simp, by simp, by simp, by simp⟩
              | cons t ts =>
                have ht := hL t (by rw [hz]; simp)
                have hl0 : decide ((((t :: ts).length : Nat) : Int) = 0) = false := decide_eq_false (by simp; omega)
                simp only [hl0, Bool.or_self, Bool.and_false, Bool.false_and, Bool.not_false, Bool.not_true, cond_false, cond_true, Option.bind_some, show getI (t :: ts) 0 = some t from rfl]
                rw [relFlow_eq _ _ _ _ (by omega) (by omega) (by omega), refFlow_eq _ _ _ _ (by omega) (by omega) (by omega)]
                have hr := rel_len 7 t a.2.2.2.1 0
                by_cases q : shp t a.2.2.2.1 = true
                · exact ⟨rel 7 0 t a.2.2.2.1, 0, by simp [q], by simp [q], by omega, fun hg => rel_good (by decide) _ _ 0 (by omega) (by omega) (hg.2.1 t (by simp)) hg.2.2⟩
                · exact ⟨[], 8, by simp [q], by simp [q], by simp, by simp⟩
            · rw [decide_eq_false k3]
              exact ⟨[], 0, rfl, rfl, by simp, by simp⟩
  · exact ⟨[], tForm x, by simp [hf], by simp [hf], by simp, by simp⟩
end Go.Proofs.Ytkpdfepjanfmbaa
namespace Go.Proofs.Ytkpdfepjanfmbaa
open Go.RowKit
set_option linter.unusedVariables false
set_option linter.unnecessarySimpa false
set_option linter.unusedSimpArgs false
abbrev tySg : Tp := .cons (.int .i64) (.cons (.sl (.cons (.int .i64) (.one (.int .i64)))) (.cons (.sl (.one (.sl (.cons (.int .i64) (.one .bool))))) (.one (.one (.sl (.cons (.int .i64) (.one .bool)))))))
abbrev tyTm : Tp := .cons (.int .i64) (.cons (.int .i64) (.cons (.int .i64) (.cons (.sl (.int .i64)) (.cons (.sl (.int .i64)) (.one (.sl (.int .i64)))))))
abbrev tyBody : Tp := .cons (.int .i64) (.cons (.int .i64) (.cons (.sl (.cons (.int .i64) (.one (.int .i64)))) (.cons (.sl (.one (.sl (.cons (.int .i64) (.one .bool))))) (.cons (.one (.sl (.cons (.int .i64) (.one .bool)))) (.cons (.sl tySg) (.one (.sl (.cons (.sl (.cons (.int .i64) (.cons (.int .i64) (.cons (.int .i64) (.cons (.int .i64) (.one .bool)))))) (.one tyTm)))))))))
abbrev Blk := List Stm × Tm
abbrev Bo := Int × Int × List (Int × Int) × List (List St) × List St × List Sg × List Blk
def stm (l : List Blk) : Nat := (l.map (fun x => x.1.length)).sum
structure Sm (b : Bo) : Prop where
  bounds : b.2.2.1.length ≤ 20
  locals : b.2.2.2.1.length ≤ 10
  loc : ∀ t ∈ b.2.2.2.1, t.length ≤ 20
  ret : b.2.2.2.2.1.length ≤ 20
  sigs : b.2.2.2.2.2.1.length ≤ 4
  sig : ∀ s ∈ b.2.2.2.2.2.1, s.2.1.length ≤ 20 ∧ s.2.2.1.length ≤ 20 ∧ s.2.2.2.length ≤ 20 ∧ ∀ t ∈ s.2.2.1, t.length ≤ 20
  blocks : b.2.2.2.2.2.2.length ≤ 8
  term : ∀ x ∈ b.2.2.2.2.2.2, x.2.2.2.2.1.length ≤ 20 ∧ x.2.2.2.2.2.1.length ≤ 20 ∧ x.2.2.2.2.2.2.length ≤ 20
  many : stm b.2.2.2.2.2.2 ≤ 24
theorem sum_mem {α : Type} (f : α → Nat) : ∀ (l : List α) (x : α), x ∈ l → f x ≤ (l.map f).sum
  | [], x, h => by cases h
  | y :: l, x, h => by
    rcases List.mem_cons.1 h with rfl | h
    · simp
    · have := sum_mem f l x h; simp; omega
theorem sum_take {α : Type} (f : α → Nat) (l : List α) (k : Nat) : ((l.take k).map f).sum ≤ (l.map f).sum := by
  have : l.map f = (l.take k).map f ++ (l.drop k).map f := by rw [← List.map_append, List.take_append_drop]
  rw [this, List.sum_append]; omega
theorem Sm.stmts {b : Bo} (h : Sm b) {x : Blk} (hx : x ∈ b.2.2.2.2.2.2) : x.1.length ≤ 24 := by
  have := sum_mem (fun x : Blk => x.1.length) _ x hx
  have := h.many; unfold stm at this; omega
theorem stm_snoc {X : List Blk} {k : Nat} (hk : k < X.length) : stm (X.take (k + 1)) = stm (X.take k) + X[k].1.length := by
  unfold stm; rw [take_snoc hk, List.map_append, List.sum_append]; simp
theorem dlt20 (n : Nat) (m : Nat) : decide ((m : Int) < (n : Int)) = decide (m < n) := by by_cases h : m < n <;> simp [h] <;> omega
theorem fit_body {b : Bo} (h : Tp.Fit tyBody b) : ∀ x ∈ b.2.2.2.2.2.2, x.1.length ≤ 140737488351232 := by
  obtain ⟨_, _, _, _, _, _, _, h2⟩ := h
  exact fun x hx => (h2 x hx).1.1
/-- Is a body small? -/
theorem small20 (b : Bo) (hb : ∀ x ∈ b.2.2.2.2.2.2, x.1.length ≤ 140737488351232) : fn_ref20_Small b = some false ∨ (fn_ref20_Small b = some true ∧ Sm b) := by
  obtain ⟨u, n, B, L, R, S, X⟩ := b
  unfold fn_ref20_Small
  dsimp only at *
  have e1 : ((((decide (20 < (((B.length : Nat) : Int)))) || (decide (10 < (((L.length : Nat) : Int))))) || (decide (4 < (((S.length : Nat) : Int))))) || (decide (8 < (((X.length : Nat) : Int))))) = decide (20 < B.length ∨ 10 < L.length ∨ 4 < S.length ∨ 8 < X.length) := by
    by_cases h1 : 20 < B.length <;> by_cases h2 : 10 < L.length <;> by_cases h3 : 4 < S.length <;> by_cases h4 : 8 < X.length <;> simp [h1, h2, h3, h4] <;> omega
  rw [e1]
  by_cases h0 : 20 < B.length ∨ 10 < L.length ∨ 4 < S.length ∨ 8 < X.length
  · rw [decide_eq_true h0]; exact .inl rfl
  · rw [decide_eq_false h0, cond_false, Few_eq]
    by_cases q : R.length ≤ 20
    · have e : decide (((R.length : Nat) : Int) ≤ 20) = true := by simp; omega
      simp only [Option.bind_some, e, Bool.not_true, cond_false]
      rw [fewl (body := fn_ref20_Small_l1 (u, n, B, L, R, S, X)) (xa := L) (by omega) (fun i => rfl)]
      cases hf : L.any (fun t => !decide (t.length ≤ 20)) with
      | true => exact .inl rfl
      | false =>
        simp only [Bool.false_eq_true, if_false, Option.bind_some]
        have hS : ∃ t, loop (fn_ref20_Small_l2 (u, n, B, L, R, S, X)) 0 = some t ∧ (t = .inr false ∨ (t = .inl () ∧ ∀ s ∈ S, s.2.1.length ≤ 20 ∧ s.2.2.1.length ≤ 20 ∧ s.2.2.2.length ≤ 20 ∧ ∀ t ∈ s.2.2.1, t.length ≤ 20)) := by
          have hl := loop_find (body := fn_ref20_Small_l2 (u, n, B, L, R, S, X)) (fun k => ∃ h : k < S.length, fn_ref17_Few S[k] = some false) (fun k : Nat => (k : Int)) S.length (fun _ => .inr false) (.inl ()) ?_ ?_ ?_
          · rcases hl with ⟨k, _, _, _, h4⟩ | ⟨h1, h2⟩
            · exact ⟨_, h4, .inl rfl⟩
            · refine ⟨_, h2, .inr ⟨rfl, fun s hs => ?_⟩⟩
              obtain ⟨k, hk, rfl⟩ := List.getElem_of_mem hs
              rcases few17 S[k] with h | ⟨h, f1, f2, f3, f4⟩
              · exact absurd ⟨hk, h⟩ (h1 k hk)
              · exact ⟨f1, f2, f3, f4⟩
          · intro k hk hp
            unfold fn_ref20_Small_l2
            rcases few17 S[k] with h | ⟨h, _⟩
            · exact absurd ⟨hk, h⟩ hp
            · simp only [dlt hk, cond_true, getN hk, Option.bind_some, show fn_ref17_Few (S[k].1, S[k].2.1, S[k].2.2.1, S[k].2.2.2) = _ from h, w64s hk (by omega : S.length ≤ 9223372036854775807)]
              rfl
          · rintro k hk ⟨_, hp⟩
            unfold fn_ref20_Small_l2
            simp only [dlt hk, cond_true, getN hk, Option.bind_some, show fn_ref17_Few (S[k].1, S[k].2.1, S[k].2.2.1, S[k].2.2.2) = _ from hp]
            rfl
          · simp [fn_ref20_Small_l2]
        obtain ⟨t, ht, hS⟩ := hS
        rw [ht]
        rcases hS with rfl | ⟨rfl, hS⟩
        · exact .inl rfl
        · simp only [Option.bind_some]
          have hX := loop_find (body := fn_ref20_Small_l3 (u, n, B, L, R, S, X)) (fun k => ∃ h : k < X.length, (((decide (20 < ((((X[k]).2.2.2.2.1.length : Nat) : Int)))) || (decide (20 < ((((X[k]).2.2.2.2.2.1.length : Nat) : Int))))) || (decide (20 < ((((X[k]).2.2.2.2.2.2.length : Nat) : Int))))) = true) (fun k : Nat => (((stm (X.take k) : Nat) : Int), (k : Int))) X.length (fun _ => .inr false) (.inl ((stm X : Nat) : Int)) ?_ ?_ ?_
          · rcases hX with ⟨k, _, _, _, h4⟩ | ⟨h1, h2⟩
            · have h4' : loop (fn_ref20_Small_l3 (u, n, B, L, R, S, X)) (0, 0) = some (.inr false) := by simpa [stm] using h4
              rw [h4']; exact .inl rfl
            · have h2' : loop (fn_ref20_Small_l3 (u, n, B, L, R, S, X)) (0, 0) = some (.inl ((stm X : Nat) : Int)) := by simpa [stm] using h2
              rw [h2']
              by_cases hm : stm X ≤ 24
              · refine .inr ⟨by simp; omega, ⟨by dsimp only; omega, by dsimp only; omega, few_mem hf, q, by dsimp only; omega, hS, by dsimp only; omega, fun x hx => ?_, hm⟩⟩
                obtain ⟨k, hk, rfl⟩ := List.getElem_of_mem hx
                have hn := h1 k hk
                dsimp only at hk hn
                have hn2 : (((decide (20 < ((((X[k]).2.2.2.2.1.length : Nat) : Int)))) || (decide (20 < ((((X[k]).2.2.2.2.2.1.length : Nat) : Int))))) || (decide (20 < ((((X[k]).2.2.2.2.2.2.length : Nat) : Int))))) = false := by
                  cases hc : (((decide (20 < ((((X[k]).2.2.2.2.1.length : Nat) : Int)))) || (decide (20 < ((((X[k]).2.2.2.2.2.1.length : Nat) : Int))))) || (decide (20 < ((((X[k]).2.2.2.2.2.2.length : Nat) : Int))))) with
                  | false => rfl
                  | true => exact absurd ⟨hk, hc⟩ hn
                simp at hn2
                dsimp only
                omega
              · refine .inl ?_
                simp; omega
          · intro k hk hp
            have hn2 : (((decide (20 < ((((X[k]).2.2.2.2.1.length : Nat) : Int)))) || (decide (20 < ((((X[k]).2.2.2.2.2.1.length : Nat) : Int))))) || (decide (20 < ((((X[k]).2.2.2.2.2.2.length : Nat) : Int))))) = false := by
              cases hc : (((decide (20 < ((((X[k]).2.2.2.2.1.length : Nat) : Int)))) || (decide (20 < ((((X[k]).2.2.2.2.2.1.length : Nat) : Int))))) || (decide (20 < ((((X[k]).2.2.2.2.2.2.length : Nat) : Int))))) with
              | false => rfl
              | true => exact absurd ⟨hk, hc⟩ hp
            have a1 := hb X[k] (List.getElem_mem hk)
            have a2 : stm (X.take k) ≤ k * 140737488351232 := by
              unfold stm
              have : ∀ q : List Blk, (∀ x ∈ q, x ∈ X) → (q.map (fun x => x.1.length)).sum ≤ q.length * 140737488351232 := by
                intro q
                induction q with
                | nil => intro _; simp
                | cons x q ih =>
                  intro hq
                  have := ih (fun y hy => hq y (by simp [hy]))
                  have := hb x (hq x (by simp))
                  simp only [List.map_cons, List.sum_cons, List.length_cons, Nat.succ_mul]; omega
              have h3 := this (X.take k) (fun x hx => List.mem_of_mem_take hx)
              rw [List.length_take, Nat.min_eq_left (by omega)] at h3
              exact h3
            have a3 : k ≤ 8 := by omega
            have a4 : k * 140737488351232 ≤ 8 * 140737488351232 := Nat.mul_le_mul_right _ a3
            unfold fn_ref20_Small_l3
            simp only [dlt hk, cond_true, getN hk, Option.bind_some, hn2, cond_false, w64s hk (by omega : X.length ≤ 9223372036854775807)]
            rw [w64 (by omega) (by omega), stm_snoc hk]
            simp
          · rintro k hk ⟨_, hp⟩
            unfold fn_ref20_Small_l3
            simp only [dlt hk, cond_true, getN hk, Option.bind_some, hp]
          · unfold fn_ref20_Small_l3
            simp
    · have e : decide (((R.length : Nat) : Int) ≤ 20) = false := by simp; omega
      simp only [Option.bind_some, e]; exact .inl rfl
end Go.Proofs.Ytkpdfepjanfmbaa
namespace Go.Proofs.Ytkpdfepjanfmbaa
open Go.RowKit
set_option linter.unusedVariables false
set_option linter.unnecessarySimpa false
set_option linter.unusedSimpArgs false
abbrev Flt := Int × Int × Int × Int
noncomputable def sE (L : List (List St)) (R : Int) (x : Stm) : Int := ((fn_ref18_Needs x L R).getD ([], 0)).2
noncomputable def tE (a : Ar) (x : Tm) : Int := ((fn_ref19_Needs x a).getD ([], 0)).2
def arOf (b : Bo) : Ar := (((b.2.2.2.2.2.2.length : Nat) : Int), b.2.1, b.2.2.2.1, b.2.2.2.2.1, b.2.2.2.2.2.1)
def vHead (b : Bo) : Flt := if b.1 < 1 ∨ b.2.1 < b.1 then (7, 0, 0, 0) else if 65536 < b.2.1 then (6, 0, 0, 0) else (0, 0, 0, 0)
def vBounds (b : Bo) : Flt := match b.2.2.1.findIdx? (bad1 b.1) with | some k => (7, 1, (k : Int), 0) | none => (0, 0, 0, 0)
def vLoc (b : Bo) : Flt := if b.2.2.2.1 = [] then (14, 2, 0, 0) else match b.2.2.2.1.findIdx? (fun t => !decide (rck b.2.1 t = 0)) with | some k => (rck b.2.1 (b.2.2.2.1.getD k []), 2, (k : Int), 0) | none => (0, 0, 0, 0)
def vRet (b : Bo) : Flt := if rck b.1 b.2.2.2.2.1 = 0 then if shp b.2.2.2.2.1 (b.2.2.2.1.getD 0 []) then (0, 3, 0, 0) else (8, 3, 0, 0) else (rck b.1 b.2.2.2.2.1, 3, 0, 0)
def vSig (b : Bo) : Flt := match b.2.2.2.2.2.1.findIdx? (fun s => !decide (chk s = 0)) with | some k => (chk (b.2.2.2.2.2.1.getD k (0, [], [], [])), 4, (k : Int), 0) | none => (0, 0, 0, 0)
def vBlk (b : Bo) : Flt := if b.2.2.2.2.2.2 = [] then (14, 5, 0, 0) else (0, 0, 0, 0)
noncomputable def blkE (b : Bo) (x : Blk) : Option (Int × Int × Int) :=
  match x.1.findIdx? (fun s => !decide (sE b.2.2.2.1 b.2.1 s = 0)) with
  | some j => some (sE b.2.2.2.1 b.2.1 (x.1.getD j (0, 0, 0, 0, false)), 6, (j : Int))
  | none => if tE (arOf b) x.2 = 0 then none else some (tE (arOf b) x.2, 7, 0)
def fltOf (k : Nat) (o : Option (Int × Int × Int)) : Flt := match o with | some (e, p, j) => (e, p, (k : Int), j) | none => (0, 0, 0, 0)
noncomputable def vCode (b : Bo) : Flt := match b.2.2.2.2.2.2.findIdx? (fun x => (blkE b x).isSome) with | some k => fltOf k (blkE b (b.2.2.2.2.2.2.getD k ([], 0, 0, 0, [], [], []))) | none => (0, 0, 0, 0)
def or0 (a b : Flt) : Flt := if a.1 = 0 then b else a
noncomputable def vck (b : Bo) : Flt := or0 (vHead b) (or0 (vBounds b) (or0 (vLoc b) (or0 (vRet b) (or0 (vSig b) (or0 (vBlk b) (vCode b))))))
theorem rowCheck20 {t : List St} (n : Int) (h : t.length ≤ 20) : fn_row_Check t n = some (rck n t) := rowCheck_eq t n (by omega)
section
variable {b : Bo} (h : Sm b)
include h
theorem stmtE {x : Stm} : ∃ l, fn_stmt_Needs x b.2.2.2.1 b.2.1 = some (l, sE b.2.2.2.1 b.2.1 x) ∧ fn_ref18_Needs x b.2.2.2.1 b.2.1 = some (l, sE b.2.2.2.1 b.2.1 x) := by
  obtain ⟨l, e, h1, h2, _⟩ := stmtNeeds_eq x b.2.2.2.1 b.2.1 h.loc
  have : sE b.2.2.2.1 b.2.1 x = e := by unfold sE; rw [h2]; rfl
  exact ⟨l, by rw [h1, this], by rw [h2, this]⟩
theorem termE {x : Blk} (hx : x ∈ b.2.2.2.2.2.2) : ∃ l, fn_term_Needs x.2 (arOf b) = some (l, tE (arOf b) x.2) ∧ fn_ref19_Needs x.2 (arOf b) = some (l, tE (arOf b) x.2) := by
  obtain ⟨a1, a2, a3⟩ := h.term x hx
  obtain ⟨l, e, h1, h2, _⟩ := needs19 x.2 (arOf b) a1 a2 a3 h.ret h.loc h.sig
  have : tE (arOf b) x.2 = e := by unfold tE; rw [h2]; rfl
  exact ⟨l, by rw [h1, this], by rw [h2, this]⟩
theorem sgl {s : Sg} (hs : s ∈ b.2.2.2.2.2.1) : fn_sig_Check s = some (chk s) := by
  obtain ⟨a1, a2, a3, a4⟩ := h.sig s hs
  exact sigCheck_eq s (by omega) (fun t ht => by have := a4 t ht; omega)
theorem refHead_eq : fn_ref21_head b = some (or0 (vHead b) (vBounds b)) := by
  have h1 := h.bounds
  obtain ⟨u, n, B, L, R, S, X⟩ := b
  unfold fn_ref21_head vHead vBounds or0
  dsimp only at *
  by_cases q : u < 1 ∨ n < u
  · have : (decide (u < 1) || decide (n < u)) = true := by simpa using q
    rw [this, if_pos q]; rfl
  · have : (decide (u < 1) || decide (n < u)) = false := by simpa using q
    rw [this, if_neg q, cond_false]
    by_cases q2 : 65536 < n
    · rw [decide_eq_true q2, if_pos q2]; rfl
    · rw [decide_eq_false q2, if_neg q2, cond_false, decide_eq_false (by omega), cond_false, loop_search (body := fn_ref21_head_l1 (u, n, B, L, R, S, X)) B (bad1 u) (fun k => (.inr (7, 1, (k : Int), 0) : Unit ⊕ Flt)) (.inl ()) ?_ ?_]
      · cases B.findIdx? (bad1 u) <;> rfl
      · intro k hk
        unfold fn_ref21_head_l1
        simp only [dlt hk, cond_true, getN hk, Option.bind_some, w64s hk (by omega : B.length ≤ 9223372036854775807)]
        show cond (bad1 u B[k]) _ _ = _
        cases bad1 u B[k] <;> rfl
      · simp [fn_ref21_head_l1]
theorem refTypes21_eq : fn_ref21_types b = some (or0 (vLoc b) (or0 (vRet b) (vSig b))) := by
  have h1 := h.locals
  have h2 := h.sigs
  have h3 := h.ret
  have h4 := h.loc
  obtain ⟨u, n, B, L, R, S, X⟩ := b
  unfold fn_ref21_types vLoc vRet vSig
  dsimp only at *
  by_cases q : L = []
  · subst q; rfl
  · have q' : ¬ ((L.length : Nat) : Int) = 0 := fun hc => q (List.length_eq_zero_iff.1 (by omega))
    rw [if_neg q, decide_eq_false q', cond_false, decide_eq_false (by omega), cond_false, loop_search (body := fn_ref21_types_l1 (u, n, B, L, R, S, X)) L (fun t => !decide (rck n t = 0)) (fun k => (.inr (rck n (L.getD k []), 2, (k : Int), 0) : Unit ⊕ Flt)) (.inl ()) ?_ ?_]
    · cases hf : L.findIdx? (fun t => !decide (rck n t = 0)) with
      | some k =>
        obtain ⟨hk, h5, _⟩ := List.findIdx?_eq_some_iff_getElem.1 hf
        have e : L.getD k [] = L[k] := by simp [List.getD, hk]
        have : ¬ rck n L[k] = 0 := by simpa using h5
        simp only [or0, e, if_neg this]; rfl
      | none =>
        have hp : 0 < L.length := List.length_pos_iff.2 q
        have e0 : L.getD 0 [] = L[0] := by simp [List.getD, hp]
        simp only [Option.bind_some, refCheck_eq]
        by_cases q2 : rck u R = 0
        · have g0 : getI L 0 = some L[0] := getN (k := 0) hp
          simp only [q2, decide_true, Bool.not_true, cond_false, g0, Option.bind_some, e0]
          rw [refShape_eq _ _ (by have := h4 L[0] (List.getElem_mem hp); omega), shp_comm, Option.bind_some]
          cases hs : shp R L[0] with
          | false => rfl
          | true =>
            simp only [Bool.not_true, cond_false]
            rw [decide_eq_false (by omega), cond_false, loop_search (body := fn_ref21_types_l2 (u, n, B, L, R, S, X)) S (fun s => !decide (chk s = 0)) (fun k => (.inr (chk (S.getD k (0, [], [], [])), 4, (k : Int), 0) : Unit ⊕ Flt)) (.inl ()) ?_ ?_]
            · cases S.findIdx? (fun s => !decide (chk s = 0)) <;> rfl
            · intro k hk
              unfold fn_ref21_types_l2
              have e : S.getD k (0, [], [], []) = S[k] := by simp [List.getD, hk]
              simp only [dlt hk, cond_true, getN hk, Option.bind_some, w64s hk (by omega : S.length ≤ 9223372036854775807), e, show fn_ref17_Check (S[k].1, S[k].2.1, S[k].2.2.1, S[k].2.2.2) = _ from refSCheck_eq S[k]]
              cases (!decide (chk S[k] = 0)) <;> rfl
            · simp [fn_ref21_types_l2]
        · simp [q2, or0]
    · intro k hk
      unfold fn_ref21_types_l1
      have e : L.getD k [] = L[k] := by simp [List.getD, hk]
      simp only [dlt hk, cond_true, getN hk, Option.bind_some, w64s hk (by omega : L.length ≤ 9223372036854775807), e, refCheck_eq]
      cases (!decide (rck n L[k] = 0)) <;> rfl
    · simp [fn_ref21_types_l1]
theorem refBlocks21_eq : fn_ref21_blocks b = some (or0 (vBlk b) (vCode b)) := by
  have h1 := h.blocks
  have h2 := h.many
  have hst := fun x (hx : x ∈ b.2.2.2.2.2.2) => h.stmts hx
  have hT := fun x (hx : x ∈ b.2.2.2.2.2.2) => termE h hx
  have hS := fun x => stmtE h (x := x)
  unfold fn_ref21_blocks vBlk vCode
  by_cases q : b.2.2.2.2.2.2 = []
  · rw [if_pos q, q]; rfl
  · have q' : ¬ ((b.2.2.2.2.2.2.length : Nat) : Int) = 0 := fun hc => q (List.length_eq_zero_iff.1 (by omega))
    rw [if_neg q, decide_eq_false q', cond_false, decide_eq_false (by omega), cond_false]
    have hl1 := loop_nat (body := fn_ref21_blocks_l1 b) (fun k : Nat => (((stm (b.2.2.2.2.2.2.take k) : Nat) : Int), (k : Int))) b.2.2.2.2.2.2.length (b := .inl ()) ?_ ?_
    · have hl1' : loop (fn_ref21_blocks_l1 b) (0, 0) = some (.inl ()) := by simpa [stm] using hl1
      rw [hl1', Option.bind_some]
      dsimp only
      rw [loop_search (body := fn_ref21_blocks_l3 b) b.2.2.2.2.2.2 (fun x => (blkE b x).isSome) (fun k => (.inr (fltOf k (blkE b (b.2.2.2.2.2.2.getD k ([], 0, 0, 0, [], [], [])))) : Unit ⊕ Flt)) (.inl ()) ?_ ?_]
      · cases b.2.2.2.2.2.2.findIdx? (fun x => (blkE b x).isSome) <;> rfl
      · intro k hk
        unfold fn_ref21_blocks_l3
        have e : b.2.2.2.2.2.2.getD k ([], 0, 0, 0, [], [], []) = b.2.2.2.2.2.2[k] := by simp [List.getD, hk]
        obtain ⟨l, _, hT'⟩ := hT _ (List.getElem_mem hk)
        have hst' := hst _ (List.getElem_mem hk)
        simp only [dlt hk, cond_true, getN hk, Option.bind_some, w64s hk (by omega : b.2.2.2.2.2.2.length ≤ 9223372036854775807), e]
        generalize b.2.2.2.2.2.2[k] = x at *
        rw [loop_search (body := fn_ref21_blocks_l2 b k x) x.1 (fun s => !decide (sE b.2.2.2.1 b.2.1 s = 0)) (fun j => (.inr (.inr (.inr (sE b.2.2.2.1 b.2.1 (x.1.getD j (0, 0, 0, 0, false)), 6, (k : Int), (j : Int)))) : Unit ⊕ (Int ⊕ (Unit ⊕ Flt)))) (.inl ()) ?_ ?_]
        · unfold blkE
          cases hf : x.1.findIdx? (fun s => !decide (sE b.2.2.2.1 b.2.1 s = 0)) with
          | some j => rfl
          | none =>
            simp only [Option.bind_some]
            rw [show fn_ref19_Needs (x.2.1, x.2.2.1, x.2.2.2.1, x.2.2.2.2.1, x.2.2.2.2.2.1, x.2.2.2.2.2.2) (((b.2.2.2.2.2.2.length : Nat) : Int), b.2.1, b.2.2.2.1, b.2.2.2.2.1, b.2.2.2.2.2.1) = _ from hT', Option.bind_some]
            by_cases q3 : tE (arOf b) x.2 = 0
            · simp [q3]
            · simp [q3, fltOf]
        · intro j hj
          obtain ⟨l, _, hS'⟩ := hS x.1[j]
          have e2 : x.1.getD j (0, 0, 0, 0, false) = x.1[j] := by simp [List.getD, hj]
          unfold fn_ref21_blocks_l2
          simp only [dlt hj, cond_true, getN hj, Option.bind_some, w64s hj (by omega : x.1.length ≤ 9223372036854775807), e2, show fn_ref18_Needs (x.1[j].1, x.1[j].2.1, x.1[j].2.2.1, x.1[j].2.2.2.1, x.1[j].2.2.2.2) b.2.2.2.1 b.2.1 = _ from hS']
          cases (!decide (sE b.2.2.2.1 b.2.1 x.1[j] = 0)) <;> rfl
        · simp [fn_ref21_blocks_l2]
      · simp [fn_ref21_blocks_l3]
    · intro k hk
      have a1 := stm_snoc hk
      have a2 := sum_take (fun x : Blk => x.1.length) b.2.2.2.2.2.2 (k + 1)
      have a3 : stm (b.2.2.2.2.2.2.take (k + 1)) ≤ stm b.2.2.2.2.2.2 := a2
      unfold fn_ref21_blocks_l1
      simp only [dlt hk, cond_true, getN hk, Option.bind_some, w64s hk (by omega : b.2.2.2.2.2.2.length ≤ 9223372036854775807)]
      rw [w64 (by omega) (by omega), decide_eq_false (by omega), cond_false, a1]
      simp
    · unfold fn_ref21_blocks_l1
      simp
theorem refVCheck_eq : fn_ref21_Check b = some (vck b) := by
  unfold fn_ref21_Check vck
  rw [show fn_ref21_head (b.1, b.2.1, b.2.2.1, b.2.2.2.1, b.2.2.2.2.1, b.2.2.2.2.2.1, b.2.2.2.2.2.2) = _ from refHead_eq h, show fn_ref21_types (b.1, b.2.1, b.2.2.1, b.2.2.2.1, b.2.2.2.2.1, b.2.2.2.2.2.1, b.2.2.2.2.2.2) = _ from refTypes21_eq h, show fn_ref21_blocks (b.1, b.2.1, b.2.2.1, b.2.2.2.1, b.2.2.2.2.1, b.2.2.2.2.2.1, b.2.2.2.2.2.2) = _ from refBlocks21_eq h]
  generalize vHead b = v1
  generalize vBounds b = v2
  generalize vLoc b = v3
  generalize vRet b = v4
  generalize vSig b = v5
  generalize or0 (vBlk b) (vCode b) = v6
  simp only [Option.bind_some]
  have key : ∀ a c : Flt, (cond (!decide ((or0 a c).1 = 0)) (some ((or0 a c).1, (or0 a c).2.1, (or0 a c).2.2.1, (or0 a c).2.2.2)) none : Option Flt) = (cond (!decide ((or0 a c).1 = 0)) (some (or0 a c)) none) := fun a c => rfl
  unfold or0
  by_cases q1 : v1.1 = 0 <;> by_cases q2 : v2.1 = 0 <;> by_cases q3 : v3.1 = 0 <;> by_cases q4 : v4.1 = 0 <;> by_cases q5 : v5.1 = 0 <;> simp [q1, q2, q3, q4, q5]
end
end Go.Proofs.Ytkpdfepjanfmbaa
namespace Go.Proofs.Ytkpdfepjanfmbaa
open Go.RowKit
set_option linter.unusedVariables false
set_option linter.unnecessarySimpa false
set_option linter.unusedSimpArgs false
theorem vCode_zero {b : Bo} : (vCode b).1 = 0 → vCode b = (0, 0, 0, 0) := by
  unfold vCode
  cases hf : b.2.2.2.2.2.2.findIdx? (fun x => (blkE b x).isSome) with
  | none => intro _; rfl
  | some k =>
    obtain ⟨hk, h5, _⟩ := List.findIdx?_eq_some_iff_getElem.1 hf
    have e : b.2.2.2.2.2.2.getD k ([], 0, 0, 0, [], [], []) = b.2.2.2.2.2.2[k] := by simp [List.getD, hk]
    simp only [e]
    intro hz
    exfalso
    generalize b.2.2.2.2.2.2[k] = x at *
    unfold blkE at hz h5
    cases hg : x.1.findIdx? (fun s => !decide (sE b.2.2.2.1 b.2.1 s = 0)) with
    | some j =>
      obtain ⟨hj, h6, _⟩ := List.findIdx?_eq_some_iff_getElem.1 hg
      have e2 : x.1.getD j (0, 0, 0, 0, false) = x.1[j] := by simp [List.getD, hj]
      rw [hg] at hz
      simp only [fltOf, e2] at hz
      simp [hz] at h6
    | none =>
      rw [hg] at hz h5
      by_cases q : tE (arOf b) x.2 = 0
      · simp [q] at h5
      · simp [q, fltOf] at hz
section
variable {b : Bo} (h : Sm b)
include h
theorem vBounds_eq : fn_valid_bounds_az b = some (vBounds b) := by
  have h1 := h.bounds
  unfold fn_valid_bounds_az vBounds
  rw [decide_eq_false (by omega), cond_false, loop_search (body := fn_valid_bounds_az_l1 b) b.2.2.1 (bad1 b.1) (fun k => (.inr (7, 1, (k : Int), 0) : Unit ⊕ Flt)) (.inl ()) ?_ ?_]
  · cases b.2.2.1.findIdx? (bad1 b.1) <;> rfl
  · intro k hk
    unfold fn_valid_bounds_az_l1 fn_valid_bounds_1_ip0_iikkkkk fn_tick_Counter_Add_zii
    simp only [dlt hk, cond_true, getN hk, Option.bind_some, w64s hk (by omega : b.2.2.1.length ≤ 9223372036854775807)]
    generalize b.2.2.1[k] = x
    obtain ⟨x1, x2⟩ := x
    have e (x : Int) : (!((decide (0 ≤ x)) && (decide (x < b.1)))) = (decide (x < 0) || decide (b.1 ≤ x)) := by
      by_cases p : x < 0 <;> by_cases q : b.1 ≤ x <;> simp [p, q] <;> omega
    simp only [e, bad1]
    by_cases p1 : x1 < 0 <;> by_cases p2 : b.1 ≤ x1 <;> by_cases p3 : x2 < 0 <;> by_cases p4 : b.1 ≤ x2 <;> simp [p1, p2, p3, p4]
  · simp [fn_valid_bounds_az_l1]
theorem vLoc_eq : fn_valid_locals_az b = some (vLoc b) := by
  have h1 := h.locals
  have h4 := h.loc
  unfold fn_valid_locals_az vLoc
  by_cases q : b.2.2.2.1 = []
  · rw [if_pos q, q]; rfl
  · have q' : ¬ ((b.2.2.2.1.length : Nat) : Int) = 0 := fun hc => q (List.length_eq_zero_iff.1 (by omega))
    rw [if_neg q, decide_eq_false q', cond_false, decide_eq_false (by omega), cond_false, loop_search (body := fn_valid_locals_az_l1 b) b.2.2.2.1 (fun t => !decide (rck b.2.1 t = 0)) (fun k => (.inr (rck b.2.1 (b.2.2.2.1.getD k []), 2, (k : Int), 0) : Unit ⊕ Flt)) (.inl ()) ?_ ?_]
    · cases b.2.2.2.1.findIdx? (fun t => !decide (rck b.2.1 t = 0)) <;> rfl
    · intro k hk
      unfold fn_valid_locals_az_l1 fn_tick_Counter_Add_zii
      have e : b.2.2.2.1.getD k [] = b.2.2.2.1[k] := by simp [List.getD, hk]
      simp only [dlt hk, cond_true, getN hk, Option.bind_some, w64s hk (by omega : b.2.2.2.1.length ≤ 9223372036854775807), e, rowCheck20 _ (h4 _ (List.getElem_mem hk))]
      cases (!decide (rck b.2.1 b.2.2.2.1[k] = 0)) <;> rfl
    · simp [fn_valid_locals_az_l1]
theorem vRet_eq (hL : b.2.2.2.1 ≠ []) : fn_valid_ret_az b = some (vRet b) := by
  have h3 := h.ret
  unfold fn_valid_ret_az vRet
  have hp : 0 < b.2.2.2.1.length := List.length_pos_iff.2 hL
  have e0 : b.2.2.2.1.getD 0 [] = b.2.2.2.1[0] := by simp [List.getD, hp]
  have g0 : getI b.2.2.2.1 0 = some b.2.2.2.1[0] := getN (k := 0) hp
  rw [rowCheck20 _ h3, Option.bind_some, g0, Option.bind_some, rowShape_eq _ _ (by omega), e0, Option.bind_some]
  by_cases q : rck b.1 b.2.2.2.2.1 = 0
  · rw [if_pos q, q]
    cases shp b.2.2.2.2.1 b.2.2.2.1[0] <;> rfl
  · rw [if_neg q, decide_eq_false q]; rfl
theorem vSig_eq : fn_valid_sigs_az b = some (vSig b) := by
  have h1 := h.sigs
  have hs := fun s (hs : s ∈ b.2.2.2.2.2.1) => sgl h hs
  unfold fn_valid_sigs_az vSig
  rw [decide_eq_false (by omega), cond_false, loop_search (body := fn_valid_sigs_az_l1 b) b.2.2.2.2.2.1 (fun s => !decide (chk s = 0)) (fun k => (.inr (chk (b.2.2.2.2.2.1.getD k (0, [], [], [])), 4, (k : Int), 0) : Unit ⊕ Flt)) (.inl ()) ?_ ?_]
  · cases b.2.2.2.2.2.1.findIdx? (fun s => !decide (chk s = 0)) <;> rfl
  · intro k hk
    unfold fn_valid_sigs_az_l1 fn_tick_Counter_Add_zii
    have e : b.2.2.2.2.2.1.getD k (0, [], [], []) = b.2.2.2.2.2.1[k] := by simp [List.getD, hk]
    have hs' := hs _ (List.getElem_mem hk)
    simp only [dlt hk, cond_true, getN hk, Option.bind_some, w64s hk (by omega : b.2.2.2.2.2.1.length ≤ 9223372036854775807), e, show fn_sig_Check (b.2.2.2.2.2.1[k].1, b.2.2.2.2.2.1[k].2.1, b.2.2.2.2.2.1[k].2.2.1, b.2.2.2.2.2.1[k].2.2.2) = _ from hs']
    cases (!decide (chk b.2.2.2.2.2.1[k] = 0)) <;> rfl
  · simp [fn_valid_sigs_az_l1]
theorem vBlk_eq : fn_valid_blocks_az b = some (vBlk b) := by
  have h1 := h.blocks
  have h2 := h.many
  unfold fn_valid_blocks_az vBlk
  by_cases q : b.2.2.2.2.2.2 = []
  · rw [if_pos q, q]; rfl
  · have q' : ¬ ((b.2.2.2.2.2.2.length : Nat) : Int) = 0 := fun hc => q (List.length_eq_zero_iff.1 (by omega))
    rw [if_neg q, decide_eq_false q', cond_false, decide_eq_false (by omega), cond_false]
    have hl1 := loop_nat (body := fn_valid_blocks_az_l1 b) (fun k : Nat => (((stm (b.2.2.2.2.2.2.take k) : Nat) : Int), (k : Int))) b.2.2.2.2.2.2.length (b := .inl ()) ?_ ?_
    · have hl1' : loop (fn_valid_blocks_az_l1 b) (0, 0) = some (.inl ()) := by simpa [stm] using hl1
      rw [hl1']; rfl
    · intro k hk
      have a1 := stm_snoc hk
      have a2 := sum_take (fun x : Blk => x.1.length) b.2.2.2.2.2.2 (k + 1)
      have a3 : stm (b.2.2.2.2.2.2.take (k + 1)) ≤ stm b.2.2.2.2.2.2 := a2
      unfold fn_valid_blocks_az_l1 fn_tick_Counter_Add_zii
      simp only [dlt hk, cond_true, getN hk, Option.bind_some, w64s hk (by omega : b.2.2.2.2.2.2.length ≤ 9223372036854775807)]
      rw [w64 (by omega) (by omega), decide_eq_false (by omega), cond_false, a1]
      simp
    · unfold fn_valid_blocks_az_l1
      simp
theorem vCode_eq : fn_valid_code_az b = some (vCode b) := by
  have h1 := h.blocks
  have hst := fun x (hx : x ∈ b.2.2.2.2.2.2) => h.stmts hx
  have hT := fun x (hx : x ∈ b.2.2.2.2.2.2) => termE h hx
  have hS := fun x => stmtE h (x := x)
  unfold fn_valid_code_az vCode
  rw [loop_search (body := fn_valid_code_az_l2 b) b.2.2.2.2.2.2 (fun x => (blkE b x).isSome) (fun k => (.inr (fltOf k (blkE b (b.2.2.2.2.2.2.getD k ([], 0, 0, 0, [], [], [])))) : Unit ⊕ Flt)) (.inl ()) ?_ ?_]
  · cases b.2.2.2.2.2.2.findIdx? (fun x => (blkE b x).isSome) <;> rfl
  · intro k hk
    unfold fn_valid_code_az_l2
    have e : b.2.2.2.2.2.2.getD k ([], 0, 0, 0, [], [], []) = b.2.2.2.2.2.2[k] := by simp [List.getD, hk]
    obtain ⟨l, hT', _⟩ := hT _ (List.getElem_mem hk)
    have hst' := hst _ (List.getElem_mem hk)
    simp only [dlt hk, cond_true, getN hk, Option.bind_some, w64s hk (by omega : b.2.2.2.2.2.2.length ≤ 9223372036854775807), e]
    generalize b.2.2.2.2.2.2[k] = x at *
    rw [loop_search (body := fn_valid_code_az_l1 b k x) x.1 (fun s => !decide (sE b.2.2.2.1 b.2.1 s = 0)) (fun j => (.inr (.inr (.inr (sE b.2.2.2.1 b.2.1 (x.1.getD j (0, 0, 0, 0, false)), 6, (k : Int), (j : Int)))) : Unit ⊕ (Int ⊕ (Unit ⊕ Flt)))) (.inl ()) ?_ ?_]
    · unfold blkE
      cases hf : x.1.findIdx? (fun s => !decide (sE b.2.2.2.1 b.2.1 s = 0)) with
      | some j => rfl
      | none =>
        simp only [Option.bind_some]
        unfold fn_tick_Counter_Add_zii fn_term_Check
        rw [Option.bind_some, show fn_term_Needs (x.2.1, x.2.2.1, x.2.2.2.1, x.2.2.2.2.1, x.2.2.2.2.2.1, x.2.2.2.2.2.2) (((b.2.2.2.2.2.2.length : Nat) : Int), b.2.1, b.2.2.2.1, b.2.2.2.2.1, b.2.2.2.2.2.1) = _ from hT', Option.bind_some]
        by_cases q3 : tE (arOf b) x.2 = 0
        · simp [q3]
        · simp [q3, fltOf]
    · intro j hj
      obtain ⟨l, hS', _⟩ := hS x.1[j]
      have e2 : x.1.getD j (0, 0, 0, 0, false) = x.1[j] := by simp [List.getD, hj]
      unfold fn_valid_code_az_l1 fn_tick_Counter_Add_zii fn_stmt_Check
      simp only [dlt hj, cond_true, getN hj, Option.bind_some, w64s hj (by omega : x.1.length ≤ 9223372036854775807), e2, show fn_stmt_Needs (x.1[j].1, x.1[j].2.1, x.1[j].2.2.1, x.1[j].2.2.2.1, x.1[j].2.2.2.2) b.2.2.2.1 b.2.1 = _ from hS']
      cases (!decide (sE b.2.2.2.1 b.2.1 x.1[j] = 0)) <;> rfl
    · simp [fn_valid_code_az_l1]
  · simp [fn_valid_code_az_l2]
theorem validCheck_eq : fn_valid_Check_az b = some (vck b) := by
  unfold fn_valid_Check_az vck fn_tick_Counter_Add_zii
  have hh : fn_valid_head_az b = some (vHead b) := by
    unfold fn_valid_head_az vHead
    by_cases q : b.1 < 1 ∨ b.2.1 < b.1
    · have : (decide (b.1 < 1) || decide (b.2.1 < b.1)) = true := by simpa using q
      rw [this, if_pos q]; rfl
    · have : (decide (b.1 < 1) || decide (b.2.1 < b.1)) = false := by simpa using q
      rw [this, if_neg q, cond_false]
      by_cases q2 : 65536 < b.2.1
      · rw [decide_eq_true q2, if_pos q2]; rfl
      · rw [decide_eq_false q2, if_neg q2]; rfl
  rw [Option.bind_some, show fn_valid_head_az (b.1, b.2.1, b.2.2.1, b.2.2.2.1, b.2.2.2.2.1, b.2.2.2.2.2.1, b.2.2.2.2.2.2) = _ from hh, show fn_valid_bounds_az (b.1, b.2.1, b.2.2.1, b.2.2.2.1, b.2.2.2.2.1, b.2.2.2.2.2.1, b.2.2.2.2.2.2) = _ from vBounds_eq h, show fn_valid_locals_az (b.1, b.2.1, b.2.2.1, b.2.2.2.1, b.2.2.2.2.1, b.2.2.2.2.2.1, b.2.2.2.2.2.2) = _ from vLoc_eq h,
    show fn_valid_sigs_az (b.1, b.2.1, b.2.2.1, b.2.2.2.1, b.2.2.2.2.1, b.2.2.2.2.2.1, b.2.2.2.2.2.2) = _ from vSig_eq h, show fn_valid_blocks_az (b.1, b.2.1, b.2.2.1, b.2.2.2.1, b.2.2.2.2.1, b.2.2.2.2.2.1, b.2.2.2.2.2.2) = _ from vBlk_eq h, show fn_valid_code_az (b.1, b.2.1, b.2.2.1, b.2.2.2.1, b.2.2.2.2.1, b.2.2.2.2.2.1, b.2.2.2.2.2.2) = _ from vCode_eq h]
  have hret : (vLoc b).1 = 0 → fn_valid_ret_az (b.1, b.2.1, b.2.2.1, b.2.2.2.1, b.2.2.2.2.1, b.2.2.2.2.2.1, b.2.2.2.2.2.2) = some (vRet b) := by
    intro hz
    refine vRet_eq h (fun hc => ?_)
    unfold vLoc at hz
    rw [if_pos hc] at hz; cases hz
  have hz6 : (vCode b).1 = 0 → vCode b = (0, 0, 0, 0) := vCode_zero
  generalize vHead b = v1
  generalize vBounds b = v2
  generalize vLoc b = v3 at *
  generalize vRet b = v4 at *
  generalize vSig b = v5
  generalize vBlk b = v6
  generalize vCode b = v7 at *
  unfold or0
  by_cases q1 : v1.1 = 0 <;> by_cases q2 : v2.1 = 0 <;> by_cases q3 : v3.1 = 0 <;> by_cases q4 : v4.1 = 0 <;> by_cases q5 : v5.1 = 0 <;> by_cases q6 : v6.1 = 0 <;> by_cases q7 : v7.1 = 0 <;> simp_all
end
end Go.Proofs.Ytkpdfepjanfmbaa
namespace Go.Proofs.Ytkpdfepjanfmbaa
open Go.RowKit
set_option linter.unusedVariables false
set_option linter.unnecessarySimpa false
set_option linter.unusedSimpArgs false
theorem sE_nop (L : List (List St)) (R : Int) : sE L R (0, 0, 0, 0, false) = 0 := by
  unfold sE
  have : fn_ref18_Needs (0, 0, 0, 0, false) L R = some ([], 0) := by
    unfold fn_ref18_Needs
    rw [show fn_ref18_Form ((0 : Int), 0, 0, 0, false) = _ from refForm_eq (0, 0, 0, 0, false)]
    rfl
  rw [this]; rfl
theorem tE_ret {a : Ar} {t : List St} {L : List (List St)} (h : a.2.2.1 = t :: L) (hs : shp t a.2.2.2.1 = true) (ht : t.length ≤ 20) : tE a (3, 0, 0, [], [], []) = 0 := by
  unfold tE
  have : ∃ l, fn_ref19_Needs (3, 0, 0, [], [], []) a = some (l, 0) := by
    unfold fn_ref19_Needs
    rw [show fn_ref19_Form ((3 : Int), 0, 0, [], [], []) = _ from refTForm_eq (3, 0, 0, [], [], [])]
    simp only [refWithin_eq _ _ (show ([] : List Int).length ≤ 1000 by simp)]
    have h0 : getI a.2.2.1 0 = some t := by rw [h]; rfl
    have h1 : ¬ ((a.2.2.1.length : Nat) : Int) = 0 := by rw [h]; simp; omega
    have h2 : ¬ a.2.2.1 = [] := by rw [h]; simp
    rw [h0]
    simp only [Option.bind_some]
    rw [refFlow_eq t a.2.2.2.1 7 0 (by omega) (by decide) (by decide), hs]
    refine ⟨rel 7 0 t a.2.2.2.1, ?_⟩
    have e1 : tForm (3, 0, 0, [], [], []) = 0 := by decide
    have e2 : ∀ n, bad n [] = false := fun n => rfl
    simp [e1, e2, h1, h2]
  obtain ⟨l, hl⟩ := this
  rw [hl]; rfl
def bg (X : List Blk) (k : Nat) : Nat := stm (X.take k) + k
theorem bg_succ {X : List Blk} {k : Nat} (hk : k < X.length) : bg X (k + 1) = bg X k + X[k].1.length + 1 := by
  unfold bg; rw [stm_snoc hk]; omega
theorem bg_mono (X : List Blk) {i j : Nat} (h : i ≤ j) (hj : j ≤ X.length) : bg X i ≤ bg X j := by
  induction j with
  | zero => have : i = 0 := by omega
            subst this; exact Nat.le_refl _
  | succ j ih =>
    by_cases q : i = j + 1
    · subst q; exact Nat.le_refl _
    · have := ih (by omega) (by omega)
      rw [bg_succ (by omega)]; omega
theorem bg_lt (X : List Blk) {i j : Nat} (h : i < j) (hj : j ≤ X.length) : bg X i < bg X j := by
  have h1 := bg_mono X (i := i + 1) (j := j) h hj
  have h2 := bg_succ (X := X) (k := i) (by omega)
  omega
def bgs (X : List Blk) : List Int := (List.range X.length).map fun k => ((bg X k : Nat) : Int)
theorem bgs_len (X : List Blk) : (bgs X).length = X.length := by simp [bgs]
theorem bgs_get (X : List Blk) {k : Nat} (hk : k < X.length) : getI (bgs X) (k : Int) = some ((bg X k : Nat) : Int) := by
  rw [getN (by rw [bgs_len]; exact hk)]; simp [bgs]
def prow (i n : Nat) : List (Int × Int × Bool) := (List.range (n + 1)).map fun (k : Nat) => ((i : Int), (k : Int), decide (k = n))
def allN (X : List Blk) : Nat → List (Int × Int × Bool)
  | 0 => []
  | i + 1 => allN X i ++ prow i (X.getD i ([], 0, 0, 0, [], [], [])).1.length
theorem getD_eq {α : Type} {l : List α} {k : Nat} {d : α} (hk : k < l.length) : l.getD k d = l[k] := by simp [List.getD, hk]
theorem allN_len (X : List Blk) : ∀ i, i ≤ X.length → (allN X i).length = bg X i
  | 0, _ => by simp [allN, bg, stm]
  | i + 1, h => by
    have ih := allN_len X i (by omega)
    rw [bg_succ (by omega)]
    simp only [allN, List.length_append, ih, prow, List.length_map, List.length_range, getD_eq (show i < X.length by omega)]; omega
theorem allN_get (X : List Blk) : ∀ i, i ≤ X.length → ∀ j k, j < i → (hj : j < X.length) → k ≤ X[j].1.length → (allN X i)[bg X j + k]? = some ((j : Int), (k : Int), decide (k = X[j].1.length))
  | 0, _, j, k, h, _, _ => by omega
  | i + 1, h, j, k, hji, hj, hk => by
    have hl := allN_len X i (by omega)
    unfold allN
    by_cases q : j = i
    · subst q
      rw [List.getElem?_append_right (by omega), hl, Nat.add_sub_cancel_left, getD_eq hj]
      unfold prow
      rw [List.getElem?_map, List.getElem?_range (by omega)]; rfl
    · have h1 := bg_mono X (i := j + 1) (j := i) (by omega) (by omega)
      rw [bg_succ hj] at h1
      rw [List.getElem?_append_left (by omega)]
      exact allN_get X i (by omega) j k (by omega) hj hk
abbrev alls (X : List Blk) : List (Int × Int × Bool) := allN X X.length
theorem alls_len (X : List Blk) : (alls X).length = bg X X.length := allN_len X _ (Nat.le_refl _)
theorem alls_get (X : List Blk) {j k : Nat} (hj : j < X.length) (hk : k ≤ X[j].1.length) : (alls X)[bg X j + k]? = some ((j : Int), (k : Int), decide (k = X[j].1.length)) := allN_get X _ (Nat.le_refl _) j k hj hj hk
/-- Each point is in a block. -/
theorem locate (X : List Blk) : ∀ i, i ≤ X.length → ∀ n, n < bg X i → ∃ j k, ∃ hj : j < X.length, k ≤ X[j].1.length ∧ n = bg X j + k ∧ j < i
  | 0, _, n, h => by simp [bg, stm] at h
  | i + 1, h, n, hn => by
    rw [bg_succ (show i < X.length by omega)] at hn
    by_cases q : n < bg X i
    · obtain ⟨j, k, hj, h1, h2, h3⟩ := locate X i (by omega) n q
      exact ⟨j, k, hj, h1, h2, by omega⟩
    · exact ⟨i, n - bg X i, by omega, by omega, by omega, by omega⟩
theorem bg_bound {b : Bo} (h : Sm b) {k : Nat} (hk : k ≤ b.2.2.2.2.2.2.length) : bg b.2.2.2.2.2.2 k ≤ 32 := by
  have a2 := sum_take (fun x : Blk => x.1.length) b.2.2.2.2.2.2 k
  have a3 : stm (b.2.2.2.2.2.2.take k) ≤ stm b.2.2.2.2.2.2 := a2
  have := h.many
  have := h.blocks
  unfold bg; omega
/-- The blocks that count: none, where the body is not well-formed. -/
noncomputable def xs (b : Bo) : List Blk := if (vck b).1 = 0 then b.2.2.2.2.2.2 else []
theorem xs_bound {b : Bo} (h : Sm b) {k : Nat} (hk : k ≤ (xs b).length) : bg (xs b) k ≤ 32 ∧ (xs b).length ≤ 8 := by
  unfold xs at *
  split
  · rename_i q; rw [if_pos q] at hk; exact ⟨bg_bound h hk, h.blocks⟩
  · rename_i q; rw [if_neg q] at hk
    obtain rfl : k = 0 := by simpa using hk
    simp [bg, stm]
theorem pointNew_eq {b : Bo} (h : Sm b) : fn_point_New b = some (some (bgs (xs b), ((bg (xs b) (xs b).length : Nat) : Int))) := by
  unfold fn_point_New fn_valid_OK
  rw [show fn_valid_Check_az (b.1, b.2.1, b.2.2.1, b.2.2.2.1, b.2.2.2.2.1, b.2.2.2.2.2.1, b.2.2.2.2.2.2) = _ from validCheck_eq h]
  simp only [Option.bind_some]
  unfold xs
  by_cases q : (vck b).1 = 0
  · have h1 := h.blocks
    rw [decide_eq_true q, Bool.not_true, cond_false, if_pos q]
    have hl := loop_nat (body := fn_point_New_l1 b) (fun k : Nat => ((k : Int), (List.range k).map (fun i => ((bg b.2.2.2.2.2.2 i : Nat) : Int)), ((bg b.2.2.2.2.2.2 k : Nat) : Int))) b.2.2.2.2.2.2.length (b := (bgs b.2.2.2.2.2.2, ((bg b.2.2.2.2.2.2 b.2.2.2.2.2.2.length : Nat) : Int))) ?_ ?_
    · have hl' : loop (fn_point_New_l1 b) (0, [], 0) = some (bgs b.2.2.2.2.2.2, ((bg b.2.2.2.2.2.2 b.2.2.2.2.2.2.length : Nat) : Int)) := by simpa [bg, stm] using hl
      rw [hl']; rfl
    · intro k hk
      have a1 := bg_bound h (k := k) (by omega)
      have a2 := bg_bound h (k := k + 1) (by omega)
      have a3 := bg_succ hk
      unfold fn_point_New_l1
      simp only [dlt hk, cond_true, getN hk, Option.bind_some]
      rw [app_eq (by simp; omega), Option.bind_some, w64s hk (by omega), w64 (x := ((b.2.2.2.2.2.2[k].1.length : Nat) : Int) + 1) (by omega) (by omega), w64 (by omega) (by omega), a3, List.range_succ, List.map_append]
      simp only [Option.some.injEq, Sum.inl.injEq, Prod.mk.injEq, true_and, List.map_cons, List.map_nil]
      omega
    · unfold fn_point_New_l1
      simp [bgs]
  · rw [decide_eq_false q, if_neg q]; rfl
theorem refAll_eq {b : Bo} (h : Sm b) : fn_ref22_All b = some (alls (xs b)) := by
  unfold fn_ref22_All fn_ref21_OK
  rw [show fn_ref21_Check (b.1, b.2.1, b.2.2.1, b.2.2.2.1, b.2.2.2.2.1, b.2.2.2.2.2.1, b.2.2.2.2.2.2) = _ from refVCheck_eq h]
  simp only [Option.bind_some]
  unfold xs
  by_cases q : (vck b).1 = 0
  · have h1 := h.blocks
    rw [decide_eq_true q, Bool.not_true, cond_false, if_pos q]
    have hl := loop_nat (body := fn_ref22_All_l2 b) (fun k : Nat => (allN b.2.2.2.2.2.2 k, (k : Int))) b.2.2.2.2.2.2.length (b := alls b.2.2.2.2.2.2) ?_ ?_
    · rw [show loop (fn_ref22_All_l2 b) ([], 0) = _ from hl]; rfl
    · intro k hk
      have a1 := bg_bound h (k := k) (by omega)
      have a2 := bg_bound h (k := k + 1) (by omega)
      have a3 := bg_succ hk
      have a4 := allN_len b.2.2.2.2.2.2 k (by omega)
      unfold fn_ref22_All_l2
      simp only [dlt hk, cond_true, getN hk, Option.bind_some]
      have hin := loop_nat (body := fn_ref22_All_l1 (k : Int) b.2.2.2.2.2.2[k]) (fun j : Nat => (allN b.2.2.2.2.2.2 k ++ (List.range j).map (fun (i : Nat) => ((k : Int), (i : Int), decide (i = b.2.2.2.2.2.2[k].1.length))), (j : Int))) (b.2.2.2.2.2.2[k].1.length + 1) (b := allN b.2.2.2.2.2.2 k ++ prow k b.2.2.2.2.2.2[k].1.length) ?_ ?_
      · have hin' : loop (fn_ref22_All_l1 (k : Int) b.2.2.2.2.2.2[k]) (allN b.2.2.2.2.2.2 k, 0) = some (allN b.2.2.2.2.2.2 k ++ prow k b.2.2.2.2.2.2[k].1.length) := by simpa using hin
        rw [hin', Option.bind_some, w64s hk (by omega)]
        simp only [allN, getD_eq hk]
      · intro j hj
        unfold fn_ref22_All_l1
        dsimp only
        rw [decide_eq_true (by omega), cond_true, app_eq (by simp; omega), Option.bind_some, w64 (by omega) (by omega), List.range_succ, List.map_append]
        have e : decide ((j : Int) = ((b.2.2.2.2.2.2[k].1.length : Nat) : Int)) = decide (j = b.2.2.2.2.2.2[k].1.length) := by
          by_cases c : j = b.2.2.2.2.2.2[k].1.length <;> simp [c] <;> omega
        rw [e]
        simp
      · unfold fn_ref22_All_l1
        dsimp only
        rw [decide_eq_false (by omega)]
        rfl
    · unfold fn_ref22_All_l2
      simp
  · rw [decide_eq_false q, if_neg q]; rfl
end Go.Proofs.Ytkpdfepjanfmbaa
namespace Go.Proofs.Ytkpdfepjanfmbaa
open Go.RowKit
set_option linter.unusedVariables false
theorem same01_eq (xa xb : List Int) (hn : xa.length ≤ 1073741824) : fn_ref01_Same xa xb = some (decide (xa = xb)) := by
  unfold fn_ref01_Same
  by_cases hl : xa.length = xb.length
  · rw [dlen hl, cond_false, loop_alike (body := fn_ref01_Same_l1 xa xb) xa xb (.inr false) (.inl ()) hl ?_ ?_]
    · by_cases h : xa = xb <;> simp [h]
    · intro k h; unfold fn_ref01_Same_l1
      have h2 : k < xb.length := by omega
      by_cases q : xa[k] = xb[k] <;> simp [getN h, getN h2, h, q, w64s h (by omega)]
    · simp [fn_ref01_Same_l1]
  · rw [dlen' hl, cond_true]
    have : ¬ xa = xb := fun h => hl (by rw [h])
    simp [this]
end Go.Proofs.Ytkpdfepjanfmbaa
namespace Go.Proofs.Ytkpdfepjanfmbaa
set_option linter.unusedVariables false
theorem strict_eq : ∀ {xs ys : List Int}, xs.Pairwise (· < ·) → ys.Pairwise (· < ·) → (∀ a, a ∈ xs ↔ a ∈ ys) → xs = ys
  | [], [], _, _, _ => rfl
  | [], y :: ys, _, _, h => by have := (h y).2 (by simp); simp at this
  | x :: xs, [], _, _, h => by have := (h x).1 (by simp); simp at this
  | x :: xs, y :: ys, hx, hy, h => by
    obtain ⟨hx1, hx2⟩ := List.pairwise_cons.1 hx
    obtain ⟨hy1, hy2⟩ := List.pairwise_cons.1 hy
    have e : x = y := by
      have h1 := (h x).1 (by simp)
      have h2 := (h y).2 (by simp)
      rcases List.mem_cons.1 h1 with h1 | h1
      · exact h1
      · rcases List.mem_cons.1 h2 with h2 | h2
        · exact h2.symm
        · have := hy1 x h1; have := hx1 y h2; omega
    subst e
    rw [strict_eq hx2 hy2 (fun a => ?_)]
    constructor
    · intro ha
      rcases List.mem_cons.1 ((h a).1 (by simp [ha])) with e | e
      · subst e; have := hx1 a ha; omega
      · exact e
    · intro ha
      rcases List.mem_cons.1 ((h a).2 (by simp [ha])) with e | e
      · subst e; have := hy1 a ha; omega
      · exact e
theorem compactUpTo_sorted {zs : List Int} (hs : zs.Pairwise (· ≤ ·)) : ∀ m, m ≤ zs.length → (Lib.compactUpTo zs.toArray m).Pairwise (· < ·) ∧ ∀ a, a ∈ Lib.compactUpTo zs.toArray m ↔ a ∈ zs.take m
  | 0, _ => by simp [Lib.compactUpTo]
  | m + 1, h => by
    obtain ⟨h1, h2⟩ := compactUpTo_sorted hs m (by omega)
    have hm : m < zs.length := by omega
    have e : zs.toArray[m]! = zs[m] := by simp [getElem!_pos, hm]
    rw [Lib.compactUpTo_succ, e]
    have htk : zs.take (m + 1) = zs.take m ++ [zs[m]] := List.take_succ_eq_append_getElem hm
    have hle : ∀ a ∈ zs.take m, a ≤ zs[m] := by
      intro a ha
      have := hs.sublist (List.take_sublist (m + 1) zs)
      rw [htk] at this
      exact (List.pairwise_append.1 this).2.2 a ha _ (by simp)
    rw [htk]
    cases hk : Lib.keeps zs.toArray m with
    | false =>
      simp only [Bool.false_eq_true, if_false, List.append_nil]
      refine ⟨h1, fun a => ?_⟩
      rw [h2, List.mem_append]
      have hm0 : m ≠ 0 := by rintro rfl; simp [Lib.keeps] at hk
      have he : zs.toArray[m]! = zs.toArray[m - 1]! := by
        simp [Lib.keeps, hm0] at hk; simpa using hk
      have hp : m - 1 < zs.length := by omega
      have e2 : zs.toArray[m - 1]! = zs[m - 1] := by simp [getElem!_pos, hp]
      rw [e, e2] at he
      constructor
      · exact .inl
      · rintro (h | h)
        · exact h
        · simp at h; rw [h, he]
          exact List.mem_take_iff_getElem.2 ⟨m - 1, by omega, rfl⟩
    | true =>
      simp only [if_true]
      refine ⟨List.pairwise_append.2 ⟨h1, by simp, fun a ha b hb => ?_⟩, fun a => by rw [List.mem_append, List.mem_append, h2]⟩
      simp at hb; subst hb
      have ha' := (h2 a).1 ha
      have hle' := hle a ha'
      rcases Int.lt_or_eq_of_le hle' with h | h
      · exact h
      · exfalso
        obtain ⟨j, hj, rfl⟩ := List.mem_take_iff_getElem.1 ha'
        have hm0 : m ≠ 0 := by omega
        have hp : m - 1 < zs.length := by omega
        have e2 : zs.toArray[m - 1]! = zs[m - 1] := by simp [getElem!_pos, hp]
        simp only [Lib.keeps, e, e2] at hk
        simp [hm0] at hk
        have a1 : zs[j] ≤ zs[m - 1] := by
          rcases Nat.lt_or_ge j (m - 1) with q | q
          · exact List.pairwise_iff_getElem.1 hs j (m - 1) _ _ q
          · have : j = m - 1 := by omega
            subst this; exact Int.le_refl _
        have a2 : zs[m - 1] ≤ zs[m] := List.pairwise_iff_getElem.1 hs (m - 1) m _ _ (by omega)
        omega
theorem compact_sorted {zs : List Int} (hs : zs.Pairwise (· ≤ ·)) : (Lib.compact zs).Pairwise (· < ·) ∧ ∀ a, a ∈ Lib.compact zs ↔ a ∈ zs := by
  have := compactUpTo_sorted hs zs.length (Nat.le_refl _)
  rw [List.take_length] at this
  exact this
end Go.Proofs.Ytkpdfepjanfmbaa
namespace Go.Proofs.Ytkpdfepjanfmbaa
open Go.RowKit
set_option linter.unusedVariables false
set_option linter.unnecessarySimpa false
set_option linter.unusedSimpArgs false
theorem gmap {α : Type} {m j : Nat} {f : Nat → α} (h : j < m) : getI ((List.range m).map f) (j : Int) = some (f j) := by
  rw [getN (by simpa using h)]; simp
theorem smap {α : Type} {m j : Nat} {f : Nat → α} {y : α} : ((List.range m).map f).set j y = (List.range m).map (fun v => if v = j then y else f v) := by
  apply List.ext_getElem
  · simp
  · intro i h1 h2
    simp only [List.getElem_set, List.getElem_map, List.getElem_range]
    by_cases q : j = i
    · subst q; simp
    · rw [if_neg q, if_neg (fun e => q e.symm)]
theorem cmap {α : Type} {m : Nat} {f g : Nat → α} (h : ∀ v, v < m → f v = g v) : (List.range m).map f = (List.range m).map g := List.map_congr_left fun v hv => h v (List.mem_range.1 hv)
theorem rmap {α : Type} (m : Nat) (z : α) : List.replicate m z = (List.range m).map (fun _ => z) := by
  apply List.ext_getElem <;> simp
theorem chk_self (a : Int) : chkI a a = some () := by unfold chkI; simp
abbrev Tc := List Int × List Int
def srtd (l : List Int) : List Int := l.mergeSort fun x y => decide (x ≤ y)
theorem srt_eq {l : List Int} (h : l.length ≤ 1073741824) : srt l = some (srtd l) := by unfold srt; rw [if_pos h]; rfl
def cp (l : List Int) : List Int := Lib.compact (srtd l)
theorem srtd_le (l : List Int) : (srtd l).Pairwise (· ≤ ·) := by
  have := List.pairwise_mergeSort (le := fun x y : Int => decide (x ≤ y)) (fun a b c h1 h2 => by simp at *; omega) (fun a b => by simp; omega) l
  exact this.imp (fun h => by simpa using h)
theorem cp_lt (l : List Int) : (cp l).Pairwise (· < ·) := (compact_sorted (srtd_le l)).1
theorem cp_mem (l : List Int) (a : Int) : a ∈ cp l ↔ a ∈ l := by
  rw [cp, (compact_sorted (srtd_le l)).2 a]; unfold srtd; exact List.mem_mergeSort
theorem cp_len (l : List Int) : (cp l).length ≤ l.length := by
  have := Lib.compact_length_le (srtd l)
  unfold srtd at this
  rw [List.length_mergeSort] at this
  exact this
theorem cp_nd (l : List Int) : (cp l).Nodup := (cp_lt l).imp (fun h => by omega)
/-- What a statement, and a terminator, touch. -/
def sT (s : Stm) : Tc := (if sSrc s.1 then [s.2.2.1] else [], if sDst s.1 then [s.2.1] else [])
def tT (x : Tm) : Tc := if x.1 = 2 then (x.2.2.2.2.1, []) else if x.1 = 4 then (x.2.2.2.2.1, [x.2.2.1]) else if x.1 = 3 then ([0], []) else ([], [])
def cpT (t : Tc) : Tc := (cp t.1, t.2)
def rowP (x : Blk) : List Tc := x.1.map (fun s => cpT (sT s)) ++ [cpT (tT x.2)]
theorem rowP_len (x : Blk) : (rowP x).length = x.1.length + 1 := by simp [rowP]
def ptsN (X : List Blk) : Nat → List Tc
  | 0 => []
  | i + 1 => ptsN X i ++ rowP (X.getD i ([], 0, 0, 0, [], [], []))
theorem ptsN_len (X : List Blk) : ∀ i, i ≤ X.length → (ptsN X i).length = bg X i
  | 0, _ => by simp [ptsN, bg, stm]
  | i + 1, h => by
    have ih := ptsN_len X i (by omega)
    rw [bg_succ (by omega)]
    simp only [ptsN, List.length_append, ih, rowP_len, getD_eq (show i < X.length by omega)]; omega
theorem ptsN_get (X : List Blk) : ∀ i, i ≤ X.length → ∀ j k, j < i → (hj : j < X.length) → k ≤ X[j].1.length → (ptsN X i)[bg X j + k]? = (rowP X[j])[k]?
  | 0, _, j, k, h, _, _ => by omega
  | i + 1, h, j, k, hji, hj, hk => by
    have hl := ptsN_len X i (by omega)
    unfold ptsN
    by_cases q : j = i
    · subst q
      rw [List.getElem?_append_right (by omega), hl, Nat.add_sub_cancel_left, getD_eq hj]
    · have h1 := bg_mono X (i := j + 1) (j := i) (by omega) (by omega)
      rw [bg_succ hj] at h1
      rw [List.getElem?_append_left (by omega)]
      exact ptsN_get X i (by omega) j k (by omega) hj hk
abbrev pts (X : List Blk) : List Tc := ptsN X X.length
theorem pts_len (X : List Blk) : (pts X).length = bg X X.length := ptsN_len X _ (Nat.le_refl _)
theorem rowP_stm {x : Blk} {k : Nat} (h : k < x.1.length) : (rowP x)[k]? = some (cpT (sT x.1[k])) := by
  unfold rowP; rw [List.getElem?_append_left (by simpa using h)]; simp [h]
theorem rowP_end {x : Blk} : (rowP x)[x.1.length]? = some (cpT (tT x.2)) := by
  unfold rowP; rw [List.getElem?_append_right (by simp)]; simp
/-- Which points read a local, which write it. -/
def rdr (P : List Tc) (l : Nat) : List Int := ((List.range P.length).filter (fun n => decide ((l : Int) ∈ (P.getD n ([], [])).1))).map (fun n : Nat => (n : Int))
def wtr (P : List Tc) (l : Nat) : List Int := ((List.range P.length).filter (fun n => decide ((l : Int) ∈ (P.getD n ([], [])).2))).map (fun n : Nat => (n : Int))
def lcs (N : Nat) (P : List Tc) : List Tc := (List.range N).map fun l => (rdr P l, wtr P l)
theorem who_snoc (P : List Tc) (t : Tc) (p : Tc → Bool) : ((List.range (P ++ [t]).length).filter (fun n => p ((P ++ [t]).getD n ([], [])))).map (fun n : Nat => (n : Int)) =
    ((List.range P.length).filter (fun n => p (P.getD n ([], [])))).map (fun n : Nat => (n : Int)) ++ if p t then [(P.length : Int)] else [] := by
  rw [List.length_append, List.length_singleton, List.range_succ, List.filter_append, List.map_append]
  congr 1
  · congr 1
    refine List.filter_congr (fun n hn => ?_)
    have hn : n < P.length := List.mem_range.1 hn
    rw [getD_eq (by simp; omega), getD_eq hn, List.getElem_append_left hn]
  · have : (P ++ [t]).getD P.length ([], []) = t := by simp [List.getD]
    simp only [List.filter_cons, List.filter_nil, this]
    cases p t <;> rfl
theorem rdr_snoc (P : List Tc) (t : Tc) (l : Nat) : rdr (P ++ [t]) l = rdr P l ++ if (l : Int) ∈ t.1 then [(P.length : Int)] else [] := by
  have := who_snoc P t (fun u => decide ((l : Int) ∈ u.1))
  unfold rdr; rw [this]; simp
theorem wtr_snoc (P : List Tc) (t : Tc) (l : Nat) : wtr (P ++ [t]) l = wtr P l ++ if (l : Int) ∈ t.2 then [(P.length : Int)] else [] := by
  have := who_snoc P t (fun u => decide ((l : Int) ∈ u.2))
  unfold wtr; rw [this]; simp
theorem rdr_len (P : List Tc) (l : Nat) : (rdr P l).length ≤ P.length := by
  unfold rdr; rw [List.length_map]
  exact Nat.le_trans (List.length_filter_le ..) (by simp)
theorem wtr_len (P : List Tc) (l : Nat) : (wtr P l).length ≤ P.length := by
  unfold wtr; rw [List.length_map]
  exact Nat.le_trans (List.length_filter_le ..) (by simp)
theorem clone_eq (l : List Int) (h : l.length ≤ 1000000) : fn_slices_Clone_int_int l = some l := by
  unfold fn_slices_Clone_int_int
  rw [app_eq (by simp; omega), nilb_eq (fun e => by subst e; rfl)]
  simp
theorem byStmt_eq (s : Stm) : fn_touch_byStmt (s.1, s.2.1, s.2.2.1, s.2.2.2.1, s.2.2.2.2) = some (sT s) := by
  unfold fn_touch_byStmt sT sSrc sDst
  by_cases h1 : s.1 = 1
  · simp [h1]
  · by_cases h2 : s.1 = 2
    · simp [h2]
    · by_cases h3 : s.1 = 3
      · simp [h3]
      · by_cases h4 : s.1 = 4
        · simp [h4]
        · by_cases h5 : s.1 = 5
          · simp [h5]
          · have : ¬ (1 ≤ s.1 ∧ s.1 ≤ 4) := by omega
            simp [h1, h2, h3, h4, h5, this]
theorem byTerm_eq (x : Tm) (h : x.2.2.2.2.1.length ≤ 1000) : fn_touch_byTerm (x.1, x.2.1, x.2.2.1, x.2.2.2.1, x.2.2.2.2.1, x.2.2.2.2.2) = some (tT x) := by
  unfold fn_touch_byTerm tT
  have hc := clone_eq x.2.2.2.2.1 (by omega)
  simp only [hc, Option.bind_some, agr_self]
  by_cases h1 : x.1 = 2
  · simp [h1]
  · by_cases h2 : x.1 = 4
    · simp [h2]
    · by_cases h3 : x.1 = 3
      · simp [h3]
      · simp [h1, h2, h3]
section
variable {N : Nat} {P : List Tc}
def inL (N : Nat) (l : List Int) : Prop := ∀ a ∈ l, 0 ≤ a ∧ a < (N : Int)
theorem add_r {q : List Int} (hq : inL N q) (hn : q.Nodup) (hql : q.length ≤ 1000) (f : Nat → Tc) (hf : ∀ l, l < N → (f l).1.length ≤ 1000000) :
    loop (fn_touch_Touches_add_p0arr_rod_l1 P q) (0, (List.range N).map f) = some ((List.range N).map fun (l : Nat) => if (l : Int) ∈ q then ((f l).1 ++ [(P.length : Int)], (f l).2) else f l) := by
  have h := loop_nat (body := fn_touch_Touches_add_p0arr_rod_l1 P q) (fun k : Nat => ((k : Int), (List.range N).map fun (l : Nat) => if (l : Int) ∈ q.take k then ((f l).1 ++ [(P.length : Int)], (f l).2) else f l)) q.length (b := (List.range N).map fun (l : Nat) => if (l : Int) ∈ q then ((f l).1 ++ [(P.length : Int)], (f l).2) else f l) ?_ ?_
  · simpa using h
  · intro k hk
    obtain ⟨h1, h2⟩ := hq _ (List.getElem_mem hk)
    obtain ⟨m, hm⟩ := Int.eq_ofNat_of_zero_le h1
    have hmN : m < N := by rw [hm] at h2; exact Int.ofNat_lt.1 h2
    have hnot : ¬ ((m : Nat) : Int) ∈ q.take k := by
      intro hmem
      obtain ⟨i, hi, e⟩ := List.getElem_of_mem hmem
      simp at hi
      rw [List.getElem_take] at e
      exact List.pairwise_iff_getElem.1 hn i k (by omega) hk (by omega) (e.trans hm.symm)
    have hg : getI ((List.range N).map fun (l : Nat) => if (l : Int) ∈ q.take k then ((f l).1 ++ [(P.length : Int)], (f l).2) else f l) ((m : Nat) : Int) = some (f m) := by
      rw [gmap hmN, if_neg hnot]
    have hfl := hf m hmN
    unfold fn_touch_Touches_add_p0arr_rod_l1
    simp only [dlt hk, cond_true, getN hk, Option.bind_some, hm, hg, chk_self]
    rw [app_eq (by simp; omega)]
    simp only [Option.bind_some, w64s hk (by omega : q.length ≤ 9223372036854775807), Int.toNat_natCast, Option.some.injEq, Sum.inl.injEq, Prod.mk.injEq, true_and]
    rw [smap]
    refine cmap (fun v hv => ?_)
    rw [take_snoc hk, hm]
    by_cases e : v = m
    · subst e; simp
    · have : ¬ (v : Int) = (m : Int) := by omega
      simp [e, this]
  · unfold fn_touch_Touches_add_p0arr_rod_l1
    simp
theorem add_w {q : List Int} (hq : inL N q) (hn : q.Nodup) (hql : q.length ≤ 1000) (f : Nat → Tc) (hf : ∀ l, l < N → (f l).2.length ≤ 1000000) :
    loop (fn_touch_Touches_add_p0arr_rod_l2 q P) (0, (List.range N).map f) = some ((List.range N).map fun (l : Nat) => if (l : Int) ∈ q then ((f l).1, (f l).2 ++ [(P.length : Int)]) else f l) := by
  have h := loop_nat (body := fn_touch_Touches_add_p0arr_rod_l2 q P) (fun k : Nat => ((k : Int), (List.range N).map fun (l : Nat) => if (l : Int) ∈ q.take k then ((f l).1, (f l).2 ++ [(P.length : Int)]) else f l)) q.length (b := (List.range N).map fun (l : Nat) => if (l : Int) ∈ q then ((f l).1, (f l).2 ++ [(P.length : Int)]) else f l) ?_ ?_
  · simpa using h
  · intro k hk
    obtain ⟨h1, h2⟩ := hq _ (List.getElem_mem hk)
    obtain ⟨m, hm⟩ := Int.eq_ofNat_of_zero_le h1
    have hmN : m < N := by rw [hm] at h2; exact Int.ofNat_lt.1 h2
    have hnot : ¬ ((m : Nat) : Int) ∈ q.take k := by
      intro hmem
      obtain ⟨i, hi, e⟩ := List.getElem_of_mem hmem
      simp at hi
      rw [List.getElem_take] at e
      exact List.pairwise_iff_getElem.1 hn i k (by omega) hk (by omega) (e.trans hm.symm)
    have hg : getI ((List.range N).map fun (l : Nat) => if (l : Int) ∈ q.take k then ((f l).1, (f l).2 ++ [(P.length : Int)]) else f l) ((m : Nat) : Int) = some (f m) := by
      rw [gmap hmN, if_neg hnot]
    have hfl := hf m hmN
    unfold fn_touch_Touches_add_p0arr_rod_l2
    simp only [dlt hk, cond_true, getN hk, Option.bind_some, hm, hg, chk_self]
    rw [app_eq (by simp; omega)]
    simp only [Option.bind_some, w64s hk (by omega : q.length ≤ 9223372036854775807), Int.toNat_natCast, Option.some.injEq, Sum.inl.injEq, Prod.mk.injEq, true_and]
    rw [smap]
    refine cmap (fun v hv => ?_)
    rw [take_snoc hk, hm]
    by_cases e : v = m
    · subst e; simp
    · have : ¬ (v : Int) = (m : Int) := by omega
      simp [e, this]
  · unfold fn_touch_Touches_add_p0arr_rod_l2
    simp
/-- What an operation touches. -/
structure Tg (N : Nat) (t : Tc) : Prop where
  r : inL N t.1
  w : inL N t.2
  rl : t.1.length ≤ 1000
  wl : t.2.length ≤ 1
theorem add_eq {t : Tc} (h : Tg N t) (hP : P.length ≤ 100000) : fn_touch_Touches_add_p0arr_rod t.1 t.2 P (lcs N P) = some (P ++ [cpT t], lcs N (P ++ [cpT t])) := by
  have hc := cp_len t.1
  have hrl := h.rl
  have hwl := h.wl
  have hq : inL N (cp t.1) := fun a ha => h.r a ((cp_mem _ _).1 ha)
  have hwn : t.2.Nodup := by
    cases hw : t.2 with
    | nil => simp
    | cons a l =>
      rw [hw] at hwl
      have : l = [] := by cases l with
        | nil => rfl
        | cons b l => simp at hwl
      simp [this]
  unfold fn_touch_Touches_add_p0arr_rod
  rw [srt_eq (by omega), Option.bind_some, show cmpt (srtd t.1) = some (cp t.1) from rfl, Option.bind_some, app_eq (by simp; omega), Option.bind_some]
  unfold lcs
  rw [add_r hq (cp_nd _) (by omega) _ (fun l hl => by have := rdr_len P l; dsimp only; omega), Option.bind_some,
    add_w h.w hwn (by omega) _ (fun l hl => by have := wtr_len P l; dsimp only; split <;> (dsimp only; omega)), Option.bind_some]
  simp only [Option.some.injEq, Prod.mk.injEq]
  refine ⟨rfl, cmap (fun l hl => ?_)⟩
  rw [rdr_snoc, wtr_snoc]
  show _ = (rdr P l ++ (if (l : Int) ∈ cp t.1 then _ else _), wtr P l ++ (if (l : Int) ∈ t.2 then _ else _))
  by_cases c1 : (l : Int) ∈ cp t.1 <;> by_cases c2 : (l : Int) ∈ t.2 <;> simp [c1, c2]
end
/-! ### What a well-formed body says. -/
theorem sE_in {L : List (List St)} {R : Int} {x : Stm} (h : sE L R x = 0) : fOk x = true ∧ (sDst x.1 = true → loc L x.2.1 = true) ∧ (sSrc x.1 = true → loc L x.2.2.1 = true) := by
  unfold sE fn_ref18_Needs at h
  have g1 : fn_ref18_Dst x.1 = some (sDst x.1) := rfl
  have g2 : fn_ref18_Src x.1 = some (sSrc x.1) := rfl
  rw [show fn_ref18_Form (x.1, x.2.1, x.2.2.1, x.2.2.2.1, x.2.2.2.2) = _ from refForm_eq x] at h
  simp only [Option.bind_some, g1, g2, loc_ref] at h
  cases hf : fOk x with
  | false => rw [hf] at h; simp at h
  | true =>
    rw [hf] at h
    simp only [Bool.not_true, cond_false] at h
    cases c1 : (sDst x.1 && !loc L x.2.1) with
    | true => rw [c1] at h; simp at h
    | false =>
      rw [c1] at h
      simp only [cond_false, Option.bind_some] at h
      cases c2 : (sSrc x.1 && !loc L x.2.2.1) with
      | true => rw [c2] at h; simp at h
      | false =>
        refine ⟨rfl, fun e => ?_, fun e => ?_⟩
        · rw [e] at c1; simpa using c1
        · rw [e] at c2; simpa using c2
theorem tE_in {a : Ar} {x : Tm} (h : tE a x = 0) (hl : x.2.2.2.1.length ≤ 20) (hl2 : x.2.2.2.2.1.length ≤ 20) (hl3 : x.2.2.2.2.2.length ≤ 20) :
    tForm x = 0 ∧ bad (a.2.2.1.length : Int) x.2.2.2.2.1 = false ∧ (x.1 = 4 → bad (a.2.2.1.length : Int) [x.2.2.1] = false) ∧ (x.1 = 3 → ¬ a.2.2.1.length = 0) := by
  unfold tE fn_ref19_Needs at h
  rw [show fn_ref19_Form (x.1, x.2.1, x.2.2.1, x.2.2.2.1, x.2.2.2.2.1, x.2.2.2.2.2) = _ from refTForm_eq x] at h
  simp only [Option.bind_some, refWithin_eq x.2.2.2.1 _ (by omega), refWithin_eq x.2.2.2.2.1 _ (by omega), refWithin_eq x.2.2.2.2.2 _ (by omega), refWithin_eq [x.2.2.1] _ (by simp), refWithin_eq [x.2.1] _ (by simp), Bool.not_not] at h
  by_cases q2 : tForm x = 0
  · rw [decide_eq_true q2, Bool.not_true, cond_false] at h
    cases c1 : bad a.1 x.2.2.2.1 with
    | true => rw [c1] at h; simp at h
    | false =>
      rw [c1] at h
      simp only [cond_false, Option.bind_some] at h
      cases c2 : bad (a.2.2.1.length : Int) x.2.2.2.2.1 with
      | true => rw [c2] at h; simp at h
      | false =>
        rw [c2] at h
        simp only [cond_false, Option.bind_some] at h
        cases c3 : bad a.2.1 x.2.2.2.2.2 with
        | true => rw [c3] at h; simp at h
        | false =>
          rw [c3] at h
          simp only [cond_false, Option.bind_some] at h
          refine ⟨q2, rfl, fun e => ?_, fun e => ?_⟩
          · cases c4 : bad (a.2.2.1.length : Int) [x.2.2.1] with
            | false => rfl
            | true => rw [c4] at h; simp [e] at h
          · intro e0
            rw [e, e0] at h
            simp at h
  · rw [decide_eq_false q2, Bool.not_false, cond_true] at h
    exact absurd h q2
theorem vor0z {a b : Flt} (h : (or0 a b).1 = 0) : a.1 = 0 ∧ b.1 = 0 := by
  unfold or0 at h
  split at h
  · rename_i q; exact ⟨q, h⟩
  · rename_i q; exact absurd h q
theorem vck_all {b : Bo} (h : (vck b).1 = 0) : ∀ x ∈ b.2.2.2.2.2.2, (∀ s ∈ x.1, sE b.2.2.2.1 b.2.1 s = 0) ∧ tE (arOf b) x.2 = 0 := by
  unfold vck at h
  have hc := (vor0z (vor0z (vor0z (vor0z (vor0z (vor0z h).2).2).2).2).2).2
  unfold vCode at hc
  cases hq : b.2.2.2.2.2.2.findIdx? (fun x => (blkE b x).isSome) with
  | none =>
    intro x hx
    have := List.findIdx?_eq_none_iff.1 hq x hx
    unfold blkE at this
    split at this
    · simp at this
    · rename_i hs
      refine ⟨fun s hm => ?_, ?_⟩
      · have := List.findIdx?_eq_none_iff.1 hs s hm
        simpa using this
      · by_cases q : tE (arOf b) x.2 = 0
        · exact q
        · rw [if_neg q] at this; simp at this
  | some k =>
    exfalso
    rw [hq] at hc
    obtain ⟨hk, hcc, _⟩ := List.findIdx?_eq_some_iff_getElem.1 hq
    have e : b.2.2.2.2.2.2.getD k ([], 0, 0, 0, [], [], []) = b.2.2.2.2.2.2[k] := by simp [List.getD, hk]
    simp only [e] at hc
    unfold blkE at hcc hc
    split at hcc
    · rename_i j hj
      rw [hj] at hc
      obtain ⟨hj1, hj2, _⟩ := List.findIdx?_eq_some_iff_getElem.1 hj
      have e2 : b.2.2.2.2.2.2[k].1.getD j (0, 0, 0, 0, false) = b.2.2.2.2.2.2[k].1[j] := by simp [List.getD, hj1]
      simp only [e2, fltOf] at hc
      simp [hc] at hj2
    · rename_i hj
      rw [hj] at hc
      by_cases q : tE (arOf b) b.2.2.2.2.2.2[k].2 = 0
      · rw [if_pos q] at hcc; simp at hcc
      · rw [if_neg q] at hc; simp only [fltOf] at hc; exact q hc
theorem bad_in {n : Nat} {l : List Int} (h : bad (n : Int) l = false) : inL n l := by
  intro a ha
  unfold bad at h
  rw [List.any_eq_false] at h
  have := h a ha
  simp at this
  omega
/-- The body's blocks touch locals that there are. -/
structure Vb (N : Nat) (X : List Blk) : Prop where
  st : ∀ x ∈ X, ∀ s ∈ x.1, Tg N (sT s)
  tm : ∀ x ∈ X, Tg N (tT x.2)
  fm : ∀ x ∈ X, tForm x.2 = 0
  ar : ∀ x ∈ X, x.2.2.2.2.2.1.length ≤ 20
  pos : X ≠ [] → 0 < N
theorem vb_of {b : Bo} (h : Sm b) : Vb b.2.2.2.1.length (xs b) := by
  unfold xs
  by_cases q : (vck b).1 = 0
  · rw [if_pos q]
    have ha := vck_all q
    refine ⟨fun x hx s hs => ?_, fun x hx => ?_, fun x hx => ?_, fun x hx => (h.term x hx).2.1, fun _ => ?_⟩
    · obtain ⟨h1, h2, h3⟩ := sE_in ((ha x hx).1 s hs)
      refine ⟨fun a m => ?_, fun a m => ?_, ?_, ?_⟩
      · unfold sT at m; dsimp only at m
        by_cases c : sSrc s.1 = true
        · rw [if_pos c] at m; simp at m; subst m
          have := h3 c; unfold loc at this; simp at this; omega
        · rw [if_neg c] at m; simp at m
      · unfold sT at m; dsimp only at m
        by_cases c : sDst s.1 = true
        · rw [if_pos c] at m; simp at m; subst m
          have := h2 c; unfold loc at this; simp at this; omega
        · rw [if_neg c] at m; simp at m
      · unfold sT; dsimp only; split <;> simp
      · unfold sT; dsimp only; split <;> simp
    · obtain ⟨a1, a2, a3⟩ := h.term x hx
      obtain ⟨h1, h2, h3, h4⟩ := tE_in (ha x hx).2 a1 a2 a3
      unfold tT
      by_cases c1 : x.2.1 = 2
      · rw [if_pos c1]; exact ⟨bad_in h2, fun a m => by simp at m, by dsimp only; omega, by simp⟩
      · rw [if_neg c1]
        by_cases c2 : x.2.1 = 4
        · rw [if_pos c2]; exact ⟨bad_in h2, bad_in (h3 c2), by dsimp only; omega, by simp⟩
        · rw [if_neg c2]
          by_cases c3 : x.2.1 = 3
          · rw [if_pos c3]
            have := h4 c3
            refine ⟨fun a m => ?_, fun a m => by simp at m, by simp, by simp⟩
            simp at m; subst m
            unfold arOf at this; dsimp only at this
            omega
          · rw [if_neg c3]; exact ⟨fun a m => by simp at m, fun a m => by simp at m, by simp, by simp⟩
    · obtain ⟨a1, a2, a3⟩ := h.term x hx
      exact (tE_in (ha x hx).2 a1 a2 a3).1
    · unfold vck at q
      have hl := (vor0z (vor0z (vor0z q).2).2).1
      unfold vLoc at hl
      by_cases c : b.2.2.2.1 = []
      · rw [if_pos c] at hl; simp at hl
      · exact List.length_pos_iff.2 c
  · rw [if_neg q]
    exact ⟨fun x hx => (by cases hx), fun x hx => (by cases hx), fun x hx => (by cases hx), fun x hx => (by cases hx), fun e => absurd rfl e⟩
/-! ### All points. -/
theorem new_l1 {N : Nat} {x : Blk} {P : List Tc} (hx : ∀ s ∈ x.1, Tg N (sT s)) (hl : x.1.length ≤ 1000) (hP : P.length ≤ 10000) :
    loop (fn_touch_New_l1 x) (0, P, lcs N P) = some (P ++ x.1.map (fun s => cpT (sT s)), lcs N (P ++ x.1.map (fun s => cpT (sT s)))) := by
  have h := loop_nat (body := fn_touch_New_l1 x) (fun k : Nat => ((k : Int), P ++ (x.1.take k).map (fun s => cpT (sT s)), lcs N (P ++ (x.1.take k).map (fun s => cpT (sT s))))) x.1.length (b := (P ++ x.1.map (fun s => cpT (sT s)), lcs N (P ++ x.1.map (fun s => cpT (sT s))))) ?_ ?_
  · simpa using h
  · intro k hk
    unfold fn_touch_New_l1
    simp only [dlt hk, cond_true, getN hk, Option.bind_some, byStmt_eq]
    rw [show fn_touch_Touches_add_p0arr_rod (sT x.1[k]).1 (sT x.1[k]).2 _ _ = _ from add_eq (hx _ (List.getElem_mem hk)) (by simp; omega), Option.bind_some]
    simp only [w64s hk (by omega : x.1.length ≤ 9223372036854775807), take_snoc hk, List.map_append, List.map_cons, List.map_nil, List.append_assoc]
  · unfold fn_touch_New_l1
    simp
theorem touchNew_eq {b : Bo} (h : Sm b) : fn_touch_New b = some (some (pts (xs b), if bg (xs b) (xs b).length = 0 then [] else lcs b.2.2.2.1.length (pts (xs b)))) := by
  obtain ⟨hb, hX8⟩ := xs_bound h (Nat.le_refl _)
  have hv := vb_of h
  have hNL := h.locals
  have hxs : bg (xs b) (xs b).length ≠ 0 → xs b = b.2.2.2.2.2.2 := by
    unfold xs; split
    · intro _; rfl
    · intro hc; exact absurd (by simp [bg, stm]) hc
  have hbs := h
  unfold fn_touch_New
  rw [show fn_point_New (b.1, b.2.1, b.2.2.1, b.2.2.2.1, b.2.2.2.2.1, b.2.2.2.2.2.1, b.2.2.2.2.2.2) = _ from pointNew_eq h, Option.bind_some, show fn_point_Points_Len (some (bgs (xs b), ((bg (xs b) (xs b).length : Nat) : Int))) = some ((bg (xs b) (xs b).length : Nat) : Int) from rfl, Option.bind_some]
  by_cases q : bg (xs b) (xs b).length = 0
  · rw [if_pos q, q]
    have : pts (xs b) = [] := by
      have := pts_len (xs b); rw [q] at this; exact List.length_eq_zero_iff.1 this
    rw [this]; rfl
  · rw [if_neg q, decide_eq_false (by omega), cond_false, mkN (by omega), Option.bind_some]
    have hX := hxs q
    have hl0 : List.replicate b.2.2.2.1.length (([], []) : Tc) = lcs b.2.2.2.1.length [] := by rw [rmap]; rfl
    rw [hl0]
    have hL := loop_nat (body := fn_touch_New_l2 b) (fun k : Nat => ((k : Int), ptsN (xs b) k, lcs b.2.2.2.1.length (ptsN (xs b) k))) (xs b).length (b := (pts (xs b), lcs b.2.2.2.1.length (pts (xs b)))) ?_ ?_
    · rw [show loop (fn_touch_New_l2 b) (0, [], lcs b.2.2.2.1.length []) = _ from hL]; rfl
    · intro k hk
      have hk2 : k < b.2.2.2.2.2.2.length := by rw [← hX]; exact hk
      have hget : getI b.2.2.2.2.2.2 (k : Int) = some (xs b)[k] := by rw [getN hk2]; simp only [hX]
      have hm : (xs b)[k] ∈ xs b := List.getElem_mem hk
      have a0 := ptsN_len (xs b) k (by omega)
      have a1 := bg_mono (xs b) (i := k + 1) (j := (xs b).length) hk (Nat.le_refl _)
      rw [bg_succ hk] at a1
      have a2 := hv.ar _ hm
      unfold fn_touch_New_l2
      simp only [dlt hk2, cond_true, hget, Option.bind_some]
      rw [new_l1 (hv.st _ hm) (by omega) (by omega), Option.bind_some]
      dsimp only
      rw [byTerm_eq (xs b)[k].2 (by omega), Option.bind_some, add_eq (hv.tm _ hm) (by simp; omega), Option.bind_some, w64s hk (by omega)]
      simp only [ptsN, rowP, getD_eq hk, List.append_assoc]
    · unfold fn_touch_New_l2
      dsimp only
      rw [dge (by rw [← hX]; omega), cond_false]
end Go.Proofs.Ytkpdfepjanfmbaa
namespace Go.Proofs.Ytkpdfepjanfmbaa
open Go.RowKit
set_option linter.unusedVariables false
set_option linter.unnecessarySimpa false
set_option linter.unusedSimpArgs false
set_option maxRecDepth 20000
section
variable {P : List Tc} {C : List Tc}
theorem tLen : fn_touch_Touches_Len (some (P, C)) = some ((P.length : Nat) : Int) := rfl
theorem tReads {n : Nat} (hn : n < P.length) (hl : P[n].1.length ≤ 1000000) : fn_touch_Touches_Reads (some (P, C)) (n : Int) = some P[n].1 := by
  unfold fn_touch_Touches_Reads
  rw [decide_eq_false (by omega), cond_false, tLen, Option.bind_some, Option.bind_some, decide_eq_false (by omega), cond_false]
  simp only [Option.bind_some]
  rw [getN hn, Option.bind_some, clone_eq _ hl]; rfl
theorem tReads_none {n : Int} (hn : n < 0 ∨ (P.length : Int) ≤ n) : fn_touch_Touches_Reads (some (P, C)) n = some [] := by
  unfold fn_touch_Touches_Reads
  by_cases q : n < 0
  · rw [decide_eq_true q]; rfl
  · rw [decide_eq_false q, cond_false, tLen, Option.bind_some, Option.bind_some, decide_eq_true (by omega)]; rfl
def wOf (t : Tc) : Int × Bool := match t.2 with | [] => (0, false) | a :: _ => (a, true)
theorem tWrite {n : Nat} (hn : n < P.length) : fn_touch_Touches_Write (some (P, C)) (n : Int) = some (wOf P[n]) := by
  unfold fn_touch_Touches_Write wOf
  rw [decide_eq_false (by omega), cond_false, tLen, Option.bind_some, Option.bind_some, decide_eq_false (by omega), cond_false]
  simp only [Option.bind_some]
  rw [getN hn]
  simp only [Option.bind_some]
  cases h : P[n].2 with
  | nil => rfl
  | cons a l =>
    rw [decide_eq_false (by simp; omega), cond_false]; rfl
theorem tWrite_none {n : Int} (hn : n < 0 ∨ (P.length : Int) ≤ n) : fn_touch_Touches_Write (some (P, C)) n = some (0, false) := by
  unfold fn_touch_Touches_Write
  by_cases q : n < 0
  · rw [decide_eq_true q]; rfl
  · rw [decide_eq_false q, cond_false, tLen, Option.bind_some, Option.bind_some, decide_eq_true (by omega)]; rfl
end
abbrev b24 : Bo := (1, 1, [], [[], [], []], [], [], [([(1, 1, 2, 0, false)], (3, 0, 0, [], [], []))])
theorem sm24 : Sm b24 := ⟨by decide, by decide, by decide, by decide, by decide, by decide, by decide, by decide, by decide⟩
theorem st24 : fn_ref18_Needs (1, 1, 2, 0, false) b24.2.2.2.1 b24.2.1 = some ([], 0) := by
  unfold fn_ref18_Needs
  rw [show fn_ref18_Form ((1 : Int), 1, 2, 0, false) = _ from refForm_eq (1, 1, 2, 0, false)]
  have e : fn_ref16_Flow [] [] 1 0 = some ([], 0) := by
    rw [refFlow_eq _ _ _ _ (by decide) (by decide) (by decide)]; rfl
  show ((fn_ref16_Flow [] [] 1 0).bind _) = _
  rw [e]; rfl
theorem vck24 : (vck b24).1 = 0 := by
  have hs : sE b24.2.2.2.1 b24.2.1 (1, 1, 2, 0, false) = 0 := by unfold sE; rw [st24]; rfl
  have hr : tE (arOf b24) (3, 0, 0, [], [], []) = 0 := tE_ret (t := []) (L := [[], []]) rfl rfl (by simp)
  have hc : vCode b24 = (0, 0, 0, 0) := by
    have h1 : blkE b24 ([(1, 1, 2, 0, false)], (3, 0, 0, [], [], [])) = none := by
      unfold blkE
      simp only [List.findIdx?_cons, hs, hr]
      rfl
    unfold vCode
    simp only [List.findIdx?_cons, h1]
    rfl
  unfold vck
  rw [hc]; rfl
theorem xs24 : xs b24 = b24.2.2.2.2.2.2 := by unfold xs; rw [if_pos vck24]
theorem cp_one (a : Int) : cp [a] = [a] := by
  refine strict_eq (cp_lt _) (by simp) (fun x => ?_)
  rw [cp_mem]
theorem pts24 : pts (xs b24) = [([2], [1]), ([0], [])] := by
  rw [xs24]
  show [] ++ ([cpT ([2], [1])] ++ [cpT ([0], [])]) = _
  unfold cpT
  rw [cp_one, cp_one]; rfl
theorem awake24 : fn_law24_awake = some true := by
  unfold fn_law24_awake
  rw [show (mk 3 3 ([]) : Option (List (List (Int × Bool)))) = some [[], [], []] from mkN (k := 3) (by decide), Option.bind_some,
    show fn_touch_New (1, 1, [], [[], [], []], [], [], [([(1, 1, 2, 0, false)], (3, 0, 0, [], [], []))]) = _ from touchNew_eq sm24, Option.bind_some, pts24]
  have hl : ([([2], [1]), ([0], [])] : List Tc).length = 2 := rfl
  have w0 := tWrite (P := [([2], [1]), ([0], [])]) (C := if bg (xs b24) (xs b24).length = 0 then [] else lcs b24.2.2.2.1.length [([2], [1]), ([0], [])]) (n := 0) (by simp)
  have r0 := tReads (P := [([2], [1]), ([0], [])]) (C := if bg (xs b24) (xs b24).length = 0 then [] else lcs b24.2.2.2.1.length [([2], [1]), ([0], [])]) (n := 0) (by simp) (by simp)
  have r1 := tReads (P := [([2], [1]), ([0], [])]) (C := if bg (xs b24) (xs b24).length = 0 then [] else lcs b24.2.2.2.1.length [([2], [1]), ([0], [])]) (n := 1) (by simp) (by simp)
  rw [show fn_touch_Touches_Write _ 0 = _ from w0, show fn_touch_Touches_Reads _ 0 = _ from r0, show fn_touch_Touches_Reads _ 1 = _ from r1, tLen]
  simp only [Option.bind_some, wOf, List.getElem_cons_zero, List.getElem_cons_succ]
  rw [same01_eq _ _ (by simp), same01_eq _ _ (by simp)]
  rfl
end Go.Proofs.Ytkpdfepjanfmbaa
namespace Go.Proofs.Ytkpdfepjanfmbaa
open Go.RowKit
set_option linter.unusedVariables false
set_option linter.unnecessarySimpa false
set_option linter.unusedSimpArgs false
set_option maxRecDepth 20000
/-- Lists without repetition. -/
theorem pts_nd {X : List Blk} {n : Nat} (hn : n < (pts X).length) : ∃ t, (pts X)[n] = cpT t := by
  have hl := pts_len X
  obtain ⟨j, k, hj, hk, rfl, _⟩ := locate X X.length (Nat.le_refl _) n (by omega)
  have h := ptsN_get X _ (Nat.le_refl _) j k hj hj hk
  rw [List.getElem?_eq_getElem hn] at h
  by_cases q : k < X[j].1.length
  · rw [rowP_stm q] at h; exact ⟨_, Option.some.inj h⟩
  · have : k = X[j].1.length := by omega
    subst this
    rw [rowP_end] at h; exact ⟨_, Option.some.inj h⟩
theorem pts_tg {N : Nat} {X : List Blk} (hv : Vb N X) {n : Nat} (hn : n < (pts X).length) : inL N (pts X)[n].1 ∧ (pts X)[n].1.Nodup ∧ (pts X)[n].1.length ≤ 1000 ∧ inL N (pts X)[n].2 ∧ (pts X)[n].2.length ≤ 1 := by
  have hl := pts_len X
  obtain ⟨j, k, hj, hk, rfl, _⟩ := locate X X.length (Nat.le_refl _) n (by omega)
  have h := ptsN_get X _ (Nat.le_refl _) j k hj hj hk
  rw [List.getElem?_eq_getElem hn] at h
  have key : ∀ t, Tg N t → inL N (cpT t).1 ∧ (cpT t).1.Nodup ∧ (cpT t).1.length ≤ 1000 ∧ inL N (cpT t).2 ∧ (cpT t).2.length ≤ 1 := fun t ht =>
    ⟨fun a ha => ht.r a ((cp_mem _ _).1 ha), cp_nd _, Nat.le_trans (cp_len _) ht.rl, ht.w, ht.wl⟩
  by_cases q : k < X[j].1.length
  · rw [rowP_stm q] at h; rw [Option.some.inj h]; exact key _ (hv.st _ (List.getElem_mem hj) _ (List.getElem_mem q))
  · have : k = X[j].1.length := by omega
    subst this
    rw [rowP_end] at h; rw [Option.some.inj h]; exact key _ (hv.tm _ (List.getElem_mem hj))
theorem tOf {P C : List Tc} {l : Nat} (hl : l < C.length) (h1 : C[l].1.length ≤ 1000000) (h2 : C[l].2.length ≤ 1000000) : fn_touch_Touches_Of (some (P, C)) (l : Int) = some (C[l].1, C[l].2) := by
  unfold fn_touch_Touches_Of
  have e : (Option.isNone (some (P, C)) || decide ((l : Int) < 0)) = false := by simp
  rw [e, cond_false]
  simp only [Option.bind_some]
  rw [decide_eq_false (by omega), cond_false, getN hl]
  simp only [Option.bind_some, clone_eq _ h1, clone_eq _ h2]
theorem tOf_none {P C : List Tc} {l : Int} (hl : l < 0 ∨ (C.length : Int) ≤ l) : fn_touch_Touches_Of (some (P, C)) l = some ([], []) := by
  unfold fn_touch_Touches_Of
  by_cases q : l < 0
  · have e : (Option.isNone (some (P, C)) || decide (l < 0)) = true := by simp [q]
    rw [e, cond_true]; rfl
  · have e : (Option.isNone (some (P, C)) || decide (l < 0)) = false := by simp; omega
    rw [e, cond_false]
    simp only [Option.bind_some]
    rw [decide_eq_true (by omega)]; rfl
/-- The points whose reads, and whose writes, hold a number. -/
def rdI (P : List Tc) (a : Int) (n : Nat) : List Int := ((List.range n).filter (fun (i : Nat) => decide (a ∈ (P.getD i ([], [])).1))).map (fun i : Nat => (i : Int))
def wrI (P : List Tc) (a : Int) (n : Nat) : List Int := ((List.range n).filter (fun (i : Nat) => decide (a ∈ (P.getD i ([], [])).2))).map (fun i : Nat => (i : Int))
theorem rdI_succ (P : List Tc) (a : Int) {n : Nat} (hn : n < P.length) : rdI P a (n + 1) = rdI P a n ++ if a ∈ P[n].1 then [(n : Int)] else [] := by
  unfold rdI
  rw [List.range_succ, List.filter_append, List.map_append]
  congr 1
  simp only [List.filter_cons, List.filter_nil, getD_eq hn]
  by_cases c : a ∈ P[n].1 <;> simp [c]
theorem wrI_succ (P : List Tc) (a : Int) {n : Nat} (hn : n < P.length) : wrI P a (n + 1) = wrI P a n ++ if a ∈ P[n].2 then [(n : Int)] else [] := by
  unfold wrI
  rw [List.range_succ, List.filter_append, List.map_append]
  congr 1
  simp only [List.filter_cons, List.filter_nil, getD_eq hn]
  by_cases c : a ∈ P[n].2 <;> simp [c]
theorem rdI_len (P : List Tc) (a : Int) (n : Nat) : (rdI P a n).length ≤ n := by
  unfold rdI; rw [List.length_map]; exact Nat.le_trans (List.length_filter_le ..) (by simp)
theorem wrI_len (P : List Tc) (a : Int) (n : Nat) : (wrI P a n).length ≤ n := by
  unfold wrI; rw [List.length_map]; exact Nat.le_trans (List.length_filter_le ..) (by simp)
theorem rdI_out {P : List Tc} {N : Nat} {a : Int} (h : a < 0 ∨ (N : Int) ≤ a) (hP : ∀ n, (hn : n < P.length) → inL N P[n].1 ∧ inL N P[n].2) : rdI P a P.length = [] ∧ wrI P a P.length = [] := by
  unfold rdI wrI
  constructor
  · rw [List.map_eq_nil_iff, List.filter_eq_nil_iff]
    intro n hn hc
    have hn := List.mem_range.1 hn
    rw [getD_eq hn] at hc
    have := (hP n hn).1 a (by simpa using hc)
    omega
  · rw [List.map_eq_nil_iff, List.filter_eq_nil_iff]
    intro n hn hc
    have hn := List.mem_range.1 hn
    rw [getD_eq hn] at hc
    have := (hP n hn).2 a (by simpa using hc)
    omega
theorem agree_l1 {a : Int} {n : Nat} {q : List Int} (hq : q.Nodup) (hl : q.length ≤ 1000) {acc : List Int} (ha : acc.length ≤ 1000000) :
    loop (fn_law24_TouchAgrees_l1 a (n : Int) q) (acc, 0) = some (acc ++ if a ∈ q then [(n : Int)] else []) := by
  have h := loop_carry (body := fn_law24_TouchAgrees_l1 a (n : Int) q) q (fun k => acc ++ if a ∈ q.take k then [(n : Int)] else []) (acc ++ if a ∈ q then [(n : Int)] else []) ?_ ?_
  · simpa using h
  · intro k hk
    unfold fn_law24_TouchAgrees_l1
    simp only [dlt hk, cond_true, getN hk, Option.bind_some, w64s hk (by omega : q.length ≤ 9223372036854775807)]
    by_cases c : q[k] = a
    · have hnot : ¬ a ∈ q.take k := by
        intro hmem
        obtain ⟨i, hi, e⟩ := List.getElem_of_mem hmem
        simp at hi
        rw [List.getElem_take] at e
        exact List.pairwise_iff_getElem.1 hq i k (by omega) hk (by omega) (e.trans c.symm)
      have hin : a ∈ q.take (k + 1) := by rw [take_snoc hk, c]; simp
      rw [decide_eq_true c, cond_true, if_neg hnot, app_eq (by simp; omega), Option.bind_some, if_pos hin, List.append_nil]
    · have c' : ¬ a = q[k] := fun e => c e.symm
      rw [decide_eq_false c, cond_false]
      have hiff : a ∈ q.take (k + 1) ↔ a ∈ q.take k := by rw [take_snoc hk, List.mem_append, List.mem_singleton]; exact ⟨fun h => h.elim id (fun e => absurd e c'), .inl⟩
      by_cases c2 : a ∈ q.take k
      · rw [if_pos c2, if_pos (hiff.2 c2)]
      · rw [if_neg c2, if_neg (fun h => c2 (hiff.1 h))]
  · rw [List.take_length]
    unfold fn_law24_TouchAgrees_l1
    simp
theorem wOf_is {t : Tc} (h : t.2.length ≤ 1) (a : Int) : ((wOf t).2 && decide ((wOf t).1 = a)) = decide (a ∈ t.2) := by
  unfold wOf
  cases hw : t.2 with
  | nil => simp
  | cons b l =>
    rw [hw] at h
    have : l = [] := by cases l with
      | nil => rfl
      | cons c l => simp at h
    subst this
    simp [eq_comm]
theorem agree_l2 {P C : List Tc} {a : Int} (hP : P.length ≤ 1000) (hr : ∀ n, (hn : n < P.length) → P[n].1.Nodup ∧ P[n].1.length ≤ 1000 ∧ P[n].2.length ≤ 1) :
    loop (fn_law24_TouchAgrees_l2 a (some (P, C))) ([], [], 0) = some (rdI P a P.length, wrI P a P.length) := by
  have h := loop_nat (body := fn_law24_TouchAgrees_l2 a (some (P, C))) (fun k : Nat => (rdI P a k, wrI P a k, (k : Int))) P.length (b := (rdI P a P.length, wrI P a P.length)) ?_ ?_
  · exact h
  · intro n hn
    obtain ⟨h1, h2, h3⟩ := hr n hn
    have l1 := rdI_len P a n
    have l2 := wrI_len P a n
    unfold fn_law24_TouchAgrees_l2
    dsimp only
    rw [tLen, Option.bind_some, dlt hn, cond_true, tReads hn (by omega), Option.bind_some, agree_l1 h1 h2 (by omega), Option.bind_some, tWrite hn, Option.bind_some]
    rw [wOf_is h3, rdI_succ P a hn, wrI_succ P a hn, w64s hn (by omega)]
    by_cases c : a ∈ P[n].2
    · rw [decide_eq_true c, cond_true, app_eq (by simp; omega), Option.bind_some, if_pos c]
    · rw [decide_eq_false c, cond_false, if_neg c, List.append_nil]
  · unfold fn_law24_TouchAgrees_l2
    dsimp only
    rw [tLen, Option.bind_some, dge (by omega), cond_false]
theorem TouchAgrees_true (xa : Bo) (xb : Int) (k0 : Tp.Ok tyBody xa) (k1 : Tp.Ok (.int .i64) xb) (q0 : Tp.Fit tyBody xa) (q1 : Tp.Fit (.int .i64) xb) : fn_law24_TouchAgrees xa xb = some true := by
  unfold fn_law24_TouchAgrees
  rcases small20 xa (fit_body q0) with h | ⟨h, hs⟩
  · rw [show fn_ref20_Small (xa.1, xa.2.1, xa.2.2.1, xa.2.2.2.1, xa.2.2.2.2.1, xa.2.2.2.2.2.1, xa.2.2.2.2.2.2) = some false from h, awake24]; rfl
  · rw [show fn_ref20_Small (xa.1, xa.2.1, xa.2.2.1, xa.2.2.2.1, xa.2.2.2.2.1, xa.2.2.2.2.2.1, xa.2.2.2.2.2.2) = some true from h, show fn_touch_New (xa.1, xa.2.1, xa.2.2.1, xa.2.2.2.1, xa.2.2.2.2.1, xa.2.2.2.2.2.1, xa.2.2.2.2.2.2) = _ from touchNew_eq hs]
    obtain ⟨hb, hX8⟩ := xs_bound hs (Nat.le_refl _)
    have hv := vb_of hs
    have hNL := hs.locals
    have hl2 := pts_len (xs xa)
    have htg := fun n (hn : n < (pts (xs xa)).length) => pts_tg hv hn
    have key : ∃ r w, fn_touch_Touches_Of (some (pts (xs xa), if bg (xs xa) (xs xa).length = 0 then [] else lcs xa.2.2.2.1.length (pts (xs xa)))) xb = some (r, w) ∧ r = rdI (pts (xs xa)) xb (pts (xs xa)).length ∧ w = wrI (pts (xs xa)) xb (pts (xs xa)).length := by
      by_cases q : bg (xs xa) (xs xa).length = 0
      · rw [if_pos q, hl2, q]
        exact ⟨[], [], tOf_none (by simp; omega), rfl, rfl⟩
      · rw [if_neg q]
        have hlc : (lcs xa.2.2.2.1.length (pts (xs xa))).length = xa.2.2.2.1.length := by simp [lcs]
        by_cases c : xb < 0 ∨ ((xa.2.2.2.1.length : Nat) : Int) ≤ xb
        · obtain ⟨e1, e2⟩ := rdI_out c (fun n hn => ⟨(htg n hn).1, (htg n hn).2.2.2.1⟩)
          exact ⟨[], [], tOf_none (by rw [hlc]; exact c), e1.symm, e2.symm⟩
        · obtain ⟨m, rfl⟩ := Int.eq_ofNat_of_zero_le (show 0 ≤ xb by omega)
          have hm : m < (lcs xa.2.2.2.1.length (pts (xs xa))).length := by rw [hlc]; omega
          have hg : (lcs xa.2.2.2.1.length (pts (xs xa)))[m] = (rdr (pts (xs xa)) m, wtr (pts (xs xa)) m) := by simp [lcs]
          have l1 := rdr_len (pts (xs xa)) m
          have l2 := wtr_len (pts (xs xa)) m
          refine ⟨_, _, tOf hm (by rw [hg]; dsimp only; omega) (by rw [hg]; dsimp only; omega), ?_, ?_⟩
          · rw [hg]; rfl
          · rw [hg]; rfl
    obtain ⟨r, w, h1, h2, h3⟩ := key
    have n1 : fn_touch_Touches_Of none 0 = some ([], []) := rfl
    have n2 : fn_touch_Touches_Write none 0 = some (0, false) := rfl
    have n3 : fn_touch_Touches_Len none = some 0 := rfl
    have n4 : fn_touch_Touches_Reads none 0 = some [] := rfl
    have l1 := rdI_len (pts (xs xa)) xb (pts (xs xa)).length
    have l2 := wrI_len (pts (xs xa)) xb (pts (xs xa)).length
    simp only [Option.bind_some, Bool.not_true, cond_false]
    rw [h1, Option.bind_some]
    dsimp only
    rw [agree_l2 (by omega) (fun n hn => ⟨(htg n hn).2.1, (htg n hn).2.2.1, (htg n hn).2.2.2.2⟩), Option.bind_some]
    dsimp only
    rw [← h2, ← h3, n1, n2, n3, n4, same01_eq r r (by rw [h2]; omega), same01_eq w w (by rw [h3]; omega), awake24]
    simp
end Go.Proofs.Ytkpdfepjanfmbaa
namespace Go.Proofs.Ytkpdfepjanfmbaa
open Go.RowKit
set_option linter.unusedVariables false
set_option linter.unnecessarySimpa false
set_option linter.unusedSimpArgs false
set_option maxRecDepth 20000
theorem TouchAgrees_walk {H : Type} (enc : TypeId × Value → H) (W : World) (base : Nat) {v0 v1 : Value} {d0 d1 : DataW H} {p0 p1 : List MemPlace}
    (h0 : DataW.Trod enc Try.prog W 0 (fun _ => true) true 30 v0 d0 p0) (h1 : DataW.Trod enc Try.prog W 0 (fun _ => true) true 3 v1 d1 p1)
    (o0 : Value.okWide Try.prog W .any base 30 v0) (o1 : Value.okWide Try.prog W .any base 3 v1)
    (w0 : (d0.weights Try.prog 30).all (· ≤ reachBytes) = true)
    (w1 : (d1.weights Try.prog 3).all (· ≤ reachBytes) = true) :
    Calls Try.prog 3 #[v0, v1] W fun e W' => e = .returned (.bool true) ∧ Below W.heap.size W W' := by
  obtain ⟨xa, i0, k0⟩ := Tp.arg (.cons (.int .i64) (.cons (.int .i64) (.cons (.sl (.cons (.int .i64) (.one (.int .i64)))) (.cons (.sl (.one (.sl (.cons (.int .i64) (.one .bool))))) (.cons (.one (.sl (.cons (.int .i64) (.one .bool)))) (.cons (.sl (.cons (.int .i64) (.cons (.sl (.cons (.int .i64) (.one (.int .i64)))) (.cons (.sl (.one (.sl (.cons (.int .i64) (.one .bool))))) (.one (.one (.sl (.cons (.int .i64) (.one .bool))))))))) (.one (.sl (.cons (.sl (.cons (.int .i64) (.cons (.int .i64) (.cons (.int .i64) (.cons (.int .i64) (.one .bool)))))) (.one (.cons (.int .i64) (.cons (.int .i64) (.cons (.int .i64) (.cons (.sl (.int .i64)) (.cons (.sl (.int .i64)) (.one (.sl (.int .i64)))))))))))))))))) (by kernel_rfl) o0 h0
  have q0 := Tp.argFit (.cons (.int .i64) (.cons (.int .i64) (.cons (.sl (.cons (.int .i64) (.one (.int .i64)))) (.cons (.sl (.one (.sl (.cons (.int .i64) (.one .bool))))) (.cons (.one (.sl (.cons (.int .i64) (.one .bool)))) (.cons (.sl (.cons (.int .i64) (.cons (.sl (.cons (.int .i64) (.one (.int .i64)))) (.cons (.sl (.one (.sl (.cons (.int .i64) (.one .bool))))) (.one (.one (.sl (.cons (.int .i64) (.one .bool))))))))) (.one (.sl (.cons (.sl (.cons (.int .i64) (.cons (.int .i64) (.cons (.int .i64) (.cons (.int .i64) (.one .bool)))))) (.one (.cons (.int .i64) (.cons (.int .i64) (.cons (.int .i64) (.cons (.sl (.int .i64)) (.cons (.sl (.int .i64)) (.one (.sl (.int .i64)))))))))))))))))) (r := .any) (b := base) (by kernel_rfl) (by kernel_rfl) h0 i0 w0
  obtain ⟨xb, i1, k1⟩ := Tp.arg (.int .i64) (by kernel_rfl) o1 h1
  have q1 := Tp.argFit (.int .i64) (r := .any) (b := base) (by kernel_rfl) (by kernel_rfl) h1 i1 w1
  exact walkX (s := sp_law24_TouchAgrees) (x := (xa, xb)) (args := [v0, v1]) law24_TouchAgrees_is (TouchAgrees_true xa xb k0 k1 q0 q1) rfl rfl ⟨_, _, rfl, of_rel _ i0, _, _, rfl, of_rel _ i1, rfl⟩
end Go.Proofs.Ytkpdfepjanfmbaa
namespace Go.Proofs.Ytkpdfepjanfmbaa.touchAgreesFrame
set_option maxRecDepth 40000
open Go.ChangeShapes Go.WideShapes Go.ChangeAt Go.RowKit
theorem own : ownKnob Try.prog.godebug = none := by kernel_rfl
theorem contract (H : Type) (enc : TypeId × Value → H) (W : World) (base : Nat) (args : Array Value) (ds gs : List (DataW H)) (before : List MemPlace)
    (hval : ∀ (j : Nat) t v, Try.f3.params[j]? = some t → args[j]? = some v → Value.okWide Try.prog W .any base t v)
    (hW : DataW.Whole enc Try.prog Try.f3.params.toList Rows.touchAgreesSpec.vars false W args.toList ds gs before) (vt : List TypeId) (hwt : (DataW.weightsEach Try.prog (Try.f3.params.toList ++ vt) (ds ++ gs)).all (· ≤ reachBytes) = true) :
    Calls Try.prog 3 args W fun e W' => ∃ v, e = .returned v ∧ Rows.touchAgreesSpec.post enc Try.prog Try.f3 false true false false W args v W' := by
  have hW' := hW
  obtain ⟨p, q, hA0, hV, rfl, hfz, hnd⟩ := hW
  have hA : DataW.TrodAll enc Try.prog W 0 (fun _ => true) true Try.f3.params.toList args.toList ds p := hA0
  rw [Try.params3] at hA hval hwt
  obtain ⟨v0, vs0, d0, ds0, p0, q0, hargs, rfl, rfl, h0, r0⟩ := trodAll_cons hA
  obtain ⟨v1, vs1, d1, ds1, p1, q1, rfl, rfl, rfl, h1, r1⟩ := trodAll_cons r0
  obtain ⟨rfl, rfl, rfl⟩ := trodAll_nil r1
  obtain rfl : args = #[v0, v1] := by cases args; simp_all
  refine (TouchAgrees_walk enc W base h0 h1 (hval 0 _ v0 rfl rfl) (hval 1 _ v1 rfl rfl) (wEach _ _ hwt 0 _ _ rfl rfl) (wEach _ _ hwt 1 _ _ rfl rfl)).mono fun e W' ⟨he, hb⟩ => ?_
  subst he
  exact ⟨_, rfl, law_post (tb := _) rfl hW' rfl rfl (by kernel_rfl) (by kernel_rfl) (of_decide_eq_true (by kernel_rfl)) hb⟩
noncomputable def world (os : Os) : World := World.holding Try.prog os ⟨#[], #[], []⟩
theorem reads (os : Os) {H : Type} (enc : TypeId × Value → H) : ∃ x, DataW.whole enc Try.prog ((world os).forCall (fun _ _ => 0) ⟨#[], #[.agg #[.int .i64 0, .int .i64 0, .slice none 0 0, .slice none 0 0, .slice none 0 0, .slice none 0 0, .slice none 0 0], .int .i64 0], []⟩).memory Try.f3.params.toList Rows.touchAgreesSpec.vars false (#[.agg #[.int .i64 0, .int .i64 0, .slice none 0 0, .slice none 0 0, .slice none 0 0, .slice none 0 0, .slice none 0 0], .int .i64 0] : Array Value).toList 8 = some x :=
  Option.isSome_iff_exists.1 (by kernel_rfl)
set_option maxRecDepth 100000 in
theorem lifted (os : Os) (started : os.Started) (H : Type) (enc : TypeId × Value → H) (F : Stop.Interp) :
    ReturnsInHanded {} Try.checked os 3 .any ((OpenSpec.ofChange Rows.touchAgreesSpec).preRow enc Try.prog Try.f3 Rows.touchAgreesRow.domain false Rows.touchAgreesRow.laid) (((OpenSpec.ofChange Rows.touchAgreesSpec).at F).post enc Try.prog Try.f3 false true false false) := by
  obtain ⟨x, hx⟩ := reads os enc
  refine returnsInHanded_of_row (C := Try.checked) (s := OpenSpec.ofChange Rows.touchAgreesSpec) own started (by kernel_rfl) Try.func3
    (witness_row_at (enc := enc) (C := Try.checked) false (world os) #[.agg #[.int .i64 0, .int .i64 0, .slice none 0 0, .slice none 0 0, .slice none 0 0, .slice none 0 0, .slice none 0 0], .int .i64 0] rfl (by kernel_rfl) (by kernel_rfl) (by kernel_rfl)
      (OpenSpec.preRow_of_cond 8 hx (by kernel_rfl) (fun k hk => by cases hk) (by kernel_rfl) (laidMet_of_run' 8 (by kernel_rfl) (by kernel_rfl)))) ?_
  intro W base args ds gs before hval hW _ _ hwt hL _ _
  exact contract H enc W base args ds gs before hval hW _ hwt
theorem proved : Rows.TouchAgreesSaid :=
  OpenClaim.holds_of_cond 3 Try.f3 rfl rfl rfl rfl rfl rfl rfl ⟨rfl, rfl, rfl, rfl, rfl⟩ rfl rfl rfl rfl rfl (by kernel_rfl) Try.func3 (by kernel_rfl)
    (of_decide_eq_true (by kernel_rfl)) (by unfold Func.isWrapper; first | (rw [if_pos (by decide +kernel)]; kernel_rfl) | (rw [if_neg (by decide +kernel)]; exact ⟨rfl, rfl⟩))
    (fun os started H enc _ F => by rw [OpenClaim.pre_eq_preRow]; exact lifted os started H enc F)
end Go.Proofs.Ytkpdfepjanfmbaa.touchAgreesFrame
