/- Layer 19's law of needs (terminators). -/
import Derived.Test.YtgeofnfjgjodgaaQ17
import Derived.Test.YtgeofnfjgjodgaaQ02
namespace Go.Proofs.Ytgeofnfjgjodgaa
open Go.RowKit Lb
set_option linter.unusedVariables false
set_option linter.unnecessarySimpa false
set_option linter.unusedSimpArgs false
abbrev Tm := Int × Int × Int × List Int × List Int × List Int
def tCalls (x : Tm) : Bool := ((!decide (x.2.1 = 0)) || (!decide (x.2.2.1 = 0))) || (decide (0 < x.2.2.2.2.2.length))
def tRight (x : Tm) : Bool :=
  if x.1 = 1 then decide (x.2.2.2.1.length = 1) && decide (x.2.2.2.2.1.length = 0) && !tCalls x
  else if x.1 = 2 then decide (0 < x.2.2.2.1.length) && !tCalls x
  else if x.1 = 3 then decide (x.2.2.2.1.length = 0) && decide (x.2.2.2.2.1.length = 0) && !tCalls x
  else if x.1 = 4 then decide (x.2.2.2.1.length = 1) else false
def tForm (x : Tm) : Int := if tRight x = true then if 16 < x.2.2.2.1.length ∨ 16 < x.2.2.2.2.1.length ∨ 16 < x.2.2.2.2.2.length then 6 else 0 else 3
theorem bnd (a b : Bool) : (cond a (some b) (some false) : Option Bool) = some (a && b) := by cases a <;> rfl
theorem dn1 (n : Nat) : decide ((n : Int) = 1) = decide (n = 1) := by by_cases h : n = 1 <;> simp [h] <;> omega
theorem dn0 (n : Nat) : decide ((n : Int) = 0) = decide (n = 0) := by by_cases h : n = 0 <;> simp [h] <;> omega
theorem dp0 (n : Nat) : decide (0 < (n : Int)) = decide (0 < n) := by by_cases h : 0 < n <;> simp [h] <;> omega
theorem d16 (n : Nat) : decide (16 < (n : Int)) = decide (16 < n) := by by_cases h : 16 < n <;> simp [h] <;> omega
theorem tForm_eq (x : Tm) : fn_term_form x = some (tForm x) := by
  obtain ⟨k, g, d, to, args, ps⟩ := x
  have hc : fn_term_calls (k, g, d, to, args, ps) = some (tCalls (k, g, d, to, args, ps)) := by unfold fn_term_calls tCalls; simp only [dp0]
  unfold fn_term_form tForm
  have hr : ∀ b : Bool, (cond (!b) (some 3) (cond (((decide (16 < ((to.length : Nat) : Int))) || (decide (16 < ((args.length : Nat) : Int)))) || (decide (16 < ((ps.length : Nat) : Int)))) (some 6) (some 0)) : Option Int) = some (if b = true then if 16 < to.length ∨ 16 < args.length ∨ 16 < ps.length then 6 else 0 else 3) := by
    intro b
    cases b with
    | false => rfl
    | true =>
      simp only [d16, Bool.not_true, cond_false, if_true]
      by_cases h1 : 16 < to.length <;> by_cases h2 : 16 < args.length <;> by_cases h3 : 16 < ps.length <;> simp [h1, h2, h3]
  dsimp only at *
  have hm : ∀ (m : Option Bool) (b : Bool), m = some b → (m.bind fun t194 => cond (!t194) (some 3) (cond (((decide (16 < ((to.length : Nat) : Int))) || (decide (16 < ((args.length : Nat) : Int)))) || (decide (16 < ((ps.length : Nat) : Int)))) (some 6) (some 0)) : Option Int) = some (if b = true then if 16 < to.length ∨ 16 < args.length ∨ 16 < ps.length then 6 else 0 else 3) := by
    rintro _ b rfl; exact hr b
  refine hm _ _ ?_
  simp only [hc, Option.bind_some, dn1, dn0, dp0]
  unfold tRight
  dsimp only
  by_cases k1 : k = 1
  · simp [k1, bnd, Bool.and_assoc]
  · by_cases k2 : k = 2
    · simp [k2, bnd, Bool.and_assoc]
    · by_cases k3 : k = 3
      · simp [k3, bnd, Bool.and_assoc]
      · by_cases k4 : k = 4
        · simp [k4]
        · simp [k1, k2, k3, k4]
def pl (l : List Int) : List UInt8 := put (l.length : Int) ++ l.flatMap put
def tPut (x : Tm) : List UInt8 := put x.1 ++
  if x.1 = 1 then put (x.2.2.2.1.getD 0 0)
  else if x.1 = 2 then pl x.2.2.2.1 ++ pl x.2.2.2.2.1
  else if x.1 = 4 then put x.2.1 ++ put x.2.2.1 ++ put (x.2.2.2.1.getD 0 0) ++ pl x.2.2.2.2.2 ++ pl x.2.2.2.2.1 else []
theorem lebPut_eq (n : Int) : fn_leb_Put n = some (put n) := by
  unfold fn_leb_Put; rw [lebAll_eq _ (by simp)]; simp
theorem pl_len (l : List Int) (h : l.length ≤ 16) : (pl l).length ≤ 85 := by
  have := putAll_length l
  have := put_len5 (l.length : Int)
  unfold pl; simp only [List.length_append]; omega
theorem putList_eq (l : List Int) (h : l.length ≤ 16) : fn_term_putList l = some (pl l) := by
  unfold fn_term_putList
  have h1 := putAll_length l
  have h2 := put_len5 (l.length : Int)
  rw [lebPut_eq, Option.bind_some, lebAll_eq l (by omega), Option.bind_some, app_eq (by omega)]; rfl
theorem wrS_eq (a b : List UInt8) (h : a.length + b.length ≤ 1000000) : wrS a b = some (a ++ b) := app_eq (by omega)
theorem tForm_zero {x : Tm} (h : tForm x = 0) : tRight x = true ∧ x.2.2.2.1.length ≤ 16 ∧ x.2.2.2.2.1.length ≤ 16 ∧ x.2.2.2.2.2.length ≤ 16 := by
  unfold tForm at h
  split at h
  · split at h
    · cases h
    · rename_i q; exact ⟨by assumption, by omega, by omega, by omega⟩
  · cases h
theorem tPut_eq (x : Tm) : fn_term_Put x = some (if tForm x = 0 then (tPut x, 0) else ([], tForm x)) := by
  unfold fn_term_Put
  rw [show fn_term_form (x.1, x.2.1, x.2.2.1, x.2.2.2.1, x.2.2.2.2.1, x.2.2.2.2.2) = some (tForm x) from tForm_eq x, Option.bind_some]
  by_cases hf : tForm x = 0
  · obtain ⟨hr, l1, l2, l3⟩ := tForm_zero hf
    obtain ⟨k, g, d, to, args, ps⟩ := x
    dsimp only at l1 l2 l3 hr ⊢
    have b0 := put_len5 k
    rw [if_pos hf, decide_eq_true hf, Bool.not_true, cond_false, lebPut_eq, Option.bind_some, wrS_eq _ _ (by simp; omega), Option.bind_some, List.nil_append]
    unfold tRight at hr
    unfold tPut
    dsimp only at hr ⊢
    by_cases k1 : k = 1
    · rw [if_pos k1] at hr ⊢
      simp only [Bool.and_eq_true, decide_eq_true_eq] at hr
      match to, hr.1.1 with
      | [t], _ =>
        have b1 := put_len5 t
        rw [decide_eq_true k1, cond_true, show getI [t] 0 = some t from rfl, Option.bind_some, lebPut_eq, Option.bind_some, wrS_eq _ _ (by omega)]
        rfl
    · rw [if_neg k1] at hr ⊢
      rw [decide_eq_false k1, cond_false]
      by_cases k2 : k = 2
      · have b1 := pl_len to l1
        have b2 := pl_len args l2
        rw [if_pos k2, decide_eq_true k2, cond_true, putList_eq to l1, Option.bind_some, wrS_eq _ _ (by omega), Option.bind_some, putList_eq args l2, Option.bind_some, wrS_eq _ _ (by simp only [List.length_append]; omega)]
        simp
      · rw [if_neg k2] at hr ⊢
        rw [decide_eq_false k2, cond_false]
        by_cases k4 : k = 4
        · rw [if_neg (by omega), if_pos k4] at hr
          rw [if_pos k4]
          simp only [decide_eq_true_eq] at hr
          match to, hr with
          | [t], _ =>
            have b1 := put_len5 t
            have b2 := put_len5 g
            have b3 := put_len5 d
            have b4 := pl_len args l2
            have b5 := pl_len ps l3
            rw [decide_eq_true k4, cond_true, show getI [t] 0 = some t from rfl, Option.bind_some, lebAll_eq _ (by simp), Option.bind_some, wrS_eq _ _ (by simp; omega), Option.bind_some, putList_eq ps l3, Option.bind_some, wrS_eq _ _ (by simp; omega), Option.bind_some, putList_eq args l2, Option.bind_some, wrS_eq _ _ (by simp; omega)]
            simp
        · rw [if_neg k4, decide_eq_false k4, cond_false]
          simp
  · rw [if_neg hf, decide_eq_false hf]; rfl
theorem awake19 : fn_law19_awake = some true := by
  unfold fn_law19_awake
  rw [tPut_eq, tPut_eq]
  decide
theorem within_eq (xa : List Int) (n : Int) (hn : xa.length ≤ 1073741824) : fn_ref19_within xa n = some (!xa.any (fun x => decide (x < 0) || decide (n ≤ x))) := by
  unfold fn_ref19_within
  rw [loop_some (body := fn_ref19_within_l1 xa n) xa (fun x => decide (x < 0) || decide (n ≤ x)) (.inr false) (.inl ()) ?_ ?_]
  · cases xa.any (fun x => decide (x < 0) || decide (n ≤ x)) <;> rfl
  · intro k hk
    unfold fn_ref19_within_l1
    by_cases q : xa[k] < 0 <;> by_cases q2 : n ≤ xa[k] <;> simp [hk, getN hk, w64s hk (by omega : xa.length ≤ 9223372036854775807), q, q2]
  · simp [fn_ref19_within_l1]
theorem refTForm_eq (x : Tm) : fn_ref19_Form x = some (tForm x) := by
  obtain ⟨k, g, d, to, args, ps⟩ := x
  unfold fn_ref19_Form tForm tRight tCalls
  dsimp only
  simp only [dn1, dn0, d16, dp0]
  have hps : decide (0 < ps.length) = !decide (ps.length = 0) := by by_cases h : ps.length = 0 <;> simp [h] <;> omega
  have hto : decide (0 < to.length) = !decide (to.length = 0) := by by_cases h : to.length = 0 <;> simp [h] <;> omega
  rw [hps, hto]
  have last : (cond (((decide (16 < to.length)) || (decide (16 < args.length))) || (decide (16 < ps.length))) (some 6) (some 0) : Option Int) = some (if 16 < to.length ∨ 16 < args.length ∨ 16 < ps.length then 6 else 0) := by
    by_cases h1 : 16 < to.length <;> by_cases h2 : 16 < args.length <;> by_cases h3 : 16 < ps.length <;> simp [h1, h2, h3]
  rw [last]
  generalize (if 16 < to.length ∨ 16 < args.length ∨ 16 < ps.length then (6 : Int) else 0) = z
  generalize decide (to.length = 1) = t1
  generalize decide (to.length = 0) = t0
  generalize decide (args.length = 0) = a0
  generalize decide (ps.length = 0) = p0
  generalize decide (g = 0) = g0
  generalize decide (d = 0) = d0
  by_cases k1 : k = 1
  · subst k1; cases t1 <;> cases t0 <;> cases a0 <;> cases p0 <;> cases g0 <;> cases d0 <;> simp
  · by_cases k2 : k = 2
    · subst k2; cases t1 <;> cases t0 <;> cases a0 <;> cases p0 <;> cases g0 <;> cases d0 <;> simp
    · by_cases k3 : k = 3
      · subst k3; cases t1 <;> cases t0 <;> cases a0 <;> cases p0 <;> cases g0 <;> cases d0 <;> simp
      · by_cases k4 : k = 4
        · subst k4; cases t1 <;> cases t0 <;> cases a0 <;> cases p0 <;> cases g0 <;> cases d0 <;> simp
        · have : (decide (k < 1) || decide (4 < k)) = true := by simp; omega
          simp [this, k1, k2, k3, k4]
theorem fewl {xa : List (List St)} {body : Int → Option (Int ⊕ (Unit ⊕ Bool))} (hn : xa.length ≤ 1000) (hb : ∀ i, body i = cond (decide (i < (((xa.length : Nat) : Int)))) ((getI xa i).bind fun x => (fn_ref15_Few x 20).bind fun t => cond (!t) (some (.inr ((.inr (false))))) (some (.inl (IntKind.wrap .i64 (i + 1))))) (some (.inr ((.inl ()))))) :
    loop body 0 = some (if xa.any (fun t => !decide (t.length ≤ 20)) then (Sum.inr false : Unit ⊕ Bool) else .inl ()) := by
  refine loop_some (β := Unit ⊕ Bool) xa (fun t => !decide (t.length ≤ 20)) (.inr false) (.inl ()) ?_ ?_
  · intro k hk
    rw [hb]
    simp only [dlt hk, cond_true, getN hk, Option.bind_some, w64s hk (by omega : xa.length ≤ 9223372036854775807), Few_eq]
    by_cases q : xa[k].length ≤ 20
    · have : decide (((xa[k].length : Nat) : Int) ≤ 20) = true := by simp; omega
      simp [this, q]
    · have : decide (((xa[k].length : Nat) : Int) ≤ 20) = false := by simp; omega
      simp [this, q]
  · rw [hb]; simp
theorem few_mem {xa : List (List St)} (h : xa.any (fun t => !decide (t.length ≤ 20)) = false) : ∀ t ∈ xa, t.length ≤ 20 := by
  intro t ht
  have := List.any_eq_false.1 h t ht
  simpa using this
theorem few17 (s : Sg) : fn_ref17_Few s = some false ∨ (fn_ref17_Few s = some true ∧ s.2.1.length ≤ 20 ∧ s.2.2.1.length ≤ 20 ∧ s.2.2.2.length ≤ 20 ∧ ∀ t ∈ s.2.2.1, t.length ≤ 20) := by
  unfold fn_ref17_Few
  by_cases h : 20 < s.2.1.length ∨ 20 < s.2.2.1.length
  · have : ((decide (20 < (((s.2.1.length : Nat) : Int)))) || (decide (20 < (((s.2.2.1.length : Nat) : Int))))) = true := by simp; omega
    rw [this]; exact .inl rfl
  · have : ((decide (20 < (((s.2.1.length : Nat) : Int)))) || (decide (20 < (((s.2.2.1.length : Nat) : Int))))) = false := by simp; omega
    rw [this, cond_false, Few_eq]
    by_cases q : s.2.2.2.length ≤ 20
    · have e : decide (((s.2.2.2.length : Nat) : Int) ≤ 20) = true := by simp; omega
      simp only [Option.bind_some, e, Bool.not_true, cond_false]
      rw [fewl (body := fn_ref17_Few_l1 s) (xa := s.2.2.1) (by omega) (fun i => rfl)]
      cases hf : s.2.2.1.any (fun t => !decide (t.length ≤ 20)) with
      | true => exact .inl rfl
      | false => exact .inr ⟨rfl, by omega, by omega, q, few_mem hf⟩
    · have e : decide (((s.2.2.2.length : Nat) : Int) ≤ 20) = false := by simp; omega
      simp only [Option.bind_some, e]; exact .inl rfl
def bad (n : Int) (xa : List Int) : Bool := xa.any (fun x => decide (x < 0) || decide (n ≤ x))
theorem contains_eq (xa : List Int) (n : Int) (hn : xa.length ≤ 1000) : fn_slices_ContainsFunc_int_int_k_term_beyond_1_p0_i xa n = some (bad n xa, n) := by
  unfold fn_slices_ContainsFunc_int_int_k_term_beyond_1_p0_i fn_slices_IndexFunc_int_int_k_term_beyond_1_p0_i
  have hl := loop_find (body := fn_slices_IndexFunc_int_int_k_term_beyond_1_p0_i_l1 xa) (fun k => ∃ h : k < xa.length, (decide (xa[k] < 0) || decide (n ≤ xa[k])) = true) (fun k : Nat => ((k : Int), n)) xa.length (fun k => .inr ((k : Int), n)) (.inl n) ?_ ?_ ?_
  · rcases hl with ⟨k, h1, ⟨h2, h3⟩, _, h4⟩ | ⟨h1, h2⟩
    · rw [show ((0 : Int), n) = (((0 : Nat) : Int), n) from rfl, h4]
      have : bad n xa = true := List.any_eq_true.2 ⟨_, List.getElem_mem h1, h3⟩
      simp [this]
    · rw [show ((0 : Int), n) = (((0 : Nat) : Int), n) from rfl, h2]
      have : bad n xa = false := by
        rw [bad, List.any_eq_false]
        intro x hx hc
        obtain ⟨k, hk, rfl⟩ := List.getElem_of_mem hx
        exact h1 k hk ⟨hk, hc⟩
      simp [this]
  · intro k hk hp
    have : (decide (xa[k] < 0) || decide (n ≤ xa[k])) = false := by
      cases q : (decide (xa[k] < 0) || decide (n ≤ xa[k])) with
      | false => rfl
      | true => exact absurd ⟨hk, q⟩ hp
    unfold fn_slices_IndexFunc_int_int_k_term_beyond_1_p0_i_l1 fn_term_beyond_1_ip0_i
    simp only [dlt hk, cond_true, getN hk, Option.bind_some, this, cond_false, w64s hk (by omega : xa.length ≤ 9223372036854775807)]
  · rintro k hk ⟨_, hp⟩
    unfold fn_slices_IndexFunc_int_int_k_term_beyond_1_p0_i_l1 fn_term_beyond_1_ip0_i
    simp only [dlt hk, cond_true, getN hk, Option.bind_some, hp]
  · simp [fn_slices_IndexFunc_int_int_k_term_beyond_1_p0_i_l1]
theorem refWithin_eq (xa : List Int) (n : Int) (hn : xa.length ≤ 1000) : fn_ref19_within xa n = some (!bad n xa) := within_eq xa n (by omega)
abbrev Ar := Int × Int × List (List St) × List St × List Sg
theorem fewT (x : Tm) (a : Ar) : fn_law19_few x a = some false ∨ (fn_law19_few x a = some true ∧ x.2.2.2.1.length ≤ 20 ∧ x.2.2.2.2.1.length ≤ 20 ∧ x.2.2.2.2.2.length ≤ 20 ∧ a.2.2.2.1.length ≤ 20 ∧ (∀ t ∈ a.2.2.1, t.length ≤ 20) ∧ ∀ s ∈ a.2.2.2.2, s.2.1.length ≤ 20 ∧ s.2.2.1.length ≤ 20 ∧ s.2.2.2.length ≤ 20 ∧ ∀ t ∈ s.2.2.1, t.length ≤ 20) := by
  unfold fn_law19_few
  cases hq : (((((decide (20 < (((x.2.2.2.1.length : Nat) : Int)))) || (decide (20 < (((x.2.2.2.2.1.length : Nat) : Int))))) || (decide (20 < (((x.2.2.2.2.2.length : Nat) : Int))))) || (decide (20 < (((a.2.2.1.length : Nat) : Int))))) || (decide (8 < (((a.2.2.2.2.length : Nat) : Int))))) with
  | true => exact .inl rfl
  | false =>
    simp at hq
    rw [cond_false, Few_eq]
    by_cases q : a.2.2.2.1.length ≤ 20
    · have e : decide (((a.2.2.2.1.length : Nat) : Int) ≤ 20) = true := decide_eq_true (by omega)
      simp only [Option.bind_some, e, Bool.not_true, cond_false]
      rw [fewl (body := fn_law19_few_l1 a) (xa := a.2.2.1) (by omega) (fun i => rfl)]
      cases hf : a.2.2.1.any (fun t => !decide (t.length ≤ 20)) with
      | true => exact .inl rfl
      | false =>
        simp only [Bool.false_eq_true, if_false, Option.bind_some]
        have hl := loop_some (body := fn_law19_few_l2 a) a.2.2.2.2 (fun s => decide (fn_ref17_Few s = some false)) (.inr false) (.inl ()) ?_ ?_
        · rw [hl]
          cases hs : a.2.2.2.2.any (fun s => decide (fn_ref17_Few s = some false)) with
          | true => exact .inl rfl
          | false =>
            refine .inr ⟨rfl, by omega, by omega, by omega, q, few_mem hf, fun s hm => ?_⟩
            have := List.any_eq_false.1 hs s hm
            rcases few17 s with h | ⟨_, h⟩
            · simp [h] at this
            · exact h
        · intro k hk
          unfold fn_law19_few_l2
          simp only [dlt hk, cond_true, getN hk, Option.bind_some, w64s hk (by omega : a.2.2.2.2.length ≤ 9223372036854775807)]
          rw [show fn_ref17_Few (a.2.2.2.2[k].1, a.2.2.2.2[k].2.1, a.2.2.2.2[k].2.2.1, a.2.2.2.2[k].2.2.2) = fn_ref17_Few a.2.2.2.2[k] from rfl]
          rcases few17 a.2.2.2.2[k] with h | ⟨h, _⟩ <;> simp [h]
        · simp [fn_law19_few_l2]
    · have e : decide (((a.2.2.2.1.length : Nat) : Int) ≤ 20) = false := decide_eq_false (by omega)
      simp only [Option.bind_some, e]; exact .inl rfl
theorem args_loop {x : Tm} {a : Ar} (hx : x.2.2.2.2.1.length ≤ 20) (hb : bad (a.2.2.1.length : Int) x.2.2.2.2.1 = false) (hL : ∀ t ∈ a.2.2.1, t.length ≤ 20) :
    ∃ C : List (List St), loop (fn_term_Needs_l1 x a) ([], 0) = some C ∧ ∀ t ∈ C, t.length ≤ 20 := by
  have hin (k : Nat) (hk : k < x.2.2.2.2.1.length) : 0 ≤ x.2.2.2.2.1[k] ∧ x.2.2.2.2.1[k] < (a.2.2.1.length : Int) := by
    have := List.any_eq_false.1 hb _ (List.getElem_mem hk)
    simp at this; omega
  have hl := loop_nat (body := fn_term_Needs_l1 x a) (fun k : Nat => ((x.2.2.2.2.1.take k).map (fun i => a.2.2.1.getD i.toNat []), (k : Int))) x.2.2.2.2.1.length (b := x.2.2.2.2.1.map (fun i => a.2.2.1.getD i.toNat [])) ?_ ?_
  · refine ⟨_, hl, fun t ht => ?_⟩
    obtain ⟨i, hi, rfl⟩ := List.mem_map.1 ht
    obtain ⟨k, hk, rfl⟩ := List.getElem_of_mem hi
    have h2 := hin k hk
    have : x.2.2.2.2.1[k].toNat < a.2.2.1.length := by omega
    have e : a.2.2.1.getD x.2.2.2.2.1[k].toNat [] = a.2.2.1[x.2.2.2.2.1[k].toNat] := by simp [List.getD, this]
    rw [e]; exact hL _ (List.getElem_mem _)
  · intro k hk
    have h2 := hin k hk
    have h3 : x.2.2.2.2.1[k].toNat < a.2.2.1.length := by omega
    have e : a.2.2.1.getD x.2.2.2.2.1[k].toNat [] = a.2.2.1[x.2.2.2.2.1[k].toNat] := by simp [List.getD, h3]
    unfold fn_term_Needs_l1
    simp only [dlt hk, cond_true, getN hk, Option.bind_some]
    rw [getZ h2.1 h2.2, Option.bind_some, app_eq (by simp; omega), Option.bind_some, w64s hk (by omega), take_snoc hk, List.map_append]
    simp only [List.map_cons, List.map_nil, e]
  · simp [fn_term_Needs_l1]
theorem needs19 (x : Tm) (a : Ar) (l2 : x.2.2.2.1.length ≤ 20) (l3 : x.2.2.2.2.1.length ≤ 20) (l4 : x.2.2.2.2.2.length ≤ 20) (hR : a.2.2.2.1.length ≤ 20) (hL : ∀ t ∈ a.2.2.1, t.length ≤ 20) (hS : ∀ s ∈ a.2.2.2.2, s.2.1.length ≤ 20 ∧ s.2.2.1.length ≤ 20 ∧ s.2.2.2.length ≤ 20 ∧ ∀ t ∈ s.2.2.1, t.length ≤ 20) :
    ∃ l e, fn_term_Needs x a = some (l, e) ∧ fn_ref19_Needs x a = some (l, e) ∧ l.length ≤ 1000000 := by
  have same : fn_ref19_Needs_l1 x a = fn_term_Needs_l1 x a := rfl
  unfold fn_term_Needs fn_ref19_Needs
  rw [show fn_term_form (x.1, x.2.1, x.2.2.1, x.2.2.2.1, x.2.2.2.2.1, x.2.2.2.2.2) = some (tForm x) from tForm_eq x, show fn_ref19_Form (x.1, x.2.1, x.2.2.1, x.2.2.2.1, x.2.2.2.2.1, x.2.2.2.2.2) = some (tForm x) from refTForm_eq x, same]
  have hw : fn_term_within (x.1, x.2.1, x.2.2.1, x.2.2.2.1, x.2.2.2.2.1, x.2.2.2.2.2) (a.1, a.2.1, a.2.2.1, a.2.2.2.1, a.2.2.2.2) = some (!(bad a.1 x.2.2.2.1 || bad (a.2.2.1.length : Int) x.2.2.2.2.1 || bad a.2.1 x.2.2.2.2.2 || (decide (x.1 = 4) && (bad (a.2.2.1.length : Int) [x.2.2.1] || bad (a.2.2.2.2.length : Int) [x.2.1])))) := by
    unfold fn_term_within fn_term_beyond fn_term_beyond_1_ip0_i
    simp only [Option.bind_some, contains_eq x.2.2.2.1 _ (by omega : x.2.2.2.1.length ≤ 1000), contains_eq x.2.2.2.2.1 _ (by omega : x.2.2.2.2.1.length ≤ 1000), contains_eq x.2.2.2.2.2 _ (by omega : x.2.2.2.2.2.length ≤ 1000)]
    have e (n i : Int) : bad n [i] = (decide (i < 0) || decide (n ≤ i)) := by simp [bad]
    rw [e, e]
    cases bad a.1 x.2.2.2.1 <;> cases bad (a.2.2.1.length : Int) x.2.2.2.2.1 <;> cases bad a.2.1 x.2.2.2.2.2 <;> cases decide (x.1 = 4) <;> cases (decide (x.2.2.1 < 0) || decide ((a.2.2.1.length : Int) ≤ x.2.2.1)) <;> cases (decide (x.2.1 < 0) || decide ((a.2.2.2.2.length : Int) ≤ x.2.1)) <;> rfl
  rw [hw]
  by_cases hf : tForm x = 0
  · have o1 (i n : Int) : fn_ref19_within [i] n = some (!bad n [i]) := refWithin_eq [i] n (by simp)
    simp only [hf, Option.bind_some, decide_true, Bool.not_true, cond_false, refWithin_eq x.2.2.2.1 _ (by omega : x.2.2.2.1.length ≤ 1000), refWithin_eq x.2.2.2.2.1 _ (by omega : x.2.2.2.2.1.length ≤ 1000), refWithin_eq x.2.2.2.2.2 _ (by omega : x.2.2.2.2.2.length ≤ 1000), o1, Bool.not_not]
    have seven : ∃ l e, (some (([] : List Nd), (7 : Int)) : Option (List Nd × Int)) = some (l, e) ∧ (some (([] : List Nd), (7 : Int)) : Option (List Nd × Int)) = some (l, e) ∧ l.length ≤ 1000000 := ⟨[], 7, rfl, rfl, by simp⟩
    cases b1 : bad a.1 x.2.2.2.1 with
    | true => exact seven
    | false =>
      cases b2 : bad (a.2.2.1.length : Int) x.2.2.2.2.1 with
      | true => exact seven
      | false =>
        cases b3 : bad a.2.1 x.2.2.2.2.2 with
        | true => exact seven
        | false =>
          by_cases k4 : x.1 = 4
          · have n3 : ¬ x.1 = 3 := by omega
            rw [decide_eq_true k4, decide_eq_false n3]
            cases b4 : bad (a.2.2.1.length : Int) [x.2.2.1] with
            | true => exact seven
            | false =>
              cases b5 : bad (a.2.2.2.2.length : Int) [x.2.1] with
              | true => exact seven
              | false =>
                obtain ⟨C, c1, c2⟩ := args_loop l3 b2 hL
                simp [bad] at b4 b5
                simp only [Bool.or_self, Bool.and_false, Bool.not_false, Bool.not_true, cond_false, cond_true, Option.bind_some, c1, Bool.false_and, Bool.true_and]
                rw [getZ b5.1 b5.2, getZ b4.1 b4.2]
                have hs := hS _ (List.getElem_mem (l := a.2.2.2.2) (n := x.2.1.toNat) (by omega))
                have ht := hL _ (List.getElem_mem (l := a.2.2.1) (n := x.2.2.1.toNat) (by omega))
                simp only [Option.bind_some]
                generalize a.2.2.2.2[x.2.1.toNat] = S at hs ⊢
                generalize a.2.2.1[x.2.2.1.toNat] = D at ht ⊢
                rw [show fn_sig_Call (S.1, S.2.1, S.2.2.1, S.2.2.2) x.2.2.2.2.2 C D = _ from sigCall_eq S _ C D hs.2.2.1 hs.2.2.2 c2 ht, show fn_ref17_Call (S.1, S.2.1, S.2.2.1, S.2.2.2) x.2.2.2.2.2 C D = _ from refCall_eq S _ C D hs.2.2.1 hs.2.2.2 c2 ht]
                have hn := csp_len S x.2.2.2.2.2 C D ⟨hs.1, hs.2.1, hs.2.2.1⟩ c2
                exact ⟨(csp S x.2.2.2.2.2 C D).1, (csp S x.2.2.2.2.2 C D).2, rfl, rfl, hn⟩
          · rw [decide_eq_false k4]
            by_cases k3 : x.1 = 3
            · rw [decide_eq_true k3]
              cases hz : a.2.2.1 with
              | nil => exact ⟨[], 14, by simp, by simp, by simp⟩
              | cons t ts =>
                have ht := hL t (by rw [hz]; simp)
                have hl0 : decide ((((t :: ts).length : Nat) : Int) = 0) = false := decide_eq_false (by simp; omega)
                simp only [hl0, Bool.or_self, Bool.and_false, Bool.false_and, Bool.not_false, Bool.not_true, cond_false, cond_true, Option.bind_some, show getI (t :: ts) 0 = some t from rfl]
                rw [relFlow_eq _ _ _ _ (by omega) (by omega) (by omega), refFlow_eq _ _ _ _ (by omega) (by omega) (by omega)]
                have hr := rel_len 7 t a.2.2.2.1 0
                by_cases q : shp t a.2.2.2.1 = true
                · exact ⟨rel 7 0 t a.2.2.2.1, 0, by simp [q], by simp [q], by omega⟩
                · exact ⟨[], 8, by simp [q], by simp [q], by simp⟩
            · rw [decide_eq_false k3]
              exact ⟨[], 0, rfl, rfl, by simp⟩
  · exact ⟨[], tForm x, by simp [hf], by simp [hf], by simp⟩
theorem TermNeeds_true (xa : (Int × Int × Int × (List Int) × (List Int) × (List Int))) (xb : Ar) (k0 : Tp.Ok (.cons (.int .i64) (.cons (.int .i64) (.cons (.int .i64) (.cons (.sl (.int .i64)) (.cons (.sl (.int .i64)) (.one (.sl (.int .i64)))))))) xa) (k1 : Tp.Ok (.cons (.int .i64) (.cons (.int .i64) (.cons (.sl (.one (.sl (.cons (.int .i64) (.one .bool))))) (.cons (.one (.sl (.cons (.int .i64) (.one .bool)))) (.one (.sl (.cons (.int .i64) (.cons (.sl (.cons (.int .i64) (.one (.int .i64)))) (.cons (.sl (.one (.sl (.cons (.int .i64) (.one .bool))))) (.one (.one (.sl (.cons (.int .i64) (.one .bool)))))))))))))) xb) : fn_law19_TermNeeds xa xb = some true := by
  unfold fn_law19_TermNeeds
  rw [awake19]
  rcases fewT xa xb with h | ⟨h, h1, h2, h3, h4, h5, h6⟩
  · rw [show fn_law19_few (xa.1, xa.2.1, xa.2.2.1, xa.2.2.2.1, xa.2.2.2.2.1, xa.2.2.2.2.2) (xb.1, xb.2.1, xb.2.2.1, xb.2.2.2.1, xb.2.2.2.2) = some false from h]; rfl
  · rw [show fn_law19_few (xa.1, xa.2.1, xa.2.2.1, xa.2.2.2.1, xa.2.2.2.2.1, xa.2.2.2.2.2) (xb.1, xb.2.1, xb.2.2.1, xb.2.2.2.1, xb.2.2.2.2) = some true from h]
    obtain ⟨l, e, q1, q2, q3⟩ := needs19 xa xb h1 h2 h3 h4 h5 h6
    have qc : fn_term_Check (xa.1, xa.2.1, xa.2.2.1, xa.2.2.2.1, xa.2.2.2.2.1, xa.2.2.2.2.2) (xb.1, xb.2.1, xb.2.2.1, xb.2.2.2.1, xb.2.2.2.2) = some e := by
      unfold fn_term_Check; dsimp only; rw [q1]; rfl
    dsimp only
    rw [Option.bind_some, Bool.not_true, cond_false, q1, Option.bind_some, q2, Option.bind_some, Doc_eq l (by omega), Option.bind_some, refSame_eq l l (by omega), Option.bind_some, qc]
    simp
end Go.Proofs.Ytgeofnfjgjodgaa
