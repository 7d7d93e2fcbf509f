/- Layer 21's law of many things. -/
import Derived.Test.YtbaaamdljojknaaP21a
namespace Go.Proofs.Ytbaaamdljojknaa
open Go.RowKit
set_option linter.unusedVariables false
set_option linter.unnecessarySimpa false
set_option linter.unusedSimpArgs false
set_option maxRecDepth 20000
abbrev ret21 : Tm := (3, 0, 0, [], [], [])
abbrev bodR (n : Int) : Bo := (1, n, [], [[]], [], [], [([], ret21)])
abbrev bodB (B : List (Int × Int)) : Bo := (1, 1, B, [[]], [], [], [([], ret21)])
abbrev bodS (l : List Stm) : Bo := (1, 1, [], [[]], [], [], [(l, ret21)])
theorem smB21 : Sm b21 := smAll 1 1 [[]] _ (by simp) (by simp) (by simp) (by simp) (by simp [stm])
theorem hLoc : fn_valid_locals_az b21 = some (0, 0, 0, 0) := by rw [vLoc_eq smB21]; rfl
theorem hRet : fn_valid_ret_az b21 = some (0, 3, 0, 0) := by rw [vRet_eq smB21 (by simp)]; rfl
theorem hSig : fn_valid_sigs_az b21 = some (0, 0, 0, 0) := by rw [vSig_eq smB21]; rfl
theorem hBlk : fn_valid_blocks_az b21 = some (0, 0, 0, 0) := by rw [vBlk_eq smB21]; rfl
theorem hT21 : fn_term_Needs ret21 (1, 1, [[]], [], []) = some ([], 0) := by
  have hr : tE (arOf b21) ret21 = 0 := tE_ret (t := []) (L := []) rfl rfl (by simp)
  obtain ⟨l, h1, h2⟩ := termE smB21 (x := ([], ret21)) (by simp)
  rw [hr] at h1
  have h3 : fn_term_Needs ret21 (1, 1, [[]], [], []) = some (l, 0) := h1
  have h4 : ∃ l', fn_term_Needs ret21 (1, 1, [[]], [], []) = some (l', 0) ∧ l' = [] := by
    refine ⟨l, h3, ?_⟩
    have e : fn_relate_Flow [] [] 7 0 = some ([], 0) := by rw [relFlow_eq _ _ _ _ (by decide) (by decide) (by decide)]; rfl
    unfold fn_term_Needs at h3
    rw [show fn_term_form (ret21.1, ret21.2.1, ret21.2.2.1, ret21.2.2.2.1, ret21.2.2.2.2.1, ret21.2.2.2.2.2) = some 0 from tForm_eq ret21] at h3
    have hw : fn_term_within (ret21.1, ret21.2.1, ret21.2.2.1, ret21.2.2.2.1, ret21.2.2.2.2.1, ret21.2.2.2.2.2) ((1 : Int), (1 : Int), [[]], [], []) = some true := by
      unfold fn_term_within fn_term_beyond
      simp only [contains_eq [] _ (show ([] : List Int).length ≤ 1000 by simp), Option.bind_some]
      rfl
    rw [Option.bind_some, hw] at h3
    have h5 : (fn_relate_Flow [] [] 7 0).bind (fun (x : List Nd × Int) => some x) = some (l, 0) := h3
    rw [e] at h5
    simpa using h5.symm
  obtain ⟨l', a, rfl⟩ := h4
  exact a
theorem codeS (l : List Stm) (hl : l.length ≤ 1000000) (h : ∀ x ∈ l, x = (0, 0, 0, 0, false)) : fn_valid_code_az (bodS l) = some (0, 0, 0, 0) := by
  have hn : fn_stmt_Check (0, 0, 0, 0, false) [[]] 1 = some 0 := by
    unfold fn_stmt_Check
    obtain ⟨q, h1, _⟩ := stmtE smB21 (x := (0, 0, 0, 0, false))
    rw [sE_nop] at h1
    rw [show fn_stmt_Needs (0, 0, 0, 0, false) [[]] 1 = _ from h1]; rfl
  have h1 : loop (fn_valid_code_az_l1 (bodS l) 0 (l, ret21)) 0 = some (.inl ()) := by
    refine loop_nat (body := fn_valid_code_az_l1 (bodS l) 0 (l, ret21)) (fun k : Nat => (k : Int)) l.length ?_ ?_
    · intro k hk
      have hx := h l[k] (List.getElem_mem hk)
      unfold fn_valid_code_az_l1 fn_tick_Counter_Add_zii
      simp only [dlt hk, cond_true, getN hk, Option.bind_some, hx, w64s hk (by omega)]
      rw [show fn_stmt_Check (0, 0, 0, 0, false) (bodS l).2.2.2.1 (bodS l).2.1 = some 0 from hn]; rfl
    · unfold fn_valid_code_az_l1
      simp only [dge (show ¬ l.length < l.length by omega), cond_false]
  unfold fn_valid_code_az
  rw [loop_next (s' := 1) (by
    unfold fn_valid_code_az_l2
    show ((loop (fn_valid_code_az_l1 (bodS l) 0 (l, ret21)) 0).bind _) = _
    rw [h1]
    simp only [Option.bind_some]
    unfold fn_tick_Counter_Add_zii fn_term_Check
    simp only [Option.bind_some]
    rw [show fn_term_Needs (ret21.1, ret21.2.1, ret21.2.2.1, ret21.2.2.2.1, ret21.2.2.2.2.1, ret21.2.2.2.2.2) ((((bodS l).2.2.2.2.2.2.length : Nat) : Int), (bodS l).2.1, (bodS l).2.2.2.1, (bodS l).2.2.2.2.1, (bodS l).2.2.2.2.2.1) = _ from hT21]
    rfl), loop_end (b := .inl ()) (by rfl)]
  rfl
theorem hCode : fn_valid_code_az b21 = some (0, 0, 0, 0) := codeS [] (by simp) (by simp)
theorem checkB (B : List (Int × Int)) (hB : B.length ≤ 1000000) (h : ∀ x ∈ B, x = (0, 0)) : fn_valid_Check_az (bodB B) = some (if 65536 < B.length then (6, 1, 0, 0) else (0, 0, 0, 0)) := by
  unfold fn_valid_Check_az fn_tick_Counter_Add_zii
  have hb : fn_valid_bounds_az (bodB B) = some (if 65536 < B.length then (6, 1, 0, 0) else (0, 0, 0, 0)) := by
    unfold fn_valid_bounds_az
    by_cases q : 65536 < B.length
    · rw [decide_eq_true (by show (65536 : Int) < ((B.length : Nat) : Int); omega), if_pos q]; rfl
    · rw [decide_eq_false (by show ¬ (65536 : Int) < ((B.length : Nat) : Int); omega), if_neg q, cond_false]
      have hl : loop (fn_valid_bounds_az_l1 (bodB B)) 0 = some (.inl ()) := by
        refine loop_nat (body := fn_valid_bounds_az_l1 (bodB B)) (fun k : Nat => (k : Int)) B.length ?_ ?_
        · intro k hk
          have hx := h B[k] (List.getElem_mem hk)
          unfold fn_valid_bounds_az_l1 fn_valid_bounds_1_ip0_iikkkkk fn_tick_Counter_Add_zii
          simp only [dlt hk, cond_true, getN hk, Option.bind_some, hx, w64s hk (by omega)]
          rfl
        · unfold fn_valid_bounds_az_l1
          simp only [dge (show ¬ B.length < B.length by omega), cond_false]
      rw [hl]; rfl
  rw [Option.bind_some, show fn_valid_head_az (1, 1, B, [[]], [], [], [([], ret21)]) = some (0, 0, 0, 0) from rfl, Option.bind_some]
  simp only [decide_true, Bool.not_true, cond_false]
  rw [show fn_valid_bounds_az (1, 1, B, [[]], [], [], [([], ret21)]) = _ from hb]
  by_cases q : 65536 < B.length
  · rw [if_pos q]; rfl
  · rw [if_neg q]
    simp only [Option.bind_some, decide_true, Bool.not_true, cond_false]
    rw [show fn_valid_locals_az (1, 1, B, [[]], [], [], [([], ret21)]) = _ from hLoc, Option.bind_some]
    simp only [decide_true, Bool.not_true, cond_false]
    rw [show fn_valid_ret_az (1, 1, B, [[]], [], [], [([], ret21)]) = _ from hRet, Option.bind_some]
    simp only [decide_true, Bool.not_true, cond_false]
    rw [show fn_valid_sigs_az (1, 1, B, [[]], [], [], [([], ret21)]) = _ from hSig, Option.bind_some]
    simp only [decide_true, Bool.not_true, cond_false]
    rw [show fn_valid_blocks_az (1, 1, B, [[]], [], [], [([], ret21)]) = _ from hBlk, Option.bind_some]
    simp only [decide_true, Bool.not_true, cond_false]
    rw [show fn_valid_code_az (1, 1, B, [[]], [], [], [([], ret21)]) = _ from hCode]; rfl
theorem checkS (l : List Stm) (hl : l.length ≤ 1000000) (h : ∀ x ∈ l, x = (0, 0, 0, 0, false)) : fn_valid_Check_az (bodS l) = some (if 65536 < l.length then (6, 5, 0, 0) else (0, 0, 0, 0)) := by
  unfold fn_valid_Check_az fn_tick_Counter_Add_zii
  have hb : fn_valid_blocks_az (bodS l) = some (if 65536 < l.length then (6, 5, 0, 0) else (0, 0, 0, 0)) := by
    unfold fn_valid_blocks_az
    have e0 : IntKind.wrap .i64 (0 + ((l.length : Nat) : Int)) = ((l.length : Nat) : Int) := by rw [w64 (by omega) (by omega)]; omega
    have hbody : fn_valid_blocks_az_l1 (bodS l) (0, 0) = cond (decide (65536 < IntKind.wrap .i64 (0 + ((l.length : Nat) : Int)))) (some (.inr (.inr (6, 5, 0, 0)))) (some (.inl (IntKind.wrap .i64 (0 + ((l.length : Nat) : Int)), 1))) := rfl
    by_cases q : 65536 < l.length
    · rw [if_pos q]
      have hlp : loop (fn_valid_blocks_az_l1 (bodS l)) (0, 0) = some (.inr (6, 5, 0, 0)) := loop_end (by rw [hbody, e0, decide_eq_true (by omega)]; rfl)
      rw [hlp]; rfl
    · rw [if_neg q]
      have hlp : loop (fn_valid_blocks_az_l1 (bodS l)) (0, 0) = some (.inl ()) := by
        rw [loop_next (s' := (((l.length : Nat) : Int), 1)) (by rw [hbody, e0, decide_eq_false (by omega)]; rfl)]
        exact loop_end rfl
      rw [hlp]; rfl
  rw [Option.bind_some, show fn_valid_head_az (1, 1, [], [[]], [], [], [(l, ret21)]) = some (0, 0, 0, 0) from rfl, Option.bind_some]
  simp only [decide_true, Bool.not_true, cond_false]
  have hB0 : fn_valid_bounds_az b21 = some (0, 0, 0, 0) := by rw [vBounds_eq smB21]; rfl
  rw [show fn_valid_bounds_az (1, 1, [], [[]], [], [], [(l, ret21)]) = _ from hB0, Option.bind_some]
  simp only [decide_true, Bool.not_true, cond_false]
  rw [show fn_valid_locals_az (1, 1, [], [[]], [], [], [(l, ret21)]) = _ from hLoc, Option.bind_some]
  simp only [decide_true, Bool.not_true, cond_false]
  rw [show fn_valid_ret_az (1, 1, [], [[]], [], [], [(l, ret21)]) = _ from hRet, Option.bind_some]
  simp only [decide_true, Bool.not_true, cond_false]
  rw [show fn_valid_sigs_az (1, 1, [], [[]], [], [], [(l, ret21)]) = _ from hSig, Option.bind_some]
  simp only [decide_true, Bool.not_true, cond_false]
  rw [show fn_valid_blocks_az (1, 1, [], [[]], [], [], [(l, ret21)]) = _ from hb]
  by_cases q : 65536 < l.length
  · rw [if_pos q]; rfl
  · rw [if_neg q]
    simp only [Option.bind_some, decide_true, Bool.not_true, cond_false]
    rw [show fn_valid_code_az (1, 1, [], [[]], [], [], [(l, ret21)]) = _ from codeS l hl h]; rfl
theorem checkR (n : Int) (h1 : 1 ≤ n) : fn_valid_Check_az (bodR n) = some (if 65536 < n then (6, 0, 0, 0) else (0, 0, 0, 0)) := by
  have hs : Sm (bodR n) := smAll 1 n [[]] _ (by simp) (by simp) (by simp) (by simp) (by simp [stm])
  by_cases q : 65536 < n
  · rw [if_pos q]
    unfold fn_valid_Check_az fn_tick_Counter_Add_zii
    have : fn_valid_head_az (1, n, [], [[]], [], [], [([], ret21)]) = some (6, 0, 0, 0) := by
      unfold fn_valid_head_az
      have e1 : (decide ((1 : Int) < 1) || decide (n < 1)) = false := by simp; omega
      simp only [e1, cond_false, decide_eq_true q, cond_true]
    rw [Option.bind_some, this]; rfl
  · rw [if_neg q, validCheck_eq hs]
    have hr : tE (arOf (bodR n)) ret21 = 0 := tE_ret (t := []) (L := []) rfl rfl (by simp)
    have hc : vCode (bodR n) = (0, 0, 0, 0) := by
      have h2 : blkE (bodR n) ([], ret21) = none := by unfold blkE; simp only [hr]; rfl
      unfold vCode
      simp only [List.findIdx?_cons, h2]; rfl
    have hh : vHead (bodR n) = (0, 0, 0, 0) := by
      unfold vHead
      rw [if_neg (by show ¬ ((1 : Int) < 1 ∨ n < 1); omega), if_neg q]
    unfold vck
    rw [hc, hh]; rfl
theorem okOf (b : Bo) {f : Flt} (h : fn_valid_Check_az b = some f) : fn_valid_OK b = some (decide (f.1 = 0)) := by
  unfold fn_valid_OK
  rw [show fn_valid_Check_az (b.1, b.2.1, b.2.2.1, b.2.2.2.1, b.2.2.2.2.1, b.2.2.2.2.2.1, b.2.2.2.2.2.2) = _ from h]; rfl
theorem ValidMany_true (xa : Int) (xb : Bool) (k0 : Tp.Ok (.int .i64) xa) (k1 : Tp.Ok .bool xb) (q0 : Tp.Fit (.int .i64) xa) (q1 : Tp.Fit .bool xb) : fn_law21_ValidMany xa xb = some true := by
  unfold fn_law21_ValidMany
  rw [awake21]
  have h65 : IntKind.wrap .i64 (65536 + 1) = 65537 := by decide
  rw [h65]
  have hw : Int.tmod (IntKind.wrap .i64 ((Int.tmod xa 3) + 3)) 3 = 0 ∨ Int.tmod (IntKind.wrap .i64 ((Int.tmod xa 3) + 3)) 3 = 1 ∨ Int.tmod (IntKind.wrap .i64 ((Int.tmod xa 3) + 3)) 3 = 2 := by
    have h1 : -3 < Int.tmod xa 3 ∧ Int.tmod xa 3 < 3 := by
      have a := Int.tmod_lt_of_pos xa (show (0 : Int) < 3 by decide)
      constructor
      · have := Int.lt_tmod_of_pos xa (show (0 : Int) < 3 by decide); omega
      · exact a
    rw [w64 (by omega) (by omega), Int.tmod_eq_emod_of_nonneg (by omega)]
    omega
  generalize Int.tmod (IntKind.wrap .i64 ((Int.tmod xa 3) + 3)) 3 = w at hw ⊢
  obtain ⟨n, hn, hb⟩ : ∃ n : Nat, (cond xb (some (65537 : Int)) (some 65536) : Option Int) = some ((n : Nat) : Int) ∧ (n = if xb then 65537 else 65536) := by
    cases xb
    · exact ⟨65536, rfl, rfl⟩
    · exact ⟨65537, rfl, rfl⟩
  rw [hn, Option.bind_some]
  have fin : ∀ (part : Int) (reg : Int) (B : List (Int × Int)) (X : List Blk), fn_valid_Check_az (1, reg, B, [[]], [], [], X) = some (if 65536 < n then (6, part, 0, 0) else (0, 0, 0, 0)) →
      ((fn_valid_Check_az (1, reg, B, [[]], [], [], X)).bind fun (i364, i365, i366, i367) => cond (xb) ((cond ((decide (i364 = 6)) && (decide (i365 = part))) ((fn_valid_OK ((1, reg, B, ([[]] : List (List (Int × Bool))), [], [], X))).bind fun t406 => some (!t406)) (some (false))).bind fun t392 => (cond (t392) ((some true : Option Bool).bind fun t422 => some (t422)) (some (false))).bind fun t417 => some (t417)) ((cond (decide (i364 = 0)) ((fn_valid_OK ((1, reg, B, ([[]] : List (List (Int × Bool))), [], [], X))).bind fun t456 => some (t456)) (some (false))).bind fun t442 => (cond (t442) ((some true : Option Bool).bind fun t472 => some (t472)) (some (false))).bind fun t467 => some (t467))) = some true := by
    intro part reg B X h
    rw [okOf _ h, h]
    cases xb with
    | false =>
      have : ¬ 65536 < n := by simp at hb; omega
      rw [if_neg this]; rfl
    | true =>
      have : 65536 < n := by simp at hb; omega
      rw [if_pos this]
      simp
  have hn2 : n ≤ 65537 := by rw [hb]; split <;> omega
  have hn1 : 1 ≤ n := by rw [hb]; split <;> omega
  rcases hw with rfl | rfl | rfl
  · simp only [decide_true, cond_true, Option.bind_some]
    refine fin 0 ((n : Nat) : Int) [] [([], ret21)] ?_
    have := checkR ((n : Nat) : Int) (by omega)
    rw [show fn_valid_Check_az (1, ((n : Nat) : Int), [], [[]], [], [], [([], ret21)]) = _ from this]
    by_cases q : 65536 < n
    · rw [if_pos q, if_pos (by omega)]
    · rw [if_neg q, if_neg (by omega)]
  · simp only [show decide ((1 : Int) = 0) = false from rfl, decide_true, cond_true, cond_false]
    rw [mkN (by omega), Option.bind_some]
    simp only [Option.bind_some, Int.toNat_natCast]
    refine fin 1 1 (List.replicate n (0, 0)) [([], ret21)] ?_
    have := checkB (List.replicate n (0, 0)) (by simp; omega) (fun x hx => (List.mem_replicate.1 hx).2)
    rw [List.length_replicate] at this
    exact this
  · simp only [show decide ((2 : Int) = 0) = false from rfl, show decide ((2 : Int) = 1) = false from rfl, decide_true, cond_true, cond_false]
    rw [mkN (by omega), Option.bind_some]
    refine fin 5 1 [] [(List.replicate n (0, 0, 0, 0, false), ret21)] ?_
    have := checkS (List.replicate n (0, 0, 0, 0, false)) (by simp; omega) (fun x hx => (List.mem_replicate.1 hx).2)
    rw [List.length_replicate] at this
    exact this
end Go.Proofs.Ytbaaamdljojknaa
