/- Layer 27's law of all constraints. -/
import Derived.Test.YtelekeapfgfknaaGreatQ27
namespace Go.Proofs.YtelekeapfgfknaaGreat
open Go.RowKit Nu
set_option linter.unusedVariables false
set_option linter.unnecessarySimpa false
set_option linter.unusedSimpArgs false
set_option maxRecDepth 20000
abbrev b27 : Bo := (1, 3, [], [[(1, false)], [(2, false)]], [(0, false)], [], [([(1, 0, 1, 0, false)], (3, 0, 0, [], [], []))])
theorem sm27 : Sm b27 := ⟨by decide, by decide, by decide, by decide, by decide, by decide, by decide, by decide, by decide⟩
theorem st27 : fn_ref18_Needs (1, 0, 1, 0, false) b27.2.2.2.1 b27.2.1 = some ([(2, 1, 1, 0, false)], 0) := by
  unfold fn_ref18_Needs
  rw [show fn_ref18_Form ((1 : Int), 0, 1, 0, false) = _ from refForm_eq (1, 0, 1, 0, false)]
  have e : fn_ref16_Flow [(2, false)] [(1, false)] 1 0 = some ([(2, 1, 1, 0, false)], 0) := by
    rw [refFlow_eq _ _ _ _ (by decide) (by decide) (by decide)]; rfl
  show ((fn_ref16_Flow [(2, false)] [(1, false)] 1 0).bind _) = _
  rw [e]; rfl
theorem tm27 : fn_ref19_Needs (3, 0, 0, [], [], []) (arOf b27) = some ([(1, 0, 7, 0, false)], 0) := by
  unfold fn_ref19_Needs
  rw [show fn_ref19_Form ((3 : Int), 0, 0, [], [], []) = _ from refTForm_eq (3, 0, 0, [], [], [])]
  simp only [refWithin_eq _ _ (show ([] : List Int).length ≤ 1000 by simp)]
  have e : fn_ref16_Flow [(1, false)] [(0, false)] 7 0 = some ([(1, 0, 7, 0, false)], 0) := by
    rw [refFlow_eq _ _ _ _ (by decide) (by decide) (by decide)]; rfl
  show ((fn_ref16_Flow [(1, false)] [(0, false)] 7 0).bind _) = _
  rw [e]; rfl
theorem vck27 : (vck b27).1 = 0 := by
  have hs : sE b27.2.2.2.1 b27.2.1 (1, 0, 1, 0, false) = 0 := by unfold sE; rw [st27]; rfl
  have hr : tE (arOf b27) (3, 0, 0, [], [], []) = 0 := by unfold tE; rw [tm27]; rfl
  have hc : vCode b27 = (0, 0, 0, 0) := by
    have h1 : blkE b27 ([(1, 0, 1, 0, false)], (3, 0, 0, [], [], [])) = none := by
      unfold blkE
      simp only [List.findIdx?_cons, hs, hr]
      rfl
    unfold vCode
    simp only [List.findIdx?_cons, h1]
    rfl
  unfold vck
  rw [hc]; rfl
theorem xs27 : xs b27 = b27.2.2.2.2.2.2 := by unfold xs; rw [if_pos vck27]
theorem egA27 : egA b27 = [(2, 1, (0, 0, 1, 0, false)), (1, 0, (0, 1, 7, 0, false))] := by
  unfold egA
  have h2 : bg (xs b27) (xs b27).length = 2 := by rw [xs27]; decide
  rw [h2]
  have hx : (xs b27).length = 1 := by rw [xs27]; rfl
  have e0 : (xs b27)[0]'(by omega) = ([(1, 0, 1, 0, false)], (3, 0, 0, [], [], [])) := by simp only [xs27]; rfl
  have bg0 : bg (xs b27) 0 = 0 := rfl
  have a0 := egN_at (b := b27) (j := 0) (k := 0) (by omega) (by omega)
  have a1 := egN_at (b := b27) (j := 0) (k := 1) (by omega) (by rw [e0]; decide)
  rw [bg0, e0] at a0 a1
  have n0 : nds b27 ([(1, 0, 1, 0, false)], (3, 0, 0, [], [], [])) 0 = [(2, 1, 1, 0, false)] := by
    unfold nds
    rw [dif_pos (by decide)]
    show ((fn_ref18_Needs (1, 0, 1, 0, false) b27.2.2.2.1 b27.2.1).getD ([], 0)).1 = _
    rw [st27]; rfl
  have n1 : nds b27 ([(1, 0, 1, 0, false)], (3, 0, 0, [], [], [])) 1 = [(1, 0, 7, 0, false)] := by
    unfold nds
    rw [dif_neg (by decide), tm27]; rfl
  unfold egs at a0 a1
  rw [n0] at a0; rw [n1] at a1
  show ([] ++ egN b27 0) ++ egN b27 1 = _
  rw [show egN b27 0 = _ from a0, show egN b27 1 = _ from a1]; rfl
theorem awake27 : fn_law27_awake = some true := by
  unfold fn_law27_awake
  have t0 : text 0 = [48] := by decide +kernel
  have t1 : text 1 = [49] := by decide +kernel
  have t2 : text 2 = [50] := by decide +kernel
  have p1 : pedge (2, 1, (0, 0, 1, 0, false)) = [50, 58, 49, 32, 97, 116, 32, 48, 46, 48, 32, 102, 108, 111, 119, 32, 48] := by
    unfold pedge pair ptext words; simp only [t0, t1, t2]; decide +kernel
  have p2 : pedge (1, 0, (0, 1, 7, 0, false)) = [49, 58, 48, 32, 97, 116, 32, 48, 46, 49, 32, 111, 117, 116, 32, 48] := by
    unfold pedge pair ptext words; simp only [t0, t1, t2]; decide +kernel
  rw [show fn_cons_Of_az (1, 3, [], [[(1, false)], [(2, false)]], [(0, false)], [], [([(1, 0, 1, 0, false)], (3, 0, 0, [], [], []))]) = _ from consOf_eq sm27, Option.bind_some, consLines_eq _ (by have := egA_len sm27; omega) (egA_ok sm27), egA27]
  simp only [Option.bind_some, List.map_cons, List.map_nil, p1, p2]
  rfl
theorem add3_eq {a c : Nat} (h : a + c ≤ 1000000000) (q0 q1 q2 q4 q5 q6 : Int) : fn_tick_Counter_Add_p0c3i_iiiiiii (c : Int) q0 q1 q2 (a : Int) q4 q5 q6 = some ((a + c : Nat) : Int) := by
  unfold fn_tick_Counter_Add_p0c3i_iiiiiii fn_tick_isPart
  simp only [Option.bind_some]
  rw [show ((decide ((0 : Int) ≤ 3)) && (decide ((3 : Int) < 7))) = true from rfl, Bool.true_and, decide_eq_true (by omega), cond_true]
  unfold fn_tick_sum
  rw [w64 (by omega) (by omega), decide_eq_false (by omega), cond_false, w64 (by omega) (by omega)]
  simp only [Option.bind_some]; rfl
theorem sum3 {a c : Nat} (h : a + c ≤ 1000000000) : fn_tick_sum (a : Int) (c : Int) = some ((a + c : Nat) : Int) := by
  unfold fn_tick_sum
  rw [w64 (by omega) (by omega), decide_eq_false (by omega), cond_false, w64 (by omega) (by omega)]; rfl
theorem total3_eq {n : Nat} (h : n ≤ 1000000000) : fn_tick_Counter_Total_p0_iiiiiii 0 0 0 (n : Int) 0 0 0 = some (n : Int) := by
  have s0 : fn_tick_sum 0 0 = some 0 := by decide
  have s1 : fn_tick_sum 0 (n : Int) = some (n : Int) := by have := sum3 (a := 0) (c := n) (by omega); simpa using this
  have s2 : fn_tick_sum (n : Int) 0 = some (n : Int) := by have := sum3 (a := n) (c := 0) (by omega); simpa using this
  have c0 : fn_tick_Counter_Of_p0c0_iiiiiii 0 0 0 (n : Int) 0 0 0 = some 0 := rfl
  have c1 : fn_tick_Counter_Of_p0c1_iiiiiii 0 0 0 (n : Int) 0 0 0 = some 0 := rfl
  have c2 : fn_tick_Counter_Of_p0c2_iiiiiii 0 0 0 (n : Int) 0 0 0 = some 0 := rfl
  have c3 : fn_tick_Counter_Of_p0c3_iiiiiii 0 0 0 (n : Int) 0 0 0 = some (n : Int) := rfl
  have c4 : fn_tick_Counter_Of_p0c4_iiiiiii 0 0 0 (n : Int) 0 0 0 = some 0 := rfl
  have c5 : fn_tick_Counter_Of_p0c5_iiiiiii 0 0 0 (n : Int) 0 0 0 = some 0 := rfl
  have c6 : fn_tick_Counter_Of_p0c6_iiiiiii 0 0 0 (n : Int) 0 0 0 = some 0 := rfl
  unfold fn_tick_Counter_Total_p0_iiiiiii
  rw [c0, c1, c2, c3, c4, c5, c6]
  simp only [Option.bind_some, s0, s1, s2]
theorem of3_eq (a : Int) : fn_tick_Counter_Of_p0c3_iiiiiii 0 0 0 a 0 0 0 = some a := by
  unfold fn_tick_Counter_Of_p0c3_iiiiiii fn_tick_isPart
  rfl
theorem consOfC_eq {b : Bo} (h : Sm b) : fn_cons_Of_ap0_iiiiiii b 0 0 0 0 0 0 0 = some (egA b, ((bg (xs b) (xs b).length + (egA b).length : Nat) : Int)) := by
  have h1 := egA_len h
  have h2 := (xs_bound h (Nat.le_refl _)).1
  unfold fn_cons_Of_ap0_iiiiiii
  rw [show fn_point_New (b.1, b.2.1, b.2.2.1, b.2.2.2.1, b.2.2.2.2.1, b.2.2.2.2.2.1, b.2.2.2.2.2.2) = _ from pointNew_eq h]
  have e1 : fn_point_Points_Len (some (bgs (xs b), ((bg (xs b) (xs b).length : Nat) : Int))) = some ((bg (xs b) (xs b).length : Nat) : Int) := rfl
  simp only [Option.bind_some, e1]
  rw [consLoop h (body := fn_cons_Of_ap0_iiiiiii_l1 b (some (bgs (xs b), ((bg (xs b) (xs b).length : Nat) : Int))) ((bg (xs b) (xs b).length : Nat) : Int)) (fun l i => rfl)]
  simp only [Option.bind_some]
  have e2 : IntKind.wrap .i64 (((bg (xs b) (xs b).length : Nat) : Int) + (((egA b).length : Nat) : Int)) = ((bg (xs b) (xs b).length + (egA b).length : Nat) : Int) := by rw [w64 (by omega) (by omega)]; omega
  rw [e2]
  have := add3_eq (a := 0) (c := bg (xs b) (xs b).length + (egA b).length) (by omega) 0 0 0 0 0 0
  rw [show ((0 : Nat) : Int) = 0 from rfl] at this
  rw [this]; simp
theorem consAt_eq {b : Bo} (h : Sm b) (n : Nat) : fn_cons_At b (n : Int) = some (egN b n) := by
  unfold fn_cons_At
  rw [show fn_point_New (b.1, b.2.1, b.2.2.1, b.2.2.2.1, b.2.2.2.2.1, b.2.2.2.2.2.1, b.2.2.2.2.2.2) = _ from pointNew_eq h, Option.bind_some]
  rw [show ∀ P, fn_cons_maker_at ((b.1, b.2.1, b.2.2.1, b.2.2.2.1, b.2.2.2.2.1, b.2.2.2.2.2.1, b.2.2.2.2.2.2), P) (n : Int) = fn_cons_maker_at (b, P) (n : Int) from fun P => rfl, makerAt_eq h]; rfl
theorem consAt_neg {b : Bo} (h : Sm b) {n : Int} (hn : n < 0) : fn_cons_At b n = some [] := by
  unfold fn_cons_At
  rw [show fn_point_New (b.1, b.2.1, b.2.2.1, b.2.2.2.1, b.2.2.2.2.1, b.2.2.2.2.2.1, b.2.2.2.2.2.2) = _ from pointNew_eq h, Option.bind_some]
  rw [show ∀ P, fn_cons_maker_at ((b.1, b.2.1, b.2.2.1, b.2.2.2.1, b.2.2.2.2.1, b.2.2.2.2.2.1, b.2.2.2.2.2.2), P) n = fn_cons_maker_at (b, P) n from fun P => rfl, makerAt_neg hn]; rfl
theorem tells_loop (l : List Eg) (hl : l.length ≤ 1000000000) (h : ∀ e ∈ l, EOk e) : loop (fn_law27_ConsTells_l1 l (l.map pedge)) 0 = some (.inl ()) := by
  have := loop_nat (body := fn_law27_ConsTells_l1 l (l.map pedge)) (fun k : Nat => (k : Int)) l.length (b := .inl ()) ?_ ?_
  · exact this
  · intro k hk
    unfold fn_law27_ConsTells_l1
    have he := refEdge_eq l[k] (h _ (List.getElem_mem hk))
    have hk2 : k < (l.map pedge).length := by simpa using hk
    simp only [dlt hk, cond_true, getN hk, getN hk2, Option.bind_some, show fn_ref26_Edge (l[k].1, l[k].2.1, (l[k].2.2.1, l[k].2.2.2.1, l[k].2.2.2.2.1, l[k].2.2.2.2.2.1, l[k].2.2.2.2.2.2)) = _ from he, List.getElem_map, decide_true, Bool.not_true, cond_false, w64s hk (by omega)]
  · unfold fn_law27_ConsTells_l1
    simp only [dge (show ¬ l.length < l.length by omega), cond_false]
theorem ConsTells_true (xa : Bo) (xb : Int) (k0 : Tp.Ok tyBody xa) (k1 : Tp.Ok (.int .i64) xb) (q0 : Tp.Fit tyBody xa) (q1 : Tp.Fit (.int .i64) xb) : fn_law27_ConsTells xa xb = some true := by
  unfold fn_law27_ConsTells
  rcases small20 xa (fit_body q0) with h | ⟨h, hs⟩
  · rw [show fn_ref20_Small (xa.1, xa.2.1, xa.2.2.1, xa.2.2.2.1, xa.2.2.2.2.1, xa.2.2.2.2.2.1, xa.2.2.2.2.2.2) = some false from h, awake27]; rfl
  · have h1 := egA_len hs
    have h2 := (xs_bound hs (Nat.le_refl _)).1
    have hl := alls_len (xs xa)
    rw [show fn_ref20_Small (xa.1, xa.2.1, xa.2.2.1, xa.2.2.2.1, xa.2.2.2.2.1, xa.2.2.2.2.2.1, xa.2.2.2.2.2.2) = some true from h, show fn_cons_Of_ap0_iiiiiii (xa.1, xa.2.1, xa.2.2.1, xa.2.2.2.1, xa.2.2.2.2.1, xa.2.2.2.2.2.1, xa.2.2.2.2.2.2) 0 0 0 0 0 0 0 = _ from consOfC_eq hs, show fn_ref27_Of (xa.1, xa.2.1, xa.2.2.1, xa.2.2.2.1, xa.2.2.2.2.1, xa.2.2.2.2.2.1, xa.2.2.2.2.2.2) = _ from ref27Of_eq hs, show fn_ref22_All (xa.1, xa.2.1, xa.2.2.1, xa.2.2.2.1, xa.2.2.2.2.1, xa.2.2.2.2.2.1, xa.2.2.2.2.2.2) = _ from refAll_eq hs]
    simp only [Option.bind_some, Bool.not_true, cond_false, same27_eq _ _ (show (egA xa).length ≤ 1000000000 by omega), decide_true, of3_eq, hl]
    have d1 : decide (((bg (xs xa) (xs xa).length + (egA xa).length : Nat) : Int) < ((bg (xs xa) (xs xa).length : Nat) : Int)) = false := decide_eq_false (by omega)
    have d2 : decide (IntKind.wrap .i64 (((bg (xs xa) (xs xa).length : Nat) : Int) + (((egA xa).length : Nat) : Int)) < ((bg (xs xa) (xs xa).length + (egA xa).length : Nat) : Int)) = false := by rw [w64 (by omega) (by omega)]; exact decide_eq_false (by omega)
    have d3 : fn_tick_Counter_Total_p0_iiiiiii 0 0 0 ((bg (xs xa) (xs xa).length + (egA xa).length : Nat) : Int) 0 0 0 = some ((bg (xs xa) (xs xa).length + (egA xa).length : Nat) : Int) := total3_eq (by omega)
    simp only [d1, d2, d3, cond_false, Option.bind_some, decide_true, Bool.not_true]
    rw [consLines_eq _ (by omega) (egA_ok hs)]
    simp only [Option.bind_some, List.length_map, decide_true, Bool.not_true, cond_false]
    rw [tells_loop _ (by omega) (egA_ok hs)]
    simp only [Option.bind_some]
    by_cases hx : xb < 0
    · have : (decide (xb < 0) || decide (((bg (xs xa) (xs xa).length : Nat) : Int) ≤ xb)) = true := by simp [hx]
      rw [this, cond_true, show fn_cons_At (xa.1, xa.2.1, xa.2.2.1, xa.2.2.2.1, xa.2.2.2.2.1, xa.2.2.2.2.2.1, xa.2.2.2.2.2.2) xb = _ from consAt_neg hs hx, awake27]; rfl
    · obtain ⟨n, rfl⟩ := Int.eq_ofNat_of_zero_le (show 0 ≤ xb by omega)
      rw [show fn_cons_At (xa.1, xa.2.1, xa.2.2.1, xa.2.2.2.1, xa.2.2.2.2.1, xa.2.2.2.2.2.1, xa.2.2.2.2.2.2) (n : Int) = _ from consAt_eq hs n]
      by_cases hn : n < bg (xs xa) (xs xa).length
      · have : (decide ((n : Int) < 0) || decide (((bg (xs xa) (xs xa).length : Nat) : Int) ≤ (n : Int))) = false := by simp; omega
        obtain ⟨j, k, hj, hk, rfl, _⟩ := locate (xs xa) (xs xa).length (Nat.le_refl _) n hn
        have hg := alls_get (xs xa) hj hk
        have hn' : bg (xs xa) j + k < (alls (xs xa)).length := by omega
        rw [List.getElem?_eq_getElem hn'] at hg
        have hlen := (egN_good hs (bg (xs xa) j + k)).1
        rw [this, cond_false, getN hn', Option.some.inj hg]
        simp only [Option.bind_some]
        rw [show fn_ref27_At (xa.1, xa.2.1, xa.2.2.1, xa.2.2.2.1, xa.2.2.2.2.1, xa.2.2.2.2.2.1, xa.2.2.2.2.2.2) ((j : Int), (k : Int), decide (k = (xs xa)[j].1.length)) = _ from ref27At_eq hs hj hk, ← egN_at hj hk]
        simp only [Option.bind_some]
        rw [same27_eq _ _ (by omega), awake27]; simp
      · have : (decide ((n : Int) < 0) || decide (((bg (xs xa) (xs xa).length : Nat) : Int) ≤ (n : Int))) = true := by simp; omega
        have e : egN xa n = [] := by
          have : (alls (xs xa))[n]? = none := List.getElem?_eq_none (by omega)
          unfold egN; rw [this]
        rw [this, cond_true, e, awake27]; rfl
end Go.Proofs.YtelekeapfgfknaaGreat
