/- What layer 26's readers compute, in plain words. -/
import Derived.Test.YtaokbmfhobbmaaaDoorQ26
namespace Go.Proofs.YtaokbmfhobbmaaaDoor
open Go.RowKit Nu
set_option linter.unusedVariables false
set_option linter.unnecessarySimpa false
set_option linter.unusedSimpArgs false
abbrev PvE := Int × Int × Int × Int × Bool × Int
def bad26 : PvE := (0, 0, 0, 0, false, 3)
def read4 (a b c : List UInt8) (k : Int) (back : Bool) : PvE :=
  if (parse a 1048576).2 ≠ 0 then (0, 0, 0, 0, false, (parse a 1048576).2) else if (parse b 1048576).2 ≠ 0 then (0, 0, 0, 0, false, (parse b 1048576).2) else if (parse c 1048576).2 ≠ 0 then (0, 0, 0, 0, false, (parse c 1048576).2) else ((parse a 1048576).1, (parse b 1048576).1, k, (parse c 1048576).1, back, 0)
def read3 (w0 w1 w2 : List UInt8) (back : Bool) : PvE := match w0.findIdx? (fun x => decide (x = 46)) with
  | none => bad26
  | some k => if kind w1 = 0 then bad26 else read4 (w0.take k) (w0.drop (k + 1)) w2 (kind w1) back
def readW : List (List UInt8) → PvE
  | [w0, w1, w2] => read3 w0 w1 w2 false
  | [w0, w1, w2, w3] => if w3 = bk then read3 w0 w1 w2 true else bad26
  | _ => bad26
theorem readW4 (w0 w1 w2 w3 : List UInt8) : readW [w0, w1, w2, w3] = if w3 = bk then read3 w0 w1 w2 true else bad26 := rfl
def readP (s : List UInt8) : PvE := readW (pieces 32 s)
theorem provLoop_eq (a b c : List UInt8) (ha : a.length ≤ 1000000) (hb : b.length ≤ 1000000) (hc : c.length ≤ 1000000) :
    loop (fn_prov_Parse_l1 a b c) (([0, 0, 0] : List Int), 0) = some (if (parse a 1048576).2 ≠ 0 then .inr (0, 0, 0, 0, false, (parse a 1048576).2) else if (parse b 1048576).2 ≠ 0 then .inr (0, 0, 0, 0, false, (parse b 1048576).2) else if (parse c 1048576).2 ≠ 0 then .inr (0, 0, 0, 0, false, (parse c 1048576).2) else .inl [(parse a 1048576).1, (parse b 1048576).1, (parse c 1048576).1]) := by
  have pa := nParse_eq a 1048576 ha (by decide) (by decide)
  have pb := nParse_eq b 1048576 hb (by decide) (by decide)
  have pc := nParse_eq c 1048576 hc (by decide) (by decide)
  by_cases h1 : (parse a 1048576).2 = 0
  · rw [loop_next (s' := ([(parse a 1048576).1, 0, 0], 1)) (by
      unfold fn_prov_Parse_l1
      show ((fn_numeral_Parse a 1048576).bind _) = _
      rw [pa]
      simp only [Option.bind_some, h1, decide_true, Bool.not_true, cond_false]; rfl)]
    by_cases h2 : (parse b 1048576).2 = 0
    · rw [loop_next (s' := ([(parse a 1048576).1, (parse b 1048576).1, 0], 2)) (by
        unfold fn_prov_Parse_l1
        show ((fn_numeral_Parse b 1048576).bind _) = _
        rw [pb]
        simp only [Option.bind_some, h2, decide_true, Bool.not_true, cond_false]; rfl)]
      by_cases h3 : (parse c 1048576).2 = 0
      · rw [loop_next (s' := ([(parse a 1048576).1, (parse b 1048576).1, (parse c 1048576).1], 3)) (by
          unfold fn_prov_Parse_l1
          show ((fn_numeral_Parse c 1048576).bind _) = _
          rw [pc]
          simp only [Option.bind_some, h3, decide_true, Bool.not_true, cond_false]; rfl)]
        rw [loop_end (b := .inl [(parse a 1048576).1, (parse b 1048576).1, (parse c 1048576).1]) (by rfl)]
        simp [h1, h2, h3]
      · rw [loop_end (b := .inr (0, 0, 0, 0, false, (parse c 1048576).2)) (by
          unfold fn_prov_Parse_l1
          show ((fn_numeral_Parse c 1048576).bind _) = _
          rw [pc]
          simp only [Option.bind_some, h3, decide_false, Bool.not_false, cond_true])]
        simp [h1, h2, h3]
    · rw [loop_end (b := .inr (0, 0, 0, 0, false, (parse b 1048576).2)) (by
        unfold fn_prov_Parse_l1
        show ((fn_numeral_Parse b 1048576).bind _) = _
        rw [pb]
        simp only [Option.bind_some, h2, decide_false, Bool.not_false, cond_true])]
      simp [h1, h2]
  · rw [loop_end (b := .inr (0, 0, 0, 0, false, (parse a 1048576).2)) (by
      unfold fn_prov_Parse_l1
      show ((fn_numeral_Parse a 1048576).bind _) = _
      rw [pa]
      simp only [Option.bind_some, h1, decide_false, Bool.not_false, cond_true])]
    simp [h1]
theorem provRest_eq (w0 w1 w2 : List UInt8) (back : Bool) (l : List (List UInt8)) (g0 : getI l 0 = some w0) (g1 : getI l 1 = some w1) (g2 : getI l 2 = some w2) (h0 : w0.length ≤ 1000000) (h2 : w2.length ≤ 1000000) :
    ((getI l 0).bind fun x324 => (cutF x324 ([46] : List UInt8)).bind fun (s333, s334, t335) => (getI l 1).bind fun x339 => (fn_prov_Kind x339).bind fun (i348, t349) => cond ((!t335) || (!t349)) (some ((0, 0, 0, 0, false, 3))) ((getI l 2).bind fun x360 => (loop (fn_prov_Parse_l1 s333 s334 x360) ((([0, 0, 0] : List Int), 0)) : Option ((List Int) ⊕ (Int × Int × Int × Int × Bool × Int))).bind fun o => match o with | .inr r => some r | .inl l461 => (getI l461 0).bind fun x560 => (getI l461 1).bind fun x565 => (getI l461 2).bind fun x570 => some ((x560, x565, i348, x570, back, 0)))) = some (read3 w0 w1 w2 back) := by
  rw [g0, g1, g2]
  simp only [Option.bind_some]
  unfold cutF read3
  rw [if_pos (by omega), cut_one]
  cases w0.findIdx? (fun x => decide (x = 46)) with
  | none => simp only [Option.bind_some, provKind_eq, Bool.not_false, Bool.true_or, cond_true]; rfl
  | some k =>
    simp only [Option.bind_some, provKind_eq, Bool.not_true, Bool.false_or]
    by_cases hk : kind w1 = 0
    · simp only [hk, if_true]; rfl
    · have hp := kind_pos hk
      have e : decide (0 < kind w1) = true := decide_eq_true (by omega)
      simp only [e, Bool.not_true, cond_false, hk, if_false]
      rw [provLoop_eq _ _ _ (take_len h0) (drop_len h0) h2]
      unfold read4
      by_cases h1 : (parse (w0.take k) 1048576).2 = 0
      · by_cases h2 : (parse (w0.drop (k + 1)) 1048576).2 = 0
        · by_cases h3 : (parse w2 1048576).2 = 0
          · simp only [h1, h2, h3, ne_eq, not_true_eq_false, if_false, Option.bind_some]; rfl
          · simp [h1, h2, h3]
        · simp [h1, h2]
      · simp [h1]
theorem provParse_eq (s : List UInt8) (hn : s.length ≤ 100000) : fn_prov_Parse s = some (readP s) := by
  unfold fn_prov_Parse readP
  have e : splF s [32] = some (pieces 32 s) := by
    unfold splF
    rw [if_pos ⟨by omega, by simp⟩, Lib.splitB_data]
    congr 1
    show Lib.splitK [32] 0 (Lib.count s [32]) s = _
    rw [Lib.count_one]
    exact splitK_pieces 32 _ s rfl
  rw [e]
  simp only [Option.bind_some]
  have hl := pieces_each 32 1000000 s (by omega)
  have hne := pieces_ne 32 s
  revert hl hne
  generalize pieces 32 s = l
  intro hl hne
  match l, hl, hne with
  | [], _, hne => exact absurd rfl hne
  | [_], _, _ => rfl
  | [_, _], _, _ => rfl
  | [w0, w1, w2], hl, _ =>
    have := provRest_eq w0 w1 w2 false [w0, w1, w2] rfl rfl rfl (hl w0 (by simp)) (hl w2 (by simp))
    exact this
  | [w0, w1, w2, w3], hl, _ =>
    have := provRest_eq w0 w1 w2 true [w0, w1, w2, w3] rfl rfl rfl (hl w0 (by simp)) (hl w2 (by simp))
    unfold readW
    have e3 : getI [w0, w1, w2, w3] 3 = some w3 := rfl
    have e4 : decide ((((([w0, w1, w2, w3] : List (List UInt8)).length : Nat) : Int)) = 4) = true := rfl
    have e5 : decide ((((([w0, w1, w2, w3] : List (List UInt8)).length : Nat) : Int)) = 3) = false := rfl
    rw [e4, e5, cond_true, e3]
    by_cases hb : w3 = bk
    · have hb' : decide (w3 = ([98, 97, 99, 107] : List UInt8)) = true := decide_eq_true hb
      simp only [Option.bind_some, hb', Bool.not_false, Bool.not_true, Bool.and_false, cond_false]
      rw [if_pos hb]; exact this
    · have hb' : decide (w3 = ([98, 97, 99, 107] : List UInt8)) = false := decide_eq_false hb
      simp only [Option.bind_some, hb', Bool.not_false, Bool.and_true, cond_true]
      rw [if_neg hb]; rfl
  | w0 :: w1 :: w2 :: w3 :: w4 :: r, _, _ =>
    have e4 : decide ((((((w0 :: w1 :: w2 :: w3 :: w4 :: r : List (List UInt8)).length : Nat) : Int))) = 4) = false := decide_eq_false (by simp; omega)
    have e5 : decide ((((((w0 :: w1 :: w2 :: w3 :: w4 :: r : List (List UInt8)).length : Nat) : Int))) = 3) = false := decide_eq_false (by simp; omega)
    rw [e4, e5]; rfl
theorem refCut_key (s : List UInt8) (c : UInt8) (hn : s.length ≤ 100000) :
    ∀ (m f : Nat) (acc : List (List UInt8)), f + m = s.length + 1 → acc.length ≤ f → loop (fn_ref26_cut_l1 s ((c.toNat : Nat) : Int)) (acc, (f : Int), (f : Int)) = some (acc ++ (if m = 0 then [] else pieces c (s.drop f))) := by
  have walk : ∀ (acc : List (List UInt8)) (f j : Nat), (∀ i, i < j → ∃ h : f + i < s.length, s[f + i] ≠ c) → loop (fn_ref26_cut_l1 s ((c.toNat : Nat) : Int)) (acc, (f : Int), (f : Int)) = loop (fn_ref26_cut_l1 s ((c.toNat : Nat) : Int)) (acc, (f : Int), ((f + j : Nat) : Int)) := by
    intro acc f j
    induction j with
    | zero => intro _; rfl
    | succ j ih =>
      intro h
      rw [ih (fun i hi => h i (by omega))]
      obtain ⟨hj, hne⟩ := h j (by omega)
      refine loop_next ?_
      unfold fn_ref26_cut_l1
      have e1 : decide (((f + j : Nat) : Int) ≤ (((s.length : Nat) : Int))) = true := decide_eq_true (by omega)
      have e3 : decide (((f + j : Nat) : Int) = (((s.length : Nat) : Int))) = false := decide_eq_false (by omega)
      have e2 : decide ((((s[f + j].toNat : Nat) : Int)) = ((c.toNat : Nat) : Int)) = false := decide_eq_false (fun e => hne (by apply UInt8.toNat_inj.1; omega))
      simp only [e1, cond_true, e3, cond_false, getN hj, Option.bind_some, e2, w64s hj (by omega)]
      rfl
  intro m
  induction m using Nat.strongRecOn with
  | _ m ih =>
    intro f acc hf ha
    by_cases hm0 : m = 0
    · subst hm0
      rw [if_pos rfl, List.append_nil]
      refine loop_end ?_
      unfold fn_ref26_cut_l1
      have e1 : decide (((f : Nat) : Int) ≤ (((s.length : Nat) : Int))) = false := decide_eq_false (by omega)
      simp only [e1, cond_false]
    rw [if_neg hm0]
    have hdl : (s.drop f).length = s.length - f := List.length_drop ..
    cases hq : (s.drop f).findIdx? (fun x => decide (x = c)) with
    | none =>
      rw [pieces_miss c _ hq]
      rw [List.findIdx?_eq_none_iff] at hq
      rw [walk acc f (s.length - f) (fun i hi => ⟨by omega, by
        have := hq (s.drop f)[i] (List.getElem_mem (by omega))
        rw [List.getElem_drop] at this; simpa using this⟩), show f + (s.length - f) = s.length by omega]
      have e1 : decide (((s.length : Nat) : Int) ≤ (((s.length : Nat) : Int))) = true := decide_eq_true (by omega)
      have hsub : subL s (f : Int) (((s.length : Nat) : Int)) = some (s.drop f) := by rw [subL_eq (by omega) (by omega) (by omega)]; simp
      rw [loop_next (s' := (acc ++ [s.drop f], ((s.length + 1 : Nat) : Int), ((s.length + 1 : Nat) : Int)))]
      · have := ih 0 (by omega) (s.length + 1) (acc ++ [s.drop f]) (by omega) (by simp; omega)
        rw [this, if_pos rfl, List.append_nil]
      · unfold fn_ref26_cut_l1
        simp only [e1, cond_true, decide_true, Option.bind_some, hsub]
        rw [app_eq (by simp; omega), w64 (by omega) (by omega)]
        rfl
    | some j =>
      rw [pieces_hit c _ j hq]
      obtain ⟨hj, h44, hmin⟩ := List.findIdx?_eq_some_iff_getElem.1 hq
      rw [walk acc f j (fun i hi => ⟨by omega, by
        have := hmin i hi
        rw [List.getElem_drop] at this; simpa using this⟩)]
      have hfj : f + j < s.length := by omega
      have hc : s[f + j] = c := by rw [List.getElem_drop] at h44; simpa using h44
      have e1 : decide (((f + j : Nat) : Int) ≤ (((s.length : Nat) : Int))) = true := decide_eq_true (by omega)
      have e3 : decide (((f + j : Nat) : Int) = (((s.length : Nat) : Int))) = false := decide_eq_false (by omega)
      have e2 : decide ((((s[f + j].toNat : Nat) : Int)) = ((c.toNat : Nat) : Int)) = true := by rw [hc]; simp
      have hsub : subL s (f : Int) ((f + j : Nat) : Int) = some ((s.drop f).take j) := by
        rw [subL_eq (by omega) (by omega) (by omega)]
        simp only [Int.toNat_natCast]
        rw [List.drop_take, Nat.add_sub_cancel_left]
      rw [List.drop_drop]
      rw [loop_next (s' := (acc ++ [(s.drop f).take j], ((f + (j + 1) : Nat) : Int), ((f + (j + 1) : Nat) : Int)))]
      · have := ih (m - (j + 1)) (by omega) (f + (j + 1)) (acc ++ [(s.drop f).take j]) (by omega) (by simp; omega)
        rw [this, if_neg (by omega)]; simp
      · unfold fn_ref26_cut_l1
        simp only [e1, cond_true, e3, cond_false, getN hfj, Option.bind_some, e2, hsub]
        rw [app_eq (by simp; omega), w64 (by omega) (by omega)]
        have : ((f + j : Nat) : Int) + 1 = ((f + (j + 1) : Nat) : Int) := by omega
        rw [this]; rfl
theorem refCut_eq (s : List UInt8) (c : UInt8) (hn : s.length ≤ 100000) : fn_ref26_cut s ((c.toNat : Nat) : Int) = some (pieces c s) := by
  unfold fn_ref26_cut
  have := refCut_key s c hn (s.length + 1) 0 [] (by omega) (by simp)
  rw [show ((0 : Nat) : Int) = 0 from rfl, List.drop_zero, if_neg (by omega), List.nil_append] at this
  rw [this]; rfl
theorem refDot_eq (w0 : List UInt8) (l : List (List UInt8)) (g0 : getI l 0 = some w0) (h0 : w0.length ≤ 1000000) :
    loop (fn_ref26_Parse_l1 l) 0 = some (match w0.findIdx? (fun x => decide (x = 46)) with | some k => (k : Int) | none => (w0.length : Int)) := by
  refine loop_search (body := fn_ref26_Parse_l1 l) w0 (fun x => decide (x = 46)) (fun k => (k : Int)) (w0.length : Int) (fun k hk => ?_) ?_
  · unfold fn_ref26_Parse_l1
    rw [g0]
    simp only [Option.bind_some, dlt hk, cond_true, getN hk, w64s hk (by omega)]
    by_cases hc : w0[k] = 46
    · have e1 : decide ((((w0[k].toNat : Nat) : Int)) = 46) = true := by rw [hc]; rfl
      rw [if_pos (by simpa using hc), e1]; rfl
    · have e1 : decide ((((w0[k].toNat : Nat) : Int)) = 46) = false := decide_eq_false (fun e => hc (by apply UInt8.toNat_inj.1; simpa using Int.ofNat.inj e))
      rw [if_neg (by simpa using hc), e1]; rfl
  · unfold fn_ref26_Parse_l1
    rw [g0]
    simp only [Option.bind_some, dge (show ¬ w0.length < w0.length by omega), cond_false]
theorem refRest_eq (w0 w1 w2 : List UInt8) (l : List (List UInt8)) (g0 : getI l 0 = some w0) (g1 : getI l 1 = some w1) (g2 : getI l 2 = some w2) (h0 : w0.length ≤ 1000000) (h2 : w2.length ≤ 1000000) :
    ((loop (fn_ref26_Parse_l1 l) 0 : Option Int).bind fun i567 => (getI l 0).bind fun x687 => (cond (decide (i567 = (((x687.length : Nat) : Int)))) (some (true)) ((getI l 1).bind fun x711 => (fn_ref26_Kind x711).bind fun i720 => some (decide (i720 = 0)))).bind fun t708 => cond (t708) (some ((0, 0, 0, 0, false, 3))) ((getI l 0).bind fun x725 => (subL x725 0 i567).bind fun y732 => (fn_ref01_Parse y732 1048576).bind fun (i736, i737) => cond (!decide (i737 = 0)) (some ((0, 0, 0, 0, false, i737))) ((getI l 0).bind fun x742 => (subL x742 (IntKind.wrap .i64 (i567 + 1)) (((x742.length : Nat) : Int))).bind fun y749 => (fn_ref01_Parse y749 1048576).bind fun (i753, i754) => cond (!decide (i754 = 0)) (some ((0, 0, 0, 0, false, i754))) ((getI l 2).bind fun x759 => (fn_ref01_Parse x759 1048576).bind fun (i768, i769) => cond (!decide (i769 = 0)) (some ((0, 0, 0, 0, false, i769))) ((getI l 1).bind fun x774 => (fn_ref26_Kind x774).bind fun i783 => some ((i736, i753, i783, i768, decide ((((l.length : Nat) : Int)) = 4), 0)))))) : Option PvE) = some (read3 w0 w1 w2 (decide ((((l.length : Nat) : Int)) = 4))) := by
  rw [refDot_eq w0 l g0 h0, g0, g1, g2]
  simp only [Option.bind_some]
  unfold read3
  cases hq : w0.findIdx? (fun x => decide (x = 46)) with
  | none => simp [bad26]
  | some k =>
    obtain ⟨hk, _, _⟩ := List.findIdx?_eq_some_iff_getElem.1 hq
    have e1 : decide (((k : Nat) : Int) = (((w0.length : Nat) : Int))) = false := decide_eq_false (by omega)
    simp only [e1, cond_false, refKind_eq, Option.bind_some]
    by_cases hk0 : kind w1 = 0
    · simp [hk0, bad26]
    · simp only [hk0, decide_false, cond_false, if_false]
      have s1 : subL w0 0 ((k : Nat) : Int) = some (w0.take k) := by rw [subL_eq (by omega) (by omega) (by omega)]; simp
      have s2 : subL w0 (IntKind.wrap .i64 ((k : Int) + 1)) (((w0.length : Nat) : Int)) = some (w0.drop (k + 1)) := by
        rw [w64s hk (by omega), subL_eq (by omega) (by omega) (by omega)]; simp
      rw [s1, s2]
      simp only [Option.bind_some, rParse_eq _ 1048576 (take_len (k := k) h0) (by decide), rParse_eq _ 1048576 (drop_len (k := k + 1) h0) (by decide), rParse_eq _ 1048576 h2 (by decide)]
      unfold read4
      by_cases h1 : (parse (w0.take k) 1048576).2 = 0
      · by_cases h2 : (parse (w0.drop (k + 1)) 1048576).2 = 0
        · by_cases h3 : (parse w2 1048576).2 = 0 <;> simp [h1, h2, h3]
        · simp [h1, h2]
      · simp [h1]
theorem refParse_eq (s : List UInt8) (hn : s.length ≤ 100000) : fn_ref26_Parse s = some (readP s) := by
  unfold fn_ref26_Parse readP
  have e : fn_ref26_cut s 32 = some (pieces 32 s) := refCut_eq s 32 hn
  rw [e]
  simp only [Option.bind_some]
  have hl := pieces_each 32 1000000 s (by omega)
  have hne := pieces_ne 32 s
  revert hl hne
  generalize pieces 32 s = l
  intro hl hne
  match l, hl, hne with
  | [], _, hne => exact absurd rfl hne
  | [_], _, _ => rfl
  | [_, _], _, _ => rfl
  | [w0, w1, w2], hl, _ =>
    have := refRest_eq w0 w1 w2 [w0, w1, w2] rfl rfl rfl (hl w0 (by simp)) (hl w2 (by simp))
    exact this
  | [w0, w1, w2, w3], hl, _ =>
    have := refRest_eq w0 w1 w2 [w0, w1, w2, w3] rfl rfl rfl (hl w0 (by simp)) (hl w2 (by simp))
    unfold readW
    have e3 : getI [w0, w1, w2, w3] 3 = some w3 := rfl
    have e4 : decide ((((([w0, w1, w2, w3] : List (List UInt8)).length : Nat) : Int)) = 4) = true := rfl
    have e5 : (decide ((((([w0, w1, w2, w3] : List (List UInt8)).length : Nat) : Int)) < 3) || decide (4 < (((([w0, w1, w2, w3] : List (List UInt8)).length : Nat) : Int)))) = false := rfl
    rw [e5, e4, cond_true, cond_false, e3]
    by_cases hb : w3 = bk
    · have hb' : decide (w3 = ([98, 97, 99, 107] : List UInt8)) = true := decide_eq_true hb
      simp only [Option.bind_some, hb', Bool.not_true, cond_false]
      rw [if_pos hb]; exact this
    · have hb' : decide (w3 = ([98, 97, 99, 107] : List UInt8)) = false := decide_eq_false hb
      simp only [Option.bind_some, hb', Bool.not_false, cond_true]
      rw [if_neg hb]; rfl
  | w0 :: w1 :: w2 :: w3 :: w4 :: r, _, _ =>
    have e5 : (decide ((((((w0 :: w1 :: w2 :: w3 :: w4 :: r : List (List UInt8)).length : Nat) : Int))) < 3) || decide (4 < ((((w0 :: w1 :: w2 :: w3 :: w4 :: r : List (List UInt8)).length : Nat) : Int)))) = true := by
      rw [Bool.or_eq_true]; right; simp; omega
    rw [e5]; rfl
/-! ### There and back. -/
theorem read4_ok {a b c : List UInt8} {k : Int} {back : Bool} (h : (read4 a b c k back).2.2.2.2.2 = 0) :
    ∃ x y z, read4 a b c k back = (x, y, k, z, back, 0) ∧ text x = a ∧ text y = b ∧ text z = c ∧ 0 ≤ x ∧ 0 ≤ y ∧ 0 ≤ z ∧ x ≤ 1048576 ∧ y ≤ 1048576 ∧ z ≤ 1048576 := by
  unfold read4 at h ⊢
  by_cases h1 : (parse a 1048576).2 = 0
  · by_cases h2 : (parse b 1048576).2 = 0
    · by_cases h3 : (parse c 1048576).2 = 0
      · obtain ⟨_, a1, a2, a3⟩ := parse_ok h1
        obtain ⟨_, b1, b2, b3⟩ := parse_ok h2
        obtain ⟨_, c1, c2, c3⟩ := parse_ok h3
        exact ⟨_, _, _, by simp [h1, h2, h3], a1, b1, c1, a2, b2, c2, a3, b3, c3⟩
      · simp [h1, h2, h3] at h
    · simp [h1, h2] at h
  · simp [h1] at h
theorem read3_ok {w0 w1 w2 : List UInt8} {back : Bool} (h : (read3 w0 w1 w2 back).2.2.2.2.2 = 0) :
    ∃ x y k z, read3 w0 w1 w2 back = (x, y, k, z, back, 0) ∧ right (x, y, k, z, back) = true ∧ text x ++ 46 :: text y = w0 ∧ nm k = w1 ∧ text z = w2 ∧ x ≤ 1048576 ∧ y ≤ 1048576 ∧ z ≤ 1048576 := by
  unfold read3 at h ⊢
  cases hq : w0.findIdx? (fun x => decide (x = 46)) with
  | none => rw [hq] at h; simp [bad26] at h
  | some j =>
    rw [hq] at h
    simp only at h ⊢
    obtain ⟨hj, hc, _⟩ := List.findIdx?_eq_some_iff_getElem.1 hq
    have hc' : w0[j] = 46 := by simpa using hc
    by_cases hk : kind w1 = 0
    · simp [hk, bad26] at h
    · rw [if_neg hk] at h ⊢
      obtain ⟨x, y, z, e, a1, a2, a3, b1, b2, b3, c1, c2, c3⟩ := read4_ok h
      obtain ⟨k1, k2, k3⟩ := kind_pos hk
      refine ⟨x, y, _, z, e, ?_, ?_, k3, a3, c1, c2, c3⟩
      · unfold right; simp [b1, b2, b3, k1, k2]
      · rw [a1, a2, ← hc', List.getElem_cons_drop, List.take_append_drop]
theorem readP_ok {s : List UInt8} (h : (readP s).2.2.2.2.2 = 0) :
    ∃ f : Pv, readP s = (f.1, f.2.1, f.2.2.1, f.2.2.2.1, f.2.2.2.2, 0) ∧ right f = true ∧ ptext f = s ∧ f.1 ≤ 1048576 ∧ f.2.1 ≤ 1048576 ∧ f.2.2.2.1 ≤ 1048576 := by
  unfold readP at h ⊢
  have hg := glue_pieces 32 s
  revert h hg
  generalize pieces 32 s = l
  intro h hg
  match l, h, hg with
  | [], h, _ => simp [readW, bad26] at h
  | [_], h, _ => simp [readW, bad26] at h
  | [_, _], h, _ => simp [readW, bad26] at h
  | [w0, w1, w2], h, hg =>
    obtain ⟨x, y, k, z, e, r, a1, a2, a3, c⟩ := read3_ok (w0 := w0) (w1 := w1) (w2 := w2) (back := false) h
    refine ⟨(x, y, k, z, false), e, r, ?_, c⟩
    unfold ptext; rw [if_pos r, ← hg]; unfold words; simp only [a1, a2, a3]; rfl
  | [w0, w1, w2, w3], h, hg =>
    rw [readW4] at h ⊢
    by_cases hb : w3 = bk
    · rw [if_pos hb] at h ⊢
      obtain ⟨x, y, k, z, e, r, a1, a2, a3, c⟩ := read3_ok (w0 := w0) (w1 := w1) (w2 := w2) (back := true) h
      refine ⟨(x, y, k, z, true), e, r, ?_, c⟩
      unfold ptext; rw [if_pos r, ← hg, hb]; unfold words; simp only [a1, a2, a3]; rfl
    · rw [if_neg hb] at h; simp [bad26] at h
  | w0 :: w1 :: w2 :: w3 :: w4 :: r, h, _ => simp [readW, bad26] at h
theorem d32 : isDig 32 = false := rfl
theorem d46 : isDig 46 = false := rfl
def small26 (f : Pv) : Bool := ((right f && decide (f.1 ≤ 1048576)) && decide (f.2.1 ≤ 1048576)) && decide (f.2.2.2.1 ≤ 1048576)
theorem readP_text (f : Pv) : if small26 f = true then readP (ptext f) = (f.1, f.2.1, f.2.2.1, f.2.2.2.1, f.2.2.2.2, 0) else (readP (ptext f)).2.2.2.2.2 ≠ 0 := by
  obtain ⟨x, y, k, z, b⟩ := f
  cases hr : right (x, y, k, z, b) with
  | false =>
    have e : small26 (x, y, k, z, b) = false := by unfold small26; rw [hr]; rfl
    rw [e, if_neg (by simp)]
    have e2 : ptext (x, y, k, z, b) = [63] := by unfold ptext; rw [hr]; rfl
    rw [e2]
    show (readW (pieces 32 [63])).2.2.2.2.2 ≠ 0
    have : pieces 32 [63] = [[63]] := by decide
    rw [this]; simp [readW, bad26]
  | true =>
    have hr' := hr
    unfold right at hr'
    simp only [Bool.and_eq_true, decide_eq_true_eq] at hr'
    obtain ⟨⟨⟨hx, hy⟩, hz⟩, hk⟩ := hr'
    have hw : ∀ p ∈ words (x, y, k, z, b), (32 : UInt8) ∉ p := by
      intro p hp
      unfold words at hp
      have key : p = text x ++ 46 :: text y ∨ p = nm k ∨ p = text z ∨ p = bk := by
        rcases List.mem_append.1 hp with hp | hp
        · simp only [List.mem_cons, List.not_mem_nil, or_false] at hp
          rcases hp with h | h | h
          · exact .inl h
          · exact .inr (.inl h)
          · exact .inr (.inr (.inl h))
        · split at hp
          · simp only [List.mem_cons, List.not_mem_nil, or_false] at hp; exact .inr (.inr (.inr hp))
          · simp at hp
      rcases key with h | h | h | h
      · subst h
        have h1 := text_no (n := x) d32; have h2 := text_no (n := y) d32
        simp [h1, h2]
      · subst h; exact nm_no k
      · subst h; exact text_no d32
      · subst h; decide
    have hp : pieces 32 (ptext (x, y, k, z, b)) = words (x, y, k, z, b) := by
      unfold ptext; rw [if_pos hr]
      exact pieces_glue 32 _ (by unfold words; simp) hw
    have hr3 : readP (ptext (x, y, k, z, b)) = read3 (text x ++ 46 :: text y) (nm k) (text z) b := by
      unfold readP; rw [hp]; unfold words
      cases b with
      | false => rfl
      | true => exact (readW4 _ _ _ _).trans (if_pos rfl)
    have hk0 : ¬ k = 0 := by omega
    have e4 : read3 (text x ++ 46 :: text y) (nm k) (text z) b = read4 (text x) (text y) (text z) k b := by
      unfold read3
      rw [idx_app (text_no d46)]
      simp only [hk0, if_false, List.take_left, List.drop_append, Nat.add_sub_cancel_left, kind_nm hk]
      have e : (text x).drop ((text x).length + 1) = [] := List.drop_eq_nil_of_le (by omega)
      rw [e]; rfl
    rw [hr3, e4]
    have px := parse_text hx 1048576; have py := parse_text hy 1048576; have pz := parse_text hz 1048576
    unfold small26 read4
    rw [hr, px, py, pz]
    by_cases h1 : 1048576 < x
    · have : ¬ x ≤ 1048576 := by omega
      simp [h1, this]
    · by_cases h2 : 1048576 < y
      · have a1 : x ≤ 1048576 := by omega
        have : ¬ y ≤ 1048576 := by omega
        simp [h1, h2, this]
      · by_cases h3 : 1048576 < z
        · have : ¬ z ≤ 1048576 := by omega
          simp [h1, h2, h3, this]
        · have a1 : x ≤ 1048576 := by omega
          have a2 : y ≤ 1048576 := by omega
          have a3 : z ≤ 1048576 := by omega
          simp [h1, h2, h3, a1, a2, a3]
end Go.Proofs.YtaokbmfhobbmaaaDoor
