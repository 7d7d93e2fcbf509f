/- 'easement/easementlaw38.TextTypes' returns true for every input, and each argument reads afterwards as it read before: the row's frame round the walk. -/
import Derived.Test.YteciehjlefldmaaDoorZ5
import Derived.Test.YteciehjlefldmaaDoorCards
import Derived.Test.YteciehjlefldmaaDoorTie
import Derived.Lay
import Derived.SevenTiedAt
namespace Go.Proofs.YteciehjlefldmaaDoor
set_option linter.unusedVariables false
set_option linter.unnecessarySimpa false
set_option linter.unusedSimpArgs false
set_option maxRecDepth 20000
set_option linter.unusedSectionVars false
section
open Go.RowKit Nu
abbrev Sg38 := Int × List (Int × Int) × List (List St) × List St
abbrev Bk38 := List Stm38 × Tm38
abbrev PS := Int × Int × List (Int × Int) × List (List St) × List St × List Sg38 × List Bk38 × Int
abbrev R38 := Int × Int × List (Int × Int) × List (List St) × List St × List Sg38 × List Bk38 × Int × Int
abbrev Q38 := List Wd × Int
noncomputable def lineP (ws : List Wd) (p : PS) : Option (Int × PS) := fn_text_parser_line_p0k_iirrrododi ws p.1 p.2.1 p.2.2.1 p.2.2.2.1 p.2.2.2.2.1 p.2.2.2.2.2.1 p.2.2.2.2.2.2.1 p.2.2.2.2.2.2.2
def wds (l : Wd) : List Wd := (pieces 32 l).filter (fun w => !decide (w = []))
def skipB : List Wd → Bool
 | [] => true
 | w :: _ => decide (w.head? = some 35)
noncomputable def step38 (l : Wd) (p : PS) : Option (Int × PS) := if skipB (wds l) then some (0, p) else lineP (wds l) p
def fin38 (p : PS) : R38 := if p.2.2.2.2.2.2.2 = 3 ∨ p.2.2.2.2.2.2.2 = 5 ∨ p.2.2.2.2.2.2.2 = 7 then (p.1, p.2.1, p.2.2.1, p.2.2.2.1, p.2.2.2.2.1, p.2.2.2.2.2.1, p.2.2.2.2.2.2.1, 0, 0) else (0, 0, [], [], [], [], [], 0, 14)
noncomputable def run38 : List Wd → PS → Int → Option R38
 | [], p, n => some (fin38 p)
 | l :: ls, p, n => (step38 l p).bind fun r => if r.1 = 0 then run38 ls r.2 (n + 1) else some (0, 0, [], [], [], [], [], n + 1, r.1)
theorem del_find (l : List Wd) (hn : l.length ≤ 4000000) : fn_slices_IndexFunc_string_string_k_text_Parse_1 l = some (match l.findIdx? (fun w => decide (w = [])) with | some k => (k : Int) | none => -1) := by
 unfold fn_slices_IndexFunc_string_string_k_text_Parse_1
 rw [loop_search (body := fn_slices_IndexFunc_string_string_k_text_Parse_1_l1 l) l (fun w => decide (w = [])) (fun k => .inr (k : Int)) (.inl ()) (fun k hk => by
   unfold fn_slices_IndexFunc_string_string_k_text_Parse_1_l1 fn_text_Parse_1
   simp only [dlt hk, cond_true, getN hk, Option.bind_some, w64s hk (by omega)]
   by_cases h : l[k] = [] <;> simp [h]) (by unfold fn_slices_IndexFunc_string_string_k_text_Parse_1_l1; simp only [dge (show ¬ l.length < l.length by omega), cond_false])]
 cases l.findIdx? (fun w => decide (w = [])) <;> rfl
theorem del_eq (l : List Wd) (hn : l.length ≤ 4000000) : fn_slices_DeleteFunc_string_string_r_text_Parse_1 l = some (l.filter (fun w => !decide (w = []))) := by
 unfold fn_slices_DeleteFunc_string_string_r_text_Parse_1
 rw [del_find l hn, Option.bind_some]
 cases hf : l.findIdx? (fun w => decide (w = [])) with
 | none =>
   have h := List.findIdx?_eq_none_iff.1 hf
   have e : l.filter (fun w => !decide (w = [])) = l := List.filter_eq_self.2 (fun w hw => by have := h w hw; simpa using this)
   rw [e]; rfl
 | some k =>
   obtain ⟨hk, hp, hmin⟩ := List.findIdx?_eq_some_iff_getElem.1 hf
   have hpk : l[k] = [] := by simpa using hp
   have hd : decide ((k : Int) = -1) = false := decide_eq_false (by omega)
   dsimp only
   rw [hd, cond_false]
   have htk : (l.take k).filter (fun w => !decide (w = [])) = l.take k := List.filter_eq_self.2 (fun w hw => by
     obtain ⟨j, hj, rfl⟩ := List.getElem_of_mem hw
     rw [List.length_take] at hj
     have := hmin j (by omega)
     rw [List.getElem_take]; simpa using this)
   obtain ⟨b, hb, hq⟩ := loop_inv (body := fn_slices_DeleteFunc_string_string_r_text_Parse_1_l1) (fun s => ∃ i j : Nat, s.2.1 = (i : Int) ∧ s.2.2 = (j : Int) ∧ i < j ∧ j ≤ l.length ∧ s.1.length = l.length ∧ s.1.take i = (l.take j).filter (fun w => !decide (w = [])) ∧ s.1.drop j = l.drop j) (fun s => l.length - s.2.2.toNat)
     (Q := fun b => ∃ i : Nat, b.2 = (i : Int) ∧ i ≤ l.length ∧ b.1.length = l.length ∧ b.1.take i = l.filter (fun w => !decide (w = [])))
     (fun s hs => by
       obtain ⟨q, i', j'⟩ := s
       obtain ⟨i, j, rfl, rfl, hij, hj, hl, ht, hdr⟩ := hs
       dsimp only at hl ht hdr ⊢
       unfold fn_slices_DeleteFunc_string_string_r_text_Parse_1_l1 fn_text_Parse_1
       by_cases hjl : j < l.length
       · left
         have hjq : j < q.length := by omega
         have hiq : i < q.length := by omega
         have ej : q[j] = l[j] := by
           have := congrArg List.head? hdr
           rw [List.head?_drop, List.head?_drop, List.getElem?_eq_getElem hjq, List.getElem?_eq_getElem hjl] at this
           exact Option.some.inj this
         have w1 : IntKind.wrap .i64 ((j : Int) + 1) = ((j + 1 : Nat) : Int) := w64s hjl (by omega)
         have w2 : IntKind.wrap .i64 ((i : Int) + 1) = ((i + 1 : Nat) : Int) := w64s hiq (by omega)
         have hdr' : q.drop (j + 1) = l.drop (j + 1) := by
           rw [← List.drop_drop (i := 1), hdr, List.drop_drop]
         simp only [dlt hjq, cond_true, getN hjq, getN hiq, Option.bind_some, w1, w2, Int.toNat_natCast]
         by_cases hz : l[j] = []
         · rw [show decide (q[j] = []) = true from by rw [ej]; simp [hz]]
           refine ⟨(q, (i : Int), ((j + 1 : Nat) : Int)), rfl, ⟨i, j + 1, rfl, rfl, by omega, by omega, hl, ?_, hdr'⟩, by dsimp only; omega⟩
           rw [take_snoc hjl, List.filter_append, ht]
           simp [hz]
         · rw [show decide (q[j] = []) = false from by rw [ej]; simp [hz]]
           refine ⟨(q.set i q[j], ((i + 1 : Nat) : Int), ((j + 1 : Nat) : Int)), rfl, ⟨i + 1, j + 1, rfl, rfl, by omega, by omega, by simp [hl], ?_, ?_⟩, by dsimp only; omega⟩
           · dsimp only
             rw [take_snoc (by rw [List.length_set]; omega), List.take_set_of_le (by omega), ht, List.getElem_set_self, take_snoc hjl, List.filter_append, ej]
             simp [hz]
           · dsimp only
             rw [List.drop_set_of_lt (by omega), hdr']
       · right
         have hjq : ¬ j < q.length := by omega
         have ejl : j = l.length := by omega
         refine ⟨(q, (i : Int)), by simp only [dge hjq, cond_false], i, rfl, by omega, hl, ?_⟩
         dsimp only; rw [ht, ejl, List.take_length])
     (s := (l, (k : Int), IntKind.wrap .i64 ((k : Int) + 1))) ⟨k, k + 1, rfl, by dsimp only; exact w64s hk (by omega), by omega, by omega, rfl, by rw [take_snoc hk, List.filter_append, htk]; simp [hpk], rfl⟩
   obtain ⟨q, z⟩ := b
   obtain ⟨i, rfl, hi, hl, ht⟩ := hq
   dsimp only at hi hl ht
   rw [hb]
   simp only [Option.bind_some]
   rw [subL_eq (by omega) (by omega) (by omega)]
   simp only [Option.bind_some, Int.toNat_natCast]
   rw [subL_eq (by omega) (by omega) (by simp [cpy]; omega)]
   simp only [Option.bind_some, Int.toNat_natCast, show ((0 : Int).toNat) = 0 from rfl, List.drop_zero]
   unfold cpy
   rw [List.take_append_of_le_length (by rw [List.length_take]; omega), List.take_take, Nat.min_self, ht]
theorem skip_eq (ws : List Wd) : (cond (decide (((ws.length : Nat) : Int) = 0)) (some true) ((getI ws 0).bind fun x => (fn_strings_HasPrefix x [35]).bind fun t => some t)) = some (skipB ws) := by
 cases ws with
 | nil => rfl
 | cons w ws =>
   have e1 : decide ((((w :: ws).length : Nat) : Int) = 0) = false := decide_eq_false (by simp; omega)
   have e2 : getI (w :: ws) 0 = some w := rfl
   rw [e1, cond_false, e2, Option.bind_some]
   unfold fn_strings_HasPrefix fn_internal_stringslite_HasPrefix skipB
   cases w with
   | nil => rfl
   | cons c w =>
     have e3 : decide (((([35] : List UInt8).length : Nat) : Int) ≤ (((c :: w).length : Nat) : Int)) = true := by simp; omega
     rw [e3, cond_true, subL_eq (by omega) (by omega) (by simp; omega)]
     simp
def lst38 (p : PS) (n : Int) (s : Wd) : Int × Int × List (Int × Int) × List (List St) × List St × List Sg38 × List Bk38 × Int × Int × Wd := (p.1, p.2.1, p.2.2.1, p.2.2.2.1, p.2.2.2.2.1, p.2.2.2.2.2.1, p.2.2.2.2.2.2.1, p.2.2.2.2.2.2.2, n, s)
theorem idxN (s : Wd) (c : UInt8) (hn : s.length ≤ 2000000) : idxF s [c] = some (match s.findIdx? (fun x => decide (x = c)) with | some k => (k : Int) | none => -1) := by
 unfold idxF; rw [if_pos (by omega), index_one]; cases s.findIdx? (fun x => decide (x = c)) <;> rfl
theorem l2_key : ∀ (m : Nat) (s : Wd) (p : PS) (n : Nat) (r : R38), s.length ≤ m → n + m ≤ 2000000 → run38 (pieces 10 s) p n = some r →
   loop (fn_text_Parse_l2 [10] 0) (lst38 p n s) = some (.inr r) ∨ ∃ (p' : PS) (n' : Nat) (s' : Wd), loop (fn_text_Parse_l2 [10] 0) (lst38 p n s) = some (.inl (lst38 p' n' s')) ∧ n' ≤ 2000000 ∧ s'.length ≤ 2000000 ∧ run38 [s'] p' n' = some r := by
 intro m
 induction m with
 | zero =>
   intro s p n r hs hn h
   right
   obtain rfl : s = [] := List.length_eq_zero_iff.1 (by omega)
   refine ⟨p, n, [], loop_end ?_, by omega, by simp, h⟩
   unfold fn_text_Parse_l2 lst38
   rfl
 | succ m ih =>
   intro s p n r hs hn h
   have hx := idxN s 10 (by omega)
   cases hf : s.findIdx? (fun x => decide (x = 10)) with
   | none =>
     right
     rw [pieces_miss 10 s hf] at h
     rw [hf] at hx
     refine ⟨p, n, s, loop_end ?_, by omega, by omega, h⟩
     unfold fn_text_Parse_l2 lst38
     simp only [hx, Option.bind_some]
     rfl
   | some k =>
     obtain ⟨hk, _, _⟩ := List.findIdx?_eq_some_iff_getElem.1 hf
     rw [pieces_hit 10 s k hf] at h
     rw [hf] at hx
     dsimp only at hx
     have q1 : IntKind.wrap .i64 ((k : Int) + 0) = (k : Int) := w64 (by omega) (by omega)
     have q2 : IntKind.wrap .i64 ((k : Int) + ((([10] : List UInt8).length : Nat) : Int)) = ((k + 1 : Nat) : Int) := w64s hk (by omega)
     have q3 : IntKind.wrap .i64 ((n : Int) + 1) = ((n + 1 : Nat) : Int) := w64s (n := 2000000) (by omega) (by omega)
     have hkl : (s.take k).length ≤ 2000000 := by rw [List.length_take]; omega
     have hsp := split47 32 (s.take k) (by omega)
     have hde := del_eq (pieces 32 (s.take k)) (by have := pieces_len 32 (s.take k); omega)
     have hsub : subL s ((k + 1 : Nat) : Int) ((s.length : Nat) : Int) = some (s.drop (k + 1)) := by rw [subL_eq (by omega) (by omega) (by omega)]; simp
     have hsub0 : subL s 0 (k : Int) = some (s.take k) := by rw [subL_eq (by omega) (by omega) (by omega)]; simp
     obtain ⟨y, hy, h⟩ := ob h
     obtain ⟨e, p1⟩ := y
     unfold step38 at hy
     have hbody : ∀ (b : (Int × Int × List (Int × Int) × List (List St) × List St × List Sg38 × List Bk38 × Int × Int × Wd) ⊕ ((Int × Int × List (Int × Int) × List (List St) × List St × List Sg38 × List Bk38 × Int × Int × Wd) ⊕ R38)),
         (if skipB (wds (s.take k)) = true then b = .inl (lst38 p ((n + 1 : Nat) : Int) (s.drop (k + 1))) else b = (if e = 0 then .inl (lst38 p1 ((n + 1 : Nat) : Int) (s.drop (k + 1))) else .inr (.inr (0, 0, [], [], [], [], [], ((n + 1 : Nat) : Int), e)))) →
         fn_text_Parse_l2 [10] 0 (lst38 p n s) = some b := by
       intro b hb
       unfold fn_text_Parse_l2 lst38
       have hneg : decide ((k : Int) < 0) = false := decide_eq_false (by omega)
       simp only [hx, Option.bind_some, hneg, cond_false, q1, q2, q3, hsub0, hsp, hde, hsub]
       rw [show (cond (decide (((((pieces 32 (s.take k)).filter (fun w => !decide (w = []))).length : Nat) : Int) = 0)) (some true) ((getI ((pieces 32 (s.take k)).filter (fun w => !decide (w = []))) 0).bind fun x => (fn_strings_HasPrefix x [35]).bind fun t => some t)) = some (skipB (wds (s.take k))) from skip_eq _]
       cases hsk : skipB (wds (s.take k)) with
       | true =>
         rw [hsk, if_pos rfl] at hb
         rw [hb]; rfl
       | false =>
         rw [hsk] at hb hy
         simp only [Bool.false_eq_true, if_false] at hb hy
         rw [hb]
         have hy' : fn_text_parser_line_p0k_iirrrododi ((pieces 32 (s.take k)).filter (fun w => !decide (w = []))) p.1 p.2.1 p.2.2.1 p.2.2.2.1 p.2.2.2.2.1 p.2.2.2.2.2.1 p.2.2.2.2.2.2.1 p.2.2.2.2.2.2.2 = some (e, p1) := hy
         simp only [Option.bind_some, cond_false, hy']
         by_cases h0 : e = 0
         · simp only [h0, decide_true, Bool.not_true, cond_false, if_true]; rfl
         · simp only [h0, decide_false, Bool.not_false, cond_true, if_false]
     have hdl : (s.drop (k + 1)).length ≤ m := by rw [List.length_drop]; omega
     by_cases h0 : e = 0
     · simp only [h0, if_true] at h
       have hp1 : skipB (wds (s.take k)) = true → p1 = p := fun hsk => by
         rw [if_pos hsk] at hy
         injection hy with hy
         exact (congrArg Prod.snd hy).symm
       have hb := hbody (.inl (lst38 p1 ((n + 1 : Nat) : Int) (s.drop (k + 1)))) (by
         split
         · rename_i hsk; rw [hp1 hsk]
         · first | rfl | rw [if_pos h0])
       rw [loop_next hb]
       exact ih _ p1 (n + 1) r hdl (by omega) h
     · simp only [h0, if_false] at h
       injection h with h
       left
       have hns : ¬ skipB (wds (s.take k)) = true := fun hsk => by
         rw [if_pos hsk] at hy
         injection hy with hy
         exact h0 (congrArg Prod.fst hy).symm
       have hb := hbody (.inr (.inr r)) (by
         rw [if_neg hns, if_neg h0, ← h]; rfl)
       exact loop_end hb
theorem parse38 (s : Wd) (r : R38) (hn : s.length ≤ 1048576) (h : run38 (pieces 10 s) (0, 0, [], [], [], [], [], 0) 0 = some r) : fn_text_Parse s = some r := by
 unfold fn_text_Parse
 have e1 : decide (1048576 < ((s.length : Nat) : Int)) = false := decide_eq_false (by omega)
 rw [e1, cond_false]
 have e2 : fn_strings_SplitSeq s [10] = some ([10], s, 0) := rfl
 rw [e2, Option.bind_some]
 dsimp only
 rw [show decide (((([10] : List UInt8).length : Nat) : Int) = 0) = false from rfl, cond_false]
 have key := l2_key s.length s (0, 0, [], [], [], [], [], 0) 0 r (Nat.le_refl _) (by omega) h
 have hst : lst38 (0, 0, [], [], [], [], [], 0) ((0 : Nat) : Int) s = (0, 0, [], [], [], [], [], 0, 0, s) := rfl
 rw [hst] at key
 rcases key with key | ⟨p, n, s', key, hn', hs', hr⟩
 · rw [key]; rfl
 · rw [key]
   unfold lst38
   simp only [Option.bind_some]
   obtain ⟨y, hy, hr⟩ := ob hr
   obtain ⟨e, p1⟩ := y
   unfold step38 at hy
   have q3 : IntKind.wrap .i64 ((n : Int) + 1) = ((n + 1 : Nat) : Int) := w64s (n := 3000000) (by omega) (by omega)
   have hsp := split47 32 s' (by omega)
   have hde := del_eq (pieces 32 s') (by have := pieces_len 32 s'; omega)
   simp only [hsp, hde, Option.bind_some, q3]
   rw [show (cond (decide (((((pieces 32 s').filter (fun w => !decide (w = []))).length : Nat) : Int) = 0)) (some true) ((getI ((pieces 32 s').filter (fun w => !decide (w = []))) 0).bind fun x => (fn_strings_HasPrefix x [35]).bind fun t => some t)) = some (skipB (wds s')) from skip_eq _]
   have fin : ∀ p : PS, (((fn_text_parser_mayEnd_p0_iirrrododi p.1 p.2.1 p.2.2.1 p.2.2.2.1 p.2.2.2.2.1 p.2.2.2.2.2.1 p.2.2.2.2.2.2.1 p.2.2.2.2.2.2.2).bind fun (t5069, l5070, l5071, l5072, l5073, l5074) => cond (!t5069) (some ((0, 0, [], [], [], [], [], 0, 14))) (some ((p.1, p.2.1, l5070, l5071, l5072, l5073, l5074, 0, 0)))) : Option R38) = some (fin38 p) := by
     intro p
     unfold fn_text_parser_mayEnd_p0_iirrrododi fin38
     simp only [Option.bind_some]
     by_cases hc : p.2.2.2.2.2.2.2 = 3 ∨ p.2.2.2.2.2.2.2 = 5 ∨ p.2.2.2.2.2.2.2 = 7
     · rw [if_pos hc]
       have : (decide (p.2.2.2.2.2.2.2 = 3) || decide (p.2.2.2.2.2.2.2 = 5) || decide (p.2.2.2.2.2.2.2 = 7)) = true := by simp only [Bool.or_eq_true, decide_eq_true_eq]; omega
       rw [this]; rfl
     · rw [if_neg hc]
       have : (decide (p.2.2.2.2.2.2.2 = 3) || decide (p.2.2.2.2.2.2.2 = 5) || decide (p.2.2.2.2.2.2.2 = 7)) = false := by simp only [Bool.or_eq_false_iff, decide_eq_false_iff_not]; omega
       rw [this]; rfl
   cases hsk : skipB (wds s') with
   | true =>
     rw [hsk, if_pos rfl] at hy
     injection hy with hy
     obtain ⟨rfl, rfl⟩ : 0 = e ∧ p = p1 := ⟨congrArg Prod.fst hy, congrArg Prod.snd hy⟩
     simp only [if_true] at hr
     simp only [Option.bind_some, cond_true]
     rw [← hr]
     exact fin p
   | false =>
     rw [hsk] at hy
     simp only [Bool.false_eq_true, if_false] at hy
     have hy' : fn_text_parser_line_p0k_iirrrododi ((pieces 32 s').filter (fun w => !decide (w = []))) p.1 p.2.1 p.2.2.1 p.2.2.2.1 p.2.2.2.2.1 p.2.2.2.2.2.1 p.2.2.2.2.2.2.1 p.2.2.2.2.2.2.2 = some (e, p1) := hy
     simp only [Option.bind_some, cond_false, hy']
     by_cases h0 : e = 0
     · simp only [h0, if_true] at hr
       simp only [h0, decide_true, Bool.not_true, cond_false]
       rw [← hr]
       exact fin p1
     · simp only [h0, if_false] at hr
       simp only [h0, decide_false, Bool.not_false, cond_true]
       rw [← hr]; rfl
def rdL (w : Wd) : List Int × Int := if w = [45] then ([], 0) else readList w 1048576
section
variable {w : Wd} {ws : List Wd} (hw : w.length ≤ 1000000) (hl : ws.length ≤ 4000000)
include hw hl
theorem take1 : subL (w :: ws) 1 ((((w :: ws).length : Nat)) : Int) = some ws := by rw [sub1 (by simp)]; rfl
theorem rnum : fn_text_reader_number_p0_ki (w :: ws) 0 = some ((parse w 1048576).1, ws, (parse w 1048576).2) := by
 unfold fn_text_reader_number_p0_ki fn_text_take_int_p0_text_reader_number_1__ki fn_text_reader_number_1
 have e : getI (w :: ws) 0 = some w := rfl
 simp only [decide_true, Bool.not_true, cond_false, e, Option.bind_some, nParse_eq w 1048576 hw (by omega) (by omega), take1 hw hl]
theorem rtyp : fn_text_reader_typ_p0_ki (w :: ws) 0 = some ((pTy w).1, ws, (pTy w).2) := by
 unfold fn_text_reader_typ_p0_ki fn_text_take_api_Type_p0_text_ParseType__ki
 have e : getI (w :: ws) 0 = some w := rfl
 simp only [decide_true, Bool.not_true, cond_false, e, Option.bind_some, ptype38 w hw, take1 hw hl]
theorem rlst : fn_text_reader_list_p0_ki (w :: ws) 0 = some ((rdL w).1, ws, (rdL w).2) := by
 unfold fn_text_reader_list_p0_ki fn_text_take_int_p0_text_reader_list_1__ki fn_text_reader_list_1
 have e : getI (w :: ws) 0 = some w := rfl
 have h1 : (cond (decide (w = [45])) (some (([] : List Int), (0 : Int))) ((fn_numeral_ParseList w 1048576).bind fun (l23, i24) => some (l23, i24))) = some (rdL w) := by
   unfold rdL
   by_cases h0 : w = [45]
   · rw [if_pos h0, decide_eq_true h0]; rfl
   · rw [if_neg h0, decide_eq_false h0, cond_false, nList_read w 1048576 hw (by omega) (by omega)]; rfl
 simp only [decide_true, Bool.not_true, cond_false, e, Option.bind_some, take1 hw hl]
 rw [h1]; rfl
theorem rbnd1 : fn_text_take_api_Bound_p0_text_reader_bounds_1__ki (w :: ws) 0 = some ((readPair w 1048576).1, (readPair w 1048576).2.1, ws, (readPair w 1048576).2.2) := by
 unfold fn_text_take_api_Bound_p0_text_reader_bounds_1__ki fn_text_reader_bounds_1
 have e : getI (w :: ws) 0 = some w := rfl
 simp only [decide_true, Bool.not_true, cond_false, e, Option.bind_some, nPair_read w 1048576 hw (by omega) (by omega), take1 hw hl]
end
theorem dllt {α : Type} (x : α) (l : List α) : decide ((0 : Int) < (((x :: l).length : Nat) : Int)) = true := by simp
theorem rbnd (ws : List (Int × Int)) (h : ∀ b ∈ ws, (0 ≤ b.1 ∧ b.1 ≤ 1048576) ∧ 0 ≤ b.2 ∧ b.2 ≤ 1048576) (hl : ws.length ≤ 1000000) : fn_text_reader_bounds_p0_ki (ws.map pair) 0 = some (ws, [], 0) := by
 unfold fn_text_reader_bounds_p0_ki
 have key : ∀ (l acc : List (Int × Int)), (∀ b ∈ l, (0 ≤ b.1 ∧ b.1 ≤ 1048576) ∧ 0 ≤ b.2 ∧ b.2 ≤ 1048576) → acc.length + l.length ≤ 1000000 → loop fn_text_reader_bounds_p0_ki_l1 (acc, l.map pair, 0) = some (acc ++ l, [], 0) := by
   intro l
   induction l with
   | nil =>
     intro acc _ _
     refine loop_end ?_
     unfold fn_text_reader_bounds_p0_ki_l1
     simp
   | cons b l ih =>
     intro acc hb ha
     obtain ⟨⟨b1, b2⟩, b3, b4⟩ := hb b (by simp)
     have hp := readPair_pair (b := b) (most := 1048576) b1 b3 b2 b4
     have hpl : (pair b).length ≤ 1000000 := by
       have := text_len (show b.1 ≤ 9223372036854775807 by omega); have := text_len (show b.2 ≤ 9223372036854775807 by omega)
       unfold pair; split
       · simp
       · simp; omega
     simp only [List.length_cons] at ha
     rw [loop_next (s' := (acc ++ [b], l.map pair, 0)), ih _ (fun x hx => hb x (by simp [hx])) (by rw [List.length_append, List.length_singleton]; omega)]
     · simp
     · unfold fn_text_reader_bounds_p0_ki_l1
       simp only [List.map_cons, dllt, decide_true, Bool.and_self, cond_true, rbnd1 hpl (show (l.map pair).length ≤ 4000000 by simp; omega), Option.bind_some, hp]
       rw [app_eq (by simp; omega)]
       rfl
 have := key ws [] h (by simp; omega)
 rw [this]; rfl
theorem parse_in {n : Int} (h : 0 ≤ n) (h2 : n ≤ 1048576) : parse (text n) 1048576 = (n, 0) := by rw [parse_text h, if_neg (by omega)]
theorem text_ne {n : Int} (h : 0 ≤ n) : text n ≠ [] := by unfold text; rw [if_neg (by omega)]; exact dec_ne _
theorem slotW_mem {x : St} {c : UInt8} (hc : isDig c = false) (h33 : c ≠ 33) : c ∉ slotW x := by
 unfold slotW
 simp only [List.mem_append, not_or]
 refine ⟨text_no hc, ?_⟩
 cases x.2 <;> simp [h33]
theorem glue_mem {d c : UInt8} (hd : d ≠ c) : ∀ {l : List Wd}, (∀ p ∈ l, d ∉ p) → d ∉ glue c l
 | [], _ => by simp [glue]
 | p :: ps, h => by
   unfold glue
   simp only [List.mem_append, List.mem_flatMap, List.mem_cons, not_or, not_exists, not_and]
   exact ⟨h p (by simp), fun q hq => ⟨hd, h q (by simp [hq])⟩⟩
theorem glue_nnil {c : UInt8} {p : Wd} {ps : List Wd} (h : p ≠ []) : glue c (p :: ps) ≠ [] := by
 unfold glue; intro e; exact h (List.append_eq_nil_iff.1 e).1
theorem pSl_slotW {x : St} (h : 0 ≤ x.1) (h2 : x.1 ≤ 1048576) : pSl (slotW x) = (x, 0) := by
 obtain ⟨n, b⟩ := x
 unfold pSl slotW
 cases b with
 | true =>
   have : (text n ++ [33]).getLast? = some 33 := by simp
   simp only [if_true, this, decide_true, List.dropLast_concat, parse_in h h2]
 | false =>
   have : decide ((text n ++ ([] : Wd)).getLast? = some 33) = false := decide_eq_false (by
     rw [List.append_nil]
     intro e
     exact text_no (n := n) (c := 33) rfl (List.mem_of_getLast? e))
   simp only [Bool.false_eq_true, if_false]
   rw [this, List.append_nil]
   simp only [Bool.false_eq_true, if_false, parse_in h h2]
theorem pgo_slots : ∀ (t acc : List St), (∀ x ∈ t, 0 ≤ x.1 ∧ x.1 ≤ 1048576) → pgo (t.map slotW) acc = (acc ++ t, 0)
 | [], acc, _ => by simp [pgo]
 | x :: t, acc, h => by
   obtain ⟨h1, h2⟩ := h x (by simp)
   rw [List.map_cons]
   unfold pgo
   rw [pSl_slotW h1 h2]
   simp only [ne_eq, not_true_eq_false, if_false]
   rw [pgo_slots t _ (fun y hy => h y (by simp [hy]))]
   simp
theorem pTy_tyW {t : List St} (h : ∀ x ∈ t, 0 ≤ x.1 ∧ x.1 ≤ 1048576) : pTy (tyW t) = (t, 0) := by
 unfold pTy tyW
 by_cases h0 : t = []
 · subst h0; rfl
 · rw [if_neg h0]
   have hm : (45 : UInt8) ∉ glue 47 (t.map slotW) := glue_mem (by decide) (fun p hp => by obtain ⟨x, _, rfl⟩ := List.mem_map.1 hp; exact slotW_mem rfl (by decide))
   rw [if_neg (fun e => hm (by rw [e]; simp)), pieces_glue 47 _ (by simpa using h0) (fun p hp => by obtain ⟨x, _, rfl⟩ := List.mem_map.1 hp; exact slotW_mem rfl (by decide)), pgo_slots t [] h]; simp
theorem lst_mem {l : List Int} {c : UInt8} (hc : isDig c = false) (h : c ≠ 44) : c ∉ lst l := by
 unfold lst; exact glue_mem h (fun p hp => by obtain ⟨x, _, rfl⟩ := List.mem_map.1 hp; exact text_no hc)
theorem rdL_liW {l : List Int} (h : ∀ x ∈ l, 0 ≤ x ∧ x ≤ 1048576) : rdL (liW l) = (l, 0) := by
 unfold rdL liW
 by_cases h0 : l = []
 · subst h0; rfl
 · rw [if_neg h0, if_neg (fun e => lst_mem (l := l) (c := 45) rfl (by decide) (by rw [e]; simp)), readList_lst h]
structure WdOk (w : Wd) : Prop where
 ne : w ≠ []
 sp : (32 : UInt8) ∉ w
 nl : (10 : UInt8) ∉ w
theorem WdOk.text {n : Int} (h : 0 ≤ n) : WdOk (text n) := ⟨text_ne h, text_no rfl, text_no rfl⟩
theorem WdOk.tyW {t : List St} (h : ∀ x ∈ t, 0 ≤ x.1) : WdOk (tyW t) := by
 unfold Go.Proofs.YteciehjlefldmaaDoor.tyW
 cases t with
 | nil => exact ⟨by simp, by decide, by decide⟩
 | cons x t =>
   rw [if_neg (by simp)]
   refine ⟨glue_nnil ?_, glue_mem (by decide) (fun p hp => ?_), glue_mem (by decide) (fun p hp => ?_)⟩
   · unfold slotW; intro e; exact text_ne (h x (by simp)) (List.append_eq_nil_iff.1 e).1
   · obtain ⟨x, _, rfl⟩ := List.mem_map.1 hp; exact slotW_mem rfl (by decide)
   · obtain ⟨x, _, rfl⟩ := List.mem_map.1 hp; exact slotW_mem rfl (by decide)
theorem WdOk.liW {l : List Int} (h : ∀ x ∈ l, 0 ≤ x) : WdOk (liW l) := by
 unfold Go.Proofs.YteciehjlefldmaaDoor.liW
 cases l with
 | nil => exact ⟨by simp, by decide, by decide⟩
 | cons x l =>
   rw [if_neg (by simp)]
   refine ⟨?_, lst_mem rfl (by decide), lst_mem rfl (by decide)⟩
   unfold lst; rw [List.map_cons]; exact glue_nnil (text_ne (h x (by simp)))
theorem WdOk.pair {b : Int × Int} (h1 : 0 ≤ b.1) (h2 : 0 ≤ b.2) : WdOk (pair b) := by
 unfold Go.Proofs.YteciehjlefldmaaDoor.pair
 rw [if_neg (by omega)]
 refine ⟨by simp, ?_, ?_⟩ <;> (simp only [List.mem_append, List.mem_cons, not_or]; exact ⟨text_no rfl, by decide, text_no rfl⟩)
theorem wds_glue {w : Wd} {ws : List Wd} (h : ∀ p ∈ w :: ws, WdOk p) : wds (glue 32 (w :: ws)) = w :: ws := by
 unfold wds
 rw [pieces_glue 32 _ (by simp) (fun p hp => (h p hp).sp)]
 exact List.filter_eq_self.2 (fun p hp => by simpa using (h p hp).ne)
theorem glue_nl {ws : List Wd} (h : ∀ p ∈ ws, WdOk p) : (10 : UInt8) ∉ glue 32 ws := glue_mem (by decide) (fun p hp => (h p hp).nl)
end
section
open Go.RowKit Nu
abbrev kReg : Wd := [114, 101, 103, 105, 111, 110, 115]
abbrev kBnd : Wd := [98, 111, 117, 110, 100, 115]
abbrev kLoc : Wd := [108, 111, 99, 97, 108]
abbrev kGiv : Wd := [103, 105, 118, 101, 115]
abbrev kSig : Wd := [115, 105, 103]
abbrev kNeed : Wd := [110, 101, 101, 100, 115]
abbrev kArg : Wd := [97, 114, 103]
abbrev kBlk : Wd := [98, 108, 111, 99, 107]
def allow38 (a : Int) : List Wd := if a = 0 then [kReg] else if a = 1 then [kBnd] else if a = 2 then [kLoc, kGiv] else if a = 3 then [kSig, kBlk] else if a = 4 then [kNeed] else if a = 5 then [kArg, kSig, kBlk]
 else if a = 6 then [kNop, kAss, kBor, kReb, kUse, kDead, kGoto, kSw, kRet, kCall] else if a = 7 then [kBlk] else []
theorem contains38 (l : List Wd) (x : Wd) (hn : l.length ≤ 1000) : fn_slices_Contains_string_string l x = some (decide (x ∈ l)) := by
 unfold fn_slices_Contains_string_string fn_slices_Index_string_string
 rw [loop_search (body := fn_slices_Index_string_string_l1 l x) l (fun w => decide (x = w)) (fun k => .inr (k : Int)) (.inl ()) (fun k hk => by
   unfold fn_slices_Index_string_string_l1
   simp only [dlt hk, cond_true, getN hk, Option.bind_some, w64s hk (by omega)]
   by_cases h : x = l[k] <;> simp [h]) (by unfold fn_slices_Index_string_string_l1; simp only [dge (show ¬ l.length < l.length by omega), cond_false])]
 cases hf : l.findIdx? (fun w => decide (x = w)) with
 | none =>
   have h := List.findIdx?_eq_none_iff.1 hf
   have : ¬ x ∈ l := fun hx => by have := h x hx; simp at this
   rw [decide_eq_false this]; rfl
 | some k =>
   obtain ⟨hk, hp, _⟩ := List.findIdx?_eq_some_iff_getElem.1 hf
   have : x ∈ l := by have e : x = l[k] := by simpa using hp
                      rw [e]; exact List.getElem_mem hk
   rw [decide_eq_true this]
   have : decide ((0 : Int) ≤ (k : Int)) = true := decide_eq_true (by omega)
   simp only [Option.bind_some, this]
theorem stand38 (w : Wd) (u n : Int) (B : List (Int × Int)) (L : List (List St)) (R : List St) (S : List Sg38) (X : List Bk38) (a : Int) :
   fn_text_parser_mayStand_p0s_iirrrododi w u n B L R S X a = some (decide (w ∈ allow38 a), B, L, R, S, X) := by
 unfold fn_text_parser_mayStand_p0s_iirrrododi allow38
 simp only [contains38 _ w (show [kReg].length ≤ 1000 by decide), contains38 _ w (show [kBnd].length ≤ 1000 by decide), contains38 _ w (show [kLoc, kGiv].length ≤ 1000 by decide), contains38 _ w (show [kSig, kBlk].length ≤ 1000 by decide), contains38 _ w (show [kNeed].length ≤ 1000 by decide), contains38 _ w (show [kArg, kSig, kBlk].length ≤ 1000 by decide), contains38 _ w (show [kBlk].length ≤ 1000 by decide), contains38 _ w (show ([] : List Wd).length ≤ 1000 by decide), Option.bind_some]
 by_cases h0 : a = 0
 · simp only [h0, decide_true, cond_true, if_true]
 rw [decide_eq_false h0, cond_false, if_neg h0]
 by_cases h1 : a = 1
 · simp only [h1, decide_true, cond_true, if_true]
 rw [decide_eq_false h1, cond_false, if_neg h1]
 by_cases h2 : a = 2
 · simp only [h2, decide_true, cond_true, if_true]
 rw [decide_eq_false h2, cond_false, if_neg h2]
 by_cases h3 : a = 3
 · simp only [h3, decide_true, cond_true, if_true]
 rw [decide_eq_false h3, cond_false, if_neg h3]
 by_cases h4 : a = 4
 · simp only [h4, decide_true, cond_true, if_true]
 rw [decide_eq_false h4, cond_false, if_neg h4]
 by_cases h5 : a = 5
 · simp only [h5, decide_true, cond_true, if_true]
 rw [decide_eq_false h5, cond_false, if_neg h5]
 by_cases h6 : a = 6
 · rw [decide_eq_true h6, cond_true, if_pos h6]
   have := contains38 [kNop, kAss, kBor, kReb, kUse, kDead, kGoto, kSw, kRet, kCall] w (by decide)
   rw [show fn_slices_Contains_string_string [[110, 111, 112], [97, 115, 115, 105, 103, 110], [98, 111, 114, 114, 111, 119], [114, 101, 98, 111, 114, 114, 111, 119], [117, 115, 101], [100, 101, 97, 100], [103, 111, 116, 111], [115, 119, 105, 116, 99, 104], [114, 101, 116, 117, 114, 110], [99, 97, 108, 108]] w = _ from this]; rfl
 rw [decide_eq_false h6, cond_false, if_neg h6]
 by_cases h7 : a = 7
 · simp only [h7, decide_true, cond_true, if_true]
 rw [decide_eq_false h7, cond_false, if_neg h7]
section
variable {w : Wd} {ws : List Wd} {u n : Int} {B : List (Int × Int)} {L : List (List St)} {R : List St} {S : List Sg38} {X : List Bk38} {a least most : Int}
 (hm : fn_text_many w = some (least, most)) (hs : decide (w ∈ allow38 a) = true) (h1 : least ≤ ((w :: ws).length : Nat)) (h2 : (((w :: ws).length : Nat) : Int) ≤ most)
include hm hs h1 h2
theorem lineH (ha : a ≠ 6) {u' n' : Int} {B' : List (Int × Int)} {L' : List (List St)} {R' : List St} {S' : List Sg38} {X' : List Bk38} {a' e : Int} {q : List Wd}
   (h : fn_text_parser_head_p0sp1_iirrrododi_ki w u n B L R S X a ws 0 = some (u', n', B', L', R', S', X', a', q, e)) : lineP (w :: ws) (u, n, B, L, R, S, X, a) = some (e, u', n', B', L', R', S', X', a') := by
 unfold lineP fn_text_parser_line_p0k_iirrrododi
 have g0 : getI (w :: ws) 0 = some w := rfl
 have d1 : decide ((((w :: ws).length : Nat) : Int) < least) = false := decide_eq_false (by omega)
 have d2 : decide (most < (((w :: ws).length : Nat) : Int)) = false := decide_eq_false (by omega)
 have d3 : subL (w :: ws) 1 ((((w :: ws).length : Nat)) : Int) = some ws := by rw [sub1 (by simp)]; rfl
 simp only [g0, Option.bind_some, hm, stand38, hs, d1, d2, Bool.not_true, Bool.or_self, cond_false, d3, decide_eq_false ha, h]
theorem lineC (ha : a = 6) {B' : List (Int × Int)} {L' : List (List St)} {R' : List St} {S' : List Sg38} {X' : List Bk38} {a' e : Int} {q : List Wd}
   (h : fn_text_parser_code_p0kp1_iirrrododi_ki (w :: ws) u n B L R S X a ws 0 = some (B', L', R', S', X', a', q, e)) : lineP (w :: ws) (u, n, B, L, R, S, X, a) = some (e, u, n, B', L', R', S', X', a') := by
 unfold lineP fn_text_parser_line_p0k_iirrrododi
 have g0 : getI (w :: ws) 0 = some w := rfl
 have d1 : decide ((((w :: ws).length : Nat) : Int) < least) = false := decide_eq_false (by omega)
 have d2 : decide (most < (((w :: ws).length : Nat) : Int)) = false := decide_eq_false (by omega)
 have d3 : subL (w :: ws) 1 ((((w :: ws).length : Nat)) : Int) = some ws := by rw [sub1 (by simp)]; rfl
 simp only [g0, Option.bind_some, hm, stand38, hs, d1, d2, Bool.not_true, Bool.or_self, cond_false, d3, decide_eq_true ha, cond_true, h]
end
theorem lastW {α : Type} (X : List α) (x : α) (h : X.length ≤ 1000000) : IntKind.wrap .i64 (((((X ++ [x]).length : Nat)) : Int) - 1) = ((X.length : Nat) : Int) := by
 rw [List.length_append, List.length_singleton, w64 (by omega) (by omega)]; omega
theorem lastG {α : Type} (X : List α) (x : α) : getI (X ++ [x]) ((X.length : Nat) : Int) = some x := by rw [getN (by simp)]; simp
theorem lastS {α : Type} (X : List α) (x y : α) : (X ++ [x]).set X.length y = X ++ [y] := by rw [List.set_append_right _ _ (Nat.le_refl _)]; simp
theorem chkI_me (i : Int) : chkI i i = some () := by unfold chkI; simp
theorem getC {α : Type} (x : α) (l : List α) : getI (x :: l) 0 = some x := rfl
abbrev In (n : Int) : Prop := 0 ≤ n ∧ n ≤ 1048576
theorem In.i64 {n : Int} (h : In n) : I64 n := by have := h.2; show n ≤ _; omega
theorem In.len {n : Int} (h : In n) : (text n).length ≤ 1000000 := by have := text_len h.i64; omega
theorem pa {n : Int} (h : In n) : parse (text n) 1048576 = (n, 0) := parse_in h.1 h.2
theorem tylen {t : List St} (h : ∀ x ∈ t, In x.1) (hl : t.length ≤ 1000) : (tyW t).length ≤ 1000000 := by have := tyW_len (t := t) (fun x hx => (h x hx).i64); omega
theorem lilen {t : List Int} (h : ∀ x ∈ t, In x) (hl : t.length ≤ 1000) : (liW t).length ≤ 1000000 := by have := liW_len (l := t) (fun x hx => (h x hx).i64); omega
section
variable {u n : Int} {B : List (Int × Int)} {L : List (List St)} {R : List St} {S : List Sg38} {X : List Bk38} {a : Int}
theorem hdReg {x y : Int} (hx : In x) (hy : In y) : fn_text_parser_head_p0sp1_iirrrododi_ki kReg u n B L R S X a [text x, text y] 0 = some (x, y, B, L, R, S, X, 1, [], 0) := by
 unfold fn_text_parser_head_p0sp1_iirrrododi_ki
 simp only [decide_true, cond_true, rnum (w := text x) (ws := [text y]) hx.len (by simp), pa hx, Option.bind_some, rnum (w := text y) (ws := []) hy.len (by simp), pa hy]
theorem hdBnd {l : List (Int × Int)} (h : ∀ b ∈ l, In b.1 ∧ In b.2) (hl : l.length ≤ 1000) : fn_text_parser_head_p0sp1_iirrrododi_ki kBnd u n B L R S X a (l.map pair) 0 = some (u, n, l, L, R, S, X, 2, [], 0) := by
 unfold fn_text_parser_head_p0sp1_iirrrododi_ki
 simp (decide := true) only [decide_true, decide_false, cond_true, cond_false, rbnd l h (show l.length ≤ 1000000 by omega), Option.bind_some]
theorem hdLoc {t : List St} (h : ∀ x ∈ t, In x.1) (hl : t.length ≤ 1000) (hL : L.length ≤ 1000) : fn_text_parser_head_p0sp1_iirrrododi_ki kLoc u n B L R S X a [tyW t] 0 = some (u, n, B, L ++ [t], R, S, X, a, [], 0) := by
 unfold fn_text_parser_head_p0sp1_iirrrododi_ki
 have ha : app L [t] = some (L ++ [t]) := app_eq (by simp; omega)
 simp (decide := true) only [decide_true, decide_false, cond_true, cond_false, rtyp (w := tyW t) (ws := []) (tylen h hl) (by simp), pTy_tyW h, Option.bind_some, ha]
theorem hdGiv {t : List St} (h : ∀ x ∈ t, In x.1) (hl : t.length ≤ 1000) : fn_text_parser_head_p0sp1_iirrrododi_ki kGiv u n B L R S X a [tyW t] 0 = some (u, n, B, L, t, S, X, 3, [], 0) := by
 unfold fn_text_parser_head_p0sp1_iirrrododi_ki
 simp (decide := true) only [decide_true, decide_false, cond_true, cond_false, rtyp (w := tyW t) (ws := []) (tylen h hl) (by simp), pTy_tyW h, Option.bind_some]
theorem hdSig {x : Int} {t : List St} (hx : In x) (h : ∀ x ∈ t, In x.1) (hl : t.length ≤ 1000) (hS : S.length ≤ 1000) : fn_text_parser_head_p0sp1_iirrrododi_ki kSig u n B L R S X a [text x, tyW t] 0 = some (u, n, B, L, R, S ++ [(x, [], [], t)], X, 4, [], 0) := by
 unfold fn_text_parser_head_p0sp1_iirrrododi_ki
 have ha : app S [(x, ([] : List (Int × Int)), ([] : List (List St)), t)] = some (S ++ [(x, [], [], t)]) := app_eq (by simp; omega)
 simp (decide := true) only [decide_true, decide_false, cond_true, cond_false, rnum (w := text x) (ws := [tyW t]) hx.len (by simp), pa hx, rtyp (w := tyW t) (ws := []) (tylen h hl) (by simp), pTy_tyW h, Option.bind_some, ha]
theorem hdNeed {s : Sg38} {l : List (Int × Int)} (h : ∀ b ∈ l, In b.1 ∧ In b.2) (hl : l.length ≤ 1000) (hS : S.length ≤ 1000) : fn_text_parser_head_p0sp1_iirrrododi_ki kNeed u n B L R (S ++ [s]) X a (l.map pair) 0 = some (u, n, B, L, R, S ++ [(s.1, l, s.2.2.1, s.2.2.2)], X, 5, [], 0) := by
 unfold fn_text_parser_head_p0sp1_iirrrododi_ki
 simp (decide := true) only [decide_true, decide_false, cond_true, cond_false, rbnd l h (show l.length ≤ 1000000 by omega), lastW S s (by omega), lastG, chkI_me, Option.bind_some, Int.toNat_natCast, lastS]
theorem hdArg {s : Sg38} {t : List St} (h : ∀ x ∈ t, In x.1) (hl : t.length ≤ 1000) (hS : S.length ≤ 1000) (hA : s.2.2.1.length ≤ 1000) : fn_text_parser_head_p0sp1_iirrrododi_ki kArg u n B L R (S ++ [s]) X a [tyW t] 0 = some (u, n, B, L, R, S ++ [(s.1, s.2.1, s.2.2.1 ++ [t], s.2.2.2)], X, a, [], 0) := by
 unfold fn_text_parser_head_p0sp1_iirrrododi_ki
 have ha : app s.2.2.1 [t] = some (s.2.2.1 ++ [t]) := app_eq (by simp; omega)
 simp (decide := true) only [decide_true, decide_false, cond_true, cond_false, rtyp (w := tyW t) (ws := []) (tylen h hl) (by simp), pTy_tyW h, lastW S s (by omega), lastG, chkI_me, Option.bind_some, ha, Int.toNat_natCast, lastS, agr_self]
theorem hdBlk (hX : X.length ≤ 1000) : fn_text_parser_head_p0sp1_iirrrododi_ki kBlk u n B L R S X a [] 0 = some (u, n, B, L, R, S, X ++ [([], (0, 0, 0, [], [], []))], 6, [], 0) := by
 unfold fn_text_parser_head_p0sp1_iirrrododi_ki
 have ha : app X [(([] : List Stm38), ((0, 0, 0, [], [], []) : Tm38))] = some (X ++ [([], (0, 0, 0, [], [], []))]) := app_eq (by simp; omega)
 simp (decide := true) only [decide_true, decide_false, cond_true, cond_false, Option.bind_some, ha]
structure StOk (x : Stm38) : Prop where
 kind : 0 ≤ x.1 ∧ x.1 ≤ 5
 dst : In x.2.1
 src : In x.2.2.1
 reg : In x.2.2.2.1
 d0 : x.1 = 0 ∨ x.1 = 4 → x.2.1 = 0
 s0 : x.1 = 0 ∨ x.1 = 5 → x.2.2.1 = 0
 r0 : x.1 ≠ 2 → x.1 ≠ 3 → x.2.2.2.1 = 0 ∧ x.2.2.2.2 = false
structure TmOk (x : Tm38) : Prop where
 kind : 1 ≤ x.1 ∧ x.1 ≤ 4
 sig : In x.2.1
 dst : In x.2.2.1
 tos : ∀ n ∈ x.2.2.2.1, In n
 args : ∀ n ∈ x.2.2.2.2.1, In n
 par : ∀ n ∈ x.2.2.2.2.2, In n
 nto : x.2.2.2.1.length ≤ 1000
 nargs : x.2.2.2.2.1.length ≤ 1000
 npar : x.2.2.2.2.2.length ≤ 1000
 c0 : x.1 ≠ 4 → x.2.1 = 0 ∧ x.2.2.1 = 0 ∧ x.2.2.2.2.2 = []
 t0 : x.1 = 3 → x.2.2.2.1 = []
 a0 : x.1 = 1 ∨ x.1 = 3 → x.2.2.2.2.1 = []
theorem tmRead {x : Tm38} (h : TmOk x) {w : Wd} {ws : List Wd} (e : tmWs x = w :: ws) : fn_text_terminator_sp0_ki w ws 0 = some (x.1, x.2.1, x.2.2.1, x.2.2.2.1, x.2.2.2.2.1, x.2.2.2.2.2, true, [], 0) := by
 obtain ⟨k, s, d, T, A, P⟩ := x
 obtain ⟨⟨k1, k2⟩, hs, hd, hT, hA, hP, lT, lA, lP, c0, t0, a0⟩ := h
 dsimp only at k1 k2 hs hd hT hA hP lT lA lP c0 t0 a0 ⊢
 unfold tmWs at e
 dsimp only at e
 have hk : k = 1 ∨ k = 2 ∨ k = 3 ∨ k = 4 := by omega
 unfold fn_text_terminator_sp0_ki
 rcases hk with rfl | rfl | rfl | rfl
 · simp only [if_true, List.cons.injEq] at e
   obtain ⟨rfl, rfl⟩ := e
   obtain ⟨rfl, rfl, rfl⟩ := c0 (by omega)
   obtain rfl := a0 (by omega)
   simp only [kGoto, decide_true, cond_true, rlst (w := liW T) (ws := []) (lilen hT lT) (by simp), rdL_liW hT, Option.bind_some]
 · simp (decide := true) only [if_true, if_false, List.cons.injEq] at e
   obtain ⟨rfl, rfl⟩ := e
   obtain ⟨rfl, rfl, rfl⟩ := c0 (by omega)
   simp (decide := true) only [kSw, decide_true, decide_false, cond_true, cond_false, rlst (w := liW T) (ws := [liW A]) (lilen hT lT) (by simp), rdL_liW hT, rlst (w := liW A) (ws := []) (lilen hA lA) (by simp), rdL_liW hA, Option.bind_some]
 · simp (decide := true) only [if_true, if_false, List.cons.injEq] at e
   obtain ⟨rfl, rfl⟩ := e
   obtain ⟨rfl, rfl, rfl⟩ := c0 (by omega)
   obtain rfl := a0 (by omega)
   obtain rfl := t0 rfl
   simp (decide := true) only [kRet, decide_true, decide_false, cond_true, cond_false]
 · simp (decide := true) only [if_true, if_false, List.cons.injEq] at e
   obtain ⟨rfl, rfl⟩ := e
   simp (decide := true) only [kCall, decide_true, decide_false, cond_true, cond_false, rnum (w := text s) (ws := [text d, liW T, liW P, liW A]) hs.len (by simp), pa hs, rnum (w := text d) (ws := [liW T, liW P, liW A]) hd.len (by simp), pa hd,
     rlst (w := liW T) (ws := [liW P, liW A]) (lilen hT lT) (by simp), rdL_liW hT, rlst (w := liW P) (ws := [liW A]) (lilen hP lP) (by simp), rdL_liW hP, rlst (w := liW A) (ws := []) (lilen hA lA) (by simp), rdL_liW hA, Option.bind_some]
theorem stNot {x : Stm38} (h : StOk x) {w : Wd} {ws : List Wd} (e : stWs x = w :: ws) : fn_text_terminator_sp0_ki w ws 0 = some (0, 0, 0, [], [], [], false, ws, 0) := by
 obtain ⟨k, d, s, r, m⟩ := x
 obtain ⟨⟨k1, k2⟩, _⟩ := h
 dsimp only at k1 k2
 unfold stWs at e
 dsimp only at e
 have hk : k = 0 ∨ k = 1 ∨ k = 2 ∨ k = 3 ∨ k = 4 ∨ k = 5 := by omega
 unfold fn_text_terminator_sp0_ki
 rcases hk with rfl | rfl | rfl | rfl | rfl | rfl <;> (simp (decide := true) only [if_true, if_false, List.cons.injEq, List.cons_append] at e; obtain ⟨rfl, rfl⟩ := e; simp (decide := true) only [kNop, kAss, kBor, kReb, kUse, kDead, decide_false, cond_false])
theorem stRead {x : Stm38} (h : StOk x) {w : Wd} {ws : List Wd} (e : stWs x = w :: ws) : ∃ q, fn_text_statement_kp0_ki (w :: ws) ws 0 = some (x.1, x.2.1, x.2.2.1, x.2.2.2.1, x.2.2.2.2, q, 0) := by
 obtain ⟨k, d, s, r, m⟩ := x
 obtain ⟨⟨k1, k2⟩, hd, hs, hr, d0, s0, r0⟩ := h
 dsimp only at k1 k2 hd hs hr d0 s0 r0 ⊢
 unfold stWs at e
 dsimp only at e
 have hk : k = 0 ∨ k = 1 ∨ k = 2 ∨ k = 3 ∨ k = 4 ∨ k = 5 := by omega
 have g4 : ∀ c : Wd, getI [c, text d, text s, text r, [109, 117, 116]] 4 = some [109, 117, 116] := fun _ => rfl
 unfold fn_text_statement_kp0_ki
 rcases hk with rfl | rfl | rfl | rfl | rfl | rfl
 · simp (decide := true) only [if_true, if_false, List.cons.injEq] at e
   obtain ⟨rfl, rfl⟩ := e
   obtain rfl := d0 (by omega)
   obtain rfl := s0 (by omega)
   obtain ⟨rfl, rfl⟩ := r0 (by omega) (by omega)
   exact ⟨[], by simp (decide := true) only [getC, Option.bind_some, kNop, decide_true, decide_false, cond_true, cond_false]⟩
 · simp (decide := true) only [if_true, if_false, List.cons.injEq] at e
   obtain ⟨rfl, rfl⟩ := e
   obtain ⟨rfl, rfl⟩ := r0 (by omega) (by omega)
   exact ⟨[], by simp (decide := true) only [getC, Option.bind_some, kAss, decide_true, decide_false, cond_true, cond_false, rnum (w := text d) (ws := [text s]) hd.len (by simp), pa hd, rnum (w := text s) (ws := []) hs.len (by simp), pa hs]⟩
 · cases m with
   | true =>
     simp (decide := true) only [if_true, if_false, List.cons.injEq, List.cons_append, List.nil_append] at e
     obtain ⟨rfl, rfl⟩ := e
     exact ⟨[kMut], by simp (decide := true) only [getC, g4, Option.bind_some, kBor, kMut, decide_true, decide_false, cond_true, cond_false, Bool.not_true, List.length_cons, List.length_nil, rnum (w := text d) (ws := [text s, text r, [109, 117, 116]]) hd.len (by simp), pa hd, rnum (w := text s) (ws := [text r, [109, 117, 116]]) hs.len (by simp), pa hs, rnum (w := text r) (ws := [[109, 117, 116]]) hr.len (by simp), pa hr]⟩
   | false =>
     simp (decide := true) only [if_true, if_false, List.cons.injEq, List.cons_append, List.append_nil] at e
     obtain ⟨rfl, rfl⟩ := e
     exact ⟨[], by simp (decide := true) only [getC, Option.bind_some, kBor, decide_true, decide_false, cond_true, cond_false, Bool.not_true, List.length_cons, List.length_nil, rnum (w := text d) (ws := [text s, text r]) hd.len (by simp), pa hd, rnum (w := text s) (ws := [text r]) hs.len (by simp), pa hs, rnum (w := text r) (ws := []) hr.len (by simp), pa hr]⟩
 · cases m with
   | true =>
     simp (decide := true) only [if_true, if_false, List.cons.injEq, List.cons_append, List.nil_append] at e
     obtain ⟨rfl, rfl⟩ := e
     exact ⟨[kMut], by simp (decide := true) only [getC, g4, Option.bind_some, kReb, kMut, decide_true, decide_false, cond_true, cond_false, Bool.not_true, List.length_cons, List.length_nil, rnum (w := text d) (ws := [text s, text r, [109, 117, 116]]) hd.len (by simp), pa hd, rnum (w := text s) (ws := [text r, [109, 117, 116]]) hs.len (by simp), pa hs, rnum (w := text r) (ws := [[109, 117, 116]]) hr.len (by simp), pa hr]⟩
   | false =>
     simp (decide := true) only [if_true, if_false, List.cons.injEq, List.cons_append, List.append_nil] at e
     obtain ⟨rfl, rfl⟩ := e
     exact ⟨[], by simp (decide := true) only [getC, Option.bind_some, kReb, decide_true, decide_false, cond_true, cond_false, Bool.not_true, List.length_cons, List.length_nil, rnum (w := text d) (ws := [text s, text r]) hd.len (by simp), pa hd, rnum (w := text s) (ws := [text r]) hs.len (by simp), pa hs, rnum (w := text r) (ws := []) hr.len (by simp), pa hr]⟩
 · simp (decide := true) only [if_true, if_false, List.cons.injEq] at e
   obtain ⟨rfl, rfl⟩ := e
   obtain rfl := d0 (by omega)
   obtain ⟨rfl, rfl⟩ := r0 (by omega) (by omega)
   exact ⟨[], by simp (decide := true) only [getC, Option.bind_some, kUse, decide_true, decide_false, cond_true, cond_false, rnum (w := text s) (ws := []) hs.len (by simp), pa hs]⟩
 · simp (decide := true) only [if_true, if_false, List.cons.injEq] at e
   obtain ⟨rfl, rfl⟩ := e
   obtain rfl := s0 (by omega)
   obtain ⟨rfl, rfl⟩ := r0 (by omega) (by omega)
   exact ⟨[], by simp (decide := true) only [getC, Option.bind_some, kDead, decide_true, decide_false, cond_true, cond_false, rnum (w := text d) (ws := []) hd.len (by simp), pa hd]⟩
theorem cdTerm {x : Tm38} {b : Bk38} (h : TmOk x) (hX : X.length ≤ 1000) {w : Wd} {ws : List Wd} (e : tmWs x = w :: ws) : fn_text_parser_code_p0kp1_iirrrododi_ki (w :: ws) u n B L R S (X ++ [b]) a ws 0 = some (B, L, R, S, X ++ [(b.1, x)], 7, [], 0) := by
 unfold fn_text_parser_code_p0kp1_iirrrododi_ki
 simp only [lastW X b (by omega), lastG, chkI_me, Option.bind_some, getC, tmRead h e, cond_true, Int.toNat_natCast, lastS]
theorem cdStmt {x : Stm38} {b : Bk38} (h : StOk x) (hX : X.length ≤ 1000) (hb : b.1.length ≤ 1000) {w : Wd} {ws : List Wd} (e : stWs x = w :: ws) : ∃ q, fn_text_parser_code_p0kp1_iirrrododi_ki (w :: ws) u n B L R S (X ++ [b]) a ws 0 = some (B, L, R, S, X ++ [(b.1 ++ [x], b.2)], a, q, 0) := by
 obtain ⟨q, hq⟩ := stRead h e
 refine ⟨q, ?_⟩
 unfold fn_text_parser_code_p0kp1_iirrrododi_ki
 have ha : app b.1 [(x.1, x.2.1, x.2.2.1, x.2.2.2.1, x.2.2.2.2)] = some (b.1 ++ [x]) := app_eq (by simp; omega)
 simp only [lastW X b (by omega), lastG, chkI_me, Option.bind_some, getC, stNot h e, hq, cond_false, ha, Int.toNat_natCast, lastS, agr_self]
end
end
section
open Go.RowKit Nu
abbrev Bo38 := Int × Int × List (Int × Int) × List (List St) × List St × List Sg38 × List Bk38
def sigLs (s : Sg38) : List Wd := glue 32 [kSig, text s.1, tyW s.2.2.2] :: glue 32 (kNeed :: s.2.1.map pair) :: s.2.2.1.map (fun t => glue 32 [kArg, tyW t])
def blkLs (x : Bk38) : List Wd := kBlk :: (x.1.map (fun s => glue 32 (stWs s)) ++ [glue 32 (tmWs x.2)])
def lines38 (b : Bo38) : List Wd := glue 32 [kReg, text b.1, text b.2.1] :: glue 32 (kBnd :: b.2.2.1.map pair) :: (b.2.2.2.1.map (fun t => glue 32 [kLoc, tyW t]) ++ (glue 32 [kGiv, tyW b.2.2.2.2.1] :: (b.2.2.2.2.2.1.flatMap sigLs ++ b.2.2.2.2.2.2.flatMap blkLs)))
structure SgOk (s : Sg38) : Prop where
 par : In s.1
 bnd : ∀ b ∈ s.2.1, In b.1 ∧ In b.2
 nb : s.2.1.length ≤ 1000
 args : ∀ t ∈ s.2.2.1, (∀ x ∈ t, In x.1) ∧ t.length ≤ 1000
 na : s.2.2.1.length ≤ 900
 ret : (∀ x ∈ s.2.2.2, In x.1) ∧ s.2.2.2.length ≤ 1000
structure BkOk (x : Bk38) : Prop where
 st : ∀ s ∈ x.1, StOk s
 ns : x.1.length ≤ 900
 tm : TmOk x.2
structure BoOk (b : Bo38) : Prop where
 uni : In b.1
 reg : In b.2.1
 bnd : ∀ c ∈ b.2.2.1, In c.1 ∧ In c.2
 nb : b.2.2.1.length ≤ 1000
 loc : ∀ t ∈ b.2.2.2.1, (∀ x ∈ t, In x.1) ∧ t.length ≤ 1000
 nl : b.2.2.2.1.length ≤ 900
 ret : (∀ x ∈ b.2.2.2.2.1, In x.1) ∧ b.2.2.2.2.1.length ≤ 1000
 sig : ∀ s ∈ b.2.2.2.2.2.1, SgOk s
 nsg : b.2.2.2.2.2.1.length ≤ 900
 blk : ∀ x ∈ b.2.2.2.2.2.2, BkOk x
 nx : b.2.2.2.2.2.2.length ≤ 900
noncomputable def adv : List Wd → PS → Option PS
 | [], p => some p
 | l :: ls, p => (step38 l p).bind fun r => if r.1 = 0 then adv ls r.2 else none
theorem adv_app : ∀ (a b : List Wd) (p : PS), adv (a ++ b) p = (adv a p).bind (adv b)
 | [], b, p => rfl
 | l :: a, b, p => by
   show (step38 l p).bind _ = ((step38 l p).bind _).bind _
   cases step38 l p with
   | none => rfl
   | some r =>
     simp only [Option.bind_some]
     by_cases h : r.1 = 0
     · simp only [h, if_true]; exact adv_app a b r.2
     · simp only [h, if_false]; rfl
theorem adv_run : ∀ (ls : List Wd) (p p' : PS) (n : Int), adv ls p = some p' → run38 ls p n = some (fin38 p')
 | [], p, p', n, h => by cases h; rfl
 | l :: ls, p, p', n, h => by
   obtain ⟨r, h1, h2⟩ := ob h
   unfold run38
   rw [h1, Option.bind_some]
   by_cases h0 : r.1 = 0
   · rw [if_pos h0] at h2 ⊢; exact adv_run ls _ _ _ h2
   · rw [if_neg h0] at h2; cases h2
theorem adv_one {l : Wd} {ls : List Wd} {p p' : PS} (h : step38 l p = some (0, p')) : adv (l :: ls) p = adv ls p' := by
 show (step38 l p).bind _ = _
 rw [h]; rfl
theorem step_line {w : Wd} {ws : List Wd} {p p' : PS} (hw : ∀ q ∈ w :: ws, WdOk q) (h35 : w.head? ≠ some 35) (h : lineP (w :: ws) p = some (0, p')) : step38 (glue 32 (w :: ws)) p = some (0, p') := by
 unfold step38
 rw [wds_glue hw, if_neg (by unfold skipB; simpa using h35)]; exact h
theorem wk {w : Wd} (h : decide (w ≠ [] ∧ (32 : UInt8) ∉ w ∧ (10 : UInt8) ∉ w) = true) : WdOk w := by
 obtain ⟨h1, h2, h3⟩ := of_decide_eq_true h; exact ⟨h1, h2, h3⟩
theorem okReg : WdOk kReg := wk (by decide)
theorem okBnd : WdOk kBnd := wk (by decide)
theorem okLoc : WdOk kLoc := wk (by decide)
theorem okGiv : WdOk kGiv := wk (by decide)
theorem okSig : WdOk kSig := wk (by decide)
theorem okNeed : WdOk kNeed := wk (by decide)
theorem okArg : WdOk kArg := wk (by decide)
theorem okBlk : WdOk kBlk := wk (by decide)
theorem wTy {t : List St} (h : ∀ x ∈ t, In x.1) : WdOk (tyW t) := WdOk.tyW (fun x hx => (h x hx).1)
theorem wLi {l : List Int} (h : ∀ x ∈ l, In x) : WdOk (liW l) := WdOk.liW (fun x hx => (h x hx).1)
theorem wPairs {w : Wd} (hw : WdOk w) {l : List (Int × Int)} (h : ∀ b ∈ l, In b.1 ∧ In b.2) : ∀ q ∈ w :: l.map pair, WdOk q := fun q hq => by
 rcases List.mem_cons.1 hq with rfl | hq
 · exact hw
 · obtain ⟨b, hb, rfl⟩ := List.mem_map.1 hq; exact WdOk.pair (h b hb).1.1 (h b hb).2.1
theorem w2 {a b : Wd} (ha : WdOk a) (hb : WdOk b) : ∀ q ∈ [a, b], WdOk q := fun q hq => by
 simp only [List.mem_cons, List.mem_nil_iff, or_false] at hq
 rcases hq with rfl | rfl
 · exact ha
 · exact hb
theorem w3 {a b c : Wd} (ha : WdOk a) (hb : WdOk b) (hc : WdOk c) : ∀ q ∈ [a, b, c], WdOk q := fun q hq => by
 simp only [List.mem_cons, List.mem_nil_iff, or_false] at hq
 rcases hq with rfl | rfl | rfl
 · exact ha
 · exact hb
 · exact hc
theorem stWs_ok {x : Stm38} (h : StOk x) : (∀ q ∈ stWs x, WdOk q) ∧ ∃ w ws, stWs x = w :: ws ∧ decide (w ∈ allow38 6) = true ∧ w.head? ≠ some 35 ∧ ∃ least most, fn_text_many w = some (least, most) ∧ least ≤ ((w :: ws).length : Nat) ∧ (((w :: ws).length : Nat) : Int) ≤ most := by
 obtain ⟨k, d, s, r, m⟩ := x
 obtain ⟨⟨k1, k2⟩, hd, hs, hr, _⟩ := h
 dsimp only at k1 k2 hd hs hr
 have h1 := WdOk.text hd.1; have h2 := WdOk.text hs.1; have h3 := WdOk.text hr.1
 have hk : k = 0 ∨ k = 1 ∨ k = 2 ∨ k = 3 ∨ k = 4 ∨ k = 5 := by omega
 rcases hk with rfl | rfl | rfl | rfl | rfl | rfl
 · refine ⟨fun q hq => ?_, _, _, rfl, by decide, by decide, 1, 1, rfl, by simp, by simp⟩
   rw [show stWs (0, d, s, r, m) = [kNop] from rfl, List.mem_singleton] at hq
   subst hq; exact wk (by decide)
 · exact ⟨w3 (wk (by decide)) h1 h2, _, _, rfl, by decide, by decide, 3, 3, rfl, by simp, by simp⟩
 · cases m with
   | true =>
     refine ⟨fun q hq => ?_, kBor, [text d, text s, text r, kMut], rfl, by decide, by decide, 4, 5, rfl, by simp, by simp⟩
     rw [show stWs (2, d, s, r, true) = [kBor, text d, text s, text r, kMut] from rfl] at hq
     simp only [List.mem_cons, List.mem_nil_iff, or_false] at hq
     rcases hq with rfl | rfl | rfl | rfl | rfl
     · exact wk (by decide)
     · exact h1
     · exact h2
     · exact h3
     · exact wk (by decide)
   | false =>
     refine ⟨fun q hq => ?_, kBor, [text d, text s, text r], rfl, by decide, by decide, 4, 5, rfl, by simp, by simp⟩
     rw [show stWs (2, d, s, r, false) = [kBor, text d, text s, text r] from rfl] at hq
     simp only [List.mem_cons, List.mem_nil_iff, or_false] at hq
     rcases hq with rfl | rfl | rfl | rfl
     · exact wk (by decide)
     · exact h1
     · exact h2
     · exact h3
 · cases m with
   | true =>
     refine ⟨fun q hq => ?_, kReb, [text d, text s, text r, kMut], rfl, by decide, by decide, 4, 5, rfl, by simp, by simp⟩
     rw [show stWs (3, d, s, r, true) = [kReb, text d, text s, text r, kMut] from rfl] at hq
     simp only [List.mem_cons, List.mem_nil_iff, or_false] at hq
     rcases hq with rfl | rfl | rfl | rfl | rfl
     · exact wk (by decide)
     · exact h1
     · exact h2
     · exact h3
     · exact wk (by decide)
   | false =>
     refine ⟨fun q hq => ?_, kReb, [text d, text s, text r], rfl, by decide, by decide, 4, 5, rfl, by simp, by simp⟩
     rw [show stWs (3, d, s, r, false) = [kReb, text d, text s, text r] from rfl] at hq
     simp only [List.mem_cons, List.mem_nil_iff, or_false] at hq
     rcases hq with rfl | rfl | rfl | rfl
     · exact wk (by decide)
     · exact h1
     · exact h2
     · exact h3
 · exact ⟨w2 (wk (by decide)) h2, _, _, rfl, by decide, by decide, 2, 2, rfl, by simp, by simp⟩
 · exact ⟨w2 (wk (by decide)) h1, _, _, rfl, by decide, by decide, 2, 2, rfl, by simp, by simp⟩
theorem tmWs_ok {x : Tm38} (h : TmOk x) : (∀ q ∈ tmWs x, WdOk q) ∧ ∃ w ws, tmWs x = w :: ws ∧ decide (w ∈ allow38 6) = true ∧ w.head? ≠ some 35 ∧ ∃ least most, fn_text_many w = some (least, most) ∧ least ≤ ((w :: ws).length : Nat) ∧ (((w :: ws).length : Nat) : Int) ≤ most := by
 obtain ⟨k, s, d, T, A, P⟩ := x
 obtain ⟨⟨k1, k2⟩, hs, hd, hT, hA, hP, _⟩ := h
 dsimp only at k1 k2 hs hd hT hA hP
 have h1 := WdOk.text hs.1; have h2 := WdOk.text hd.1; have h3 := wLi hT; have h4 := wLi hA; have h5 := wLi hP
 have hk : k = 1 ∨ k = 2 ∨ k = 3 ∨ k = 4 := by omega
 rcases hk with rfl | rfl | rfl | rfl
 · exact ⟨w2 (wk (by decide)) h3, _, _, rfl, by decide, by decide, 2, 2, rfl, by simp, by simp⟩
 · exact ⟨w3 (wk (by decide)) h3 h4, _, _, rfl, by decide, by decide, 3, 3, rfl, by simp, by simp⟩
 · refine ⟨fun q hq => ?_, _, _, rfl, by decide, by decide, 1, 1, rfl, by simp, by simp⟩
   rw [show tmWs (3, s, d, T, A, P) = [kRet] from rfl, List.mem_singleton] at hq
   subst hq; exact wk (by decide)
 · refine ⟨fun q hq => ?_, kCall, [text s, text d, liW T, liW P, liW A], rfl, by decide, by decide, 6, 6, rfl, by simp, by simp⟩
   rw [show tmWs (4, s, d, T, A, P) = [kCall, text s, text d, liW T, liW P, liW A] from rfl] at hq
   simp only [List.mem_cons, List.mem_nil_iff, or_false] at hq
   rcases hq with rfl | rfl | rfl | rfl | rfl | rfl
   · exact wk (by decide)
   · exact h1
   · exact h2
   · exact h3
   · exact h5
   · exact h4
section
variable {u n : Int} {B : List (Int × Int)} {L : List (List St)} {R : List St} {S : List Sg38} {X : List Bk38} {a : Int}
theorem advStmts : ∀ (l : List Stm38) (ss : List Stm38) (t : Tm38), (∀ s ∈ l, StOk s) → X.length ≤ 1000 → ss.length + l.length ≤ 1000 → adv (l.map (fun s => glue 32 (stWs s))) (u, n, B, L, R, S, X ++ [(ss, t)], 6) = some (u, n, B, L, R, S, X ++ [(ss ++ l, t)], 6)
 | [], ss, t, _, _, _ => by simp [adv]
 | x :: l, ss, t, h, hX, hl => by
   have hx := h x (by simp)
   obtain ⟨hw, w, ws, e, ha, h35, least, most, hm, b1, b2⟩ := stWs_ok hx
   obtain ⟨q, hq⟩ := cdStmt (u := u) (n := n) (B := B) (L := L) (R := R) (S := S) (X := X) (a := 6) (b := (ss, t)) hx hX (by dsimp only; omega) e
   rw [List.length_cons] at hl
   rw [List.map_cons, e, adv_one (step_line (by rw [← e]; exact hw) h35 (lineC hm ha b1 b2 rfl hq)), advStmts l _ t (fun s hs => h s (by simp [hs])) hX (by dsimp only; rw [List.length_append, List.length_singleton]; omega)]
   simp
theorem advBlk {x : Bk38} (h : BkOk x) (hX : X.length ≤ 900) (ha : decide (kBlk ∈ allow38 a) = true) (h6 : a ≠ 6) : adv (blkLs x) (u, n, B, L, R, S, X, a) = some (u, n, B, L, R, S, X ++ [x], 7) := by
 unfold blkLs
 have e0 : kBlk = glue 32 [kBlk] := by simp [glue]
 have s1 := step_line (p := (u, n, B, L, R, S, X, a)) (w := kBlk) (ws := []) (fun q hq => by rw [List.mem_singleton.1 hq]; exact okBlk) (by decide) (lineH (least := 1) (most := 1) rfl ha (by simp) (by simp) h6 (hdBlk (show X.length ≤ 1000 by omega)))
 rw [← e0] at s1
 rw [adv_one s1, adv_app, advStmts x.1 [] _ h.st (by omega) (by have := h.ns; simp; omega), Option.bind_some]
 obtain ⟨hw, w, ws, e, ha, h35, least, most, hm, b1, b2⟩ := tmWs_ok h.tm
 have hq := cdTerm (u := u) (n := n) (B := B) (L := L) (R := R) (S := S) (X := X) (a := 6) (b := (([] : List Stm38) ++ x.1, ((0, 0, 0, [], [], []) : Tm38))) h.tm (by omega) e
 rw [e, adv_one (step_line (by rw [← e]; exact hw) h35 (lineC hm ha b1 b2 rfl hq))]
 rfl
theorem advBlks : ∀ (l : List Bk38), (∀ x ∈ l, BkOk x) → ∀ (X : List Bk38) (a : Int), X.length + l.length ≤ 900 → (a = 3 ∨ a = 5 ∨ a = 7) → ∃ a', (a' = 3 ∨ a' = 5 ∨ a' = 7) ∧ adv (l.flatMap blkLs) (u, n, B, L, R, S, X, a) = some (u, n, B, L, R, S, X ++ l, a')
 | [], _, X, a, _, ha => ⟨a, ha, by simp [adv]⟩
 | x :: l, h, X, a, hl, ha => by
   rw [List.length_cons] at hl
   obtain ⟨a', h1, h2⟩ := advBlks l (fun y hy => h y (by simp [hy])) (X ++ [x]) 7 (by rw [List.length_append, List.length_singleton]; omega) (by omega)
   refine ⟨a', h1, ?_⟩
   rw [List.flatMap_cons, adv_app, advBlk (h x (by simp)) (by omega) (by rcases ha with rfl | rfl | rfl <;> decide) (by omega), Option.bind_some, h2]
   simp
theorem advArgs : ∀ (l : List (List St)) (s : Sg38), (∀ t ∈ l, (∀ x ∈ t, In x.1) ∧ t.length ≤ 1000) → S.length ≤ 1000 → s.2.2.1.length + l.length ≤ 1000 → adv (l.map (fun t => glue 32 [kArg, tyW t])) (u, n, B, L, R, S ++ [s], X, 5) = some (u, n, B, L, R, S ++ [(s.1, s.2.1, s.2.2.1 ++ l, s.2.2.2)], X, 5)
 | [], s, _, _, _ => by simp [adv]
 | t :: l, s, h, hS, hl => by
   obtain ⟨t1, t2⟩ := h t (by simp)
   rw [List.length_cons] at hl
   rw [List.map_cons, adv_one (step_line (w2 okArg (wTy t1)) (by decide) (lineH (least := 2) (most := 2) rfl (by decide) (by simp) (by simp) (by decide) (hdArg t1 t2 hS (by omega)))), advArgs l _ (fun y hy => h y (by simp [hy])) hS (by dsimp only; rw [List.length_append, List.length_singleton]; omega)]
   simp
theorem many_need (k : Nat) (h : k ≤ 1000) : (1 : Int) ≤ ((k + 1 : Nat) : Int) ∧ ((k + 1 : Nat) : Int) ≤ 9223372036854775807 := by omega
theorem advSig {s : Sg38} (h : SgOk s) (hS : S.length ≤ 900) (ha : decide (kSig ∈ allow38 a) = true) (h6 : a ≠ 6) : adv (sigLs s) (u, n, B, L, R, S, X, a) = some (u, n, B, L, R, S ++ [s], X, 5) := by
 unfold sigLs
 have hl := many_need (s.2.1.map pair).length (by rw [List.length_map]; exact h.nb)
 rw [adv_one (step_line (w3 okSig (WdOk.text h.par.1) (wTy h.ret.1)) (by decide) (lineH (least := 3) (most := 3) rfl ha (by simp) (by simp) h6 (hdSig h.par h.ret.1 h.ret.2 (by omega)))),
   adv_one (step_line (wPairs okNeed h.bnd) (by decide) (lineH (least := 1) (most := 9223372036854775807) rfl (by decide) hl.1 hl.2 (by decide) (hdNeed h.bnd h.nb (by omega))))]
 rw [advArgs s.2.2.1 _ h.args (by omega) (by have := h.na; simp; omega)]
 rfl
theorem advSigs : ∀ (l : List Sg38), (∀ x ∈ l, SgOk x) → ∀ (S : List Sg38) (a : Int), S.length + l.length ≤ 900 → (a = 3 ∨ a = 5) → ∃ a', (a' = 3 ∨ a' = 5) ∧ adv (l.flatMap sigLs) (u, n, B, L, R, S, X, a) = some (u, n, B, L, R, S ++ l, X, a')
 | [], _, S, a, _, ha => ⟨a, ha, by simp [adv]⟩
 | x :: l, h, S, a, hl, ha => by
   rw [List.length_cons] at hl
   obtain ⟨a', h1, h2⟩ := advSigs l (fun y hy => h y (by simp [hy])) (S ++ [x]) 5 (by rw [List.length_append, List.length_singleton]; omega) (by omega)
   refine ⟨a', h1, ?_⟩
   rw [List.flatMap_cons, adv_app, advSig (h x (by simp)) (by omega) (by rcases ha with rfl | rfl <;> decide) (by omega), Option.bind_some, h2]
   simp
theorem advLocs : ∀ (l L : List (List St)), (∀ t ∈ l, (∀ x ∈ t, In x.1) ∧ t.length ≤ 1000) → L.length + l.length ≤ 1000 → adv (l.map (fun t => glue 32 [kLoc, tyW t])) (u, n, B, L, R, S, X, 2) = some (u, n, B, L ++ l, R, S, X, 2)
 | [], L, _, _ => by simp [adv]
 | t :: l, L, h, hl => by
   obtain ⟨t1, t2⟩ := h t (by simp)
   rw [List.length_cons] at hl
   rw [List.map_cons, adv_one (step_line (w2 okLoc (wTy t1)) (by decide) (lineH (least := 2) (most := 2) rfl (by decide) (by simp) (by simp) (by decide) (hdLoc t1 t2 (by omega)))), advLocs l _ (fun y hy => h y (by simp [hy])) (by rw [List.length_append, List.length_singleton]; omega)]
   simp
end
theorem adv_lines {b : Bo38} (h : BoOk b) : ∃ a, (a = 3 ∨ a = 5 ∨ a = 7) ∧ adv (lines38 b) (0, 0, [], [], [], [], [], 0) = some (b.1, b.2.1, b.2.2.1, b.2.2.2.1, b.2.2.2.2.1, b.2.2.2.2.2.1, b.2.2.2.2.2.2, a) := by
 unfold lines38
 have hl := many_need (b.2.2.1.map pair).length (by rw [List.length_map]; exact h.nb)
 rw [adv_one (step_line (w3 okReg (WdOk.text h.uni.1) (WdOk.text h.reg.1)) (by decide) (lineH (least := 3) (most := 3) rfl (by decide) (by simp) (by simp) (by decide) (hdReg h.uni h.reg))),
   adv_one (step_line (wPairs okBnd h.bnd) (by decide) (lineH (least := 1) (most := 9223372036854775807) rfl (by decide) hl.1 hl.2 (by decide) (hdBnd h.bnd h.nb))),
   adv_app, advLocs b.2.2.2.1 [] h.loc (by have := h.nl; simp; omega), Option.bind_some,
   adv_one (step_line (w2 okGiv (wTy h.ret.1)) (by decide) (lineH (least := 2) (most := 2) rfl (by decide) (by simp) (by simp) (by decide) (hdGiv h.ret.1 h.ret.2))), adv_app]
 obtain ⟨a1, h1, e1⟩ := advSigs (u := b.1) (n := b.2.1) (B := b.2.2.1) (L := [] ++ b.2.2.2.1) (R := b.2.2.2.2.1) (X := []) b.2.2.2.2.2.1 h.sig [] 3 (by have := h.nsg; simp; omega) (by omega)
 rw [e1, Option.bind_some]
 obtain ⟨a2, h2, e2⟩ := advBlks (u := b.1) (n := b.2.1) (B := b.2.2.1) (L := [] ++ b.2.2.2.1) (R := b.2.2.2.2.1) (S := [] ++ b.2.2.2.2.2.1) b.2.2.2.2.2.2 h.blk [] a1 (by have := h.nx; simp; omega) (by omega)
 exact ⟨a2, h2, e2⟩
theorem fin_ok {b : Bo38} {a : Int} (h : a = 3 ∨ a = 5 ∨ a = 7) : fin38 (b.1, b.2.1, b.2.2.1, b.2.2.2.1, b.2.2.2.2.1, b.2.2.2.2.2.1, b.2.2.2.2.2.2, a) = (b.1, b.2.1, b.2.2.1, b.2.2.2.1, b.2.2.2.2.1, b.2.2.2.2.2.1, b.2.2.2.2.2.2, 0, 0) := by
 unfold fin38; rw [if_pos h]
theorem pieces_lines (t : Wd) : ∀ (ls : List Wd), (∀ l ∈ ls, (10 : UInt8) ∉ l) → pieces 10 (ls.flatMap (· ++ [10]) ++ t) = ls ++ pieces 10 t
 | [], _ => rfl
 | l :: ls, h => by
   rw [List.flatMap_cons, List.append_assoc, List.append_assoc, List.singleton_append, pieces_app 10 l _ (h l (by simp)), pieces_lines t ls (fun x hx => h x (by simp [hx]))]; rfl
theorem lines_nl {b : Bo38} (h : BoOk b) : ∀ l ∈ lines38 b, (10 : UInt8) ∉ l := by
 intro l hl
 unfold lines38 at hl
 simp only [List.mem_cons, List.mem_append, List.mem_map, List.mem_flatMap] at hl
 rcases hl with rfl | rfl | ⟨t, ht, rfl⟩ | rfl | ⟨s, hs, hl⟩ | ⟨x, hx, hl⟩
 · exact glue_nl (w3 okReg (WdOk.text h.uni.1) (WdOk.text h.reg.1))
 · exact glue_nl (wPairs okBnd h.bnd)
 · exact glue_nl (w2 okLoc (wTy (h.loc t ht).1))
 · exact glue_nl (w2 okGiv (wTy h.ret.1))
 · have q := h.sig s hs
   unfold sigLs at hl
   simp only [List.mem_cons, List.mem_map] at hl
   rcases hl with rfl | rfl | ⟨t, ht, rfl⟩
   · exact glue_nl (w3 okSig (WdOk.text q.par.1) (wTy q.ret.1))
   · exact glue_nl (wPairs okNeed q.bnd)
   · exact glue_nl (w2 okArg (wTy (q.args t ht).1))
 · have q := h.blk x hx
   unfold blkLs at hl
   simp only [List.mem_cons, List.mem_append, List.mem_map, List.mem_nil_iff, or_false] at hl
   rcases hl with rfl | ⟨s, hs, rfl⟩ | rfl
   · decide
   · exact glue_nl (stWs_ok (q.st s hs)).1
   · exact glue_nl (tmWs_ok q.tm).1
def prW (b : Bo38) : Wd := (lines38 b).flatMap (· ++ [10])
theorem parse_print {b : Bo38} (h : BoOk b) (hn : (prW b).length ≤ 1048576) : fn_text_Parse (prW b) = some (b.1, b.2.1, b.2.2.1, b.2.2.2.1, b.2.2.2.2.1, b.2.2.2.2.2.1, b.2.2.2.2.2.2, 0, 0) := by
 refine parse38 _ _ hn ?_
 obtain ⟨a, ha, e⟩ := adv_lines h
 have hp : pieces 10 (prW b) = lines38 b ++ [[]] := by
   have := pieces_lines [] (lines38 b) (lines_nl h)
   rw [List.append_nil] at this; exact this
 rw [hp, adv_run (p' := (b.1, b.2.1, b.2.2.1, b.2.2.2.1, b.2.2.2.2.1, b.2.2.2.2.2.1, b.2.2.2.2.2.2, a)) _ _ _ (by rw [adv_app, e]; rfl), fin_ok ha]
theorem parse_remark {b : Bo38} (h : BoOk b) (hn : (prW b).length ≤ 1000000) : fn_text_Parse (([35, 32, 115, 111, 10, 10] : Wd) ++ prW b ++ [32, 32, 35, 32, 116, 104, 101, 32, 101, 110, 100]) = some (b.1, b.2.1, b.2.2.1, b.2.2.2.1, b.2.2.2.2.1, b.2.2.2.2.2.1, b.2.2.2.2.2.2, 0, 0) := by
 refine parse38 _ _ (by rw [List.length_append, List.length_append]; simp only [List.length_cons, List.length_nil]; omega) ?_
 obtain ⟨a, ha, e⟩ := adv_lines h
 have hp : pieces 10 (([35, 32, 115, 111, 10, 10] : Wd) ++ prW b ++ [32, 32, 35, 32, 116, 104, 101, 32, 101, 110, 100]) = [35, 32, 115, 111] :: [] :: (lines38 b ++ [[32, 32, 35, 32, 116, 104, 101, 32, 101, 110, 100]]) := by
   have h1 : ([35, 32, 115, 111, 10, 10] : Wd) ++ prW b ++ [32, 32, 35, 32, 116, 104, 101, 32, 101, 110, 100] = [35, 32, 115, 111] ++ 10 :: ([] ++ 10 :: (prW b ++ [32, 32, 35, 32, 116, 104, 101, 32, 101, 110, 100])) := by simp
   rw [h1, pieces_app 10 [35, 32, 115, 111] _ (by decide), pieces_app 10 [] _ (by decide)]
   have := pieces_lines [32, 32, 35, 32, 116, 104, 101, 32, 101, 110, 100] (lines38 b) (lines_nl h)
   unfold prW; rw [this]; rfl
 have s1 : ∀ p, step38 [35, 32, 115, 111] p = some (0, p) := fun p => by unfold step38; rw [if_pos (by decide)]
 have s2 : ∀ p, step38 [] p = some (0, p) := fun p => by unfold step38; rw [if_pos (by decide)]
 have s3 : ∀ p, step38 [32, 32, 35, 32, 116, 104, 101, 32, 101, 110, 100] p = some (0, p) := fun p => by unfold step38; rw [if_pos (by decide)]
 rw [hp, adv_run (p' := (b.1, b.2.1, b.2.2.1, b.2.2.2.1, b.2.2.2.2.1, b.2.2.2.2.2.1, b.2.2.2.2.2.2, a)) _ _ _ (by rw [adv_one (s1 _), adv_one (s2 _), adv_app, e, Option.bind_some, adv_one (s3 _)]; rfl), fin_ok ha]
def b38 : Bo38 := (1, 1, [], [[]], [], [], [([], (3, 0, 0, [], [], []))])
theorem awake38 (hT : fn_text_Type [(1, false), (2, true)] = some [49, 47, 50, 33]) (hS : fn_text_Stmt (2, 0, 1, 3, true) = some [98, 111, 114, 114, 111, 119, 32, 48, 32, 49, 32, 51, 32, 109, 117, 116]) : fn_law38_awake = some true := by
 have hb : BoOk b38 := by
   have i0 : In 0 := by constructor <;> decide
   have i1 : In 1 := by constructor <;> decide
   refine ⟨i1, i1, by simp [b38], by simp [b38], by simp [b38], by simp [b38], ⟨by simp [b38], by simp [b38]⟩, by simp [b38], by simp [b38], ?_, by simp [b38]⟩
   intro x hx
   obtain rfl : x = ([], (3, 0, 0, [], [], [])) := by simpa [b38] using hx
   exact ⟨by simp, by simp, ⟨by simp, i0, i0, by simp, by simp, by simp, by simp, by simp, by simp, by simp, by simp, by simp⟩⟩
 have hw : prW b38 = [114, 101, 103, 105, 111, 110, 115, 32, 49, 32, 49, 10, 98, 111, 117, 110, 100, 115, 10, 108, 111, 99, 97, 108, 32, 45, 10, 103, 105, 118, 101, 115, 32, 45, 10, 98, 108, 111, 99, 107, 10, 114, 101, 116, 117, 114, 110, 10] := by
   have t1 : text 1 = [49] := by unfold text; rw [if_neg (by decide), show ((1 : Int).toNat) = 1 from rfl, dec_lt (by decide)]; rfl
   simp [prW, lines38, b38, sigLs, blkLs, tyW, tmWs, glue, t1, kRet]
 have hp := parse_print hb (by rw [hw]; simp)
 rw [hw] at hp
 unfold fn_law38_awake
 rw [hp, hT, hS]
 rfl
end
section
open Go.RowKit Nu
theorem pgo_len : ∀ (l : List Wd) (acc : List St), (pgo l acc).1.length ≤ acc.length + l.length
 | [], acc => by simp [pgo]
 | p :: l, acc => by
   unfold pgo
   split
   · simp
   · have := pgo_len l (acc ++ [(pSl p).1])
     rw [List.length_append, List.length_singleton] at this
     rw [List.length_cons]; omega
theorem pTy_len (s : Wd) : (pTy s).1.length ≤ s.length + 1 := by
 unfold pTy; split
 · simp
 · have := pgo_len (pieces 47 s) []; have := pieces_len 47 s
   simp only [List.length_nil] at *; omega
theorem tyEx : tyW [(1, false), (2, true)] = [49, 47, 50, 33] := by
 have t1 : text 1 = [49] := by unfold text; rw [if_neg (by decide), show ((1 : Int).toNat) = 1 from rfl, dec_lt (by decide)]; rfl
 have t2 : text 2 = [50] := by unfold text; rw [if_neg (by decide), show ((2 : Int).toNat) = 2 from rfl, dec_lt (by decide)]; rfl
 simp [tyW, glue, slotW, t1, t2]
theorem stEx : glue 32 (stWs (2, 0, 1, 3, true)) = [98, 111, 114, 114, 111, 119, 32, 48, 32, 49, 32, 51, 32, 109, 117, 116] := by
 have t0 : text 0 = [48] := by unfold text; rw [if_neg (by decide), show ((0 : Int).toNat) = 0 from rfl, dec_lt (by decide)]; rfl
 have t1 : text 1 = [49] := by unfold text; rw [if_neg (by decide), show ((1 : Int).toNat) = 1 from rfl, dec_lt (by decide)]; rfl
 have t3 : text 3 = [51] := by unfold text; rw [if_neg (by decide), show ((3 : Int).toNat) = 3 from rfl, dec_lt (by decide)]; rfl
 simp [stWs, glue, kBor, kMut, t0, t1, t3]
theorem awake38' : fn_law38_awake = some true := by
 refine awake38 ?_ ?_
 · rw [type38 _ (by simp) (fun x hx => by simp at hx; rcases hx with rfl | rfl <;> decide), tyEx]
 · rw [stmt38 _ (by decide) (by decide) (by decide), stEx]
theorem same38 (xa : List St) (hn : xa.length ≤ 1073741824) : fn_ref15_Same xa xa = some true := by
 unfold fn_ref15_Same
 have hs : shp xa xa = true := by unfold shp; simp
 rw [refShape_eq xa xa hn, hs]
 have := loop_alike (body := fn_ref15_Same_l1 xa xa) xa xa (.inr false) (.inl ()) rfl (fun k h => by
   unfold fn_ref15_Same_l1
   simp [getN h, h, w64s h (by omega)]) (by unfold fn_ref15_Same_l1; simp)
 simp only [Option.bind_some, Bool.not_true, cond_false, this, if_true]
theorem TextTypes_true (xa : (List (Int × Bool))) (xb : (List UInt8)) (xc : (Int × Int × Int × Int × Bool)) (xd : (Int × Int × Int × (List Int) × (List Int) × (List Int))) (k0 : Tp.Ok (.one (.sl (.cons (.int .i64) (.one .bool)))) xa) (k1 : Tp.Ok .str xb) (k2 : Tp.Ok (.cons (.int .i64) (.cons (.int .i64) (.cons (.int .i64) (.cons (.int .i64) (.one .bool))))) xc) (k3 : Tp.Ok (.cons (.int .i64) (.cons (.int .i64) (.cons (.int .i64) (.cons (.sl (.int .i64)) (.cons (.sl (.int .i64)) (.one (.sl (.int .i64)))))))) xd) : fn_law38_TextTypes xa xb xc xd = some true := by
 unfold fn_law38_TextTypes
 rw [Few_eq, Option.bind_some, awake38']
 by_cases hc : (((((!decide ((xa.length : Int) ≤ 30)) || decide (200 < (((xb.length : Nat) : Int)))) || decide (30 < (((xd.2.2.2.1.length : Nat) : Int)))) || decide (30 < (((xd.2.2.2.2.1.length : Nat) : Int)))) || decide (30 < (((xd.2.2.2.2.2.length : Nat) : Int)))) = true
 · rw [hc]; rfl
 · rw [Bool.not_eq_true] at hc
   rw [hc, cond_false]
   simp only [Bool.or_eq_false_iff, Bool.not_eq_false', decide_eq_true_eq, decide_eq_false_iff_not] at hc
   obtain ⟨⟨⟨⟨c1, c2⟩, c3⟩, c4⟩, c5⟩ := hc
   have ha : ∀ x ∈ xa, I64 x.1 := fun x hx => (ok64 (k0.2 x hx).1).2
   have hx : TmS xd := ⟨(ok64 k3.2.1).2, (ok64 k3.2.2.1).2, by omega, by omega, by omega, fun x hx => (ok64 (k3.2.2.2.1.2 x hx)).2, fun x hx => (ok64 (k3.2.2.2.2.1.2 x hx)).2, fun x hx => (ok64 (k3.2.2.2.2.2.2 x hx)).2⟩
   have s1 := (ok64 k2.2.1).2; have s2 := (ok64 k2.2.2.1).2; have s3 := (ok64 k2.2.2.2.1).2
   have e1 : fn_text_Stmt (xc.1, xc.2.1, xc.2.2.1, xc.2.2.2.1, xc.2.2.2.2) = _ := stmt38 xc s1 s2 s3
   have e2 : fn_ref38_Stmt (xc.1, xc.2.1, xc.2.2.1, xc.2.2.2.1, xc.2.2.2.2) = _ := rstmt38 xc s1 s2 s3
   have e3 : fn_text_Term (xd.1, xd.2.1, xd.2.2.1, xd.2.2.2.1, xd.2.2.2.2.1, xd.2.2.2.2.2) = _ := term38 xd hx
   have e4 : fn_ref38_Term (xd.1, xd.2.1, xd.2.2.1, xd.2.2.2.1, xd.2.2.2.2.1, xd.2.2.2.2.2) = _ := rterm38 xd hx
   have hl := pTy_len xb
   rw [ptype38 xb (by omega), rptype38 xb (by omega), type38 xa (by omega) ha, rtype38 xa (by omega) ha, e1, e2, e3, e4]
   simp only [Option.bind_some, decide_true, cond_true, same38 (pTy xb).1 (by omega)]
end
open Go.RowKit
theorem TextTypes_walk {H : Type} (enc : TypeId × Value → H) (W : World) (base : Nat) {v0 v1 v2 v3 : Value} {d0 d1 d2 d3 : DataW H} {p0 p1 p2 p3 : List MemPlace}
   (h0 : DataW.Trod enc Tryd.prog W 0 (fun _ => true) true 24 v0 d0 p0) (h1 : DataW.Trod enc Tryd.prog W 0 (fun _ => true) true 9 v1 d1 p1) (h2 : DataW.Trod enc Tryd.prog W 0 (fun _ => true) true 26 v2 d2 p2) (h3 : DataW.Trod enc Tryd.prog W 0 (fun _ => true) true 29 v3 d3 p3)
   (o0 : Value.okWide Tryd.prog W .any base 24 v0) (o1 : Value.okWide Tryd.prog W .any base 9 v1) (o2 : Value.okWide Tryd.prog W .any base 26 v2) (o3 : Value.okWide Tryd.prog W .any base 29 v3)
   (hso : W.ShapedOpen Tryd.prog) :
   Calls Tryd.prog 3 #[v0, v1, v2, v3] W fun e W' => e = .returned (.bool true) ∧ Below W.heap.size W W' := by
 obtain ⟨xa, i0, k0⟩ := Tp.arg (.one (.sl (.cons (.int .i64) (.one .bool)))) (by kernel_rfl) o0 h0
 obtain ⟨xb, i1, k1⟩ := Tp.arg .str (by kernel_rfl) o1 h1
 obtain ⟨xc, i2, k2⟩ := Tp.arg (.cons (.int .i64) (.cons (.int .i64) (.cons (.int .i64) (.cons (.int .i64) (.one .bool))))) (by kernel_rfl) o2 h2
 obtain ⟨xd, i3, k3⟩ := Tp.arg (.cons (.int .i64) (.cons (.int .i64) (.cons (.int .i64) (.cons (.sl (.int .i64)) (.cons (.sl (.int .i64)) (.one (.sl (.int .i64)))))))) (by kernel_rfl) o3 h3
 exact walkX (s := sp_law38_TextTypes) (x := (xa, xb, xc, xd)) (args := [v0, v1, v2, v3]) law38_TextTypes_is (TextTypes_true xa xb xc xd k0 k1 k2 k3) (Gk.of hso) rfl rfl ⟨_, _, rfl, of_rel _ i0, _, _, rfl, of_rel _ i1, _, _, rfl, of_rel _ i2, _, _, rfl, of_rel _ i3, rfl⟩
end Go.Proofs.YteciehjlefldmaaDoor
namespace Go.Proofs.YteciehjlefldmaaDoor.textTypesFrame
set_option maxRecDepth 40000
open Go.ChangeShapes Go.WideShapes Go.ChangeAt Go.RowKit
theorem own : ownKnob Tryd.prog.godebug = none := by kernel_rfl
theorem contract (H : Type) (enc : TypeId × Value → H) (W : World) (base : Nat) (args : Array Value) (ds gs : List (DataW H)) (before : List MemPlace)
    (hval : ∀ (j : Nat) t v, Tryd.f3.params[j]? = some t → args[j]? = some v → Value.okWide Tryd.prog W .any base t v)
    (hW : DataW.Whole enc Tryd.prog Tryd.f3.params.toList Rows.textTypesSpec.vars false W args.toList ds gs before) (hso : W.ShapedOpen Tryd.prog) :
    Calls Tryd.prog 3 args W fun e W' => ∃ v, e = .returned v ∧ Rows.textTypesSpec.post enc Tryd.prog Tryd.f3 false true false false W args v W' := by
  have hW' := hW
  obtain ⟨p, q, hA0, hV, rfl, hfz, hnd⟩ := hW
  have hA : DataW.TrodAll enc Tryd.prog W 0 (fun _ => true) true Tryd.f3.params.toList args.toList ds p := hA0
  rw [Tryd.params3] at hA hval
  obtain ⟨v0, vs0, d0, ds0, p0, q0, hargs, rfl, rfl, h0, r0⟩ := trodAll_cons hA
  obtain ⟨v1, vs1, d1, ds1, p1, q1, rfl, rfl, rfl, h1, r1⟩ := trodAll_cons r0
  obtain ⟨v2, vs2, d2, ds2, p2, q2, rfl, rfl, rfl, h2, r2⟩ := trodAll_cons r1
  obtain ⟨v3, vs3, d3, ds3, p3, q3, rfl, rfl, rfl, h3, r3⟩ := trodAll_cons r2
  obtain ⟨rfl, rfl, rfl⟩ := trodAll_nil r3
  obtain rfl : args = #[v0, v1, v2, v3] := by cases args; simp_all
  refine (TextTypes_walk enc W base h0 h1 h2 h3 (hval 0 _ v0 rfl rfl) (hval 1 _ v1 rfl rfl) (hval 2 _ v2 rfl rfl) (hval 3 _ v3 rfl rfl) hso).mono fun e W' ⟨he, hb⟩ => ?_
  subst he
  exact ⟨_, rfl, law_post (tb := _) rfl hW' rfl rfl (by kernel_rfl) (by kernel_rfl) (of_decide_eq_true (by kernel_rfl)) hb⟩
noncomputable def world (os : Os) : World := World.laidAll Tryd.prog os Rows.textTypesRow.laid
theorem reads (os : Os) {H : Type} (enc : TypeId × Value → H) : ∃ x, DataW.whole enc Tryd.prog ((world os).forCall (fun _ _ => 0) ⟨#[], #[.agg #[.slice none 0 0], .string ⟨#[]⟩, .agg #[.int .i64 0, .int .i64 0, .int .i64 0, .int .i64 0, .bool false], .agg #[.int .i64 0, .int .i64 0, .int .i64 0, .slice none 0 0, .slice none 0 0, .slice none 0 0]], []⟩).memory Tryd.f3.params.toList Rows.textTypesSpec.vars false (#[.agg #[.slice none 0 0], .string ⟨#[]⟩, .agg #[.int .i64 0, .int .i64 0, .int .i64 0, .int .i64 0, .bool false], .agg #[.int .i64 0, .int .i64 0, .int .i64 0, .slice none 0 0, .slice none 0 0, .slice none 0 0]] : Array Value).toList 8 = some x :=
  Option.isSome_iff_exists.1 (by kernel_rfl)
set_option maxRecDepth 100000 in
theorem lifted (os : Os) (started : os.Started) (H : Type) (enc : TypeId × Value → H) (F : Stop.Interp) :
    ReturnsInHanded {} Tryd.checked os 3 .any ((OpenSpec.ofChange Rows.textTypesSpec).preRow enc Tryd.prog Tryd.f3 Rows.textTypesRow.domain false Rows.textTypesRow.laid) (((OpenSpec.ofChange Rows.textTypesSpec).at F).post enc Tryd.prog Tryd.f3 false true false false) := by
  obtain ⟨x, hx⟩ := reads os enc
  refine returnsInHanded_of_row (C := Tryd.checked) (s := OpenSpec.ofChange Rows.textTypesSpec) own started (by kernel_rfl) Tryd.func3
    ⟨world os, fun _ _ => 0, ⟨#[], #[.agg #[.slice none 0 0], .string ⟨#[]⟩, .agg #[.int .i64 0, .int .i64 0, .int .i64 0, .int .i64 0, .bool false], .agg #[.int .i64 0, .int .i64 0, .int .i64 0, .slice none 0 0, .slice none 0 0, .slice none 0 0]], []⟩, World.laidAll_os _ _ _, World.shaped_of_ZipB (by kernel_rfl) (by kernel_rfl), rfl, (Input.okWide_of_okWideB (by kernel_rfl)).2,
      OpenSpec.preRow_of_cond 8 hx (by kernel_rfl) (fun k hk => by cases hk) (by kernel_rfl) (by rw [MakeChecks.laidMetH_plain _ _ _ (by kernel_rfl)]; exact laidMet_laidAll _ (by kernel_rfl) (by kernel_rfl)),
      by simp only [Assume.holds]; exact ⟨by simp, by simp, by simp, by simp, by simp⟩⟩ ?_
  intro W base args ds gs before hval hW _ _ _ hL hso _
  exact contract H enc W base args ds gs before hval hW hso
theorem proved : Rows.TextTypesSaid :=
  OpenClaim.holds_of_cond 3 Tryd.f3 rfl rfl rfl rfl rfl rfl rfl ⟨rfl, rfl, rfl, rfl, rfl⟩ rfl rfl rfl rfl rfl (by kernel_rfl) Tryd.func3 (by kernel_rfl)
    (of_decide_eq_true (by kernel_rfl)) (by unfold Func.isWrapper; first | (rw [if_pos (by decide +kernel)]; kernel_rfl) | (rw [if_neg (by decide +kernel)]; exact ⟨rfl, rfl⟩))
    (fun os started H enc _ F => by rw [OpenClaim.pre_eq_preRow]; exact lifted os started H enc F)
theorem card : Rows.TextTypesCardSaid :=
  Claim7.holds_tied_plain_at .later [] [.data, .pinned] true (true, "630f3b267723d0ada23b81ff408f50557b238f71edaab69adca131efa6b114fb") false proved (fun _ h => by cases h) (by kernel_rfl) (fun _ h => by cases h) textTypes_row_tie rfl ⟨rfl, rfl⟩ (by kernel_rfl) rfl
    (fun f fn hf hfn => by
      obtain rfl : f = 3 := Option.some.inj ((show Tryd.prog.funcNamed "easement/easementlaw38.TextTypes" = some 3 by kernel_rfl).symm.trans hf) |>.symm
      obtain rfl : fn = Tryd.f3 := (Option.some.inj (Tryd.func3.symm.trans hfn)).symm
      exact ⟨by kernel_rfl, fun j t ht => by
        rw [Tryd.params3] at ht
        have hm : t ∈ [24, 9, 26, 29] := by simpa using Array.mem_of_getElem? ht
        have hall : ([24, 9, 26, 29].all fun u => !Tryd.prog.wantsStandIn u) = true := by kernel_rfl
        exact (show Tryd.prog.wantsStandIn t = false by simpa using List.all_eq_true.1 hall t hm)⟩)
    (by kernel_rfl)
end Go.Proofs.YteciehjlefldmaaDoor.textTypesFrame
