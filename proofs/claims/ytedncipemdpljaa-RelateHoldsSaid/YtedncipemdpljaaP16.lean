/- What layer 16's functions compute (needs), in plain words; its laws. -/
import Derived.Test.YtedncipemdpljaaQ15
namespace Go.Proofs.Ytedncipemdpljaa
open Go.RowKit
set_option linter.unusedVariables false
abbrev Nd := Int × Int × Int × Int × Bool
/-- What slots need, place by place. -/
def rel1 (kind f : Int) (x y : St) : List Nd := (x.1, y.1, kind, f, false) :: if y.2 then [(y.1, x.1, kind, f, true)] else []
def rel (kind f : Int) : List St → List St → List Nd
  | x :: xs, y :: ys => rel1 kind f x y ++ rel kind (f + 1) xs ys
  | _, _ => []
theorem rel_snoc (kind : Int) (x y : St) : ∀ (xs ys : List St) (f : Int), xs.length = ys.length → rel kind f (xs ++ [x]) (ys ++ [y]) = rel kind f xs ys ++ rel1 kind (f + xs.length) x y
  | [], [], f, _ => by simp [rel]
  | [], _ :: _, f, h => by simp at h
  | _ :: _, [], f, h => by simp at h
  | a :: xs, b :: ys, f, h => by
    simp only [List.cons_append, rel, rel_snoc kind x y xs ys (f + 1) (by simpa using h), List.append_assoc, List.length_cons]
    rw [show f + 1 + (xs.length : Int) = f + ((xs.length + 1 : Nat) : Int) by omega]
theorem rel_len (kind : Int) (xs ys : List St) (f : Int) : (rel kind f xs ys).length ≤ 2 * xs.length := by
  induction xs generalizing ys f with
  | nil => simp [rel]
  | cons a xs ih => cases ys with
    | nil => simp [rel]
    | cons b ys =>
      have := ih ys (f + 1)
      cases hb : b.2 <;> simp [rel, rel1, hb] <;> omega
theorem related_eq (xa xb : List St) (kind f : Int) (hl : xa.length = xb.length) (hn : xa.length ≤ 30) (hf : -9223372036854775808 ≤ f) (hf2 : f ≤ 1099511627776) (c : List Nd) (hc : c.length ≤ 10) :
    fn_ref16_slots_rkkii xa xb kind f c = some (c ++ rel kind f xa xb) := by
  unfold fn_ref16_slots_rkkii
  have h := loop_carry (body := fn_ref16_slots_rkkii_l1 xa xb kind f) xa (fun k => c ++ rel kind f (xa.take k) (xb.take k)) (c ++ rel kind f xa xb) ?_ ?_
  · simp only [List.take_zero, rel, List.append_nil] at h
    rw [h]; rfl
  · intro k h
    have h2 : k < xb.length := by omega
    have hlen := rel_len kind (xa.take k) (xb.take k) f
    simp only [List.length_take] at hlen
    have hw : IntKind.wrap .i64 (f + (k : Int)) = f + k := w64 (by omega) (by omega)
    unfold fn_ref16_slots_rkkii_l1
    rw [take_snoc h, take_snoc h2, rel_snoc _ _ _ _ _ _ (by simp; omega)]
    have e : (xa.take k).length = k := by simp; omega
    rw [e]
    cases hb : xb[k].2 with
    | true =>
      simp [getN h, getN h2, h, hb, w64s h (by omega), hw, rel1]
      rw [app_eq (by simp; omega)]
      simp
      rw [app_eq (by simp; omega)]
      simp
    | false =>
      simp [getN h, getN h2, h, hb, w64s h (by omega), hw, rel1]
      rw [app_eq (by simp; omega)]
      simp
  · have e : xb.take xa.length = xb := by rw [hl, List.take_length]
    simp [fn_ref16_slots_rkkii_l1, e]
theorem related_slots (xa xb : List St) (kind f : Int) : fn_relate_related xa xb kind f = fn_ref16_slots_rkkii xa xb kind f [] := rfl
theorem relFlow_eq (xa xb : List St) (kind f : Int) (hn : xa.length ≤ 30) (hf : -9223372036854775808 ≤ f) (hf2 : f ≤ 1099511627776) : fn_relate_Flow xa xb kind f = some (if shp xa xb then (rel kind f xa xb, 0) else ([], 8)) := by
  unfold fn_relate_Flow
  rw [rowShape_eq _ _ (by omega), Option.bind_some]
  cases hs : shp xa xb with
  | false => rfl
  | true => rw [Bool.not_true, cond_false, related_slots, related_eq xa xb kind f (shp_len' hs) hn hf hf2 [] (by simp)]; simp
theorem refFlow_eq (xa xb : List St) (kind f : Int) (hn : xa.length ≤ 30) (hf : -9223372036854775808 ≤ f) (hf2 : f ≤ 1099511627776) : fn_ref16_Flow xa xb kind f = some (if shp xa xb then (rel kind f xa xb, 0) else ([], 8)) := by
  unfold fn_ref16_Flow
  rw [refShape_eq _ _ (by omega), Option.bind_some]
  cases hs : shp xa xb with
  | false => rfl
  | true => rw [Bool.not_true, cond_false, related_eq xa xb kind f (shp_len' hs) hn hf hf2 [] (by simp)]; simp
theorem Doc_eq (xa : List Nd) (hn : xa.length ≤ 1000000) : fn_law16_Doc xa = some xa := by
  unfold fn_law16_Doc
  have := loop_map xa (fun x : Nd => x) [] (by simp; omega) (body := fn_law16_Doc_l1 xa) (fun c i => by
    unfold fn_law16_Doc_l1
    cases hg : getI xa i with
    | none => simp [hg]
    | some x => simp [hg])
  rw [this]; simp
theorem refSame_eq (xa xb : List Nd) (hn : xa.length ≤ 1000000) : fn_ref16_Same xa xb = some (decide (xa = xb)) := by
  unfold fn_ref16_Same
  by_cases hl : xa.length = xb.length
  · rw [dlen hl, cond_false, loop_alike (body := fn_ref16_Same_l1 xa xb) xa xb (.inr false) (.inl ()) hl ?_ ?_]
    · by_cases h : xa = xb <;> simp [h]
    · intro k h; unfold fn_ref16_Same_l1
      have h2 : k < xb.length := by omega
      simp only [getN h, getN h2, dlt h, w64s h (by omega : xa.length ≤ 9223372036854775807), Option.bind_some, cond_true, beq_dec, ← Bool.decide_and]
      generalize xa[k] = x
      generalize xb[k] = y
      obtain ⟨x1, x2, x3, x4, x5⟩ := x
      obtain ⟨y1, y2, y3, y4, y5⟩ := y
      by_cases q : x1 = y1 ∧ x2 = y2 ∧ x3 = y3 ∧ x4 = y4 ∧ x5 = y5 <;> simp [q]
    · simp [fn_ref16_Same_l1]
  · rw [dlen' hl, cond_true]
    have : ¬ xa = xb := fun h => hl (by rw [h])
    simp [this]
theorem awake16 : fn_law16_awake = some true := by
  unfold fn_law16_awake
  rw [relFlow_eq _ _ _ _ (by simp) (by omega) (by omega)]
  simp only [shp, List.map_cons, List.map_nil, decide_true, if_true, Option.bind_some, cond_true, rel, rel1]
  rw [Doc_eq _ (by simp), Option.bind_some, refSame_eq _ _ (by simp)]
  simp
def lo (n : Int) (m : Bool) (xa xb : List St) : List Nd × Int :=
  if shp ((n, false) :: xa.map fun x => (x.1, x.2 || m)) xb then ((n, (xb.head?.getD (0, false)).1, 2, 0, false) :: rel 1 1 xa (xb.drop 1), 0) else ([], 8)
theorem lo_len {n : Int} {m : Bool} {xa xb : List St} (h : shp ((n, false) :: xa.map fun x => (x.1, x.2 || m)) xb = true) : xb.length = xa.length + 1 := by
  have := shp_len' h; simp at this; omega
theorem relLoan_eq (xa xb : List St) (n : Int) (m : Bool) (hn : xa.length ≤ 30) : fn_relate_Loan xa xb n m = some (lo n m xa xb) := by
  unfold fn_relate_Loan lo
  rw [rowRef_eq _ _ _ (by omega), Option.bind_some, shp_comm]
  by_cases hb : xb.length ≤ 1000
  · rw [rowShape_eq _ _ (by omega), Option.bind_some]
    cases hs : shp xb ((n, false) :: xa.map fun x => (x.1, x.2 || m)) with
    | false => rfl
    | true =>
      have hl := lo_len (by rw [shp_comm]; exact hs)
      cases xb with
      | nil => simp at hl
      | cons y ys =>
        have hl2 : xa.length = ys.length := by simpa using hl.symm
        rw [Bool.not_true, cond_false, show getI (y :: ys) 0 = some y from rfl, Option.bind_some, sub1 (by simp), Option.bind_some, related_slots, related_eq _ _ _ _ (by simpa using hl2) hn (by omega) (by omega) _ (by simp)]
        have := rel_len 1 xa ys 1
        simp only [List.nil_append, Option.bind_some, List.drop_succ_cons, List.drop_zero]
        rw [app_eq (by simp; omega)]
        simp
  · have hs : shp xb ((n, false) :: xa.map fun x => (x.1, x.2 || m)) = false := shp_len (by simp; omega)
    unfold fn_row_Shape fn_slices_EqualFunc_api_Slot_api_Slot_api_Slot_api_Slot_kk_row_Shape_1
    rw [dlen' (by simp; omega), cond_true, hs]; rfl
theorem refLoan_eq (xa xb : List St) (n : Int) (m : Bool) (hn : xa.length ≤ 30) : fn_ref16_Loan xa xb n m = some (lo n m xa xb) := by
  unfold fn_ref16_Loan lo
  rw [refRef_eq _ _ _ (by omega), Option.bind_some, refShape_eq _ _ (by simp; omega), Option.bind_some]
  cases hs : shp ((n, false) :: xa.map fun x => (x.1, x.2 || m)) xb with
  | false => rfl
  | true =>
    have hl := lo_len hs
    cases xb with
    | nil => simp at hl
    | cons y ys =>
      have hl2 : xa.length = ys.length := by simpa using hl.symm
      rw [Bool.not_true, cond_false, show getI (y :: ys) 0 = some y from rfl, Option.bind_some, sub1 (by simp), Option.bind_some, related_eq _ _ _ _ (by simpa using hl2) hn (by omega) (by omega) _ (by simp)]
      simp
def ag (n : Int) (m : Bool) (xa xb : List St) : List Nd × Int :=
  match xa, xb with
  | x :: xs, y :: ys => if x.2 || !shp (x :: xs) (y :: ys) || (m && xs.any (fun z => !z.2)) then ([], 8) else ((x.1, n, 3, 0, false) :: (n, y.1, 2, 0, false) :: rel 1 1 xs ys, 0)
  | _, _ => ([], 8)
theorem may_eq (xa xb : List St) (m : Bool) (hn : xa.length ≤ 30) : fn_relate_mayBorrowAgain xa xb m = some (match xa with | [] => false | x :: xs => !(x.2 || !shp xa xb || (m && xs.any (fun z => !z.2)))) := by
  unfold fn_relate_mayBorrowAgain
  cases xa with
  | nil => rfl
  | cons x xs =>
    have e0 : decide ((((x :: xs).length : Nat) : Int) = 0) = false := by simp; omega
    rw [e0, cond_false, show getI (x :: xs) 0 = some x from rfl, Option.bind_some, Option.bind_some]
    cases hx : x.2 with
    | true => simp [hx]
    | false =>
      rw [cond_false, rowShape_eq _ _ (by omega), Option.bind_some, Option.bind_some]
      cases hs : shp (x :: xs) xb with
      | false => simp
      | true =>
        rw [Bool.not_true, cond_false, sub1 (by simp), Option.bind_some]
        unfold fn_slices_ContainsFunc_api_Slot_api_Slot_k_relate_mayBorrowAgain_1 fn_slices_IndexFunc_api_Slot_api_Slot_k_relate_mayBorrowAgain_1
        rw [loop_search (List.drop 1 (x :: xs)) (fun z : St => !z.2) (fun k => .inr (k : Int)) (.inl ()) ?_ ?_]
        · simp only [List.drop_succ_cons, List.drop_zero]
          cases h : xs.findIdx? (fun z : St => !z.2) with
          | none =>
            have : xs.any (fun z : St => !z.2) = false := by
              rw [List.any_eq_false]; intro z hz; have := List.findIdx?_eq_none_iff.1 h z hz; simpa using this
            simp [this, hx]
          | some k =>
            obtain ⟨hk, h1, _⟩ := List.findIdx?_eq_some_iff_getElem.1 h
            have : xs.any (fun z : St => !z.2) = true := List.any_eq_true.2 ⟨_, List.getElem_mem hk, h1⟩
            simp [this, hx]
        · intro k h
          unfold fn_slices_IndexFunc_api_Slot_api_Slot_k_relate_mayBorrowAgain_1_l1 fn_relate_mayBorrowAgain_1
          simp only [List.drop_succ_cons, List.drop_zero] at h ⊢
          have hn' : xs.length ≤ 30 := by simp at hn; omega
          cases hz : xs[k].2 <;> simp [getN h, h, w64s h (by omega), hz]
        · simp [fn_slices_IndexFunc_api_Slot_api_Slot_k_relate_mayBorrowAgain_1_l1]
theorem relAgain_eq (xa xb : List St) (n : Int) (m : Bool) (hn : xa.length ≤ 30) : fn_relate_Again xa xb n m = some (ag n m xa xb) := by
  unfold fn_relate_Again
  rw [may_eq _ _ _ hn, Option.bind_some]
  cases xa with
  | nil => rfl
  | cons x xs =>
    simp only [ag, Bool.not_not]
    by_cases hc : (x.2 || !shp (x :: xs) xb || (m && xs.any (fun z => !z.2))) = true
    · rw [hc]; cases xb <;> simp_all
    · have hc' : (x.2 || !shp (x :: xs) xb || (m && xs.any (fun z => !z.2))) = false := by simpa using hc
      have hs : shp (x :: xs) xb = true := by
        cases q : shp (x :: xs) xb with
        | true => rfl
        | false => rw [q] at hc'; simp at hc'
      have hl := shp_len' hs
      cases xb with
      | nil => simp at hl
      | cons y ys =>
        simp only [hc', cond_false, if_false, show getI (x :: xs) 0 = some x from rfl, show getI (y :: ys) 0 = some y from rfl, Option.bind_some, sub1 (show 1 ≤ (x :: xs).length by simp), sub1 (show 1 ≤ (y :: ys).length by simp), List.drop_succ_cons, List.drop_zero, Bool.false_eq_true]
        have hl2 : xs.length = ys.length := by simpa using hl
        rw [related_slots, related_eq _ _ _ _ hl2 (by simp at hn; omega) (by omega) (by omega) _ (by simp), Option.bind_some]
        have := rel_len 1 xs ys 1
        simp at hn
        rw [app_eq (by simp; omega)]
        simp
theorem refAgain_eq (xa xb : List St) (n : Int) (m : Bool) (hn : xa.length ≤ 30) : fn_ref16_Again xa xb n m = some (ag n m xa xb) := by
  unfold fn_ref16_Again
  cases xa with
  | nil => rfl
  | cons x xs =>
    have e0 : decide ((((x :: xs).length : Nat) : Int) = 0) = false := by simp; omega
    rw [e0, cond_false, refShape_eq _ _ (by omega), Option.bind_some, Option.bind_some]
    cases hs : shp (x :: xs) xb with
    | false => cases xb <;> simp [ag, hs]
    | true =>
      have hl := shp_len' hs
      cases xb with
      | nil => simp at hl
      | cons y ys =>
        have hl2 : xs.length = ys.length := by simpa using hl
        simp only [Bool.not_true, cond_false, show getI (x :: xs) 0 = some x from rfl, show getI (y :: ys) 0 = some y from rfl, Option.bind_some]
        cases hx : x.2 with
        | true => simp [ag, hx]
        | false =>
          have hn' : xs.length ≤ 29 := by simp at hn; omega
          have hloop : loop (fn_ref16_Again_l1 (x :: xs) m) 1 = some (if (m && xs.any (fun z => !z.2)) then .inr ([], 8) else .inl ()) := by
            have := loop_any (body := fn_ref16_Again_l1 (x :: xs) m) (fun k => (m && (xs[k]?.any (fun z => !z.2))) = true) (fun k => ((k + 1 : Nat) : Int)) xs.length (.inr ([], 8)) (.inl ()) ?_ ?_ ?_
            · rw [show ((1 : Int)) = ((0 + 1 : Nat) : Int) from rfl, this]
              congr 1
              by_cases hq : (m && xs.any (fun z => !z.2)) = true
              · rw [if_pos hq, if_pos]
                simp only [Bool.and_eq_true] at hq
                obtain ⟨z, hz, hz2⟩ := List.any_eq_true.1 hq.2
                obtain ⟨k, hk, rfl⟩ := List.getElem_of_mem hz
                exact ⟨k, hk, by simp [hq.1, hk]; simpa using hz2⟩
              · rw [if_neg hq, if_neg]
                rintro ⟨k, hk, hk2⟩
                apply hq
                simp [hk] at hk2
                rw [hk2.1, Bool.true_and]
                exact List.any_eq_true.2 ⟨_, List.getElem_mem hk, by simpa using hk2.2⟩
            · intro k hk hp
              have h2 : k + 1 < (x :: xs).length := by simp; omega
              simp [hk] at hp
              unfold fn_ref16_Again_l1
              rw [dlt h2, cond_true, w64s h2 (by simp; omega)]
              cases m with
              | false => simp
              | true => simp [getN1 h2, hp rfl]
            · intro k hk hp
              have h2 : k + 1 < (x :: xs).length := by simp; omega
              simp [hk] at hp
              unfold fn_ref16_Again_l1
              rw [dlt h2, cond_true]
              simp [getN1 h2, hp.1, hp.2]
            · simp [fn_ref16_Again_l1]
          rw [hloop]
          by_cases hq : (m && xs.any (fun z => !z.2)) = true
          · simp [ag, hx, hs, hq]
          · have hq' : (m && xs.any (fun z => !z.2)) = false := by simpa using hq
            rw [hq']
            simp only [cond_false, Option.bind_some, if_false, sub1 (show 1 ≤ (x :: xs).length by simp), sub1 (show 1 ≤ (y :: ys).length by simp), List.drop_succ_cons, List.drop_zero, Bool.false_eq_true]
            rw [related_eq _ _ _ _ hl2 (by omega) (by omega) (by omega) _ (by simp)]
            simp [ag, hx, hs, hq']
theorem lo_bound (n : Int) (m : Bool) (xa xb : List St) (h : xa.length ≤ 30) : (lo n m xa xb).1.length ≤ 100 := by
  unfold lo
  have := rel_len 1 xa (xb.drop 1) 1
  simp at this
  split <;> simp; omega
theorem ag_bound (n : Int) (m : Bool) (xa xb : List St) (h : xa.length ≤ 30) : (ag n m xa xb).1.length ≤ 100 := by
  unfold ag
  split
  · rename_i x xs y ys
    have := rel_len 1 xs ys 1
    simp at h
    split <;> simp; omega
  · simp
theorem RelateNeeds_true (xa : (List (Int × Bool))) (xb : (List (Int × Bool))) (xc : Int) (xd : Int) (xe : Int) (xf : Bool) (k0 : Tp.Ok (.one (.sl (.cons (.int .i64) (.one .bool)))) xa) (k1 : Tp.Ok (.one (.sl (.cons (.int .i64) (.one .bool)))) xb) (k2 : Tp.Ok (.int .i64) xc) (k3 : Tp.Ok (.int .i64) xd) (k4 : Tp.Ok (.int .i64) xe) (k5 : Tp.Ok .bool xf) : fn_law16_RelateNeeds xa xb xc xd xe xf = some true := by
  unfold fn_law16_RelateNeeds
  rw [Few_eq, Few_eq, awake16]
  by_cases h : xa.length ≤ 20
  · by_cases h2 : xb.length ≤ 20
    · by_cases h3 : xe ≤ 1099511627776
      · have e1 : decide ((xa.length : Int) ≤ 20) = true := by simp; omega
        have e2 : decide ((xb.length : Int) ≤ 20) = true := by simp; omega
        have e3 : decide ((1099511627776 : Int) < xe) = false := by simp; omega
        have hx := ok64 k4
        rw [relFlow_eq _ _ _ _ (by omega) hx.1 h3, refFlow_eq _ _ _ _ (by omega) hx.1 h3, relLoan_eq _ _ _ _ (by omega), refLoan_eq _ _ _ _ (by omega), relAgain_eq _ _ _ _ (by omega), refAgain_eq _ _ _ _ (by omega)]
        have b1 := lo_bound xc xf xa xb (by omega)
        have b2 := ag_bound xc xf xa xb (by omega)
        have b3 : (if shp xa xb then (rel xd xe xa xb, (0 : Int)) else ([], 8)).1.length ≤ 100 := by
          have := rel_len xd xa xb xe
          split <;> simp; omega
        generalize (if shp xa xb then (rel xd xe xa xb, (0 : Int)) else ([], 8)) = A at b3 ⊢
        generalize lo xc xf xa xb = B at b1 ⊢
        generalize ag xc xf xa xb = C at b2 ⊢
        obtain ⟨A1, A2⟩ := A
        obtain ⟨B1, B2⟩ := B
        obtain ⟨C1, C2⟩ := C
        dsimp only at b1 b2 b3
        simp only [e1, e2, e3, Option.bind_some, cond_false, Bool.not_true, Bool.or_false, Bool.false_eq_true]
        rw [Doc_eq _ (by omega), Doc_eq _ (by omega), Doc_eq _ (by omega)]
        simp only [Option.bind_some]
        rw [refSame_eq _ _ (by omega), refSame_eq _ _ (by omega), refSame_eq _ _ (by omega)]
        simp
      · have : decide ((1099511627776 : Int) < xe) = true := by simp; omega
        simp only [this, Bool.or_true, cond_true, Option.bind_some]
        by_cases q : (!decide ((xa.length : Int) ≤ 20)) = true
        · rw [q]; simp
        · have : (!decide ((xa.length : Int) ≤ 20)) = false := by simpa using q
          rw [this]; simp
    · have e1 : decide ((xa.length : Int) ≤ 20) = true := by simp; omega
      have : decide (((xb.length : Nat) : Int) ≤ 20) = false := by simp; omega
      simp [this, e1]
  · have : decide (((xa.length : Nat) : Int) ≤ 20) = false := by simp; omega
    simp [this]
theorem all_find {α : Type} (l : List α) (f : α → Bool) : l.all f = (l.findIdx? (fun n => !f n)).isNone := by
  cases h : l.findIdx? (fun n => !f n) with
  | none =>
    rw [List.findIdx?_eq_none_iff] at h
    rw [List.all_eq_true.2 (fun x hx => by simpa using h x hx)]; rfl
  | some k =>
    obtain ⟨hk, h1, _⟩ := List.findIdx?_eq_some_iff_getElem.1 h
    have : l.all f = false := by
      rw [List.all_eq_false]; exact ⟨_, List.getElem_mem hk, by simpa using h1⟩
    rw [this]; rfl
theorem holds_alike (l : List Nd) (hn : l.length ≤ 1000000) : fn_relate_Holds_k_law16_alike l = some (l.all fun n => decide (n.1 = n.2.1)) := by
  unfold fn_relate_Holds_k_law16_alike fn_slices_ContainsFunc_relate_Need_relate_Need_k_relate_Holds_1_p0__law16_alike fn_slices_IndexFunc_relate_Need_relate_Need_k_relate_Holds_1_p0__law16_alike
  rw [loop_search l (fun n : Nd => !decide (n.1 = n.2.1)) (fun k => .inr (k : Int)) (.inl ()) ?_ ?_]
  · rw [all_find]
    cases h : l.findIdx? (fun n : Nd => !decide (n.1 = n.2.1)) <;> simp
  · intro k h
    unfold fn_slices_IndexFunc_relate_Need_relate_Need_k_relate_Holds_1_p0__law16_alike_l1 fn_relate_Holds_1_ap0__law16_alike fn_law16_alike
    generalize hx : l[k] = x
    cases hz : decide (x.1 = x.2.1) <;> first | (simp at hz; done) | simp [getN h, h, hx, hz, w64s h (by omega)]
  · simp [fn_slices_IndexFunc_relate_Need_relate_Need_k_relate_Holds_1_p0__law16_alike_l1]
theorem holds_above (l : List Nd) (hn : l.length ≤ 1000000) : fn_relate_Holds_k_law16_above l = some (l.all fun n => decide (n.2.1 ≤ n.1)) := by
  unfold fn_relate_Holds_k_law16_above fn_slices_ContainsFunc_relate_Need_relate_Need_k_relate_Holds_1_p0__law16_above fn_slices_IndexFunc_relate_Need_relate_Need_k_relate_Holds_1_p0__law16_above
  rw [loop_search l (fun n : Nd => !decide (n.2.1 ≤ n.1)) (fun k => .inr (k : Int)) (.inl ()) ?_ ?_]
  · rw [all_find]
    cases h : l.findIdx? (fun n : Nd => !decide (n.2.1 ≤ n.1)) <;> simp
  · intro k h
    unfold fn_slices_IndexFunc_relate_Need_relate_Need_k_relate_Holds_1_p0__law16_above_l1 fn_relate_Holds_1_ap0__law16_above fn_law16_above
    generalize hx : l[k] = x
    cases hz : decide (x.2.1 ≤ x.1) <;> first | (simp at hz; done) | simp [getN h, h, hx, hz, w64s h (by omega)]
  · simp [fn_slices_IndexFunc_relate_Need_relate_Need_k_relate_Holds_1_p0__law16_above_l1]
theorem holds_always (l : List Nd) (hn : l.length ≤ 1000000) : fn_relate_Holds_k_law16_always l = some (l.all fun n => true) := by
  unfold fn_relate_Holds_k_law16_always fn_slices_ContainsFunc_relate_Need_relate_Need_k_relate_Holds_1_p0__law16_always fn_slices_IndexFunc_relate_Need_relate_Need_k_relate_Holds_1_p0__law16_always
  rw [loop_search l (fun n : Nd => !true) (fun k => .inr (k : Int)) (.inl ()) ?_ ?_]
  · rw [all_find]
    cases h : l.findIdx? (fun n : Nd => !true) <;> simp
  · intro k h
    unfold fn_slices_IndexFunc_relate_Need_relate_Need_k_relate_Holds_1_p0__law16_always_l1 fn_relate_Holds_1_ap0__law16_always fn_law16_always
    generalize hx : l[k] = x
    cases hz : true <;> first | (simp at hz; done) | simp [getN h, h, hx, hz, w64s h (by omega)]
  · simp [fn_slices_IndexFunc_relate_Need_relate_Need_k_relate_Holds_1_p0__law16_always_l1]
theorem rel_self (kind f : Int) (xs : List St) : ∀ n ∈ rel kind f xs xs, n.1 = n.2.1 := by
  induction xs generalizing f with
  | nil => simp [rel]
  | cons x xs ih =>
    intro n hn
    simp only [rel, rel1, List.mem_append, List.mem_cons] at hn
    rcases hn with (rfl | hn) | hn
    · rfl
    · split at hn
      · simp at hn; rw [hn]
      · simp at hn
    · exact ih _ n hn
theorem holdsLoop (l m : List Nd) (hm : m.length ≤ 1000000) : loop fn_law16_RelateHolds_l1 (l, m, true, true, 0) = some (l, m, m.all (fun n => decide (n.1 = n.2.1)), m.all (fun n => decide (n.2.1 ≤ n.1))) := by
  have h := loop_nat (body := fn_law16_RelateHolds_l1) (fun k : Nat => (l, m, (m.take k).all (fun n => decide (n.1 = n.2.1)), (m.take k).all (fun n => decide (n.2.1 ≤ n.1)), (k : Int))) m.length (b := (l, m, m.all (fun n => decide (n.1 = n.2.1)), m.all (fun n => decide (n.2.1 ≤ n.1)))) ?_ ?_
  · simpa using h
  · intro k h
    have e1 : ∀ f : Nd → Bool, (m.take (k + 1)).all f = ((m.take k).all f && f m[k]) := fun f => by rw [take_snoc h, List.all_append]; simp
    unfold fn_law16_RelateHolds_l1
    rw [e1, e1]
    generalize (m.take k).all (fun n => decide (n.1 = n.2.1)) = a
    generalize (m.take k).all (fun n => decide (n.2.1 ≤ n.1)) = b
    cases a <;> cases b <;> simp [getN h, h, w64s h (by omega)]
  · simp [fn_law16_RelateHolds_l1]
theorem RelateHolds_true (xa : (List (Int × Bool))) (xb : (List (Int × Bool))) (k0 : Tp.Ok (.one (.sl (.cons (.int .i64) (.one .bool)))) xa) (k1 : Tp.Ok (.one (.sl (.cons (.int .i64) (.one .bool)))) xb) : fn_law16_RelateHolds xa xb = some true := by
  unfold fn_law16_RelateHolds
  rw [Few_eq, Few_eq, awake16]
  by_cases h : xa.length ≤ 20
  · by_cases h2 : xb.length ≤ 20
    · have e1 : decide ((xa.length : Int) ≤ 20) = true := by simp; omega
      have e2 : decide ((xb.length : Int) ≤ 20) = true := by simp; omega
      have hs : shp xa xa = true := by simp [shp]
      rw [relFlow_eq _ _ _ _ (by omega) (by omega) (by omega), relFlow_eq _ _ _ _ (by omega) (by omega) (by omega), hs]
      have l1 := rel_len 1 xa xa 0
      have s1 := rel_self 1 0 xa
      have b3 : (if shp xa xb then (rel 1 0 xa xb, (0 : Int)) else ([], 8)).1.length ≤ 100 := by
        have := rel_len 1 xa xb 0
        split <;> simp; omega
      have b4 : (decide ((if shp xa xb then (rel 1 0 xa xb, (0 : Int)) else ([], 8)).2 = 0) || decide ((((if shp xa xb then (rel 1 0 xa xb, (0 : Int)) else ([], 8)).1.length : Nat) : Int) = 0)) = true := by
        split <;> simp
      generalize (if shp xa xb then (rel 1 0 xa xb, (0 : Int)) else ([], 8)) = A at b3 b4 ⊢
      obtain ⟨A1, A2⟩ := A
      dsimp only at b3 b4
      simp only [e1, e2, Option.bind_some, cond_false, Bool.not_true, if_true]
      rw [holdsLoop _ _ (by omega)]
      simp only [Option.bind_some]
      rw [holds_alike _ (by omega), holds_alike _ (by omega), holds_always _ (by omega), holds_above _ (by omega)]
      have s2 : (rel 1 0 xa xa).all (fun n => decide (n.1 = n.2.1)) = true := by
        rw [List.all_eq_true]; intro n hn; simp [s1 n hn]
      have s3 : A1.all (fun _ => true) = true := by simp
      rw [s2, s3, b4]
      simp
    · have e1 : decide ((xa.length : Int) ≤ 20) = true := by simp; omega
      have : decide (((xb.length : Nat) : Int) ≤ 20) = false := by simp; omega
      simp [this, e1]
  · have : decide (((xa.length : Nat) : Int) ≤ 20) = false := by simp; omega
    simp [this]
/-! ### What leads on. -/
/-- How many ends of needs are not among the met ones. -/
def lack (l : List Nd) (ins : List Int) : Nat := (l.map (·.2.1)).countP (fun x => !ins.contains x)
theorem lack_less {l : List Nd} {ins : List Int} {x : Int} (h1 : x ∈ l.map (·.2.1)) (h2 : x ∉ ins) : lack l (ins ++ [x]) < lack l ins := by
  unfold lack
  generalize l.map (·.2.1) = m at h1
  induction m with
  | nil => simp at h1
  | cons y m ih =>
    have mono : m.countP (fun z => !(ins ++ [x]).contains z) ≤ m.countP (fun z => !ins.contains z) := by
      apply List.countP_mono_left
      intro z _ hz
      simp at hz ⊢; exact hz.1
    rw [List.countP_cons, List.countP_cons]
    by_cases hy : y = x
    · subst hy
      simp [h2]; simp at mono; omega
    · have h3 := ih (by simpa [Ne.symm hy] using h1)
      have : (!(ins ++ [x]).contains y) = (!ins.contains y) := by simp [hy]
      rw [this]; omega
theorem lack_mono {l : List Nd} {ins x : List Int} : lack l (ins ++ x) ≤ lack l ins := by
  unfold lack
  apply List.countP_mono_left
  intro z _ hz
  simp at hz ⊢; exact hz.1
theorem leads1 (xa : List Nd) (i : Nat) (hi : i < xa.length) (ins : List Int) (hn : ins.length ≤ 1000000) : loop (fn_ref16_Leads_l1 xa (i : Int)) (ins, false, false, 0) = some (ins, ins.contains xa[i].1, ins.contains xa[i].2.1) := by
  have h := loop_nat (body := fn_ref16_Leads_l1 xa (i : Int)) (fun k : Nat => (ins, (ins.take k).contains xa[i].1, (ins.take k).contains xa[i].2.1, (k : Int))) ins.length (b := (ins, ins.contains xa[i].1, ins.contains xa[i].2.1)) ?_ ?_
  · simpa using h
  · intro k h
    have e1 : ∀ a : Int, (ins.take (k + 1)).contains a = ((ins.take k).contains a || decide (ins[k] = a)) := fun a => by
      rw [take_snoc h, List.contains_eq_mem, List.contains_eq_mem, ← Bool.decide_or]
      exact decide_eq_decide.2 (by rw [List.mem_append, List.mem_singleton, eq_comm (a := a)])
    unfold fn_ref16_Leads_l1
    rw [e1, e1]
    generalize (ins.take k).contains xa[i].1 = a
    generalize (ins.take k).contains xa[i].2.1 = b
    cases a <;> cases b <;> simp [getN h, getN hi, h, w64s h (by omega)]
  · simp [fn_ref16_Leads_l1]
theorem leads2 (xa : List Nd) (ins : List Int) (hx : xa.length ≤ 1000) (hn : ins.length ≤ 10000) :
    ∃ r, loop (fn_ref16_Leads_l2 xa) (ins, false, 0) = some r ∧ ∃ more, r.1 = ins ++ more ∧ more.length ≤ xa.length ∧ ((r.2 = false ∧ more = [] ∧ ∀ n ∈ xa, n.1 ∈ ins → n.2.1 ∈ ins) ∨ (r.2 = true ∧ lack xa r.1 < lack xa ins)) := by
  refine loop_inv (fun s => ∃ (k : Nat) (more : List Int), k ≤ xa.length ∧ s.2.2 = (k : Int) ∧ s.1 = ins ++ more ∧ more.length ≤ k ∧ ((s.2.1 = false ∧ more = [] ∧ ∀ n ∈ xa.take k, n.1 ∈ ins → n.2.1 ∈ ins) ∨ (s.2.1 = true ∧ lack xa s.1 < lack xa ins))) (fun s => xa.length - s.2.2.toNat) ?_ ⟨0, [], by omega, rfl, by simp, by simp, .inl ⟨rfl, rfl, by simp⟩⟩
  rintro ⟨l, b, i⟩ ⟨k, more, hk, h1, h2, h3, h4⟩
  dsimp only at h1 h2 h3 h4
  subst h1 h2
  by_cases hlt : k < xa.length
  · left
    unfold fn_ref16_Leads_l2
    dsimp only
    rw [dlt hlt, cond_true, leads1 xa k hlt _ (by simp; omega)]
    simp only [Option.bind_some, getN hlt, w64s hlt (by omega : xa.length ≤ 9223372036854775807)]
    by_cases hc : ((ins ++ more).contains xa[k].1 && !(ins ++ more).contains xa[k].2.1) = true
    · rw [hc, cond_true, app_eq (by simp; omega)]
      simp only [Bool.and_eq_true, Bool.not_eq_true', List.contains_eq_mem, decide_eq_true_eq, decide_eq_false_iff_not] at hc
      have hl : lack xa (ins ++ more ++ [xa[k].2.1]) < lack xa (ins ++ more) := lack_less (List.mem_map.2 ⟨_, List.getElem_mem hlt, rfl⟩) hc.2
      have hm := lack_mono (l := xa) (ins := ins) (x := more)
      refine ⟨_, rfl, ⟨k + 1, more ++ [xa[k].2.1], by omega, rfl, by simp, by simp; omega, .inr ⟨rfl, by dsimp only; omega⟩⟩, by dsimp only; omega⟩
    · rw [show ((ins ++ more).contains xa[k].1 && !(ins ++ more).contains xa[k].2.1) = false by simpa using hc, cond_false]
      refine ⟨_, rfl, ⟨k + 1, more, by omega, rfl, rfl, by omega, ?_⟩, by dsimp only; omega⟩
      rcases h4 with ⟨rfl, rfl, h5⟩ | h5
      · refine .inl ⟨rfl, rfl, fun n hn1 hn2 => ?_⟩
        rw [take_snoc hlt] at hn1
        rcases List.mem_append.1 hn1 with q | q
        · exact h5 n q hn2
        · simp at q; subst q
          simp only [List.append_nil, Bool.and_eq_true, Bool.not_eq_true', List.contains_eq_mem, decide_eq_true_eq, decide_eq_false_iff_not, not_and, Classical.not_not] at hc
          exact hc hn2
      · exact .inr h5
  · right
    have hke : k = xa.length := by omega
    refine ⟨(ins ++ more, b), ?_, more, rfl, by omega, ?_⟩
    · unfold fn_ref16_Leads_l2; simp [hke]
    · rw [hke, List.take_length] at h4; exact h4
theorem lack_le (l : List Nd) (ins : List Int) : lack l ins ≤ l.length := by
  unfold lack; have := List.countP_le_length (p := fun x => !ins.contains x) (l := l.map (·.2.1)); simpa using this
theorem leads3 (xa : List Nd) (a : Int) (hx : xa.length ≤ 50) : ∃ l, loop (fn_ref16_Leads_l3 xa) ([a], true) = some l ∧ a ∈ l ∧ l.length ≤ 10000 ∧ ∀ n ∈ xa, n.1 ∈ l → n.2.1 ∈ l := by
  refine loop_inv (fun s => a ∈ s.1 ∧ s.1.length + lack xa s.1 * 50 ≤ 1 + 50 * 50 ∧ (s.2 = false → ∀ n ∈ xa, n.1 ∈ s.1 → n.2.1 ∈ s.1)) (fun s => 2 * lack xa s.1 + (if s.2 then 1 else 0)) ?_ ⟨by simp, by have := lack_le xa [a]; simp; omega, by simp⟩
  rintro ⟨l, b⟩ ⟨h1, h2, h3⟩
  dsimp only at h1 h2 h3
  cases b with
  | true =>
    left
    obtain ⟨r, h4, more, h5, h6, h7⟩ := leads2 xa l (by omega) (by omega)
    unfold fn_ref16_Leads_l3
    dsimp only
    rw [cond_true, h4]
    obtain ⟨r1, r2⟩ := r
    dsimp only at h5 h7
    subst h5
    rcases h7 with ⟨rfl, rfl, h7⟩ | ⟨rfl, h7⟩
    · rw [List.append_nil]
      exact ⟨_, rfl, ⟨h1, h2, fun _ => h7⟩, by simp⟩
    · exact ⟨_, rfl, ⟨by simp [h1], by dsimp only; rw [List.length_append]; omega, by simp⟩, by simp; omega⟩
  | false =>
    right
    exact ⟨l, rfl, h1, by omega, h3 rfl⟩
theorem Leads_eq (xa : List Nd) (a b : Int) (hx : xa.length ≤ 50) : ∃ l : List Int, fn_ref16_Leads xa a b = some (l.contains b) ∧ a ∈ l ∧ ∀ n ∈ xa, n.1 ∈ l → n.2.1 ∈ l := by
  obtain ⟨l, h1, h2, h3, h4⟩ := leads3 xa a hx
  refine ⟨l, ?_, h2, h4⟩
  unfold fn_ref16_Leads
  rw [h1, Option.bind_some]
  have h := loop_stop (body := fn_ref16_Leads_l4 b) l.length (fun k => (l, (k : Int))) (fun k => if l[k]? = some b then some (.inr true) else none) (.inl ()) ?_ ?_
  · rw [show ((0 : Int)) = ((0 : Nat) : Int) from rfl, h]
    by_cases hb : b ∈ l
    · obtain ⟨k, hk, hb2⟩ := List.getElem_of_mem hb
      have : ∃ y, (List.range l.length).findSome? (fun k => if l[k]? = some b then some (Sum.inr true : Unit ⊕ Bool) else none) = some y ∧ y = .inr true := by
        cases hf : (List.range l.length).findSome? (fun k => if l[k]? = some b then some (Sum.inr true : Unit ⊕ Bool) else none) with
        | none =>
          rw [List.findSome?_eq_none_iff] at hf
          have := hf k (List.mem_range.2 hk)
          simp [hk, hb2] at this
        | some y =>
          obtain ⟨q, _, hq⟩ := List.exists_of_findSome?_eq_some hf
          split at hq
          · exact ⟨y, rfl, (Option.some.inj hq).symm⟩
          · cases hq
      obtain ⟨y, h5, rfl⟩ := this
      rw [h5]; simp [hb]
    · have : (List.range l.length).findSome? (fun k => if l[k]? = some b then some (Sum.inr true : Unit ⊕ Bool) else none) = none := by
        rw [List.findSome?_eq_none_iff]
        intro k hk
        rw [if_neg]; intro hc; exact hb (List.mem_of_getElem? hc)
      rw [this]; simp [hb]
  · intro k h
    unfold fn_ref16_Leads_l4
    by_cases q : l[k] = b <;> simp [getN h, h, q, w64s h (by omega)]
  · simp [fn_ref16_Leads_l4]
theorem rel_mem (kind : Int) (n : Nd) : ∀ (xs ys : List St) (f : Int), n ∈ rel kind f xs ys → ∃ (k : Nat) (h1 : k < xs.length) (h2 : k < ys.length), (n.1 = xs[k].1 ∧ n.2.1 = ys[k].1) ∨ (ys[k].2 = true ∧ n.1 = ys[k].1 ∧ n.2.1 = xs[k].1)
  | [], _, f, h => by simp [rel] at h
  | _ :: _, [], f, h => by simp [rel] at h
  | x :: xs, y :: ys, f, h => by
    simp only [rel, rel1, List.mem_append, List.mem_cons] at h
    rcases h with (rfl | h) | h
    · exact ⟨0, by simp, by simp, .inl ⟨rfl, rfl⟩⟩
    · split at h
      · rename_i hy
        simp at h; subst h
        exact ⟨0, by simp, by simp, .inr ⟨hy, rfl, rfl⟩⟩
      · simp at h
    · obtain ⟨k, h1, h2, h3⟩ := rel_mem kind n xs ys (f + 1) h
      exact ⟨k + 1, by simpa using h1, by simpa using h2, by simpa using h3⟩
theorem mem_rel (kind : Int) : ∀ (xs ys : List St) (f : Int) (k : Nat) (h1 : k < xs.length) (h2 : k < ys.length), (∃ n ∈ rel kind f xs ys, n.1 = xs[k].1 ∧ n.2.1 = ys[k].1) ∧ (ys[k].2 = true → ∃ n ∈ rel kind f xs ys, n.1 = ys[k].1 ∧ n.2.1 = xs[k].1)
  | [], _, f, k, h1, _ => by simp at h1
  | _ :: _, [], f, k, _, h2 => by simp at h2
  | x :: xs, y :: ys, f, 0, h1, h2 => by
    refine ⟨⟨_, by simp only [rel, rel1, List.cons_append]; exact List.mem_cons_self, rfl, rfl⟩, fun hy => ⟨(y.1, x.1, kind, f, true), ?_, rfl, rfl⟩⟩
    simp at hy
    simp [rel, rel1, hy]
  | x :: xs, y :: ys, f, k + 1, h1, h2 => by
    obtain ⟨⟨n, a1, a2⟩, a3⟩ := mem_rel kind xs ys (f + 1) k (by simpa using h1) (by simpa using h2)
    refine ⟨⟨n, by simp only [rel, List.mem_append]; exact .inr a1, by simpa using a2⟩, fun hy => ?_⟩
    obtain ⟨m, b1, b2⟩ := a3 (by simpa using hy)
    exact ⟨m, by simp only [rel, List.mem_append]; exact .inr b1, by simpa using b2⟩
theorem RelateChains_true (xa : (List (Int × Bool))) (xb : (List (Int × Bool))) (xc : (List (Int × Bool))) (k0 : Tp.Ok (.one (.sl (.cons (.int .i64) (.one .bool)))) xa) (k1 : Tp.Ok (.one (.sl (.cons (.int .i64) (.one .bool)))) xb) (k2 : Tp.Ok (.one (.sl (.cons (.int .i64) (.one .bool)))) xc) : fn_law16_RelateChains xa xb xc = some true := by
  unfold fn_law16_RelateChains
  rw [Few_eq, Few_eq, Few_eq, awake16]
  by_cases h' : 8 < xa.length
  · have : decide (((xa.length : Nat) : Int) ≤ 8) = false := by simp; omega
    simp [this]
  have h : xa.length ≤ 8 := by omega
  by_cases h2' : 8 < xb.length
  · have e1 : decide ((xa.length : Int) ≤ 8) = true := by simp; omega
    have : decide (((xb.length : Nat) : Int) ≤ 8) = false := by simp; omega
    simp [this, e1]
  have h2 : xb.length ≤ 8 := by omega
  by_cases h3' : 8 < xc.length
  · have e1 : decide ((xa.length : Int) ≤ 8) = true := by simp; omega
    have e2 : decide ((xb.length : Int) ≤ 8) = true := by simp; omega
    have : decide (((xc.length : Nat) : Int) ≤ 8) = false := by simp; omega
    simp [this, e1, e2]
  have h3 : xc.length ≤ 8 := by omega
  have e1 : decide ((xa.length : Int) ≤ 8) = true := by simp; omega
  have e2 : decide ((xb.length : Int) ≤ 8) = true := by simp; omega
  have e3 : decide ((xc.length : Int) ≤ 8) = true := by simp; omega
  simp only [e1, e2, e3, Bool.not_true, cond_false, Option.bind_some]
  rw [relFlow_eq _ _ _ _ (by omega) (by omega) (by omega), relFlow_eq _ _ _ _ (by omega) (by omega) (by omega), relFlow_eq _ _ _ _ (by omega) (by omega) (by omega)]
  have hC : ∀ A : List Nd × Int, A = (if shp xa xc then (rel 1 0 xa xc, 0) else ([], 8)) → (decide (A.2 = 0) || decide ((A.1.length : Int) = 0)) = true := by
    rintro _ rfl; split <;> simp
  cases s1 : shp xa xb with
  | false =>
    have := hC _ rfl
    generalize (if shp xa xc then (rel 1 0 xa xc, (0 : Int)) else ([], 8)) = A at this ⊢
    obtain ⟨A1, A2⟩ := A
    dsimp only at this
    have h9 : A2 = 0 ∨ A1 = [] := by simpa using this
    cases s2 : shp xb xc <;> (rcases h9 with rfl | rfl <;> simp)
  | true =>
    cases s2 : shp xb xc with
    | false =>
      have := hC _ rfl
      generalize (if shp xa xc then (rel 1 0 xa xc, (0 : Int)) else ([], 8)) = A at this ⊢
      obtain ⟨A1, A2⟩ := A
      dsimp only at this
      have h9 : A2 = 0 ∨ A1 = [] := by simpa using this
      rcases h9 with rfl | rfl <;> simp
    | true =>
      have s3 : shp xa xc = true := by
        have a1 := of_decide_eq_true s1
        have a2 := of_decide_eq_true s2
        exact decide_eq_true (a1.trans a2)
      rw [s3]
      have b1 := rel_len 1 xa xb 0
      have b2 := rel_len 1 xb xc 0
      have b3 := rel_len 1 xa xc 0
      have l1 := shp_len' s1
      have l2 := shp_len' s2
      simp only [if_true, Option.bind_some, decide_true, Bool.not_true, Bool.or_self, cond_false]
      rw [Doc_eq _ (by omega), Doc_eq _ (by omega)]
      simp only [Option.bind_some]
      rw [app_eq (by omega)]
      simp only [Option.bind_some]
      have hloop : loop fn_law16_RelateChains_l1 (rel 1 0 xa xc, rel 1 0 xa xb ++ rel 1 0 xb xc, 0) = some (.inl ()) := by
        have := loop_nat (body := fn_law16_RelateChains_l1) (fun k : Nat => (rel 1 0 xa xc, rel 1 0 xa xb ++ rel 1 0 xb xc, (k : Int))) (rel 1 0 xa xc).length (b := .inl ()) ?_ ?_
        · exact this
        · intro k hk
          unfold fn_law16_RelateChains_l1
          dsimp only
          obtain ⟨l, g1, g2, g3⟩ := Leads_eq (rel 1 0 xa xb ++ rel 1 0 xb xc) (rel 1 0 xa xc)[k].1 (rel 1 0 xa xc)[k].2.1 (by simp; omega)
          simp only [dlt hk, cond_true, getN hk, Option.bind_some, g1, w64s hk (by omega : (rel 1 0 xa xc).length ≤ 9223372036854775807)]
          have hin : (rel 1 0 xa xc)[k].2.1 ∈ l := by
            obtain ⟨j, j1, j2, hj⟩ := rel_mem 1 _ _ _ _ (List.getElem_mem hk)
            have jb : j < xb.length := by omega
            obtain ⟨⟨n, n1, n2, n3⟩, n4⟩ := mem_rel 1 xa xb 0 j j1 jb
            obtain ⟨⟨m, m1, m2, m3⟩, m4⟩ := mem_rel 1 xb xc 0 j jb j2
            rcases hj with ⟨q1, q2⟩ | ⟨q0, q1, q2⟩
            · have := g3 n (by simp [n1]) (by rw [n2, ← q1]; exact g2)
              have := g3 m (by simp [m1]) (by rw [m2, ← n3]; exact this)
              rw [q2, ← m3]; exact this
            · have hb : xb[j].2 = true := by
                have a2 := of_decide_eq_true s2
                have : (xb.map (·.2))[j]? = (xc.map (·.2))[j]? := by rw [a2]
                simp [jb, j2] at this
                rw [this]; exact q0
              obtain ⟨m, m1, m2, m3⟩ := m4 q0
              obtain ⟨n, n1, n2, n3⟩ := n4 hb
              have := g3 m (by simp [m1]) (by rw [m2, ← q1]; exact g2)
              have := g3 n (by simp [n1]) (by rw [n2, ← m3]; exact this)
              rw [q2, ← n3]; exact this
          simp [hin]
        · simp [fn_law16_RelateChains_l1]
      rw [hloop]
      simp
end Go.Proofs.Ytedncipemdpljaa
