/- What layer 16's functions compute (needs), in plain words. -/
import Derived.Test.YtbennpandomacaaGreatQ15
namespace Go.Proofs.YtbennpandomacaaGreat
open Go.RowKit
set_option linter.unusedVariables false
set_option linter.unnecessarySimpa false
set_option linter.unusedSimpArgs false
abbrev Nd := Int × Int × Int × Int × Bool
/-- What slots need, place by place. -/
def rel1 (kind f : Int) (x y : St) : List Nd := (x.1, y.1, kind, f, false) :: if y.2 then [(y.1, x.1, kind, f, true)] else []
def rel (kind f : Int) : List St → List St → List Nd
  | x :: xs, y :: ys => rel1 kind f x y ++ rel kind (f + 1) xs ys
  | _, _ => []
theorem rel_snoc (kind : Int) (x y : St) : ∀ (xs ys : List St) (f : Int), xs.length = ys.length → rel kind f (xs ++ [x]) (ys ++ [y]) = rel kind f xs ys ++ rel1 kind (f + xs.length) x y
  | [], [], f, _ => by simp [rel]
  | [], _ :: _, f, h => by simp at h
  | _ :: _, [], f, h => by simp at h
  | a :: xs, b :: ys, f, h => by
    simp only [List.cons_append, rel, rel_snoc kind x y xs ys (f + 1) (by simpa using h), List.append_assoc, List.length_cons]
    rw [show f + 1 + (xs.length : Int) = f + ((xs.length + 1 : Nat) : Int) by omega]
theorem rel_len (kind : Int) (xs ys : List St) (f : Int) : (rel kind f xs ys).length ≤ 2 * xs.length := by
  induction xs generalizing ys f with
  | nil => simp [rel]
  | cons a xs ih => cases ys with
    | nil => simp [rel]
    | cons b ys =>
      have := ih ys (f + 1)
      cases hb : b.2 <;> simp [rel, rel1, hb] <;> omega
theorem related_eq (xa xb : List St) (kind f : Int) (hl : xa.length = xb.length) (hn : xa.length ≤ 30) (hf : -9223372036854775808 ≤ f) (hf2 : f ≤ 1099511627776) (c : List Nd) (hc : c.length ≤ 10) :
    fn_ref16_slots_rkkii xa xb kind f c = some (c ++ rel kind f xa xb) := by
  unfold fn_ref16_slots_rkkii
  have h := loop_carry (body := fn_ref16_slots_rkkii_l1 xa xb kind f) xa (fun k => c ++ rel kind f (xa.take k) (xb.take k)) (c ++ rel kind f xa xb) ?_ ?_
  · simp only [List.take_zero, rel, List.append_nil] at h
    rw [h]; rfl
  · intro k h
    have h2 : k < xb.length := by omega
    have hlen := rel_len kind (xa.take k) (xb.take k) f
    simp only [List.length_take] at hlen
    have hw : IntKind.wrap .i64 (f + (k : Int)) = f + k := w64 (by omega) (by omega)
    unfold fn_ref16_slots_rkkii_l1
    rw [take_snoc h, take_snoc h2, rel_snoc _ _ _ _ _ _ (by simp; omega)]
    have e : (xa.take k).length = k := by simp; omega
    rw [e]
    cases hb : xb[k].2 with
    | true =>
      simp [getN h, getN h2, h, hb, w64s h (by omega), hw, rel1]
      rw [app_eq (by simp; omega)]
      simp
      rw [app_eq (by simp; omega)]
      simp
    | false =>
      simp [getN h, getN h2, h, hb, w64s h (by omega), hw, rel1]
      rw [app_eq (by simp; omega)]
      simp
  · have e : xb.take xa.length = xb := by rw [hl, List.take_length]
    simp [fn_ref16_slots_rkkii_l1, e]
theorem related_slots (xa xb : List St) (kind f : Int) : fn_relate_related xa xb kind f = fn_ref16_slots_rkkii xa xb kind f [] := rfl
theorem relFlow_eq (xa xb : List St) (kind f : Int) (hn : xa.length ≤ 30) (hf : -9223372036854775808 ≤ f) (hf2 : f ≤ 1099511627776) : fn_relate_Flow xa xb kind f = some (if shp xa xb then (rel kind f xa xb, 0) else ([], 8)) := by
  unfold fn_relate_Flow
  rw [rowShape_eq _ _ (by omega), Option.bind_some]
  cases hs : shp xa xb with
  | false => rfl
  | true => rw [Bool.not_true, cond_false, related_slots, related_eq xa xb kind f (shp_len' hs) hn hf hf2 [] (by simp)]; simp
theorem refFlow_eq (xa xb : List St) (kind f : Int) (hn : xa.length ≤ 30) (hf : -9223372036854775808 ≤ f) (hf2 : f ≤ 1099511627776) : fn_ref16_Flow xa xb kind f = some (if shp xa xb then (rel kind f xa xb, 0) else ([], 8)) := by
  unfold fn_ref16_Flow
  rw [refShape_eq _ _ (by omega), Option.bind_some]
  cases hs : shp xa xb with
  | false => rfl
  | true => rw [Bool.not_true, cond_false, related_eq xa xb kind f (shp_len' hs) hn hf hf2 [] (by simp)]; simp
def lo (n : Int) (m : Bool) (xa xb : List St) : List Nd × Int :=
  if shp ((n, false) :: xa.map fun x => (x.1, x.2 || m)) xb then ((n, (xb.head?.getD (0, false)).1, 2, 0, false) :: rel 1 1 xa (xb.drop 1), 0) else ([], 8)
theorem lo_len {n : Int} {m : Bool} {xa xb : List St} (h : shp ((n, false) :: xa.map fun x => (x.1, x.2 || m)) xb = true) : xb.length = xa.length + 1 := by
  have := shp_len' h; simp at this; omega
theorem relLoan_eq (xa xb : List St) (n : Int) (m : Bool) (hn : xa.length ≤ 30) : fn_relate_Loan xa xb n m = some (lo n m xa xb) := by
  unfold fn_relate_Loan lo
  rw [rowRef_eq _ _ _ (by omega), Option.bind_some, shp_comm]
  by_cases hb : xb.length ≤ 1000
  · rw [rowShape_eq _ _ (by omega), Option.bind_some]
    cases hs : shp xb ((n, false) :: xa.map fun x => (x.1, x.2 || m)) with
    | false => rfl
    | true =>
      have hl := lo_len (by rw [shp_comm]; exact hs)
      cases xb with
      | nil => simp at hl
      | cons y ys =>
        have hl2 : xa.length = ys.length := by simpa using hl.symm
        rw [Bool.not_true, cond_false, show getI (y :: ys) 0 = some y from rfl, Option.bind_some, sub1 (by simp), Option.bind_some, related_slots, related_eq _ _ _ _ (by simpa using hl2) hn (by omega) (by omega) _ (by simp)]
        have := rel_len 1 xa ys 1
        simp only [List.nil_append, Option.bind_some, List.drop_succ_cons, List.drop_zero]
        rw [app_eq (by simp; omega)]
        simp
  · have hs : shp xb ((n, false) :: xa.map fun x => (x.1, x.2 || m)) = false := shp_len (by simp; omega)
    unfold fn_row_Shape fn_slices_EqualFunc_api_Slot_api_Slot_api_Slot_api_Slot_kk_row_Shape_1
    rw [dlen' (by simp; omega), cond_true, hs]; rfl
theorem refLoan_eq (xa xb : List St) (n : Int) (m : Bool) (hn : xa.length ≤ 30) : fn_ref16_Loan xa xb n m = some (lo n m xa xb) := by
  unfold fn_ref16_Loan lo
  rw [refRef_eq _ _ _ (by omega), Option.bind_some, refShape_eq _ _ (by simp; omega), Option.bind_some]
  cases hs : shp ((n, false) :: xa.map fun x => (x.1, x.2 || m)) xb with
  | false => rfl
  | true =>
    have hl := lo_len hs
    cases xb with
    | nil => simp at hl
    | cons y ys =>
      have hl2 : xa.length = ys.length := by simpa using hl.symm
      rw [Bool.not_true, cond_false, show getI (y :: ys) 0 = some y from rfl, Option.bind_some, sub1 (by simp), Option.bind_some, related_eq _ _ _ _ (by simpa using hl2) hn (by omega) (by omega) _ (by simp)]
      simp
def ag (n : Int) (m : Bool) (xa xb : List St) : List Nd × Int :=
  match xa, xb with
  | x :: xs, y :: ys => if x.2 || !shp (x :: xs) (y :: ys) || (m && xs.any (fun z => !z.2)) then ([], 8) else ((x.1, n, 3, 0, false) :: (n, y.1, 2, 0, false) :: rel 1 1 xs ys, 0)
  | _, _ => ([], 8)
theorem may_eq (xa xb : List St) (m : Bool) (hn : xa.length ≤ 30) : fn_relate_mayBorrowAgain xa xb m = some (match xa with | [] => false | x :: xs => !(x.2 || !shp xa xb || (m && xs.any (fun z => !z.2)))) := by
  unfold fn_relate_mayBorrowAgain
  cases xa with
  | nil => rfl
  | cons x xs =>
    have e0 : decide ((((x :: xs).length : Nat) : Int) = 0) = false := by simp; omega
    rw [e0, cond_false, show getI (x :: xs) 0 = some x from rfl, Option.bind_some, Option.bind_some]
    cases hx : x.2 with
    | true => simp [hx]
    | false =>
      rw [cond_false, rowShape_eq _ _ (by omega), Option.bind_some, Option.bind_some]
      cases hs : shp (x :: xs) xb with
      | false => simp
      | true =>
        rw [Bool.not_true, cond_false, sub1 (by simp), Option.bind_some]
        unfold fn_slices_ContainsFunc_api_Slot_api_Slot_k_relate_mayBorrowAgain_1 fn_slices_IndexFunc_api_Slot_api_Slot_k_relate_mayBorrowAgain_1
        rw [loop_search (List.drop 1 (x :: xs)) (fun z : St => !z.2) (fun k => .inr (k : Int)) (.inl ()) ?_ ?_]
        · simp only [List.drop_succ_cons, List.drop_zero]
          cases h : xs.findIdx? (fun z : St => !z.2) with
          | none =>
            have : xs.any (fun z : St => !z.2) = false := by
              rw [List.any_eq_false]; intro z hz; have := List.findIdx?_eq_none_iff.1 h z hz; simpa using this
            simp [this, hx]
          | some k =>
            obtain ⟨hk, h1, _⟩ := List.findIdx?_eq_some_iff_getElem.1 h
            have : xs.any (fun z : St => !z.2) = true := List.any_eq_true.2 ⟨_, List.getElem_mem hk, h1⟩
            simp [this, hx]
        · intro k h
          unfold fn_slices_IndexFunc_api_Slot_api_Slot_k_relate_mayBorrowAgain_1_l1 fn_relate_mayBorrowAgain_1
          simp only [List.drop_succ_cons, List.drop_zero] at h ⊢
          have hn' : xs.length ≤ 30 := by simp at hn; omega
          cases hz : xs[k].2 <;> simp [getN h, h, w64s h (by omega), hz]
        · simp [fn_slices_IndexFunc_api_Slot_api_Slot_k_relate_mayBorrowAgain_1_l1]
theorem relAgain_eq (xa xb : List St) (n : Int) (m : Bool) (hn : xa.length ≤ 30) : fn_relate_Again xa xb n m = some (ag n m xa xb) := by
  unfold fn_relate_Again
  rw [may_eq _ _ _ hn, Option.bind_some]
  cases xa with
  | nil => rfl
  | cons x xs =>
    simp only [ag, Bool.not_not]
    by_cases hc : (x.2 || !shp (x :: xs) xb || (m && xs.any (fun z => !z.2))) = true
    · rw [hc]; cases xb <;> simp_all
    · have hc' : (x.2 || !shp (x :: xs) xb || (m && xs.any (fun z => !z.2))) = false := by simpa using hc
      have hs : shp (x :: xs) xb = true := by
        cases q : shp (x :: xs) xb with
        | true => rfl
        | false => rw [q] at hc'; simp at hc'
      have hl := shp_len' hs
      cases xb with
      | nil => simp at hl
      | cons y ys =>
        simp only [hc', cond_false, if_false, show getI (x :: xs) 0 = some x from rfl, show getI (y :: ys) 0 = some y from rfl, Option.bind_some, sub1 (show 1 ≤ (x :: xs).length by simp), sub1 (show 1 ≤ (y :: ys).length by simp), List.drop_succ_cons, List.drop_zero, Bool.false_eq_true]
        have hl2 : xs.length = ys.length := by simpa using hl
        rw [related_slots, related_eq _ _ _ _ hl2 (by simp at hn; omega) (by omega) (by omega) _ (by simp), Option.bind_some]
        have := rel_len 1 xs ys 1
        simp at hn
        rw [app_eq (by simp; omega)]
        simp
theorem refAgain_eq (xa xb : List St) (n : Int) (m : Bool) (hn : xa.length ≤ 30) : fn_ref16_Again xa xb n m = some (ag n m xa xb) := by
  unfold fn_ref16_Again
  cases xa with
  | nil => rfl
  | cons x xs =>
    have e0 : decide ((((x :: xs).length : Nat) : Int) = 0) = false := by simp; omega
    rw [e0, cond_false, refShape_eq _ _ (by omega), Option.bind_some, Option.bind_some]
    cases hs : shp (x :: xs) xb with
    | false => cases xb <;> simp [ag, hs]
    | true =>
      have hl := shp_len' hs
      cases xb with
      | nil => simp at hl
      | cons y ys =>
        have hl2 : xs.length = ys.length := by simpa using hl
        simp only [Bool.not_true, cond_false, show getI (x :: xs) 0 = some x from rfl, show getI (y :: ys) 0 = some y from rfl, Option.bind_some]
        cases hx : x.2 with
        | true => simp [ag, hx]
        | false =>
          have hn' : xs.length ≤ 29 := by simp at hn; omega
          have hloop : loop (fn_ref16_Again_l1 (x :: xs) m) 1 = some (if (m && xs.any (fun z => !z.2)) then .inr ([], 8) else .inl ()) := by
            have := loop_any (body := fn_ref16_Again_l1 (x :: xs) m) (fun k => (m && (xs[k]?.any (fun z => !z.2))) = true) (fun k => ((k + 1 : Nat) : Int)) xs.length (.inr ([], 8)) (.inl ()) ?_ ?_ ?_
            · rw [show ((1 : Int)) = ((0 + 1 : Nat) : Int) from rfl, this]
              congr 1
              by_cases hq : (m && xs.any (fun z => !z.2)) = true
              · rw [if_pos hq, if_pos]
                simp only [Bool.and_eq_true] at hq
                obtain ⟨z, hz, hz2⟩ := List.any_eq_true.1 hq.2
                obtain ⟨k, hk, rfl⟩ := List.getElem_of_mem hz
                exact ⟨k, hk, by simp [hq.1, hk]; simpa using hz2⟩
              · rw [if_neg hq, if_neg]
                rintro ⟨k, hk, hk2⟩
                apply hq
                simp [hk] at hk2
                rw [hk2.1, Bool.true_and]
                exact List.any_eq_true.2 ⟨_, List.getElem_mem hk, by simpa using hk2.2⟩
            · intro k hk hp
              have h2 : k + 1 < (x :: xs).length := by simp; omega
              simp [hk] at hp
              unfold fn_ref16_Again_l1
              rw [dlt h2, cond_true, w64s h2 (by simp; omega)]
              cases m with
              | false => simp
              | true => simp [getN1 h2, hp rfl]
            · intro k hk hp
              have h2 : k + 1 < (x :: xs).length := by simp; omega
              simp [hk] at hp
              unfold fn_ref16_Again_l1
              rw [dlt h2, cond_true]
              simp [getN1 h2, hp.1, hp.2]
            · simp [fn_ref16_Again_l1]
          rw [hloop]
          by_cases hq : (m && xs.any (fun z => !z.2)) = true
          · simp [ag, hx, hs, hq]
          · have hq' : (m && xs.any (fun z => !z.2)) = false := by simpa using hq
            rw [hq']
            simp only [cond_false, Option.bind_some, if_false, sub1 (show 1 ≤ (x :: xs).length by simp), sub1 (show 1 ≤ (y :: ys).length by simp), List.drop_succ_cons, List.drop_zero, Bool.false_eq_true]
            rw [related_eq _ _ _ _ hl2 (by omega) (by omega) (by omega) _ (by simp)]
            simp [ag, hx, hs, hq']
theorem lo_bound (n : Int) (m : Bool) (xa xb : List St) (h : xa.length ≤ 30) : (lo n m xa xb).1.length ≤ 100 := by
  unfold lo
  have := rel_len 1 xa (xb.drop 1) 1
  simp at this
  split <;> simp; omega
theorem ag_bound (n : Int) (m : Bool) (xa xb : List St) (h : xa.length ≤ 30) : (ag n m xa xb).1.length ≤ 100 := by
  unfold ag
  split
  · rename_i x xs y ys
    have := rel_len 1 xs ys 1
    simp at h
    split <;> simp; omega
  · simp
end Go.Proofs.YtbennpandomacaaGreat
