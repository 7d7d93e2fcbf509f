/- What layer 16's functions compute (needs), in plain words. -/
import Derived.Test.YtgeofnfjgjodgaaQ15
namespace Go.Proofs.Ytgeofnfjgjodgaa
open Go.RowKit
set_option linter.unusedVariables false
set_option linter.unnecessarySimpa false
set_option linter.unusedSimpArgs false
abbrev Nd := Int × Int × Int × Int × Bool
/-- What slots need, place by place. -/
def rel1 (kind f : Int) (x y : St) : List Nd := (x.1, y.1, kind, f, false) :: if y.2 then [(y.1, x.1, kind, f, true)] else []
def rel (kind f : Int) : List St → List St → List Nd
  | x :: xs, y :: ys => rel1 kind f x y ++ rel kind (f + 1) xs ys
  | _, _ => []
theorem rel_snoc (kind : Int) (x y : St) : ∀ (xs ys : List St) (f : Int), xs.length = ys.length → rel kind f (xs ++ [x]) (ys ++ [y]) = rel kind f xs ys ++ rel1 kind (f + xs.length) x y
  | [], [], f, _ => by simp [rel]
  | [], _ :: _, f, h => by simp at h
  | _ :: _, [], f, h => by simp at h
  | a :: xs, b :: ys, f, h => by
    simp only [List.cons_append, rel, rel_snoc kind x y xs ys (f + 1) (by simpa using h), List.append_assoc, List.length_cons]
    rw [show f + 1 + (xs.length : Int) = f + ((xs.length + 1 : Nat) : Int) by omega]
theorem rel_len (kind : Int) (xs ys : List St) (f : Int) : (rel kind f xs ys).length ≤ 2 * xs.length := by
  induction xs generalizing ys f with
  | nil => simp [rel]
  | cons a xs ih => cases ys with
    | nil => simp [rel]
    | cons b ys =>
      have := ih ys (f + 1)
      cases hb : b.2 <;> simp [rel, rel1, hb] <;> omega
theorem related_eq (xa xb : List St) (kind f : Int) (hl : xa.length = xb.length) (hn : xa.length ≤ 30) (hf : -9223372036854775808 ≤ f) (hf2 : f ≤ 1099511627776) (c : List Nd) (hc : c.length ≤ 10) :
    fn_ref16_slots_rkkii xa xb kind f c = some (c ++ rel kind f xa xb) := by
  unfold fn_ref16_slots_rkkii
  have h := loop_carry (body := fn_ref16_slots_rkkii_l1 xa xb kind f) xa (fun k => c ++ rel kind f (xa.take k) (xb.take k)) (c ++ rel kind f xa xb) ?_ ?_
  · simp only [List.take_zero, rel, List.append_nil] at h
    rw [h]; rfl
  · intro k h
    have h2 : k < xb.length := by omega
    have hlen := rel_len kind (xa.take k) (xb.take k) f
    simp only [List.length_take] at hlen
    have hw : IntKind.wrap .i64 (f + (k : Int)) = f + k := w64 (by omega) (by omega)
    unfold fn_ref16_slots_rkkii_l1
    rw [take_snoc h, take_snoc h2, rel_snoc _ _ _ _ _ _ (by simp; omega)]
    have e : (xa.take k).length = k := by simp; omega
    rw [e]
    cases hb : xb[k].2 with
    | true =>
      simp [getN h, getN h2, h, hb, w64s h (by omega), hw, rel1]
      rw [app_eq (by simp; omega)]
      simp
      rw [app_eq (by simp; omega)]
      simp
    | false =>
      simp [getN h, getN h2, h, hb, w64s h (by omega), hw, rel1]
      rw [app_eq (by simp; omega)]
      simp
  · have e : xb.take xa.length = xb := by rw [hl, List.take_length]
    simp [fn_ref16_slots_rkkii_l1, e]
theorem related_slots (xa xb : List St) (kind f : Int) : fn_relate_related xa xb kind f = fn_ref16_slots_rkkii xa xb kind f [] := rfl
theorem relFlow_eq (xa xb : List St) (kind f : Int) (hn : xa.length ≤ 30) (hf : -9223372036854775808 ≤ f) (hf2 : f ≤ 1099511627776) : fn_relate_Flow xa xb kind f = some (if shp xa xb then (rel kind f xa xb, 0) else ([], 8)) := by
  unfold fn_relate_Flow
  rw [rowShape_eq _ _ (by omega), Option.bind_some]
  cases hs : shp xa xb with
  | false => rfl
  | true => rw [Bool.not_true, cond_false, related_slots, related_eq xa xb kind f (shp_len' hs) hn hf hf2 [] (by simp)]; simp
theorem refFlow_eq (xa xb : List St) (kind f : Int) (hn : xa.length ≤ 30) (hf : -9223372036854775808 ≤ f) (hf2 : f ≤ 1099511627776) : fn_ref16_Flow xa xb kind f = some (if shp xa xb then (rel kind f xa xb, 0) else ([], 8)) := by
  unfold fn_ref16_Flow
  rw [refShape_eq _ _ (by omega), Option.bind_some]
  cases hs : shp xa xb with
  | false => rfl
  | true => rw [Bool.not_true, cond_false, related_eq xa xb kind f (shp_len' hs) hn hf hf2 [] (by simp)]; simp
theorem Doc_eq (xa : List Nd) (hn : xa.length ≤ 1000000) : fn_law16_Doc xa = some xa := by
  unfold fn_law16_Doc
  have := loop_map xa (fun x : Nd => x) [] (by simp; omega) (body := fn_law16_Doc_l1 xa) (fun c i => by
    unfold fn_law16_Doc_l1
    cases hg : getI xa i with
    | none => simp [hg]
    | some x => simp [hg])
  rw [this]; simp
theorem refSame_eq (xa xb : List Nd) (hn : xa.length ≤ 1000000) : fn_ref16_Same xa xb = some (decide (xa = xb)) := by
  unfold fn_ref16_Same
  by_cases hl : xa.length = xb.length
  · rw [dlen hl, cond_false, loop_alike (body := fn_ref16_Same_l1 xa xb) xa xb (.inr false) (.inl ()) hl ?_ ?_]
    · by_cases h : xa = xb <;> simp [h]
    · intro k h; unfold fn_ref16_Same_l1
      have h2 : k < xb.length := by omega
      simp only [getN h, getN h2, dlt h, w64s h (by omega : xa.length ≤ 9223372036854775807), Option.bind_some, cond_true, beq_dec, ← Bool.decide_and]
      generalize xa[k] = x
      generalize xb[k] = y
      obtain ⟨x1, x2, x3, x4, x5⟩ := x
      obtain ⟨y1, y2, y3, y4, y5⟩ := y
      by_cases q : x1 = y1 ∧ x2 = y2 ∧ x3 = y3 ∧ x4 = y4 ∧ x5 = y5 <;> simp [q]
    · simp [fn_ref16_Same_l1]
  · rw [dlen' hl, cond_true]
    have : ¬ xa = xb := fun h => hl (by rw [h])
    simp [this]
def lo (n : Int) (m : Bool) (xa xb : List St) : List Nd × Int :=
  if shp ((n, false) :: xa.map fun x => (x.1, x.2 || m)) xb then ((n, (xb.head?.getD (0, false)).1, 2, 0, false) :: rel 1 1 xa (xb.drop 1), 0) else ([], 8)
theorem lo_len {n : Int} {m : Bool} {xa xb : List St} (h : shp ((n, false) :: xa.map fun x => (x.1, x.2 || m)) xb = true) : xb.length = xa.length + 1 := by
  have := shp_len' h; simp at this; omega
def ag (n : Int) (m : Bool) (xa xb : List St) : List Nd × Int :=
  match xa, xb with
  | x :: xs, y :: ys => if x.2 || !shp (x :: xs) (y :: ys) || (m && xs.any (fun z => !z.2)) then ([], 8) else ((x.1, n, 3, 0, false) :: (n, y.1, 2, 0, false) :: rel 1 1 xs ys, 0)
  | _, _ => ([], 8)
theorem lo_bound (n : Int) (m : Bool) (xa xb : List St) (h : xa.length ≤ 30) : (lo n m xa xb).1.length ≤ 100 := by
  unfold lo
  have := rel_len 1 xa (xb.drop 1) 1
  simp at this
  split <;> simp; omega
theorem ag_bound (n : Int) (m : Bool) (xa xb : List St) (h : xa.length ≤ 30) : (ag n m xa xb).1.length ≤ 100 := by
  unfold ag
  split
  · rename_i x xs y ys
    have := rel_len 1 xs ys 1
    simp at h
    split <;> simp; omega
  · simp
end Go.Proofs.Ytgeofnfjgjodgaa
