/- What layer 16's functions compute (needs), in plain words. -/
import Derived.Test.YtjhgiaafaahbjaaQ15
namespace Go.Proofs.Ytjhgiaafaahbjaa
open Go.RowKit
set_option linter.unusedVariables false
set_option linter.unnecessarySimpa false
set_option linter.unusedSimpArgs false
abbrev Nd := Int × Int × Int × Int × Bool
/-- What slots need, place by place. -/
def rel1 (kind f : Int) (x y : St) : List Nd := (x.1, y.1, kind, f, false) :: if y.2 then [(y.1, x.1, kind, f, true)] else []
def rel (kind f : Int) : List St → List St → List Nd
  | x :: xs, y :: ys => rel1 kind f x y ++ rel kind (f + 1) xs ys
  | _, _ => []
theorem rel_snoc (kind : Int) (x y : St) : ∀ (xs ys : List St) (f : Int), xs.length = ys.length → rel kind f (xs ++ [x]) (ys ++ [y]) = rel kind f xs ys ++ rel1 kind (f + xs.length) x y
  | [], [], f, _ => by simp [rel]
  | [], _ :: _, f, h => by simp at h
  | _ :: _, [], f, h => by simp at h
  | a :: xs, b :: ys, f, h => by
    simp only [List.cons_append, rel, rel_snoc kind x y xs ys (f + 1) (by simpa using h), List.append_assoc, List.length_cons]
    rw [show f + 1 + (xs.length : Int) = f + ((xs.length + 1 : Nat) : Int) by omega]
theorem rel_len (kind : Int) (xs ys : List St) (f : Int) : (rel kind f xs ys).length ≤ 2 * xs.length := by
  induction xs generalizing ys f with
  | nil => simp [rel]
  | cons a xs ih => cases ys with
    | nil => simp [rel]
    | cons b ys =>
      have := ih ys (f + 1)
      cases hb : b.2 <;> simp [rel, rel1, hb] <;> omega
def lo (n : Int) (m : Bool) (xa xb : List St) : List Nd × Int :=
  if shp ((n, false) :: xa.map fun x => (x.1, x.2 || m)) xb then ((n, (xb.head?.getD (0, false)).1, 2, 0, false) :: rel 1 1 xa (xb.drop 1), 0) else ([], 8)
theorem lo_len {n : Int} {m : Bool} {xa xb : List St} (h : shp ((n, false) :: xa.map fun x => (x.1, x.2 || m)) xb = true) : xb.length = xa.length + 1 := by
  have := shp_len' h; simp at this; omega
def ag (n : Int) (m : Bool) (xa xb : List St) : List Nd × Int :=
  match xa, xb with
  | x :: xs, y :: ys => if x.2 || !shp (x :: xs) (y :: ys) || (m && xs.any (fun z => !z.2)) then ([], 8) else ((x.1, n, 3, 0, false) :: (n, y.1, 2, 0, false) :: rel 1 1 xs ys, 0)
  | _, _ => ([], 8)
theorem lo_bound (n : Int) (m : Bool) (xa xb : List St) (h : xa.length ≤ 30) : (lo n m xa xb).1.length ≤ 100 := by
  unfold lo
  have := rel_len 1 xa (xb.drop 1) 1
  simp at this
  split <;> simp; omega
theorem ag_bound (n : Int) (m : Bool) (xa xb : List St) (h : xa.length ≤ 30) : (ag n m xa xb).1.length ≤ 100 := by
  unfold ag
  split
  · rename_i x xs y ys
    have := rel_len 1 xs ys 1
    simp at h
    split <;> simp; omega
  · simp
end Go.Proofs.Ytjhgiaafaahbjaa
