/- What Go functions answer: generated. -/
import Derived.Test.YtbaaamdljojknaaSh
import Derived.Test.YtbaaamdljojknaaRows
import Derived.Test.YtbaaamdljojknaaAr
import Derived.Test.YtbaaamdljojknaaDp
import Derived.Test.YtbaaamdljojknaaFl
namespace Go.Proofs.Ytbaaamdljojknaa
open Go.RowKit
set_option linter.unusedVariables false
set_option linter.unnecessarySimpa false
set_option linter.unusedSimpArgs false
set_option maxRecDepth 20000
theorem sz30 : (Try.prog.info? 30).map (·.size) = some 7 := by kernel_rfl
theorem nz22 : Try.prog.cellsOf 22 ≠ 0 := by decide +kernel
theorem sc22 : scalar Try.prog 22 = true := by kernel_rfl
theorem nz23 : Try.prog.cellsOf 23 ≠ 0 := by decide +kernel
theorem sc23 : scalar Try.prog 23 = true := by kernel_rfl
theorem nz27 : Try.prog.cellsOf 27 ≠ 0 := by decide +kernel
theorem sc27 : scalar Try.prog 27 = true := by kernel_rfl
theorem nz28 : Try.prog.cellsOf 28 ≠ 0 := by decide +kernel
theorem sc28 : scalar Try.prog 28 = true := by kernel_rfl
theorem nz26 : Try.prog.cellsOf 26 ≠ 0 := by decide +kernel
theorem sz26 : (Try.prog.info? 26).map (·.size) = some 1 := by kernel_rfl
theorem nz24 : Try.prog.cellsOf 24 ≠ 0 := by decide +kernel
theorem sc24 : scalar Try.prog 24 = true := by kernel_rfl
theorem sz62 : (Try.prog.info? 62).map (·.size) = some 4 := by kernel_rfl
theorem sz56 : (Try.prog.info? 56).map (·.size) = some 7 := by kernel_rfl
theorem nz54 : Try.prog.cellsOf 54 ≠ 0 := by decide +kernel
theorem sz54 : (Try.prog.info? 54).map (·.size) = some 6 := by kernel_rfl
theorem inf54 : Inf Try.prog 54 (.agg #[.int .i64 0, .int .i64 0, .int .i64 0, .slice none 0 0, .slice none 0 0, .slice none 0 0]) 6 96 := by unfold Inf; kernel_rfl
theorem nz51 : Try.prog.cellsOf 51 ≠ 0 := by decide +kernel
theorem sc51 : scalar Try.prog 51 = true := by kernel_rfl
theorem nz52 : Try.prog.cellsOf 52 ≠ 0 := by decide +kernel
theorem sc52 : scalar Try.prog 52 = true := by kernel_rfl
theorem nz3 : Try.prog.cellsOf 3 ≠ 0 := by decide +kernel
theorem sc3 : scalar Try.prog 3 = true := by kernel_rfl
theorem sz50 : (Try.prog.info? 50).map (·.size) = some 2 := by kernel_rfl
theorem inf50 : Inf Try.prog 50 (.agg #[.int .i64 0, .int .i64 0]) 2 16 := by unfold Inf; kernel_rfl
theorem nz31 : Try.prog.cellsOf 31 ≠ 0 := by decide +kernel
theorem sc31 : scalar Try.prog 31 = true := by kernel_rfl
theorem sz86 : (Try.prog.info? 86).map (·.size) = some 2 := by kernel_rfl
theorem mixO : Try.prog.follows .mixedOrders = true := by kernel_rfl
theorem nz4 : Try.prog.cellsOf 4 ≠ 0 := by decide +kernel
theorem sc4 : scalar Try.prog 4 = true := by kernel_rfl
theorem sz76 : (Try.prog.info? 76).map (·.size) = some 5 := by kernel_rfl
theorem inf26 : Inf Try.prog 26 (.agg #[.slice none 0 0]) 1 24 := by unfold Inf; kernel_rfl
theorem inf86 : Inf Try.prog 86 (.agg #[.int .i64 0, .bool false]) 2 16 := by unfold Inf; kernel_rfl
theorem places86 : Places Try.prog 86 [(0, 1), (1, 1)] := ⟨_, Try.underlying86, by kernel_rfl⟩
theorem places26 : Places Try.prog 26 [(0, 1)] := ⟨_, Try.underlying26, by kernel_rfl⟩
theorem sz3 : (Try.prog.info? 3).map (·.size) = some 1 := by kernel_rfl
theorem inf39 : Inf Try.prog 39 (.agg #[.int .i64 0, .int .i64 0, .int .i64 0, .int .i64 0]) 4 32 := by unfold Inf; kernel_rfl
theorem inf40 : Inf Try.prog 40 .nilFunc 1 8 := by unfold Inf; kernel_rfl
theorem sz40 : (Try.prog.info? 40).map (·.size) = some 1 := by kernel_rfl
theorem sc40 : scalar Try.prog 40 = true := by kernel_rfl
theorem places39 : Places Try.prog 39 [(0, 1), (1, 1), (2, 1), (3, 1)] := ⟨_, Try.underlying39, by kernel_rfl⟩
theorem sz39 : (Try.prog.info? 39).map (·.size) = some 4 := by kernel_rfl
theorem sz31 : (Try.prog.info? 31).map (·.size) = some 1 := by kernel_rfl
theorem inf62 : Inf Try.prog 62 (.agg #[.int .i64 0, .slice none 0 0, .slice none 0 0, .slice none 0 0]) 4 80 := by unfold Inf; kernel_rfl
theorem inf56 : Inf Try.prog 56 (.agg #[.slice none 0 0, .int .i64 0, .int .i64 0, .int .i64 0, .slice none 0 0, .slice none 0 0, .slice none 0 0]) 7 120 := by unfold Inf; kernel_rfl
theorem inf74 : Inf Try.prog 74 (.agg #[.int .i64 0, .int .i64 0, .slice none 0 0, .slice none 0 0, .slice none 0 0]) 5 88 := by unfold Inf; kernel_rfl
theorem places74 : Places Try.prog 74 [(0, 1), (1, 1), (2, 1), (3, 1), (4, 1)] := ⟨_, Try.underlying74, by kernel_rfl⟩
theorem sz74 : (Try.prog.info? 74).map (·.size) = some 5 := by kernel_rfl
theorem inf76 : Inf Try.prog 76 (.agg #[.int .i64 0, .int .i64 0, .int .i64 0, .int .i64 0, .bool false]) 5 40 := by unfold Inf; kernel_rfl
theorem inf101 : Inf Try.prog 101 (.agg #[.bool false, .bool false, .bool false]) 3 3 := by unfold Inf; kernel_rfl
theorem places101 : Places Try.prog 101 [(0, 1), (1, 1), (2, 1)] := ⟨_, Try.underlying101, by kernel_rfl⟩
theorem sz101 : (Try.prog.info? 101).map (·.size) = some 3 := by kernel_rfl
theorem places76 : Places Try.prog 76 [(0, 1), (1, 1), (2, 1), (3, 1), (4, 1)] := ⟨_, Try.underlying76, by kernel_rfl⟩
theorem sz4 : (Try.prog.info? 4).map (·.size) = some 1 := by kernel_rfl
theorem sih76 : Try.prog.stoodInHeld 76 = false := by kernel_rfl
theorem eqg76 : Try.prog.eqGuardType Try.prog.depth 76 = false := by kernel_rfl
theorem inf119 : Inf Try.prog 119 (.agg #[.int .i64 0, .int .i64 0, .int .i64 0, .int .i64 0, .bool false]) 5 40 := by unfold Inf; kernel_rfl
theorem places119 : Places Try.prog 119 [(0, 1), (1, 1), (2, 1), (3, 1), (4, 1)] := ⟨_, Try.underlying119, by kernel_rfl⟩
theorem inf30 : Inf Try.prog 30 (.agg #[.int .i64 0, .int .i64 0, .slice none 0 0, .slice none 0 0, .slice none 0 0, .slice none 0 0, .slice none 0 0]) 7 136 := by unfold Inf; kernel_rfl
theorem places30 : Places Try.prog 30 [(0, 1), (1, 1), (2, 1), (3, 1), (4, 1), (5, 1), (6, 1)] := ⟨_, Try.underlying30, by kernel_rfl⟩
theorem places54 : Places Try.prog 54 [(0, 1), (1, 1), (2, 1), (3, 1), (4, 1), (5, 1)] := ⟨_, Try.underlying54, by kernel_rfl⟩
theorem places56 : Places Try.prog 56 [(0, 1), (1, 6)] := ⟨_, Try.underlying56, by kernel_rfl⟩
theorem inf66 : Inf Try.prog 66 (.agg #[.string ⟨[].toArray⟩, .string ⟨[].toArray⟩, .string ⟨[].toArray⟩, .string ⟨[].toArray⟩, .string ⟨[].toArray⟩, .string ⟨[].toArray⟩, .string ⟨[].toArray⟩, .string ⟨[].toArray⟩]) 8 128 := by unfold Inf; kernel_rfl
theorem sz9 : (Try.prog.info? 9).map (·.size) = some 1 := by kernel_rfl
theorem sz66 : (Try.prog.info? 66).map (·.size) = some 8 := by kernel_rfl
theorem inf68 : Inf Try.prog 68 (.agg #[.string ⟨[].toArray⟩, .string ⟨[].toArray⟩, .string ⟨[].toArray⟩, .string ⟨[].toArray⟩, .string ⟨[].toArray⟩, .string ⟨[].toArray⟩, .string ⟨[].toArray⟩, .string ⟨[].toArray⟩, .string ⟨[].toArray⟩, .string ⟨[].toArray⟩, .string ⟨[].toArray⟩, .string ⟨[].toArray⟩, .string ⟨[].toArray⟩, .string ⟨[].toArray⟩, .string ⟨[].toArray⟩, .string ⟨[].toArray⟩]) 16 256 := by unfold Inf; kernel_rfl
theorem sz68 : (Try.prog.info? 68).map (·.size) = some 16 := by kernel_rfl
theorem sc9 : scalar Try.prog 9 = true := by kernel_rfl
theorem sz22 : (Try.prog.info? 22).map (·.size) = some 1 := by kernel_rfl
theorem sz51 : (Try.prog.info? 51).map (·.size) = some 1 := by kernel_rfl

noncomputable def fn_ref15_Check_l1 (xa : (List (Int × Bool))) (xb : Int) : Int → Option (Int ⊕ (Unit ⊕ Int)) := fun (i365 : Int) => cond (decide (i365 < (((xa.length : Nat) : Int)))) ((getI xa i365).bind fun x405 => (cond (decide (x405.1 < 0)) (some (true)) ((getI xa i365).bind fun x427 => some (decide (xb ≤ x427.1)))).bind fun t424 => cond (t424) (some (.inr ((.inr (7))))) (some (.inl (IntKind.wrap .i64 (i365 + 1))))) (some (.inr ((.inl ()))))
noncomputable def fn_ref15_Check (xa : (List (Int × Bool))) (xb : Int) : Option Int :=
  cond (decide (16 < (((xa.length : Nat) : Int)))) (some (6)) ((loop (fn_ref15_Check_l1 xa xb) 0 : Option (Unit ⊕ Int)).bind fun o => match o with | .inr r => some r | .inl () => some (0))
noncomputable def fn_ref15_Shape_l1 (xa : (List (Int × Bool))) (xb : (List (Int × Bool))) : Int → Option (Int ⊕ (Unit ⊕ Bool)) := fun (i417 : Int) => cond (decide (i417 < (((xa.length : Nat) : Int)))) ((getI xa i417).bind fun x480 => (getI xb i417).bind fun x489 => cond (!(x480.2 == x489.2)) (some (.inr ((.inr (false))))) (some (.inl (IntKind.wrap .i64 (i417 + 1))))) (some (.inr ((.inl ()))))
noncomputable def fn_ref15_Shape (xa : (List (Int × Bool))) (xb : (List (Int × Bool))) : Option Bool :=
  cond (!decide ((((xa.length : Nat) : Int)) = (((xb.length : Nat) : Int)))) (some (false)) ((loop (fn_ref15_Shape_l1 xa xb) 0 : Option (Unit ⊕ Bool)).bind fun o => match o with | .inr r => some r | .inl () => some (true))
noncomputable def fn_ref17_Check_l1 (xa : (Int × (List (Int × Int)) × (List (List (Int × Bool))) × (List (Int × Bool)))) : Int → Option (Int ⊕ (Unit ⊕ Int)) := fun (i525 : Int) => cond (decide (i525 < (((xa.2.1.length : Nat) : Int)))) ((getI xa.2.1 i525).bind fun x553 => cond ((((decide (x553.1 < 0)) || (decide (xa.1 ≤ x553.1))) || (decide (x553.2 < 0))) || (decide (xa.1 ≤ x553.2))) (some (.inr ((.inr (7))))) (some (.inl (IntKind.wrap .i64 (i525 + 1))))) (some (.inr ((.inl ()))))
noncomputable def fn_ref17_Check_l2 (xa : (Int × (List (Int × Int)) × (List (List (Int × Bool))) × (List (Int × Bool)))) : Int → Option (Int ⊕ (Unit ⊕ Int)) := fun (i746 : Int) => cond (decide (i746 < (((xa.2.2.1.length : Nat) : Int)))) ((getI xa.2.2.1 i746).bind fun x812 => (fn_ref15_Check x812 xa.1).bind fun i827 => cond (!decide (i827 = 0)) (some (.inr ((.inr (i827))))) (some (.inl (IntKind.wrap .i64 (i746 + 1))))) (some (.inr ((.inl ()))))
noncomputable def fn_ref17_Check (xa : (Int × (List (Int × Int)) × (List (List (Int × Bool))) × (List (Int × Bool)))) : Option Int :=
  cond (decide (xa.1 < 0)) (some (7)) (cond (((decide (16 < xa.1)) || (decide (16 < (((xa.2.1.length : Nat) : Int))))) || (decide (16 < (((xa.2.2.1.length : Nat) : Int))))) (some (6)) ((loop (fn_ref17_Check_l1 xa) 0 : Option (Unit ⊕ Int)).bind fun o => match o with | .inr r => some r | .inl () => (loop (fn_ref17_Check_l2 xa) 0 : Option (Unit ⊕ Int)).bind fun o => match o with | .inr r => some r | .inl () => (fn_ref15_Check xa.2.2.2 xa.1).bind fun i837 => some (i837)))
noncomputable def fn_ref18_Dst (xa : Int) : Option Bool :=
  some ((((decide (xa = 1)) || (decide (xa = 2))) || (decide (xa = 3))) || (decide (xa = 5)))
noncomputable def fn_ref18_Src (xa : Int) : Option Bool :=
  some ((decide (1 ≤ xa)) && (decide (xa ≤ 4)))
noncomputable def fn_ref18_Region (xa : Int) : Option Bool :=
  some ((decide (xa = 2)) || (decide (xa = 3)))
noncomputable def fn_ref18_Form (xa : (Int × Int × Int × Int × Bool)) : Option Bool :=
  (cond ((decide (0 ≤ xa.1)) && (decide (xa.1 ≤ 5))) ((fn_ref18_Dst xa.1).bind fun t103 => some (t103 || (decide (xa.2.1 = 0)))) (some (false))).bind fun t98 => (cond (t98) ((fn_ref18_Src xa.1).bind fun t125 => some (t125 || (decide (xa.2.2.1 = 0)))) (some (false))).bind fun t120 => (cond (t120) ((fn_ref18_Region xa.1).bind fun t153 => some (t153 || ((decide (xa.2.2.2.1 = 0)) && (!xa.2.2.2.2)))) (some (false))).bind fun t148 => some (t148)
noncomputable def fn_ref16_slots_rkkii_l1 (xb : (List (Int × Bool))) (xc : (List (Int × Bool))) (xd : Int) (xe : Int) : ((List (Int × Int × Int × Int × Bool)) × Int) → Option (((List (Int × Int × Int × Int × Bool)) × Int) ⊕ (List (Int × Int × Int × Int × Bool))) := fun ((l1164, i1169) : ((List (Int × Int × Int × Int × Bool)) × Int)) => cond (decide (i1169 < (((xb.length : Nat) : Int)))) ((getI xb i1169).bind fun x1309 => (getI xc i1169).bind fun x1318 => (app l1164 (([(x1309.1, x1318.1, xd, IntKind.wrap .i64 (xe + i1169), false)] : List (Int × Int × Int × Int × Bool)))).bind fun z1330 => (getI xc i1169).bind fun x1336 => cond (x1336.2) ((getI xc i1169).bind fun x1367 => (getI xb i1169).bind fun x1376 => (app z1330 (([(x1367.1, x1376.1, xd, IntKind.wrap .i64 (xe + i1169), true)] : List (Int × Int × Int × Int × Bool)))).bind fun z1388 => some (.inl ((z1388, IntKind.wrap .i64 (i1169 + 1))))) (some (.inl ((z1330, IntKind.wrap .i64 (i1169 + 1)))))) (some (.inr (l1164)))
noncomputable def fn_ref16_slots_rkkii (xb : (List (Int × Bool))) (xc : (List (Int × Bool))) (xd : Int) (xe : Int) (qxa : (List (Int × Int × Int × Int × Bool))) : Option ((List (Int × Int × Int × Int × Bool))) :=
  (loop (fn_ref16_slots_rkkii_l1 xb xc xd xe) (qxa, 0) : Option ((List (Int × Int × Int × Int × Bool)))).bind fun l1044 => some (l1044)
noncomputable def fn_ref16_Flow (xa : (List (Int × Bool))) (xb : (List (Int × Bool))) (xc : Int) (xd : Int) : Option (((List (Int × Int × Int × Int × Bool)) × Int)) :=
  (fn_ref15_Shape xa xb).bind fun t34 => cond (!t34) (some (([], 8))) ((fn_ref16_slots_rkkii xa xb xc xd (([] : List (Int × Int × Int × Int × Bool)))).bind fun l45 => some ((l45, 0)))
noncomputable def fn_ref15_Ref_l1 (xa : (List (Int × Bool))) (xc : Bool) : ((List (Int × Bool)) × Int) → Option (((List (Int × Bool)) × Int) ⊕ (List (Int × Bool))) := fun ((l734, i739) : ((List (Int × Bool)) × Int)) => cond (decide (i739 < (((xa.length : Nat) : Int)))) ((getI xa i739).bind fun x839 => (getI xa i739).bind fun x848 => cond (x848.2) ((app l734 (([(x839.1, true)] : List (Int × Bool)))).bind fun z861 => some (.inl ((z861, IntKind.wrap .i64 (i739 + 1))))) ((app l734 (([(x839.1, xc)] : List (Int × Bool)))).bind fun z870 => some (.inl ((z870, IntKind.wrap .i64 (i739 + 1)))))) (some (.inr (l734)))
noncomputable def fn_ref15_Ref (xa : (List (Int × Bool))) (xb : Int) (xc : Bool) : Option ((List (Int × Bool))) :=
  (loop (fn_ref15_Ref_l1 xa xc) ((([(xb, false)] : List (Int × Bool)), 0)) : Option ((List (Int × Bool)))).bind fun l658 => some (l658)
noncomputable def fn_ref16_Loan (xa : (List (Int × Bool))) (xb : (List (Int × Bool))) (xc : Int) (xd : Bool) : Option (((List (Int × Int × Int × Int × Bool)) × Int)) :=
  (fn_ref15_Ref xa xc xd).bind fun l117 => (fn_ref15_Shape l117 xb).bind fun t130 => cond (!t130) (some (([], 8))) ((getI xb 0).bind fun x136 => (subL xb 1 (((xb.length : Nat) : Int))).bind fun y165 => (fn_ref16_slots_rkkii xa y165 1 1 (([(xc, x136.1, 2, 0, false)] : List (Int × Int × Int × Int × Bool)))).bind fun l173 => some ((l173, 0)))
noncomputable def fn_ref16_Again_l1 (xa : (List (Int × Bool))) (xd : Bool) : Int → Option (Int ⊕ (Unit ⊕ ((List (Int × Int × Int × Int × Bool)) × Int))) := fun (i447 : Int) => cond (decide (i447 < (((xa.length : Nat) : Int)))) ((cond (xd) ((getI xa i447).bind fun x491 => some (!x491.2)) (some (false))).bind fun t488 => cond (t488) (some (.inr ((.inr (([], 8)))))) (some (.inl (IntKind.wrap .i64 (i447 + 1))))) (some (.inr ((.inl ()))))
noncomputable def fn_ref16_Again (xa : (List (Int × Bool))) (xb : (List (Int × Bool))) (xc : Int) (xd : Bool) : Option (((List (Int × Int × Int × Int × Bool)) × Int)) :=
  (cond (decide ((((xa.length : Nat) : Int)) = 0)) (some (true)) ((fn_ref15_Shape xa xb).bind fun t313 => some (!t313))).bind fun t308 => (cond (t308) (some (true)) ((getI xa 0).bind fun x330 => some (x330.2))).bind fun t327 => cond (t327) (some (([], 8))) ((loop (fn_ref16_Again_l1 xa xd) 1 : Option (Unit ⊕ ((List (Int × Int × Int × Int × Bool)) × Int))).bind fun o => match o with | .inr r => some r | .inl () => (getI xa 0).bind fun x526 => (getI xb 0).bind fun x535 => (subL xa 1 (((xa.length : Nat) : Int))).bind fun y570 => (subL xb 1 (((xb.length : Nat) : Int))).bind fun y576 => (fn_ref16_slots_rkkii y570 y576 1 1 (([(x526.1, xc, 3, 0, false), (xc, x535.1, 2, 0, false)] : List (Int × Int × Int × Int × Bool)))).bind fun l584 => some ((l584, 0)))
noncomputable def fn_ref18_Needs (xa : (Int × Int × Int × Int × Bool)) (xb : (List (List (Int × Bool)))) (xc : Int) : Option (((List (Int × Int × Int × Int × Bool)) × Int)) :=
  (fn_ref18_Form (xa.1, xa.2.1, xa.2.2.1, xa.2.2.2.1, xa.2.2.2.2)).bind fun t327 => cond (!t327) (some (([], 3))) ((fn_ref18_Dst xa.1).bind fun t335 => (cond (t335 && ((decide (xa.2.1 < 0)) || (decide ((((xb.length : Nat) : Int)) ≤ xa.2.1)))) (some (true)) ((fn_ref18_Src xa.1).bind fun t369 => some (t369 && ((decide (xa.2.2.1 < 0)) || (decide ((((xb.length : Nat) : Int)) ≤ xa.2.2.1)))))).bind fun t364 => (cond (t364) (some (true)) ((fn_ref18_Region xa.1).bind fun t403 => some (t403 && ((decide (xa.2.2.2.1 < 0)) || (decide (xc ≤ xa.2.2.2.1)))))).bind fun t398 => cond (t398) (some (([], 7))) (cond (decide (xa.1 = 1)) ((getI xb xa.2.2.1).bind fun x456 => (getI xb xa.2.1).bind fun x469 => (fn_ref16_Flow x456 x469 1 0).bind fun (l484, i485) => some ((l484, i485))) (cond (decide (xa.1 = 2)) ((getI xb xa.2.2.1).bind fun x531 => (getI xb xa.2.1).bind fun x544 => (fn_ref16_Loan x531 x544 xa.2.2.2.1 xa.2.2.2.2).bind fun (l559, i560) => some ((l559, i560))) (cond (decide (xa.1 = 3)) ((getI xb xa.2.2.1).bind fun x606 => (getI xb xa.2.1).bind fun x619 => (fn_ref16_Again x606 x619 xa.2.2.2.1 xa.2.2.2.2).bind fun (l634, i635) => some ((l634, i635))) (some (([], 0)))))))
end Go.Proofs.Ytbaaamdljojknaa
