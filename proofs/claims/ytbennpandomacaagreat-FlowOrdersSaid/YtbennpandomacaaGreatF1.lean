/- What Go functions answer: generated. -/
import Derived.Test.YtbennpandomacaaGreatSh
import Derived.Test.YtbennpandomacaaGreatRows
import Derived.Test.YtbennpandomacaaGreatDp
import Derived.Test.YtbennpandomacaaGreatFl
import Derived.Test.YtbennpandomacaaGreatSc
import Derived.Test.YtbennpandomacaaGreatSrt
namespace Go.Proofs.YtbennpandomacaaGreat
open Go.RowKit _root_.Go.Proofs.Tryz
set_option linter.unusedVariables false
set_option linter.unnecessarySimpa false
set_option linter.unusedSimpArgs false
set_option maxRecDepth 100000
set_option maxHeartbeats 4000000
abbrev Tq1 : Type := (Int × Int × (List (Int × Int)) × (List (List (Int × Bool))) × (List (Int × Bool)) × (List (Int × (List (Int × Int)) × (List (List (Int × Bool))) × (List (Int × Bool)))) × (List ((List (Int × Int × Int × Int × Bool)) × (Int × Int × Int × (List Int) × (List Int) × (List Int)))))
abbrev Yq1 : Tp := (.cons (.int .i64) (.one .bool))
abbrev Yq2 : Tp := (.cons (.int .i64) (.cons (.int .i64) (.cons (.int .i64) Yq1)))
abbrev Tq2 : Type := (Int × Int × Int × Int × Bool)
abbrev Tq3 : Type := (List (Int × Bool))
abbrev Yq3 : Tp := (.cons (.sl Yq2) (.one (.cons (.int .i64) (.cons (.int .i64) (.cons (.int .i64) (.cons (.sl (.int .i64)) (.cons (.sl (.int .i64)) (.one (.sl (.int .i64))))))))))
abbrev Yq4 : Tp := (.sl (.cons (.int .i64) (.cons (.sl (.cons (.int .i64) (.one (.int .i64)))) (.cons (.sl (.one (.sl Yq1))) (.one (.one (.sl Yq1)))))))
abbrev Tq4 : Type := (Option (Int × (List (Int × Int)) × ((List Int) × (List Int)) × ((List Int) × (List Int))))
abbrev Yq5 : Tp := (.cons (.int .i64) (.one (.int .i64)))
abbrev Yq6 : Tp := (.cons (.int .i64) (.cons (.sl Yq5) (.cons (.cons (.sl (.int .i64)) (.one (.sl (.int .i64)))) (.one (.cons (.sl (.int .i64)) (.one (.sl (.int .i64))))))))
abbrev Tq5 : Type := (Int × Int × Int × (List Int) × (List Int) × (List Int))
abbrev Tq6 : Type := (Int × (List (Int × Int)) × (List Tq3) × Tq3)
abbrev Tq7 : Type := (Int × Int × Int × Int)
abbrev Tq8 : Type := (List (Int × Int))
abbrev Tq9 : Type := (Option ((List Int) × Int))
abbrev Yq7 : Tp := (.sl (.int .i64))
abbrev Yq8 : Tp := (.sl (.one (.sl Yq1)))
abbrev Tq10 : Type := ((List Tq2) × Int)
abbrev Tq11 : Type := (Int × Int × Bool)
abbrev Yq9 : Tp := (.ptr (.cons Yq7 (.one (.int .i64))))
abbrev sl {α : Type} (a : Option Addr) (l : List α) (c : Nat) : Value := .slice a l.length c
abbrev pt (b : Nat) : Value := .pointer (some ⟨b, 0, none⟩)
theorem hpr {K : Hp} : Hp.le K K := Hp.le_refl K
theorem rt1 {a0 : Value} : a0 = a0 ∧ True := ⟨rfl, trivial⟩
theorem rt2 {a0 a1 : Value} : a0 = a0 ∧ a1 = a1 ∧ True := ⟨rfl, rfl, trivial⟩
theorem rt3 {a0 a1 a2 : Value} : a0 = a0 ∧ a1 = a1 ∧ a2 = a2 ∧ True := ⟨rfl, rfl, rfl, trivial⟩
theorem rt4 {a0 a1 a2 a3 : Value} : a0 = a0 ∧ a1 = a1 ∧ a2 = a2 ∧ a3 = a3 ∧ True := ⟨rfl, rfl, rfl, rfl, trivial⟩
theorem rt5 {a0 a1 a2 a3 a4 : Value} : a0 = a0 ∧ a1 = a1 ∧ a2 = a2 ∧ a3 = a3 ∧ a4 = a4 ∧ True := ⟨rfl, rfl, rfl, rfl, rfl, trivial⟩
theorem rt6 {a0 a1 a2 a3 a4 a5 : Value} : a0 = a0 ∧ a1 = a1 ∧ a2 = a2 ∧ a3 = a3 ∧ a4 = a4 ∧ a5 = a5 ∧ True := ⟨rfl, rfl, rfl, rfl, rfl, rfl, trivial⟩
theorem rt7 {a0 a1 a2 a3 a4 a5 a6 : Value} : a0 = a0 ∧ a1 = a1 ∧ a2 = a2 ∧ a3 = a3 ∧ a4 = a4 ∧ a5 = a5 ∧ a6 = a6 ∧ True := ⟨rfl, rfl, rfl, rfl, rfl, rfl, rfl, trivial⟩
theorem rt8 {a0 a1 a2 a3 a4 a5 a6 a7 : Value} : a0 = a0 ∧ a1 = a1 ∧ a2 = a2 ∧ a3 = a3 ∧ a4 = a4 ∧ a5 = a5 ∧ a6 = a6 ∧ a7 = a7 ∧ True := ⟨rfl, rfl, rfl, rfl, rfl, rfl, rfl, rfl, trivial⟩
theorem rt9 {a0 a1 a2 a3 a4 a5 a6 a7 a8 : Value} : a0 = a0 ∧ a1 = a1 ∧ a2 = a2 ∧ a3 = a3 ∧ a4 = a4 ∧ a5 = a5 ∧ a6 = a6 ∧ a7 = a7 ∧ a8 = a8 ∧ True := ⟨rfl, rfl, rfl, rfl, rfl, rfl, rfl, rfl, rfl, trivial⟩
theorem rt10 {a0 a1 a2 a3 a4 a5 a6 a7 a8 a9 : Value} : a0 = a0 ∧ a1 = a1 ∧ a2 = a2 ∧ a3 = a3 ∧ a4 = a4 ∧ a5 = a5 ∧ a6 = a6 ∧ a7 = a7 ∧ a8 = a8 ∧ a9 = a9 ∧ True := ⟨rfl, rfl, rfl, rfl, rfl, rfl, rfl, rfl, rfl, rfl, trivial⟩
theorem rt11 {a0 a1 a2 a3 a4 a5 a6 a7 a8 a9 a10 : Value} : a0 = a0 ∧ a1 = a1 ∧ a2 = a2 ∧ a3 = a3 ∧ a4 = a4 ∧ a5 = a5 ∧ a6 = a6 ∧ a7 = a7 ∧ a8 = a8 ∧ a9 = a9 ∧ a10 = a10 ∧ True := ⟨rfl, rfl, rfl, rfl, rfl, rfl, rfl, rfl, rfl, rfl, rfl, trivial⟩
theorem rt12 {a0 a1 a2 a3 a4 a5 a6 a7 a8 a9 a10 a11 : Value} : a0 = a0 ∧ a1 = a1 ∧ a2 = a2 ∧ a3 = a3 ∧ a4 = a4 ∧ a5 = a5 ∧ a6 = a6 ∧ a7 = a7 ∧ a8 = a8 ∧ a9 = a9 ∧ a10 = a10 ∧ a11 = a11 ∧ True := ⟨rfl, rfl, rfl, rfl, rfl, rfl, rfl, rfl, rfl, rfl, rfl, rfl, trivial⟩
theorem sz30 : (Tryz.prog.info? 30).map (·.size) = some 7 := by kernel_rfl
theorem nz22 : Tryz.prog.cellsOf 22 ≠ 0 := by decide +kernel
theorem sc22 : scalar Tryz.prog 22 = true := by kernel_rfl
theorem nz23 : Tryz.prog.cellsOf 23 ≠ 0 := by decide +kernel
theorem sc23 : scalar Tryz.prog 23 = true := by kernel_rfl
theorem nz27 : Tryz.prog.cellsOf 27 ≠ 0 := by decide +kernel
theorem sc27 : scalar Tryz.prog 27 = true := by kernel_rfl
theorem nz28 : Tryz.prog.cellsOf 28 ≠ 0 := by decide +kernel
theorem sc28 : scalar Tryz.prog 28 = true := by kernel_rfl
theorem nz26 : Tryz.prog.cellsOf 26 ≠ 0 := by decide +kernel
theorem sz26 : (Tryz.prog.info? 26).map (·.size) = some 1 := by kernel_rfl
theorem nz24 : Tryz.prog.cellsOf 24 ≠ 0 := by decide +kernel
theorem sc24 : scalar Tryz.prog 24 = true := by kernel_rfl
theorem sz55 : (Tryz.prog.info? 55).map (·.size) = some 4 := by kernel_rfl
theorem sz60 : (Tryz.prog.info? 60).map (·.size) = some 7 := by kernel_rfl
theorem nz58 : Tryz.prog.cellsOf 58 ≠ 0 := by decide +kernel
theorem sz58 : (Tryz.prog.info? 58).map (·.size) = some 6 := by kernel_rfl
theorem inf58 : Inf Tryz.prog 58 (.agg #[.int .i64 0, .int .i64 0, .int .i64 0, .slice none 0 0, .slice none 0 0, .slice none 0 0]) 6 96 := by unfold Inf; kernel_rfl
theorem nz56 : Tryz.prog.cellsOf 56 ≠ 0 := by decide +kernel
theorem sc56 : scalar Tryz.prog 56 = true := by kernel_rfl
theorem nz42 : Tryz.prog.cellsOf 42 ≠ 0 := by decide +kernel
theorem sc42 : scalar Tryz.prog 42 = true := by kernel_rfl
theorem inf26 : Inf Tryz.prog 26 (.agg #[.slice none 0 0]) 1 24 := by unfold Inf; kernel_rfl
theorem places26 : Places Tryz.prog 26 [(0, 1)] := ⟨_, underlying26, by kernel_rfl⟩
theorem inf62 : Inf Tryz.prog 62 (.agg #[.int .i64 0, .int .i64 0, .int .i64 0, .int .i64 0, .bool false]) 5 40 := by unfold Inf; kernel_rfl
theorem places62 : Places Tryz.prog 62 [(0, 1), (1, 1), (2, 1), (3, 1), (4, 1)] := ⟨_, underlying62, by kernel_rfl⟩
theorem inf3 : Inf Tryz.prog 3 (.int .i64 0) 1 8 := by unfold Inf; kernel_rfl
theorem places58 : Places Tryz.prog 58 [(0, 1), (1, 1), (2, 1), (3, 1), (4, 1), (5, 1)] := ⟨_, underlying58, by kernel_rfl⟩
theorem inf60 : Inf Tryz.prog 60 (.agg #[.slice none 0 0, .int .i64 0, .int .i64 0, .int .i64 0, .slice none 0 0, .slice none 0 0, .slice none 0 0]) 7 120 := by unfold Inf; kernel_rfl
theorem places60 : Places Tryz.prog 60 [(0, 1), (1, 6)] := ⟨_, underlying60, by kernel_rfl⟩
theorem inf30 : Inf Tryz.prog 30 (.agg #[.int .i64 0, .int .i64 0, .slice none 0 0, .slice none 0 0, .slice none 0 0, .slice none 0 0, .slice none 0 0]) 7 136 := by unfold Inf; kernel_rfl
theorem places30 : Places Tryz.prog 30 [(0, 1), (1, 1), (2, 1), (3, 1), (4, 1), (5, 1), (6, 1)] := ⟨_, underlying30, by kernel_rfl⟩
theorem inf82 : Inf Tryz.prog 82 (.agg #[.slice none 0 0, .int .i64 0]) 2 32 := by unfold Inf; kernel_rfl
theorem places82 : Places Tryz.prog 82 [(0, 1), (1, 1)] := ⟨_, underlying82, by kernel_rfl⟩
theorem inf105 : Inf Tryz.prog 105 (.agg #[.int .i64 0, .int .i64 0, .int .i64 0, .int .i64 0]) 4 32 := by unfold Inf; kernel_rfl
theorem inf106 : Inf Tryz.prog 106 .nilFunc 1 8 := by unfold Inf; kernel_rfl
theorem sz106 : (Tryz.prog.info? 106).map (·.size) = some 1 := by kernel_rfl
theorem sc106 : scalar Tryz.prog 106 = true := by kernel_rfl
theorem places105 : Places Tryz.prog 105 [(0, 1), (1, 1), (2, 1), (3, 1)] := ⟨_, underlying105, by kernel_rfl⟩
theorem sz105 : (Tryz.prog.info? 105).map (·.size) = some 4 := by kernel_rfl
theorem nz3 : Tryz.prog.cellsOf 3 ≠ 0 := by decide +kernel
theorem sc3 : scalar Tryz.prog 3 = true := by kernel_rfl
theorem nz72 : Tryz.prog.cellsOf 72 ≠ 0 := by decide +kernel
theorem sz72 : (Tryz.prog.info? 72).map (·.size) = some 1 := by kernel_rfl
theorem sc72 : scalar Tryz.prog 72 = true := by kernel_rfl
theorem sz126 : (Tryz.prog.info? 126).map (·.size) = some 2 := by kernel_rfl
theorem inf126 : Inf Tryz.prog 126 (.agg #[.int .i64 0, .int .i64 0]) 2 16 := by unfold Inf; kernel_rfl
theorem sz150 : (Tryz.prog.info? 150).map (·.size) = some 2 := by kernel_rfl
theorem inf150 : Inf Tryz.prog 150 (.agg #[.int .i64 0, .bool false]) 2 16 := by unfold Inf; kernel_rfl
theorem nz4 : Tryz.prog.cellsOf 4 ≠ 0 := by decide +kernel
theorem sc4 : scalar Tryz.prog 4 = true := by kernel_rfl
theorem mixO : Tryz.prog.follows .mixedOrders = true := by kernel_rfl
theorem inf55 : Inf Tryz.prog 55 (.agg #[.int .i64 0, .slice none 0 0, .slice none 0 0, .slice none 0 0]) 4 80 := by unfold Inf; kernel_rfl
theorem inf140 : Inf Tryz.prog 140 (.agg #[.int .i64 0, .int .i64 0, .slice none 0 0, .slice none 0 0, .slice none 0 0]) 5 88 := by unfold Inf; kernel_rfl
theorem places140 : Places Tryz.prog 140 [(0, 1), (1, 1), (2, 1), (3, 1), (4, 1)] := ⟨_, underlying140, by kernel_rfl⟩
theorem sz140 : (Tryz.prog.info? 140).map (·.size) = some 5 := by kernel_rfl
theorem sz62 : (Tryz.prog.info? 62).map (·.size) = some 5 := by kernel_rfl
theorem inf175 : Inf Tryz.prog 175 (.agg #[.bool false, .bool false, .bool false]) 3 3 := by unfold Inf; kernel_rfl
theorem places175 : Places Tryz.prog 175 [(0, 1), (1, 1), (2, 1)] := ⟨_, underlying175, by kernel_rfl⟩
theorem sz175 : (Tryz.prog.info? 175).map (·.size) = some 3 := by kernel_rfl
theorem sz3 : (Tryz.prog.info? 3).map (·.size) = some 1 := by kernel_rfl
theorem sz4 : (Tryz.prog.info? 4).map (·.size) = some 1 := by kernel_rfl
theorem sih62 : Tryz.prog.stoodInHeld 62 = false := by kernel_rfl
theorem eqg62 : Tryz.prog.eqGuardType Tryz.prog.depth 62 = false := by kernel_rfl
theorem inf187 : Inf Tryz.prog 187 (.agg #[.int .i64 0, .int .i64 0, .int .i64 0, .int .i64 0, .bool false]) 5 40 := by unfold Inf; kernel_rfl
theorem places187 : Places Tryz.prog 187 [(0, 1), (1, 1), (2, 1), (3, 1), (4, 1)] := ⟨_, underlying187, by kernel_rfl⟩
theorem places150 : Places Tryz.prog 150 [(0, 1), (1, 1)] := ⟨_, underlying150, by kernel_rfl⟩
theorem sz42 : (Tryz.prog.info? 42).map (·.size) = some 1 := by kernel_rfl
theorem sc39 : scalar Tryz.prog 39 = true := by kernel_rfl
theorem inf70 : Inf Tryz.prog 70 (.agg #[.int .i64 0, .int .i64 0]) 2 16 := by unfold Inf; kernel_rfl
theorem places70 : Places Tryz.prog 70 [(0, 1), (1, 1)] := ⟨_, underlying70, by kernel_rfl⟩
theorem sz70 : (Tryz.prog.info? 70).map (·.size) = some 2 := by kernel_rfl
theorem inf97 : Inf Tryz.prog 97 (.agg #[.int .i64 0, .slice none 0 0, .slice none 0 0, .slice none 0 0, .slice none 0 0, .slice none 0 0]) 6 128 := by unfold Inf; kernel_rfl
theorem places97 : Places Tryz.prog 97 [(0, 1), (1, 1), (2, 2), (4, 2)] := ⟨_, underlying97, by kernel_rfl⟩
theorem nz64 : Tryz.prog.cellsOf 64 ≠ 0 := by decide +kernel
theorem sc64 : scalar Tryz.prog 64 = true := by kernel_rfl
theorem inf95 : Inf Tryz.prog 95 (.agg #[.slice none 0 0, .slice none 0 0]) 2 48 := by unfold Inf; kernel_rfl
theorem places95 : Places Tryz.prog 95 [(0, 1), (1, 1)] := ⟨_, underlying95, by kernel_rfl⟩
theorem sz95 : (Tryz.prog.info? 95).map (·.size) = some 2 := by kernel_rfl
theorem nz95 : Tryz.prog.cellsOf 95 ≠ 0 := by decide +kernel
theorem inf76 : Inf Tryz.prog 76 (.agg #[.pointer none, .pointer none]) 2 16 := by unfold Inf; kernel_rfl
theorem places76 : Places Tryz.prog 76 [(0, 1), (1, 1)] := ⟨_, underlying76, by kernel_rfl⟩
theorem nz71 : Tryz.prog.cellsOf 71 ≠ 0 := by decide +kernel
theorem sc71 : scalar Tryz.prog 71 = true := by kernel_rfl
theorem inf42 : Inf Tryz.prog 42 (.slice none 0 0) 1 24 := by unfold Inf; kernel_rfl
theorem inf4 : Inf Tryz.prog 4 (.bool false) 1 1 := by unfold Inf; kernel_rfl
theorem nz39 : Tryz.prog.cellsOf 39 ≠ 0 := by decide +kernel
theorem inf78 : Inf Tryz.prog 78 (.agg #[.int .i64 0, .int .i64 0, .bool false]) 3 24 := by unfold Inf; kernel_rfl
theorem inf101 : Inf Tryz.prog 101 (.agg #[.int .i64 0, .int .i64 0, .int .i64 0, .int .i64 0]) 4 32 := by unfold Inf; kernel_rfl
theorem places101 : Places Tryz.prog 101 [(0, 1), (1, 1), (2, 1), (3, 1)] := ⟨_, underlying101, by kernel_rfl⟩
theorem sz101 : (Tryz.prog.info? 101).map (·.size) = some 4 := by kernel_rfl
theorem inf131 : Inf Tryz.prog 131 (.agg #[.int .i64 0, .int .i64 0, .slice none 0 0, .slice none 0 0, .slice none 0 0]) 5 88 := by unfold Inf; kernel_rfl
theorem places131 : Places Tryz.prog 131 [(0, 1), (1, 1), (2, 1), (3, 1), (4, 1)] := ⟨_, underlying131, by kernel_rfl⟩
theorem sz131 : (Tryz.prog.info? 131).map (·.size) = some 5 := by kernel_rfl
theorem inf169 : Inf Tryz.prog 169 (.agg #[.int .i64 0, .int .i64 0, .int .i64 0, .int .i64 0, .bool false]) 5 40 := by unfold Inf; kernel_rfl
theorem places169 : Places Tryz.prog 169 [(0, 1), (1, 1), (2, 1), (3, 1), (4, 1)] := ⟨_, underlying169, by kernel_rfl⟩
theorem places78 : Places Tryz.prog 78 [(0, 1), (1, 1), (2, 1)] := ⟨_, underlying78, by kernel_rfl⟩
theorem inf80 : Inf Tryz.prog 80 (.agg #[.int .i64 0, .int .i64 0]) 2 16 := by unfold Inf; kernel_rfl
theorem sz78 : (Tryz.prog.info? 78).map (·.size) = some 3 := by kernel_rfl
theorem places80 : Places Tryz.prog 80 [(0, 1), (1, 1)] := ⟨_, underlying80, by kernel_rfl⟩
theorem sz80 : (Tryz.prog.info? 80).map (·.size) = some 2 := by kernel_rfl

noncomputable def fn_ref15_Few (xa : Tq3) (xb : Int) : Option Bool :=
  some (decide ((((xa.length : Nat) : Int)) ≤ xb))
theorem ref15_Few_ok {K : Hp} {xa : Tq3} {xb : Int} {Aa0 : Option Addr} {Ca0 : Nat} (Ga0 : Is K (.sl Yq1) [sl Aa0 xa Ca0] xa) {r : Bool} (h : fn_ref15_Few xa xb = some r) :
    Tr Tryz.prog 24 #[.agg #[sl Aa0 xa Ca0], ii xb] K [] (fun v K' L' => (∃ (t2 : Bool), t2 = r ∧ .bool t2 = v ∧ L' = []) ∧ K = K') := by
 refine Tr.k <| Tr.of func24 rfl ntmps24 rfl fun E F => ?_
 unfold fn_ref15_Few at h
 refine cr <| jbx [sl Aa0 xa Ca0] rfl rfl fun b3 => ja (.bool false) rfl <| J.nil <| CJ.seq <| CJ.region ?_
 refine jv _ (V.fad underlying26 rfl nz24 rfl) <| jv (sl Aa0 xa Ca0) (V.ld rfl (Ld.sc sc24 (Rd.cl 0 rfl rfl))) <| jv (ii (((xa.length : Nat) : Int))) (V.len underlying24 rfl) <| jm (ii xb) rfl <| jv (.bool (decide ((((xa.length : Nat) : Int)) ≤ xb))) (V.leq rfl rfl) <| ja (.bool (decide ((((xa.length : Nat) : Int)) ≤ xb))) rfl <| J.nil ?_
 refine CJ.ret ?_
 obtain rfl := si h
 exact ⟨_, _, Res.one rfl rfl, ⟨decide ((((xa.length : Nat) : Int)) ≤ xb), rfl, rfl, rfl⟩, hpr, fun w hs => (Sep.dropAt 0 rfl hs)⟩
noncomputable def fn_ref17_Few_l1 (xa : Tq6) : Int → Option (Int ⊕ (Unit ⊕ Bool)) := fun (i1 : Int) => cond (decide (i1 < (((xa.2.2.1.length : Nat) : Int)))) ((getI xa.2.2.1 i1).bind fun x2 => (fn_ref15_Few x2 20).bind fun t3 => cond (!t3) (some (.inr ((.inr (false))))) (some (.inl (IntKind.wrap .i64 (i1 + 1))))) (some (.inr ((.inl ()))))
noncomputable def fn_ref17_Few (xa : Tq6) : Option Bool :=
  (cond ((decide (20 < (((xa.2.1.length : Nat) : Int)))) || (decide (20 < (((xa.2.2.1.length : Nat) : Int))))) (some (true)) ((fn_ref15_Few xa.2.2.2 20).bind fun t1 => some (!t1))).bind fun t2 => cond (t2) (some (false)) ((loop (fn_ref17_Few_l1 xa) 0 : Option (Unit ⊕ Bool)).bind fun o => match o with | .inr r => some r | .inl () => some (true))
theorem ref17_Few_ok {K : Hp} {xa : Tq6} {Aa1 : Option Addr} {Ca1 : Nat} {Aa2 : Option Addr} {Ca2 : Nat} {Aa3 : Option Addr} {Ca3 : Nat} (Ga1 : Is K (.sl Yq5) [sl Aa1 xa.2.1 Ca1] xa.2.1) (Ga2 : Is K Yq8 [sl Aa2 xa.2.2.1 Ca2] xa.2.2.1) (Ga3 : Is K (.sl Yq1) [sl Aa3 xa.2.2.2 Ca3] xa.2.2.2) {r : Bool} (h : fn_ref17_Few xa = some r) :
    Tr Tryz.prog 25 #[.agg #[ii xa.1, sl Aa1 xa.2.1 Ca1, sl Aa2 xa.2.2.1 Ca2, sl Aa3 xa.2.2.2 Ca3]] K [] (fun v K' L' => (∃ (t4 : Bool), t4 = r ∧ .bool t4 = v ∧ L' = []) ∧ K = K') := by
 refine Tr.k <| Tr.of func25 rfl ntmps25 rfl fun E F => ?_
 unfold fn_ref17_Few at h
 refine cr <| jbx [ii xa.1, sl Aa1 xa.2.1 Ca1, sl Aa2 xa.2.2.1 Ca2, sl Aa3 xa.2.2.2 Ca3] rfl rfl fun b5 => ja (.bool false) rfl <| J.nil <| CJ.seq <| CJ.seq ?_
 refine CJ.region <| jv _ (V.fad underlying55 rfl nz22 rfl) <| jv (sl Aa1 xa.2.1 Ca1) (V.ld rfl (Ld.sc sc22 (Rd.cl 0 rfl rfl))) <| jv (ii (((xa.2.1.length : Nat) : Int))) (V.len underlying22 rfl) <| jv (.bool (decide (20 < (((xa.2.1.length : Nat) : Int))))) (V.gtr rfl rfl) <| jm (.bool (decide (20 < (((xa.2.1.length : Nat) : Int))))) rfl <| J.cut 5 ?_
 refine jmeet [(13, .bool ((decide (20 < (((xa.2.1.length : Nat) : Int)))) || (decide (20 < (((xa.2.2.1.length : Nat) : Int)))))), (1, pt b5)] ?_ ?_
 · rcases bt (decide (20 < (((xa.2.1.length : Nat) : Int)))) with hc6 | hc6
   · refine J.skip rfl rfl rfl rfl hc6 <| J.skip rfl rfl rfl rfl hc6 <| J.skip rfl rfl rfl rfl hc6 <| J.skip rfl rfl rfl rfl hc6 <| jv (.bool true) (V.pickT rfl hc6 rfl) <| J.nil ?_
     exact ⟨rfl, ⟨(by simp only [hc6]; rfl), rfl, trivial⟩, rfl, rfl⟩
   refine J.run rfl rfl rfl hc6 <| jv _ (V.fad underlying55 rfl nz23 rfl) <| J.run rfl rfl rfl hc6 <| jv (sl Aa2 xa.2.2.1 Ca2) (V.ld rfl (Ld.sc sc23 (Rd.cl 0 rfl rfl))) <| J.run rfl rfl rfl hc6 <| jv (ii (((xa.2.2.1.length : Nat) : Int))) (V.len underlying23 rfl) <| J.run rfl rfl rfl hc6 ?_
   refine jv (.bool (decide (20 < (((xa.2.2.1.length : Nat) : Int))))) (V.gtr rfl rfl) <| jv (.bool (decide (20 < (((xa.2.2.1.length : Nat) : Int))))) (V.pickF rfl hc6 rfl) <| J.nil ?_
   exact ⟨rfl, ⟨(by simp only [hc6]; rfl), rfl, trivial⟩, rfl, rfl⟩
 intro ρ
 refine jm (.bool ((decide (20 < (((xa.2.1.length : Nat) : Int)))) || (decide (20 < (((xa.2.2.1.length : Nat) : Int)))))) rfl <| J.cut 5 ?_
 obtain ⟨t7, ht9, h⟩ := ob h
 refine jmeet [(19, .bool t7), (1, pt b5)] ?_ ?_
 · rcases bt ((decide (20 < (((xa.2.1.length : Nat) : Int)))) || (decide (20 < (((xa.2.2.1.length : Nat) : Int))))) with hc10 | hc10
   · have ht9 := ct hc10 ht9
     refine J.skip rfl rfl rfl rfl hc10 <| J.skip rfl rfl rfl rfl hc10 <| J.skip rfl rfl rfl rfl hc10 <| J.skip rfl rfl rfl rfl hc10 <| jv (.bool true) (V.pickT rfl hc10 rfl) <| J.nil ?_
     obtain rfl := si ht9
     exact ⟨rfl, rt2, rfl, rfl⟩
   have ht9 := cf hc10 ht9
   refine J.run rfl rfl rfl hc10 <| jv _ (V.fad underlying55 rfl nz26 rfl) <| J.run rfl rfl rfl hc10 <| jv (.agg #[sl Aa3 xa.2.2.2 Ca3]) (V.ld rfl (Ld.agg (cs := [sl Aa3 xa.2.2.2 Ca3]) underlying26 sz26 rfl (Rd.cls 0 3 rfl rfl))) <| J.run rfl rfl rfl hc10 ?_
   obtain ⟨r11, hr12, ht9⟩ := ob ht9
   refine J.op rfl (A.call (L1 := []) call24 rfl (ref15_Few_ok Ga3 hr12) rfl rfl) ?_
   rintro _ _ _ ⟨v13, _, rfl, ⟨⟨t14, rfl, rfl, rfl⟩, rfl⟩, _, rfl⟩
   refine J.run rfl rfl rfl hc10 <| jv (.bool (!t14)) (V.not rfl) <| jv (.bool (!t14)) (V.pickF rfl hc10 rfl) <| J.nil ?_
   obtain rfl := si ht9
   exact ⟨rfl, rt2, rfl, rfl⟩
 intro ρ
 refine J.nil <| cc rfl h (fun hc15 h => ?_) fun hc15 h => ?_
 · refine cr <| ja (.bool false) rfl <| J.nil <| CJ.ret ?_
   obtain rfl := si h
   exact ⟨_, _, Res.one rfl rfl, ⟨false, rfl, rfl, rfl⟩, hpr, fun w hs => (Sep.dropAt 0 rfl hs)⟩
 refine CJ.skip <| CJ.seq <| cr <| ja (ii 0) rfl <| J.nil ?_
 obtain ⟨o17, ho18, h⟩ := ob h
 refine CJ.joinN (o := o17) (fun s ρ K' L' => () = s ∧ Fits [] ρ ∧ K = K' ∧ F = L') ?_ ?_
 · refine CJ.block <| CJ.loop (fun s ρ K' L' => ∃ (i19 : Int), i19 = s ∧ Fits [(1, pt b5), (3, ii i19)] ρ ∧ K = K' ∧ L' = Cl b5 55 [ii xa.1, sl Aa1 xa.2.1 Ca1, sl Aa2 xa.2.2.1 Ca2, sl Aa3 xa.2.2.2 Ca3] :: F) ho18 ⟨0, rfl, rt2, rfl, rfl⟩ ?_
   rintro s ρ _ _ r20 ⟨i19, rfl, hf21, rfl, rfl⟩ h27
   obtain ⟨ρ, rfl⟩ := hf21.ex
   refine CJ.seq <| cr <| jm (ii i19) rfl <| jv _ (V.fad underlying55 rfl nz23 rfl) <| jv (sl Aa2 xa.2.2.1 Ca2) (V.ld rfl (Ld.sc sc23 (Rd.cl 0 rfl rfl))) <| jv (ii (((xa.2.2.1.length : Nat) : Int))) (V.len underlying23 rfl) ?_
   refine jv (.bool (decide (i19 < (((xa.2.2.1.length : Nat) : Int))))) (V.lss rfl rfl) <| J.nil <| cc rfl h27 (fun hc28 h27 => ?_) fun hc28 h27 => ?_
   · refine CJ.skip <| CJ.seq <| CJ.block <| cr <| jv _ (V.fad underlying55 rfl nz23 rfl) <| jv (sl Aa2 xa.2.2.1 Ca2) (V.ld rfl (Ld.sc sc23 (Rd.cl 0 rfl rfl))) ?_
     refine jm (ii i19) rfl ?_
     obtain ⟨x29, hx30, h27⟩ := ob h27
     obtain ⟨p31, p33, p34⟩ := getI_some hx30
     obtain ⟨b35, o36, e37, a38⟩ := (Ga2).at p33
     refine jv _ (V.iad underlying23 sz26 rfl e37 rfl p31 p34) ?_
     obtain ⟨ad39, cp40, c41, f42⟩ := ((a38).one).sl
     refine jv (.agg #[sl ad39 x29 cp40]) (V.ld rfl (Ld.aggK (cs := [sl ad39 x29 cp40]) underlying26 sz26 rfl ⟨c41, trivial⟩ hpr)) ?_
     obtain ⟨r43, hr44, h27⟩ := ob h27
     refine J.op rfl (A.call (L1 := []) call24 rfl (ref15_Few_ok f42 hr44) rfl rfl) ?_
     rintro _ _ _ ⟨v45, _, rfl, ⟨⟨t46, rfl, rfl, rfl⟩, rfl⟩, _, rfl⟩
     refine jv (.bool (!t46)) (V.not rfl) <| J.nil <| cc rfl h27 (fun hc47 h27 => ?_) fun hc47 h27 => ?_
     · refine cr <| ja (.bool false) rfl <| J.nil <| CJ.ret ?_
       obtain rfl := si h27
       refine ⟨nofun, fun e => ?_⟩
       subst e
       refine .inr ⟨nofun, ?_⟩
       obtain rfl := si h
       exact ⟨_, _, Res.one rfl rfl, ⟨false, rfl, rfl, rfl⟩, hpr, fun w hs => (Sep.dropAt 0 rfl hs)⟩
     refine CJ.skip <| CJ.region <| jm (ii i19) rfl <| jv (ii (IntKind.wrap .i64 (i19 + 1))) (V.add rfl rfl) <| ja (ii (IntKind.wrap .i64 (i19 + 1))) rfl <| J.nil ?_
     obtain rfl := si h27
     exact ⟨rfl, ⟨IntKind.wrap .i64 (i19 + 1), rfl, rt2, rfl, rfl⟩⟩
   refine CJ.dropAt 0 rfl <| CJ.exit ?_
   obtain rfl := si h27
   refine ⟨nofun, fun e => ?_⟩
   subst e
   exact .inl ⟨rfl, _, rfl, ⟨rfl, trivial, rfl, rfl⟩⟩
 rintro s ρ _ _ ho48 ⟨rfl, hf49, rfl, rfl⟩
 subst ho48
 obtain ⟨ρ, rfl⟩ := hf49.ex
 refine PJ.done <| cr <| ja (.bool true) rfl <| J.nil <| CJ.ret ?_
 obtain rfl := si h
 exact ⟨_, _, Res.one rfl rfl, ⟨true, rfl, rfl, rfl⟩, hpr, fun w hs => hs⟩
noncomputable def fn_ref20_Small_l1 (xa : Tq1) : Int → Option (Int ⊕ (Unit ⊕ Bool)) := fun (i1 : Int) => cond (decide (i1 < (((xa.2.2.2.1.length : Nat) : Int)))) ((getI xa.2.2.2.1 i1).bind fun x2 => (fn_ref15_Few x2 20).bind fun t3 => cond (!t3) (some (.inr ((.inr (false))))) (some (.inl (IntKind.wrap .i64 (i1 + 1))))) (some (.inr ((.inl ()))))
noncomputable def fn_ref20_Small_l2 (xa : Tq1) : Int → Option (Int ⊕ (Unit ⊕ Bool)) := fun (i1 : Int) => cond (decide (i1 < (((xa.2.2.2.2.2.1.length : Nat) : Int)))) ((getI xa.2.2.2.2.2.1 i1).bind fun x2 => (fn_ref17_Few (x2.1, x2.2.1, x2.2.2.1, x2.2.2.2)).bind fun t3 => cond (!t3) (some (.inr ((.inr (false))))) (some (.inl (IntKind.wrap .i64 (i1 + 1))))) (some (.inr ((.inl ()))))
noncomputable def fn_ref20_Small_l3 (xa : Tq1) : (Int × Int) → Option ((Int × Int) ⊕ (Int ⊕ Bool)) := fun ((i1, i2) : (Int × Int)) => cond (decide (i2 < (((xa.2.2.2.2.2.2.length : Nat) : Int)))) ((getI xa.2.2.2.2.2.2 i2).bind fun x3 => (getI xa.2.2.2.2.2.2 i2).bind fun x4 => cond (((decide (20 < (((x3.2.2.2.2.1.length : Nat) : Int)))) || (decide (20 < (((x3.2.2.2.2.2.1.length : Nat) : Int))))) || (decide (20 < (((x3.2.2.2.2.2.2.length : Nat) : Int))))) (some (.inr ((.inr (false))))) (some (.inl ((IntKind.wrap .i64 (i1 + (((x4.1.length : Nat) : Int))), IntKind.wrap .i64 (i2 + 1)))))) (some (.inr (.inl i1)))
noncomputable def fn_ref20_Small (xa : Tq1) : Option Bool :=
  (cond ((((decide (20 < (((xa.2.2.1.length : Nat) : Int)))) || (decide (10 < (((xa.2.2.2.1.length : Nat) : Int))))) || (decide (4 < (((xa.2.2.2.2.2.1.length : Nat) : Int))))) || (decide (8 < (((xa.2.2.2.2.2.2.length : Nat) : Int))))) (some (true)) ((fn_ref15_Few xa.2.2.2.2.1 20).bind fun t1 => some (!t1))).bind fun t2 => cond (t2) (some (false)) ((loop (fn_ref20_Small_l1 xa) 0 : Option (Unit ⊕ Bool)).bind fun o => match o with | .inr r => some r | .inl () => (loop (fn_ref20_Small_l2 xa) 0 : Option (Unit ⊕ Bool)).bind fun o => match o with | .inr r => some r | .inl () => (loop (fn_ref20_Small_l3 xa) (0, 0) : Option (Int ⊕ Bool)).bind fun o => match o with | .inr r => some r | .inl i3 => some (decide (i3 ≤ 24)))
theorem ref20_Small_ok {K : Hp} {xa : Tq1} {Aa2 : Option Addr} {Ca2 : Nat} {Aa3 : Option Addr} {Ca3 : Nat} {Aa4 : Option Addr} {Ca4 : Nat} {Aa5 : Option Addr} {Ca5 : Nat} {Aa6 : Option Addr} {Ca6 : Nat} (Ga2 : Is K (.sl Yq5) [sl Aa2 xa.2.2.1 Ca2] xa.2.2.1) (Ga3 : Is K Yq8 [sl Aa3 xa.2.2.2.1 Ca3] xa.2.2.2.1) (Ga4 : Is K (.sl Yq1) [sl Aa4 xa.2.2.2.2.1 Ca4] xa.2.2.2.2.1) (Ga5 : Is K Yq4 [sl Aa5 xa.2.2.2.2.2.1 Ca5] xa.2.2.2.2.2.1) (Ga6 : Is K (.sl Yq3) [sl Aa6 xa.2.2.2.2.2.2 Ca6] xa.2.2.2.2.2.2) {r : Bool} (h : fn_ref20_Small xa = some r) :
    Tr Tryz.prog 6 #[.agg #[ii xa.1, ii xa.2.1, sl Aa2 xa.2.2.1 Ca2, sl Aa3 xa.2.2.2.1 Ca3, sl Aa4 xa.2.2.2.2.1 Ca4, sl Aa5 xa.2.2.2.2.2.1 Ca5, sl Aa6 xa.2.2.2.2.2.2 Ca6]] K [] (fun v K' L' => (∃ (t7 : Bool), t7 = r ∧ .bool t7 = v ∧ L' = []) ∧ K = K') := by
 refine Tr.k <| Tr.of func6 rfl ntmps6 rfl fun E F => ?_
 unfold fn_ref20_Small at h
 refine cr <| jbx [ii xa.1, ii xa.2.1, sl Aa2 xa.2.2.1 Ca2, sl Aa3 xa.2.2.2.1 Ca3, sl Aa4 xa.2.2.2.2.1 Ca4, sl Aa5 xa.2.2.2.2.2.1 Ca5, sl Aa6 xa.2.2.2.2.2.2 Ca6] rfl rfl fun b9 => ja (.bool false) rfl <| J.nil <| CJ.seq <| CJ.seq ?_
 refine CJ.region <| jv _ (V.fad underlying30 rfl nz22 rfl) <| jv (sl Aa2 xa.2.2.1 Ca2) (V.ld rfl (Ld.sc sc22 (Rd.cl 0 rfl rfl))) <| jv (ii (((xa.2.2.1.length : Nat) : Int))) (V.len underlying22 rfl) <| jv (.bool (decide (20 < (((xa.2.2.1.length : Nat) : Int))))) (V.gtr rfl rfl) <| jm (.bool (decide (20 < (((xa.2.2.1.length : Nat) : Int))))) rfl <| J.cut 5 ?_
 refine jmeet [(17, .bool ((decide (20 < (((xa.2.2.1.length : Nat) : Int)))) || (decide (10 < (((xa.2.2.2.1.length : Nat) : Int)))))), (1, pt b9)] ?_ ?_
 · rcases bt (decide (20 < (((xa.2.2.1.length : Nat) : Int)))) with hc10 | hc10
   · refine J.skip rfl rfl rfl rfl hc10 <| J.skip rfl rfl rfl rfl hc10 <| J.skip rfl rfl rfl rfl hc10 <| J.skip rfl rfl rfl rfl hc10 <| jv (.bool true) (V.pickT rfl hc10 rfl) <| J.nil ?_
     exact ⟨rfl, ⟨(by simp only [hc10]; rfl), rfl, trivial⟩, rfl, rfl⟩
   refine J.run rfl rfl rfl hc10 <| jv _ (V.fad underlying30 rfl nz23 rfl) <| J.run rfl rfl rfl hc10 <| jv (sl Aa3 xa.2.2.2.1 Ca3) (V.ld rfl (Ld.sc sc23 (Rd.cl 0 rfl rfl))) <| J.run rfl rfl rfl hc10 <| jv (ii (((xa.2.2.2.1.length : Nat) : Int))) (V.len underlying23 rfl) <| J.run rfl rfl rfl hc10 ?_
   refine jv (.bool (decide (10 < (((xa.2.2.2.1.length : Nat) : Int))))) (V.gtr rfl rfl) <| jv (.bool (decide (10 < (((xa.2.2.2.1.length : Nat) : Int))))) (V.pickF rfl hc10 rfl) <| J.nil ?_
   exact ⟨rfl, ⟨(by simp only [hc10]; rfl), rfl, trivial⟩, rfl, rfl⟩
 intro ρ
 refine jm (.bool ((decide (20 < (((xa.2.2.1.length : Nat) : Int)))) || (decide (10 < (((xa.2.2.2.1.length : Nat) : Int)))))) rfl <| J.cut 5 <| jmeet [(23, .bool (((decide (20 < (((xa.2.2.1.length : Nat) : Int)))) || (decide (10 < (((xa.2.2.2.1.length : Nat) : Int))))) || (decide (4 < (((xa.2.2.2.2.2.1.length : Nat) : Int)))))), (1, pt b9)] ?_ ?_
 · rcases bt ((decide (20 < (((xa.2.2.1.length : Nat) : Int)))) || (decide (10 < (((xa.2.2.2.1.length : Nat) : Int))))) with hc11 | hc11
   · refine J.skip rfl rfl rfl rfl hc11 <| J.skip rfl rfl rfl rfl hc11 <| J.skip rfl rfl rfl rfl hc11 <| J.skip rfl rfl rfl rfl hc11 <| jv (.bool true) (V.pickT rfl hc11 rfl) <| J.nil ?_
     exact ⟨rfl, ⟨(by simp only [hc11]; rfl), rfl, trivial⟩, rfl, rfl⟩
   refine J.run rfl rfl rfl hc11 <| jv _ (V.fad underlying30 rfl nz27 rfl) <| J.run rfl rfl rfl hc11 <| jv (sl Aa5 xa.2.2.2.2.2.1 Ca5) (V.ld rfl (Ld.sc sc27 (Rd.cl 0 rfl rfl))) <| J.run rfl rfl rfl hc11 <| jv (ii (((xa.2.2.2.2.2.1.length : Nat) : Int))) (V.len underlying27 rfl) <| J.run rfl rfl rfl hc11 ?_
   refine jv (.bool (decide (4 < (((xa.2.2.2.2.2.1.length : Nat) : Int))))) (V.gtr rfl rfl) <| jv (.bool (decide (4 < (((xa.2.2.2.2.2.1.length : Nat) : Int))))) (V.pickF rfl hc11 rfl) <| J.nil ?_
   exact ⟨rfl, ⟨(by simp only [hc11]; rfl), rfl, trivial⟩, rfl, rfl⟩
 intro ρ
 refine jm (.bool (((decide (20 < (((xa.2.2.1.length : Nat) : Int)))) || (decide (10 < (((xa.2.2.2.1.length : Nat) : Int))))) || (decide (4 < (((xa.2.2.2.2.2.1.length : Nat) : Int)))))) rfl <| J.cut 5 <| jmeet [(29, .bool ((((decide (20 < (((xa.2.2.1.length : Nat) : Int)))) || (decide (10 < (((xa.2.2.2.1.length : Nat) : Int))))) || (decide (4 < (((xa.2.2.2.2.2.1.length : Nat) : Int))))) || (decide (8 < (((xa.2.2.2.2.2.2.length : Nat) : Int)))))), (1, pt b9)] ?_ ?_
 · rcases bt (((decide (20 < (((xa.2.2.1.length : Nat) : Int)))) || (decide (10 < (((xa.2.2.2.1.length : Nat) : Int))))) || (decide (4 < (((xa.2.2.2.2.2.1.length : Nat) : Int))))) with hc12 | hc12
   · refine J.skip rfl rfl rfl rfl hc12 <| J.skip rfl rfl rfl rfl hc12 <| J.skip rfl rfl rfl rfl hc12 <| J.skip rfl rfl rfl rfl hc12 <| jv (.bool true) (V.pickT rfl hc12 rfl) <| J.nil ?_
     exact ⟨rfl, ⟨(by simp only [hc12]; rfl), rfl, trivial⟩, rfl, rfl⟩
   refine J.run rfl rfl rfl hc12 <| jv _ (V.fad underlying30 rfl nz28 rfl) <| J.run rfl rfl rfl hc12 <| jv (sl Aa6 xa.2.2.2.2.2.2 Ca6) (V.ld rfl (Ld.sc sc28 (Rd.cl 0 rfl rfl))) <| J.run rfl rfl rfl hc12 <| jv (ii (((xa.2.2.2.2.2.2.length : Nat) : Int))) (V.len underlying28 rfl) <| J.run rfl rfl rfl hc12 ?_
   refine jv (.bool (decide (8 < (((xa.2.2.2.2.2.2.length : Nat) : Int))))) (V.gtr rfl rfl) <| jv (.bool (decide (8 < (((xa.2.2.2.2.2.2.length : Nat) : Int))))) (V.pickF rfl hc12 rfl) <| J.nil ?_
   exact ⟨rfl, ⟨(by simp only [hc12]; rfl), rfl, trivial⟩, rfl, rfl⟩
 intro ρ
 refine jm (.bool ((((decide (20 < (((xa.2.2.1.length : Nat) : Int)))) || (decide (10 < (((xa.2.2.2.1.length : Nat) : Int))))) || (decide (4 < (((xa.2.2.2.2.2.1.length : Nat) : Int))))) || (decide (8 < (((xa.2.2.2.2.2.2.length : Nat) : Int)))))) rfl <| J.cut 5 ?_
 obtain ⟨t13, ht14, h⟩ := ob h
 refine jmeet [(35, .bool t13), (1, pt b9)] ?_ ?_
 · rcases bt ((((decide (20 < (((xa.2.2.1.length : Nat) : Int)))) || (decide (10 < (((xa.2.2.2.1.length : Nat) : Int))))) || (decide (4 < (((xa.2.2.2.2.2.1.length : Nat) : Int))))) || (decide (8 < (((xa.2.2.2.2.2.2.length : Nat) : Int))))) with hc15 | hc15
   · have ht14 := ct hc15 ht14
     refine J.skip rfl rfl rfl rfl hc15 <| J.skip rfl rfl rfl rfl hc15 <| J.skip rfl rfl rfl rfl hc15 <| J.skip rfl rfl rfl rfl hc15 <| jv (.bool true) (V.pickT rfl hc15 rfl) <| J.nil ?_
     obtain rfl := si ht14
     exact ⟨rfl, rt2, rfl, rfl⟩
   have ht14 := cf hc15 ht14
   refine J.run rfl rfl rfl hc15 <| jv _ (V.fad underlying30 rfl nz26 rfl) <| J.run rfl rfl rfl hc15 <| jv (.agg #[sl Aa4 xa.2.2.2.2.1 Ca4]) (V.ld rfl (Ld.agg (cs := [sl Aa4 xa.2.2.2.2.1 Ca4]) underlying26 sz26 rfl (Rd.cls 0 4 rfl rfl))) <| J.run rfl rfl rfl hc15 ?_
   obtain ⟨r17, hr18, ht14⟩ := ob ht14
   refine J.op rfl (A.call (L1 := []) call24 rfl (ref15_Few_ok Ga4 hr18) rfl rfl) ?_
   rintro _ _ _ ⟨v19, _, rfl, ⟨⟨t20, rfl, rfl, rfl⟩, rfl⟩, _, rfl⟩
   refine J.run rfl rfl rfl hc15 <| jv (.bool (!t20)) (V.not rfl) <| jv (.bool (!t20)) (V.pickF rfl hc15 rfl) <| J.nil ?_
   obtain rfl := si ht14
   exact ⟨rfl, rt2, rfl, rfl⟩
 intro ρ
 refine J.nil <| cc rfl h (fun hc21 h => ?_) fun hc21 h => ?_
 · refine cr <| ja (.bool false) rfl <| J.nil <| CJ.ret ?_
   obtain rfl := si h
   exact ⟨_, _, Res.one rfl rfl, ⟨false, rfl, rfl, rfl⟩, hpr, fun w hs => (Sep.dropAt 0 rfl hs)⟩
 refine CJ.skip <| CJ.seq <| cr <| ja (ii 0) rfl <| J.nil ?_
 obtain ⟨o29, ho31, h⟩ := ob h
 refine CJ.joinN (o := o29) (fun s ρ K' L' => () = s ∧ Fits [(1, pt b9)] ρ ∧ K = K' ∧ L' = Cl b9 30 [ii xa.1, ii xa.2.1, sl Aa2 xa.2.2.1 Ca2, sl Aa3 xa.2.2.2.1 Ca3, sl Aa4 xa.2.2.2.2.1 Ca4, sl Aa5 xa.2.2.2.2.2.1 Ca5, sl Aa6 xa.2.2.2.2.2.2 Ca6] :: F) ?_ ?_
 · refine CJ.block <| CJ.loop (fun s ρ K' L' => ∃ (i33 : Int), i33 = s ∧ Fits [(1, pt b9), (3, ii i33)] ρ ∧ K = K' ∧ L' = Cl b9 30 [ii xa.1, ii xa.2.1, sl Aa2 xa.2.2.1 Ca2, sl Aa3 xa.2.2.2.1 Ca3, sl Aa4 xa.2.2.2.2.1 Ca4, sl Aa5 xa.2.2.2.2.2.1 Ca5, sl Aa6 xa.2.2.2.2.2.2 Ca6] :: F) ho31 ⟨0, rfl, rt2, rfl, rfl⟩ ?_
   rintro s ρ _ _ r34 ⟨i33, rfl, hf35, rfl, rfl⟩ h36
   obtain ⟨ρ, rfl⟩ := hf35.ex
   refine CJ.seq <| cr <| jm (ii i33) rfl <| jv _ (V.fad underlying30 rfl nz23 rfl) <| jv (sl Aa3 xa.2.2.2.1 Ca3) (V.ld rfl (Ld.sc sc23 (Rd.cl 0 rfl rfl))) <| jv (ii (((xa.2.2.2.1.length : Nat) : Int))) (V.len underlying23 rfl) ?_
   refine jv (.bool (decide (i33 < (((xa.2.2.2.1.length : Nat) : Int))))) (V.lss rfl rfl) <| J.nil <| cc rfl h36 (fun hc37 h36 => ?_) fun hc37 h36 => ?_
   · refine CJ.skip <| CJ.seq <| CJ.block <| cr <| jv _ (V.fad underlying30 rfl nz23 rfl) <| jv (sl Aa3 xa.2.2.2.1 Ca3) (V.ld rfl (Ld.sc sc23 (Rd.cl 0 rfl rfl))) ?_
     refine jm (ii i33) rfl ?_
     obtain ⟨x38, hx39, h36⟩ := ob h36
     obtain ⟨p40, p41, p43⟩ := getI_some hx39
     obtain ⟨b44, o45, e46, a47⟩ := (Ga3).at p41
     refine jv _ (V.iad underlying23 sz26 rfl e46 rfl p40 p43) ?_
     obtain ⟨ad48, cp49, c50, f51⟩ := ((a47).one).sl
     refine jv (.agg #[sl ad48 x38 cp49]) (V.ld rfl (Ld.aggK (cs := [sl ad48 x38 cp49]) underlying26 sz26 rfl ⟨c50, trivial⟩ hpr)) ?_
     obtain ⟨r52, hr53, h36⟩ := ob h36
     refine J.op rfl (A.call (L1 := []) call24 rfl (ref15_Few_ok f51 hr53) rfl rfl) ?_
     rintro _ _ _ ⟨v54, _, rfl, ⟨⟨t57, rfl, rfl, rfl⟩, rfl⟩, _, rfl⟩
     refine jv (.bool (!t57)) (V.not rfl) <| J.nil <| cc rfl h36 (fun hc59 h36 => ?_) fun hc59 h36 => ?_
     · refine cr <| ja (.bool false) rfl <| J.nil <| CJ.ret ?_
       obtain rfl := si h36
       refine ⟨nofun, fun e => ?_⟩
       subst e
       refine .inr ⟨nofun, ?_⟩
       obtain rfl := si h
       exact ⟨_, _, Res.one rfl rfl, ⟨false, rfl, rfl, rfl⟩, hpr, fun w hs => (Sep.dropAt 0 rfl hs)⟩
     refine CJ.skip <| CJ.region <| jm (ii i33) rfl <| jv (ii (IntKind.wrap .i64 (i33 + 1))) (V.add rfl rfl) <| ja (ii (IntKind.wrap .i64 (i33 + 1))) rfl <| J.nil ?_
     obtain rfl := si h36
     exact ⟨rfl, ⟨IntKind.wrap .i64 (i33 + 1), rfl, rt2, rfl, rfl⟩⟩
   refine CJ.exit ?_
   obtain rfl := si h36
   refine ⟨nofun, fun e => ?_⟩
   subst e
   exact .inl ⟨rfl, _, rfl, ⟨rfl, rt1, rfl, rfl⟩⟩
 rintro s ρ _ _ ho61 ⟨rfl, hf62, rfl, rfl⟩
 subst ho61
 obtain ⟨ρ, rfl⟩ := hf62.ex
 refine PJ.done <| CJ.seq <| cr <| ja (ii 0) rfl <| J.nil ?_
 obtain ⟨o63, ho65, h⟩ := ob h
 refine CJ.joinN (o := o63) (fun s ρ K' L' => () = s ∧ Fits [(1, pt b9)] ρ ∧ K = K' ∧ L' = Cl b9 30 [ii xa.1, ii xa.2.1, sl Aa2 xa.2.2.1 Ca2, sl Aa3 xa.2.2.2.1 Ca3, sl Aa4 xa.2.2.2.2.1 Ca4, sl Aa5 xa.2.2.2.2.2.1 Ca5, sl Aa6 xa.2.2.2.2.2.2 Ca6] :: F) ?_ ?_
 · refine CJ.block <| CJ.loop (fun s ρ K' L' => ∃ (i66 : Int), i66 = s ∧ Fits [(1, pt b9), (4, ii i66)] ρ ∧ K = K' ∧ L' = Cl b9 30 [ii xa.1, ii xa.2.1, sl Aa2 xa.2.2.1 Ca2, sl Aa3 xa.2.2.2.1 Ca3, sl Aa4 xa.2.2.2.2.1 Ca4, sl Aa5 xa.2.2.2.2.2.1 Ca5, sl Aa6 xa.2.2.2.2.2.2 Ca6] :: F) ho65 ⟨0, rfl, rt2, rfl, rfl⟩ ?_
   rintro s ρ _ _ r67 ⟨i66, rfl, hf68, rfl, rfl⟩ h69
   obtain ⟨ρ, rfl⟩ := hf68.ex
   refine CJ.seq <| cr <| jm (ii i66) rfl <| jv _ (V.fad underlying30 rfl nz27 rfl) <| jv (sl Aa5 xa.2.2.2.2.2.1 Ca5) (V.ld rfl (Ld.sc sc27 (Rd.cl 0 rfl rfl))) <| jv (ii (((xa.2.2.2.2.2.1.length : Nat) : Int))) (V.len underlying27 rfl) ?_
   refine jv (.bool (decide (i66 < (((xa.2.2.2.2.2.1.length : Nat) : Int))))) (V.lss rfl rfl) <| J.nil <| cc rfl h69 (fun hc70 h69 => ?_) fun hc70 h69 => ?_
   · refine CJ.skip <| CJ.seq <| CJ.block <| cr <| jv _ (V.fad underlying30 rfl nz27 rfl) <| jv (sl Aa5 xa.2.2.2.2.2.1 Ca5) (V.ld rfl (Ld.sc sc27 (Rd.cl 0 rfl rfl))) ?_
     refine jm (ii i66) rfl ?_
     obtain ⟨x71, hx72, h69⟩ := ob h69
     obtain ⟨p73, p74, p75⟩ := getI_some hx72
     obtain ⟨b76, o77, e78, a79⟩ := (Ga5).at p74
     refine jv _ (V.iad underlying27 sz55 rfl e78 rfl p73 p75) ?_
     obtain ⟨ad80, cp81, c82, f83⟩ := (((a79).snd).fst).sl
     obtain ⟨ad84, cp85, c86, f87⟩ := ((((a79).snd).snd).fst).sl
     obtain ⟨ad88, cp89, c90, f91⟩ := ((((((a79).snd).snd).snd).one).one).sl
     refine jv (.agg #[ii x71.1, sl ad80 x71.2.1 cp81, sl ad84 x71.2.2.1 cp85, sl ad88 x71.2.2.2 cp89]) (V.ld rfl (Ld.aggK (cs := [ii x71.1, sl ad80 x71.2.1 cp81, sl ad84 x71.2.2.1 cp85, sl ad88 x71.2.2.2 cp89]) underlying55 sz55 rfl ⟨((a79).fst).int, c82, c86, c90, trivial⟩ hpr)) ?_
     obtain ⟨r92, hr93, h69⟩ := ob h69
     refine J.op rfl (A.call (L1 := []) call25 rfl (ref17_Few_ok f83 f87 f91 hr93) rfl rfl) ?_
     rintro _ _ _ ⟨v94, _, rfl, ⟨⟨t95, rfl, rfl, rfl⟩, rfl⟩, _, rfl⟩
     refine jv (.bool (!t95)) (V.not rfl) <| J.nil <| cc rfl h69 (fun hc96 h69 => ?_) fun hc96 h69 => ?_
     · refine cr <| ja (.bool false) rfl <| J.nil <| CJ.ret ?_
       obtain rfl := si h69
       refine ⟨nofun, fun e => ?_⟩
       subst e
       refine .inr ⟨nofun, ?_⟩
       obtain rfl := si h
       exact ⟨_, _, Res.one rfl rfl, ⟨false, rfl, rfl, rfl⟩, hpr, fun w hs => (Sep.dropAt 0 rfl hs)⟩
     refine CJ.skip <| CJ.region <| jm (ii i66) rfl <| jv (ii (IntKind.wrap .i64 (i66 + 1))) (V.add rfl rfl) <| ja (ii (IntKind.wrap .i64 (i66 + 1))) rfl <| J.nil ?_
     obtain rfl := si h69
     exact ⟨rfl, ⟨IntKind.wrap .i64 (i66 + 1), rfl, rt2, rfl, rfl⟩⟩
   refine CJ.exit ?_
   obtain rfl := si h69
   refine ⟨nofun, fun e => ?_⟩
   subst e
   exact .inl ⟨rfl, _, rfl, ⟨rfl, rt1, rfl, rfl⟩⟩
 rintro s ρ _ _ ho97 ⟨rfl, hf98, rfl, rfl⟩
 subst ho97
 obtain ⟨ρ, rfl⟩ := hf98.ex
 refine PJ.done <| cr <| ja (ii 0) rfl <| J.nil <| CJ.seq <| CJ.seq ?_
 refine CJ.region <| ja (ii 0) rfl <| J.nil ?_
 obtain ⟨o99, ho100, h⟩ := ob h
 refine CJ.joinN (o := o99) (fun s ρ K' L' => ∃ (i101 : Int), i101 = s ∧ Fits [(5, ii i101)] ρ ∧ K = K' ∧ F = L') ?_ ?_
 · refine CJ.block <| CJ.loop (fun s ρ K' L' => ∃ (i102 : Int) (i103 : Int), (i102, i103) = s ∧ Fits [(1, pt b9), (5, ii i102), (6, ii i103)] ρ ∧ K = K' ∧ L' = Cl b9 30 [ii xa.1, ii xa.2.1, sl Aa2 xa.2.2.1 Ca2, sl Aa3 xa.2.2.2.1 Ca3, sl Aa4 xa.2.2.2.2.1 Ca4, sl Aa5 xa.2.2.2.2.2.1 Ca5, sl Aa6 xa.2.2.2.2.2.2 Ca6] :: F) ho100 ⟨0, 0, rfl, rt3, rfl, rfl⟩ ?_
   rintro s ρ _ _ r104 ⟨i102, i103, rfl, hf105, rfl, rfl⟩ h106
   obtain ⟨ρ, rfl⟩ := hf105.ex
   refine CJ.seq <| cr <| jm (ii i103) rfl <| jv _ (V.fad underlying30 rfl nz28 rfl) <| jv (sl Aa6 xa.2.2.2.2.2.2 Ca6) (V.ld rfl (Ld.sc sc28 (Rd.cl 0 rfl rfl))) <| jv (ii (((xa.2.2.2.2.2.2.length : Nat) : Int))) (V.len underlying28 rfl) ?_
   refine jv (.bool (decide (i103 < (((xa.2.2.2.2.2.2.length : Nat) : Int))))) (V.lss rfl rfl) <| J.nil <| cc rfl h106 (fun hc107 h106 => ?_) fun hc107 h106 => ?_
   · refine CJ.skip <| CJ.seq <| CJ.block <| cr <| jv _ (V.fad underlying30 rfl nz28 rfl) <| jv (sl Aa6 xa.2.2.2.2.2.2 Ca6) (V.ld rfl (Ld.sc sc28 (Rd.cl 0 rfl rfl))) ?_
     refine jm (ii i103) rfl ?_
     obtain ⟨x108, hx109, h106⟩ := ob h106
     obtain ⟨p110, p111, p112⟩ := getI_some hx109
     obtain ⟨b113, o114, e115, a116⟩ := (Ga6).at p111
     refine jv _ (V.iad underlying28 sz60 rfl e115 rfl p110 p112) <| jv _ (V.fad underlying60 rfl nz58 rfl) ?_
     obtain ⟨ad117, cp118, c119, f120⟩ := (((((((a116).snd).one).snd).snd).snd).fst).sl
     obtain ⟨ad121, cp122, c123, f124⟩ := ((((((((a116).snd).one).snd).snd).snd).snd).fst).sl
     obtain ⟨ad125, cp126, c127, f128⟩ := (((((((((a116).snd).one).snd).snd).snd).snd).snd).one).sl
     refine jv (.agg #[ii x108.2.1, ii x108.2.2.1, ii x108.2.2.2.1, sl ad117 x108.2.2.2.2.1 cp118, sl ad121 x108.2.2.2.2.2.1 cp122, sl ad125 x108.2.2.2.2.2.2 cp126]) (V.ld rfl (Ld.aggK (cs := [ii x108.2.1, ii x108.2.2.1, ii x108.2.2.2.1, sl ad117 x108.2.2.2.2.1 cp118, sl ad121 x108.2.2.2.2.2.1 cp122, sl ad125 x108.2.2.2.2.2.2 cp126]) underlying58 sz58 rfl ⟨((((a116).snd).one).fst).int, (((((a116).snd).one).snd).fst).int, ((((((a116).snd).one).snd).snd).fst).int, c119, c123, c127, trivial⟩ hpr)) <| jal inf58 [ii 0, ii 0, ii 0, nos, nos, nos] rfl fun b129 => js [ii x108.2.1, ii x108.2.2.1, ii x108.2.2.2.1, sl ad117 x108.2.2.2.2.1 cp118, sl ad121 x108.2.2.2.2.2.1 cp122, sl ad125 x108.2.2.2.2.2.2 cp126] sz58 rfl rfl rfl rfl rfl rfl <| J.nil <| cr <| jm (ii i102) rfl ?_
     refine jv _ (V.fad underlying30 rfl nz28 rfl) <| jv (sl Aa6 xa.2.2.2.2.2.2 Ca6) (V.ld rfl (Ld.sc sc28 (Rd.cl 1 rfl rfl))) <| jm (ii i103) rfl ?_
     obtain ⟨x130, hx131, h106⟩ := ob h106
     obtain ⟨p132, p133, p134⟩ := getI_some hx131
     obtain ⟨b135, o136, e137, a138⟩ := (Ga6).at p133
     refine jv _ (V.iad underlying28 sz60 rfl e137 rfl p132 p134) <| jv _ (V.fad underlying60 rfl nz56 rfl) ?_
     obtain ⟨ad139, cp140, c141, f142⟩ := ((a138).fst).sl
     refine jv (sl ad139 x130.1 cp140) (V.ld rfl (Ld.sc sc56 (Rd.k c141 hpr))) <| jv (ii (((x130.1.length : Nat) : Int))) (V.len underlying56 rfl) <| jv (ii (IntKind.wrap .i64 (i102 + (((x130.1.length : Nat) : Int))))) (V.add rfl rfl) <| ja (ii (IntKind.wrap .i64 (i102 + (((x130.1.length : Nat) : Int))))) rfl <| J.nil <| CJ.seq <| CJ.region ?_
     refine jv _ (V.fad underlying58 rfl nz42 rfl) <| jv (sl ad117 x108.2.2.2.2.1 cp118) (V.ld rfl (Ld.sc sc42 (Rd.cl 0 rfl rfl))) <| jv (ii (((x108.2.2.2.2.1.length : Nat) : Int))) (V.len underlying42 rfl) <| jv (.bool (decide (20 < (((x108.2.2.2.2.1.length : Nat) : Int))))) (V.gtr rfl rfl) <| jm (.bool (decide (20 < (((x108.2.2.2.2.1.length : Nat) : Int))))) rfl <| J.cut 5 <| jmeet [(95, .bool ((decide (20 < (((x108.2.2.2.2.1.length : Nat) : Int)))) || (decide (20 < (((x108.2.2.2.2.2.1.length : Nat) : Int)))))), (1, pt b9), (5, ii (IntKind.wrap .i64 (i102 + (((x130.1.length : Nat) : Int))))), (6, ii i103), (7, pt b129)] ?_ ?_
     · rcases bt (decide (20 < (((x108.2.2.2.2.1.length : Nat) : Int)))) with hc143 | hc143
       · refine J.skip rfl rfl rfl rfl hc143 <| J.skip rfl rfl rfl rfl hc143 <| J.skip rfl rfl rfl rfl hc143 <| J.skip rfl rfl rfl rfl hc143 <| jv (.bool true) (V.pickT rfl hc143 rfl) <| J.nil ?_
         exact ⟨rfl, ⟨(by simp only [hc143]; rfl), rfl, rfl, rfl, rfl, trivial⟩, rfl, rfl⟩
       refine J.run rfl rfl rfl hc143 <| jv _ (V.fad underlying58 rfl nz42 rfl) <| J.run rfl rfl rfl hc143 <| jv (sl ad121 x108.2.2.2.2.2.1 cp122) (V.ld rfl (Ld.sc sc42 (Rd.cl 0 rfl rfl))) <| J.run rfl rfl rfl hc143 <| jv (ii (((x108.2.2.2.2.2.1.length : Nat) : Int))) (V.len underlying42 rfl) <| J.run rfl rfl rfl hc143 ?_
       refine jv (.bool (decide (20 < (((x108.2.2.2.2.2.1.length : Nat) : Int))))) (V.gtr rfl rfl) <| jv (.bool (decide (20 < (((x108.2.2.2.2.2.1.length : Nat) : Int))))) (V.pickF rfl hc143 rfl) <| J.nil ?_
       exact ⟨rfl, ⟨(by simp only [hc143]; rfl), rfl, rfl, rfl, rfl, trivial⟩, rfl, rfl⟩
     intro ρ
     refine jm (.bool ((decide (20 < (((x108.2.2.2.2.1.length : Nat) : Int)))) || (decide (20 < (((x108.2.2.2.2.2.1.length : Nat) : Int)))))) rfl <| J.cut 5 <| jmeet [(101, .bool (((decide (20 < (((x108.2.2.2.2.1.length : Nat) : Int)))) || (decide (20 < (((x108.2.2.2.2.2.1.length : Nat) : Int))))) || (decide (20 < (((x108.2.2.2.2.2.2.length : Nat) : Int)))))), (1, pt b9), (5, ii (IntKind.wrap .i64 (i102 + (((x130.1.length : Nat) : Int))))), (6, ii i103)] ?_ ?_
     · rcases bt ((decide (20 < (((x108.2.2.2.2.1.length : Nat) : Int)))) || (decide (20 < (((x108.2.2.2.2.2.1.length : Nat) : Int))))) with hc144 | hc144
       · refine J.skip rfl rfl rfl rfl hc144 <| J.skip rfl rfl rfl rfl hc144 <| J.skip rfl rfl rfl rfl hc144 <| J.skip rfl rfl rfl rfl hc144 <| jv (.bool true) (V.pickT rfl hc144 rfl) <| J.nil ?_
         exact ⟨rfl, ⟨(by simp only [hc144]; rfl), rfl, rfl, rfl, trivial⟩, rfl, rfl⟩
       refine J.run rfl rfl rfl hc144 <| jv _ (V.fad underlying58 rfl nz42 rfl) <| J.run rfl rfl rfl hc144 <| jv (sl ad125 x108.2.2.2.2.2.2 cp126) (V.ld rfl (Ld.sc sc42 (Rd.cl 0 rfl rfl))) <| J.run rfl rfl rfl hc144 <| jv (ii (((x108.2.2.2.2.2.2.length : Nat) : Int))) (V.len underlying42 rfl) <| J.run rfl rfl rfl hc144 ?_
       refine jv (.bool (decide (20 < (((x108.2.2.2.2.2.2.length : Nat) : Int))))) (V.gtr rfl rfl) <| jv (.bool (decide (20 < (((x108.2.2.2.2.2.2.length : Nat) : Int))))) (V.pickF rfl hc144 rfl) <| J.nil ?_
       exact ⟨rfl, ⟨(by simp only [hc144]; rfl), rfl, rfl, rfl, trivial⟩, rfl, rfl⟩
     intro ρ
     refine J.nil <| cc rfl h106 (fun hc145 h106 => ?_) fun hc145 h106 => ?_
     · refine cr <| ja (.bool false) rfl <| J.nil <| CJ.ret ?_
       obtain rfl := si h106
       refine ⟨nofun, fun e => ?_⟩
       subst e
       refine .inr ⟨nofun, ?_⟩
       obtain rfl := si h
       exact ⟨_, _, Res.one rfl rfl, ⟨false, rfl, rfl, rfl⟩, hpr, fun w hs => (Sep.dropAt 0 rfl (Sep.dropAt 0 rfl hs))⟩
     refine CJ.skip <| CJ.region <| jm (ii i103) rfl <| jv (ii (IntKind.wrap .i64 (i103 + 1))) (V.add rfl rfl) <| ja (ii (IntKind.wrap .i64 (i103 + 1))) rfl <| J.dropAt 0 rfl <| J.nil ?_
     obtain rfl := si h106
     exact ⟨rfl, ⟨IntKind.wrap .i64 (i102 + (((x130.1.length : Nat) : Int))), IntKind.wrap .i64 (i103 + 1), rfl, rt3, rfl, rfl⟩⟩
   refine CJ.dropAt 0 rfl <| CJ.exit ?_
   obtain rfl := si h106
   refine ⟨nofun, fun e => ?_⟩
   subst e
   exact .inl ⟨rfl, _, rfl, ⟨i102, rfl, rt1, rfl, rfl⟩⟩
 rintro s ρ _ _ ho146 ⟨i101, rfl, hf147, rfl, rfl⟩
 subst ho146
 obtain ⟨ρ, rfl⟩ := hf147.ex
 refine PJ.done <| cr <| jm (ii i101) rfl <| jv (.bool (decide (i101 ≤ 24))) (V.leq rfl rfl) <| ja (.bool (decide (i101 ≤ 24))) rfl <| J.nil ?_
 refine CJ.ret ?_
 obtain rfl := si h
 exact ⟨_, _, Res.one rfl rfl, ⟨decide (i101 ≤ 24), rfl, rfl, rfl⟩, hpr, fun w hs => hs⟩

noncomputable def fn_tick_Counter_Add_zii (xb : Int) (xc : Int) : Option Unit :=
  some (())
theorem tick_Counter_Add_zii_ok {K : Hp} {xb : Int} {xc : Int}   {r : Unit} (h : fn_tick_Counter_Add_zii xb xc = some r) :
    Tr Tryz.prog 64 #[.pointer none, ii xb, ii xc] K [] (fun v K' L' => (() = r ∧ .tuple #[] = v ∧ L' = []) ∧ K = K') := by
 refine Tr.k <| Tr.of func64 rfl ntmps64 rfl fun E F => ?_
 unfold fn_tick_Counter_Add_zii at h
 refine cr <| jm (.pointer none) rfl <| jv (.bool false) (Val.eq (V.pn_neq underlying110 rfl rfl) rfl) <| jm (.bool false) rfl <| J.skip rfl rfl rfl rfl rfl <| J.skip rfl rfl rfl rfl rfl ?_
 refine jv (.bool false) (V.pickF rfl rfl rfl) <| jm (.bool false) rfl <| J.skip rfl rfl rfl rfl rfl <| J.skip rfl rfl rfl rfl rfl <| jv (.bool false) (V.pickF rfl rfl rfl) <| J.nil <| CJ.condK (b := false) rfl rfl ?_
 refine CJ.skip ?_
 obtain rfl := si h
 exact ⟨_, _, Res.zero rfl, ⟨rfl, rfl, rfl⟩, hpr, fun w hs => hs⟩

noncomputable def fn_valid_head_az (xa : Tq1) : Option Tq7 :=
  cond ((decide (xa.1 < 1)) || (decide (xa.2.1 < xa.1))) (some ((7, 0, 0, 0))) (cond (decide (65536 < xa.2.1)) (some ((6, 0, 0, 0))) (some ((0, 0, 0, 0))))
theorem valid_head_az_ok {K : Hp} {xa : Tq1} {Aa2 : Option Addr} {Ca2 : Nat} {Aa3 : Option Addr} {Ca3 : Nat} {Aa4 : Option Addr} {Ca4 : Nat} {Aa5 : Option Addr} {Ca5 : Nat} {Aa6 : Option Addr} {Ca6 : Nat} (Ga2 : Is K (.sl Yq5) [sl Aa2 xa.2.2.1 Ca2] xa.2.2.1) (Ga3 : Is K Yq8 [sl Aa3 xa.2.2.2.1 Ca3] xa.2.2.2.1) (Ga4 : Is K (.sl Yq1) [sl Aa4 xa.2.2.2.2.1 Ca4] xa.2.2.2.2.1) (Ga5 : Is K Yq4 [sl Aa5 xa.2.2.2.2.2.1 Ca5] xa.2.2.2.2.2.1) (Ga6 : Is K (.sl Yq3) [sl Aa6 xa.2.2.2.2.2.2 Ca6] xa.2.2.2.2.2.2) {r : Tq7} (h : fn_valid_head_az xa = some r) :
    Tr Tryz.prog 65 #[.agg #[ii xa.1, ii xa.2.1, sl Aa2 xa.2.2.1 Ca2, sl Aa3 xa.2.2.2.1 Ca3, sl Aa4 xa.2.2.2.2.1 Ca4, sl Aa5 xa.2.2.2.2.2.1 Ca5, sl Aa6 xa.2.2.2.2.2.2 Ca6], .pointer none] K [] (fun v K' L' => (∃ (i9 : Int) (i10 : Int) (i11 : Int) (i12 : Int), (i9, i10, i11, i12) = r ∧ .agg #[ii i9, ii i10, ii i11, ii i12] = v ∧ L' = []) ∧ K = K') := by
 refine Tr.k <| Tr.of func65 rfl ntmps65 rfl fun E F => ?_
 unfold fn_valid_head_az at h
 refine cr <| jbx [ii xa.1, ii xa.2.1, sl Aa2 xa.2.2.1 Ca2, sl Aa3 xa.2.2.2.1 Ca3, sl Aa4 xa.2.2.2.2.1 Ca4, sl Aa5 xa.2.2.2.2.2.1 Ca5, sl Aa6 xa.2.2.2.2.2.2 Ca6] rfl rfl fun b13 => jal inf105 [ii 0, ii 0, ii 0, ii 0] rfl fun b14 => J.nil <| CJ.seq <| CJ.region ?_
 refine jv (.agg #[ii 0, ii 0, ii 0, ii 0]) (V.build inf105 places105 rfl rfl) <| jal inf105 [ii 0, ii 0, ii 0, ii 0] rfl fun b15 => js [ii 0, ii 0, ii 0, ii 0] sz105 rfl rfl rfl rfl rfl rfl <| J.nil <| CJ.seq <| CJ.block <| CJ.seq ?_
 refine CJ.region <| jv _ (V.fad underlying30 rfl nz3 rfl) <| jv (ii xa.1) (V.ld rfl (Ld.sc sc3 (Rd.cl 2 rfl rfl))) <| jv (.bool (decide (xa.1 < 1))) (V.lss rfl rfl) <| jm (.bool (decide (xa.1 < 1))) rfl <| J.cut 6 <| jmeet [(17, .bool ((decide (xa.1 < 1)) || (decide (xa.2.1 < xa.1)))), (2, pt b13), (4, pt b14), (5, pt b15)] ?_ ?_
 · rcases bt (decide (xa.1 < 1)) with hc18 | hc18
   · refine J.skip rfl rfl rfl rfl hc18 <| J.skip rfl rfl rfl rfl hc18 <| J.skip rfl rfl rfl rfl hc18 <| J.skip rfl rfl rfl rfl hc18 <| J.skip rfl rfl rfl rfl hc18 <| jv (.bool true) (V.pickT rfl hc18 rfl) <| J.nil ?_
     exact ⟨rfl, ⟨(by simp only [hc18]; rfl), rfl, rfl, rfl, trivial⟩, rfl, rfl⟩
   refine J.run rfl rfl rfl hc18 <| jv _ (V.fad underlying30 rfl nz3 rfl) <| J.run rfl rfl rfl hc18 <| jv (ii xa.2.1) (V.ld rfl (Ld.sc sc3 (Rd.cl 2 rfl rfl))) <| J.run rfl rfl rfl hc18 <| jv _ (V.fad underlying30 rfl nz3 rfl) <| J.run rfl rfl rfl hc18 ?_
   refine jv (ii xa.1) (V.ld rfl (Ld.sc sc3 (Rd.cl 2 rfl rfl))) <| J.run rfl rfl rfl hc18 <| jv (.bool (decide (xa.2.1 < xa.1))) (V.lss rfl rfl) <| jv (.bool (decide (xa.2.1 < xa.1))) (V.pickF rfl hc18 rfl) <| J.nil ?_
   exact ⟨rfl, ⟨(by simp only [hc18]; rfl), rfl, rfl, rfl, trivial⟩, rfl, rfl⟩
 intro ρ
 refine ja (.bool ((decide (xa.1 < 1)) || (decide (xa.2.1 < xa.1)))) rfl <| J.nil <| cc rfl h (fun hc19 h => ?_) fun hc19 h => ?_
 · refine CJ.region <| jv _ (V.fad underlying105 rfl nz72 rfl) <| js1 [ii 7, ii 0, ii 0, ii 0] sz72 rfl rfl rfl rfl rfl rfl <| J.nil <| cr <| jv (.agg #[ii 7, ii 0, ii 0, ii 0]) (V.ld rfl (Ld.agg (cs := [ii 7, ii 0, ii 0, ii 0]) underlying105 sz105 rfl (Rd.cls 0 0 rfl rfl))) ?_
   refine J.front 1 rfl <| js [ii 7, ii 0, ii 0, ii 0] sz105 rfl rfl rfl rfl rfl rfl <| J.nil <| CJ.ret ?_
   obtain rfl := si h
   exact ⟨_, _, Res.one rfl ⟨_, _, rfl, Ld.agg (cs := [ii 7, ii 0, ii 0, ii 0]) underlying105 sz105 rfl (Rd.cls 0 0 rfl rfl)⟩, ⟨7, 0, 0, 0, rfl, rfl, rfl⟩, hpr, fun w hs => (Sep.dropAt 0 rfl (Sep.dropAt 0 rfl (Sep.dropAt 0 rfl hs)))⟩
 refine cr <| jv _ (V.fad underlying30 rfl nz3 rfl) <| jv (ii xa.2.1) (V.ld rfl (Ld.sc sc3 (Rd.cl 2 rfl rfl))) <| jv (.bool (decide (65536 < xa.2.1))) (V.gtr rfl rfl) <| ja (.bool (decide (65536 < xa.2.1))) rfl <| J.nil ?_
 refine cc rfl h (fun hc20 h => ?_) fun hc20 h => ?_
 · refine CJ.region <| jv _ (V.fad underlying105 rfl nz72 rfl) <| js1 [ii 6, ii 0, ii 0, ii 0] sz72 rfl rfl rfl rfl rfl rfl <| J.nil <| cr <| jv (.agg #[ii 6, ii 0, ii 0, ii 0]) (V.ld rfl (Ld.agg (cs := [ii 6, ii 0, ii 0, ii 0]) underlying105 sz105 rfl (Rd.cls 0 0 rfl rfl))) ?_
   refine J.front 1 rfl <| js [ii 6, ii 0, ii 0, ii 0] sz105 rfl rfl rfl rfl rfl rfl <| J.nil <| CJ.ret ?_
   obtain rfl := si h
   exact ⟨_, _, Res.one rfl ⟨_, _, rfl, Ld.agg (cs := [ii 6, ii 0, ii 0, ii 0]) underlying105 sz105 rfl (Rd.cls 0 0 rfl rfl)⟩, ⟨6, 0, 0, 0, rfl, rfl, rfl⟩, hpr, fun w hs => (Sep.dropAt 0 rfl (Sep.dropAt 0 rfl (Sep.dropAt 0 rfl hs)))⟩
 refine CJ.skip <| cr <| jv (.agg #[ii 0, ii 0, ii 0, ii 0]) (V.ld rfl (Ld.agg (cs := [ii 0, ii 0, ii 0, ii 0]) underlying105 sz105 rfl (Rd.cls 0 0 rfl rfl))) <| J.front 1 rfl <| js [ii 0, ii 0, ii 0, ii 0] sz105 rfl rfl rfl rfl rfl rfl <| J.nil ?_
 refine CJ.ret ?_
 obtain rfl := si h
 exact ⟨_, _, Res.one rfl ⟨_, _, rfl, Ld.agg (cs := [ii 0, ii 0, ii 0, ii 0]) underlying105 sz105 rfl (Rd.cls 0 0 rfl rfl)⟩, ⟨0, 0, 0, 0, rfl, rfl, rfl⟩, hpr, fun w hs => (Sep.dropAt 0 rfl (Sep.dropAt 0 rfl (Sep.dropAt 0 rfl hs)))⟩

noncomputable def fn_valid_bounds_1_ip0_iikkkkk (xa : Int) (qa0 : Int) (qa1 : Int) (qa2 : Tq8) (qa3 : (List Tq3)) (qa4 : Tq3) (qa5 : (List Tq6)) (qa6 : (List ((List Tq2) × Tq5))) : Option Bool :=
  some ((decide (0 ≤ xa)) && (decide (xa < qa0)))
theorem valid_bounds_1_ip0_iikkkkk_ok {K : Hp} {xa : Int} {qa0 : Int} {qa1 : Int} {qa2 : Tq8} {qa3 : (List Tq3)} {qa4 : Tq3} {qa5 : (List Tq6)} {qa6 : (List ((List Tq2) × Tq5))} {pba : Nat} {adqa2 : Option Addr} {cpqa2 : Nat} {adqa3 : Option Addr} {cpqa3 : Nat} {adqa4 : Option Addr} {cpqa4 : Nat} {adqa5 : Option Addr} {cpqa5 : Nat} {adqa6 : Option Addr} {cpqa6 : Nat} (fqa2 : Is K (.sl Yq5) [sl adqa2 qa2 cpqa2] qa2) (fqa3 : Is K Yq8 [sl adqa3 qa3 cpqa3] qa3) (fqa4 : Is K (.sl Yq1) [sl adqa4 qa4 cpqa4] qa4) (fqa5 : Is K Yq4 [sl adqa5 qa5 cpqa5] qa5) (fqa6 : Is K (.sl Yq3) [sl adqa6 qa6 cpqa6] qa6) {r : Bool} (h : fn_valid_bounds_1_ip0_iikkkkk xa qa0 qa1 qa2 qa3 qa4 qa5 qa6 = some r) :
    Tr Tryz.prog 90 #[ii xa, pt pba] K [Cl pba 30 [ii qa0, ii qa1, sl adqa2 qa2 cpqa2, sl adqa3 qa3 cpqa3, sl adqa4 qa4 cpqa4, sl adqa5 qa5 cpqa5, sl adqa6 qa6 cpqa6]] (fun v K' L' => (∃ (t4 : Bool), t4 = r ∧ .bool t4 = v ∧ L' = [Cl pba 30 [ii qa0, ii qa1, sl adqa2 qa2 cpqa2, sl adqa3 qa3 cpqa3, sl adqa4 qa4 cpqa4, sl adqa5 qa5 cpqa5, sl adqa6 qa6 cpqa6]]) ∧ K = K') := by
 refine Tr.k <| Tr.of func90 rfl ntmps90 rfl fun E F => ?_
 unfold fn_valid_bounds_1_ip0_iikkkkk at h
 refine cr <| ja (.bool false) rfl <| J.nil <| cr <| jm (ii xa) rfl ?_
 refine jv (.bool (decide (0 ≤ xa))) (V.geq rfl rfl) <| jm (.bool (decide (0 ≤ xa))) rfl <| J.cut 5 <| jmeet [(11, .bool ((decide (0 ≤ xa)) && (decide (xa < qa0))))] ?_ ?_
 · rcases bt (decide (0 ≤ xa)) with hc7 | hc7
   · refine J.run rfl rfl rfl hc7 <| jm (ii xa) rfl <| J.run rfl rfl rfl hc7 <| jv _ (V.fad underlying30 rfl nz3 rfl) <| J.run rfl rfl rfl hc7 <| jv (ii qa0) (V.ld rfl (Ld.sc sc3 (Rd.cl 0 rfl rfl))) <| J.run rfl rfl rfl hc7 ?_
     refine jv (.bool (decide (xa < qa0))) (V.lss rfl rfl) <| jv (.bool (decide (xa < qa0))) (V.pickT rfl hc7 rfl) <| J.nil ?_
     exact ⟨rfl, ⟨(by simp only [hc7]; rfl), trivial⟩, rfl, rfl⟩
   refine J.skip rfl rfl rfl rfl hc7 <| J.skip rfl rfl rfl rfl hc7 <| J.skip rfl rfl rfl rfl hc7 <| J.skip rfl rfl rfl rfl hc7 <| jv (.bool false) (V.pickF rfl hc7 rfl) <| J.nil ?_
   exact ⟨rfl, ⟨(by simp only [hc7]; rfl), trivial⟩, rfl, rfl⟩
 intro ρ
 refine ja (.bool ((decide (0 ≤ xa)) && (decide (xa < qa0)))) rfl <| J.nil <| CJ.ret ?_
 obtain rfl := si h
 exact ⟨_, _, Res.one rfl rfl, ⟨(decide (0 ≤ xa)) && (decide (xa < qa0)), rfl, rfl, rfl⟩, hpr, fun w hs => hs⟩
noncomputable def fn_valid_bounds_az_l1 (xa : Tq1) : Int → Option (Int ⊕ (Unit ⊕ Tq7)) := fun (i1 : Int) => cond (decide (i1 < (((xa.2.2.1.length : Nat) : Int)))) ((getI xa.2.2.1 i1).bind fun x2 => (fn_tick_Counter_Add_zii 1 1).bind fun _ => (fn_valid_bounds_1_ip0_iikkkkk x2.1 xa.1 xa.2.1 xa.2.2.1 xa.2.2.2.1 xa.2.2.2.2.1 xa.2.2.2.2.2.1 xa.2.2.2.2.2.2).bind fun t3 => (cond (!t3) (some (true)) ((fn_valid_bounds_1_ip0_iikkkkk x2.2 xa.1 xa.2.1 xa.2.2.1 xa.2.2.2.1 xa.2.2.2.2.1 xa.2.2.2.2.2.1 xa.2.2.2.2.2.2).bind fun t4 => some (!t4))).bind fun t5 => cond (t5) (some (.inr ((.inr ((7, 1, i1, 0)))))) (some (.inl (IntKind.wrap .i64 (i1 + 1))))) (some (.inr ((.inl ()))))
noncomputable def fn_valid_bounds_az (xa : Tq1) : Option Tq7 :=
  cond (decide (65536 < (((xa.2.2.1.length : Nat) : Int)))) (some ((6, 1, 0, 0))) ((loop (fn_valid_bounds_az_l1 xa) 0 : Option (Unit ⊕ Tq7)).bind fun o => match o with | .inr r => some r | .inl () => some ((0, 0, 0, 0)))
theorem valid_bounds_az_ok {K : Hp} {xa : Tq1} {Aa2 : Option Addr} {Ca2 : Nat} {Aa3 : Option Addr} {Ca3 : Nat} {Aa4 : Option Addr} {Ca4 : Nat} {Aa5 : Option Addr} {Ca5 : Nat} {Aa6 : Option Addr} {Ca6 : Nat} (Ga2 : Is K (.sl Yq5) [sl Aa2 xa.2.2.1 Ca2] xa.2.2.1) (Ga3 : Is K Yq8 [sl Aa3 xa.2.2.2.1 Ca3] xa.2.2.2.1) (Ga4 : Is K (.sl Yq1) [sl Aa4 xa.2.2.2.2.1 Ca4] xa.2.2.2.2.1) (Ga5 : Is K Yq4 [sl Aa5 xa.2.2.2.2.2.1 Ca5] xa.2.2.2.2.2.1) (Ga6 : Is K (.sl Yq3) [sl Aa6 xa.2.2.2.2.2.2 Ca6] xa.2.2.2.2.2.2) {r : Tq7} (h : fn_valid_bounds_az xa = some r) :
    Tr Tryz.prog 66 #[.agg #[ii xa.1, ii xa.2.1, sl Aa2 xa.2.2.1 Ca2, sl Aa3 xa.2.2.2.1 Ca3, sl Aa4 xa.2.2.2.2.1 Ca4, sl Aa5 xa.2.2.2.2.2.1 Ca5, sl Aa6 xa.2.2.2.2.2.2 Ca6], .pointer none] K [] (fun v K' L' => (∃ (i7 : Int) (i9 : Int) (i10 : Int) (i11 : Int), (i7, i9, i10, i11) = r ∧ .agg #[ii i7, ii i9, ii i10, ii i11] = v ∧ L' = []) ∧ K = K') := by
 refine Tr.k <| Tr.of func66 rfl ntmps66 rfl fun E F => ?_
 unfold fn_valid_bounds_az at h
 refine cr <| jbx [ii xa.1, ii xa.2.1, sl Aa2 xa.2.2.1 Ca2, sl Aa3 xa.2.2.2.1 Ca3, sl Aa4 xa.2.2.2.2.1 Ca4, sl Aa5 xa.2.2.2.2.2.1 Ca5, sl Aa6 xa.2.2.2.2.2.2 Ca6] rfl rfl fun b12 => jal inf105 [ii 0, ii 0, ii 0, ii 0] rfl fun b13 => J.nil <| CJ.seq <| CJ.seq ?_
 refine CJ.region <| jv _ (V.fad underlying30 rfl nz22 rfl) <| jv (sl Aa2 xa.2.2.1 Ca2) (V.ld rfl (Ld.sc sc22 (Rd.cl 1 rfl rfl))) <| jv (ii (((xa.2.2.1.length : Nat) : Int))) (V.len underlying22 rfl) <| jv (.bool (decide (65536 < (((xa.2.2.1.length : Nat) : Int))))) (V.gtr rfl rfl) <| J.nil <| cc rfl h (fun hc14 h => ?_) fun hc14 h => ?_
 · refine cr <| jv (.agg #[ii 6, ii 1, ii 0, ii 0]) (V.build inf105 places105 rfl rfl) <| js [ii 6, ii 1, ii 0, ii 0] sz105 rfl rfl rfl rfl rfl rfl <| J.nil <| CJ.ret ?_
   obtain rfl := si h
   exact ⟨_, _, Res.one rfl ⟨_, _, rfl, Ld.agg (cs := [ii 6, ii 1, ii 0, ii 0]) underlying105 sz105 rfl (Rd.cls 0 0 rfl rfl)⟩, ⟨6, 1, 0, 0, rfl, rfl, rfl⟩, hpr, fun w hs => (Sep.dropAt 0 rfl (Sep.dropAt 0 rfl hs))⟩
 refine CJ.skip <| cr <| jv (.func (.func 90) #[] #[pt b12]) (V.mkf rfl) <| ja (.func (.func 90) #[] #[pt b12]) rfl <| J.nil <| CJ.seq ?_
 refine cr <| jv _ (V.fad underlying30 rfl nz22 rfl) <| jv (sl Aa2 xa.2.2.1 Ca2) (V.ld rfl (Ld.sc sc22 (Rd.cl 1 rfl rfl))) <| jv (ii (((xa.2.2.1.length : Nat) : Int))) (V.len underlying22 rfl) <| jm (ii 0) rfl <| J.nil ?_
 obtain ⟨o15, ho17, h⟩ := ob h
 refine CJ.joinN (o := o15) (fun s ρ K' L' => () = s ∧ Fits [(4, pt b13)] ρ ∧ K = K' ∧ L' = Cl b13 105 [ii 0, ii 0, ii 0, ii 0] :: F) ?_ ?_
 · refine CJ.block <| CJ.loop (fun s ρ K' L' => ∃ (i18 : Int), i18 = s ∧ Fits [(1, .pointer none), (4, pt b13), (5, .func (.func 90) #[] #[pt b12]), (15, sl Aa2 xa.2.2.1 Ca2), (16, ii (((xa.2.2.1.length : Nat) : Int))), (17, ii i18)] ρ ∧ K = K' ∧ L' = Cl b13 105 [ii 0, ii 0, ii 0, ii 0] :: Cl b12 30 [ii xa.1, ii xa.2.1, sl Aa2 xa.2.2.1 Ca2, sl Aa3 xa.2.2.2.1 Ca3, sl Aa4 xa.2.2.2.2.1 Ca4, sl Aa5 xa.2.2.2.2.2.1 Ca5, sl Aa6 xa.2.2.2.2.2.2 Ca6] :: F) ho17 ⟨0, rfl, rt6, rfl, rfl⟩ ?_
   rintro s ρ _ _ r19 ⟨i18, rfl, hf20, rfl, rfl⟩ h21
   obtain ⟨ρ, rfl⟩ := hf20.ex
   refine cr <| jv (.bool (decide (i18 < (((xa.2.2.1.length : Nat) : Int))))) (V.lss rfl rfl) <| J.nil <| CJ.seq <| cc rfl h21 (fun hc23 h21 => ?_) fun hc23 h21 => ?_
   · refine CJ.skip <| CJ.seq <| CJ.block <| cr <| jm (ii i18) rfl ?_
     obtain ⟨x24, hx25, h21⟩ := ob h21
     obtain ⟨p26, p27, p28⟩ := getI_some hx25
     obtain ⟨b29, o31, e33, a34⟩ := (Ga2).at p27
     refine jv _ (V.iad underlying22 sz126 rfl e33 rfl p26 p28) <| jv (.agg #[ii x24.1, ii x24.2]) (V.ld rfl (Ld.aggK (cs := [ii x24.1, ii x24.2]) underlying126 sz126 rfl ⟨((a34).fst).int, (((a34).snd).one).int, trivial⟩ hpr)) <| jal inf126 [ii 0, ii 0] rfl fun b35 => ja (ii i18) rfl <| js [ii x24.1, ii x24.2] sz126 rfl rfl rfl rfl rfl rfl <| J.nil <| CJ.seq ?_
     refine CJ.region <| jm (.pointer none) rfl ?_
     obtain ⟨r36, hr37, h21⟩ := ob h21
     refine J.op rfl (A.call (L1 := []) call64 rfl (tick_Counter_Add_zii_ok hr37) rfl rfl) ?_
     rintro _ _ _ ⟨v38, _, rfl, ⟨⟨rfl, rfl, rfl⟩, rfl⟩, _, rfl⟩
     refine J.nil <| cr <| jm (.func (.func 90) #[] #[pt b12]) rfl <| jv _ (V.fad underlying126 rfl nz3 rfl) <| jv (ii x24.1) (V.ld rfl (Ld.sc sc3 (Rd.cl 0 rfl rfl))) ?_
     obtain ⟨r39, hr40, h21⟩ := ob h21
     refine J.front 2 rfl <| J.op rfl (A.call (L1 := [Cl b12 30 [ii xa.1, ii xa.2.1, sl Aa2 xa.2.2.1 Ca2, sl Aa3 xa.2.2.2.1 Ca3, sl Aa4 xa.2.2.2.2.1 Ca4, sl Aa5 xa.2.2.2.2.2.1 Ca5, sl Aa6 xa.2.2.2.2.2.2 Ca6]]) call90 rfl (valid_bounds_1_ip0_iikkkkk_ok Ga2 Ga3 Ga4 Ga5 Ga6 hr40) rfl rfl) ?_
     rintro _ _ _ ⟨v41, _, rfl, ⟨⟨t42, rfl, rfl, rfl⟩, rfl⟩, _, rfl⟩
     refine jv (.bool (!t42)) (V.not rfl) <| jm (.bool (!t42)) rfl <| J.cut 6 ?_
     obtain ⟨t43, ht44, h21⟩ := ob h21
     refine jmeet [(35, .bool t43), (1, .pointer none), (4, pt b13), (5, .func (.func 90) #[] #[pt b12]), (6, ii i18), (15, sl Aa2 xa.2.2.1 Ca2), (16, ii (((xa.2.2.1.length : Nat) : Int))), (17, ii i18)] ?_ ?_
     · rcases bt (!t42) with hc45 | hc45
       · have ht44 := ct hc45 ht44
         refine J.skip rfl rfl rfl rfl hc45 <| J.skip rfl rfl rfl rfl hc45 <| J.skip rfl rfl rfl rfl hc45 <| J.skip rfl rfl rfl rfl hc45 <| J.skip rfl rfl rfl rfl hc45 <| jv (.bool true) (V.pickT rfl hc45 rfl) <| J.nil ?_
         obtain rfl := si ht44
         exact ⟨rfl, rt8, rfl, rfl⟩
       have ht44 := cf hc45 ht44
       refine J.run rfl rfl rfl hc45 <| jm (.func (.func 90) #[] #[pt b12]) rfl <| J.run rfl rfl rfl hc45 <| jv _ (V.fad underlying126 rfl nz3 rfl) <| J.run rfl rfl rfl hc45 <| jv (ii x24.2) (V.ld rfl (Ld.sc sc3 (Rd.cl 1 rfl rfl))) <| J.run rfl rfl rfl hc45 ?_
       obtain ⟨r46, hr47, ht44⟩ := ob ht44
       refine J.op rfl (A.call (L1 := [Cl b12 30 [ii xa.1, ii xa.2.1, sl Aa2 xa.2.2.1 Ca2, sl Aa3 xa.2.2.2.1 Ca3, sl Aa4 xa.2.2.2.2.1 Ca4, sl Aa5 xa.2.2.2.2.2.1 Ca5, sl Aa6 xa.2.2.2.2.2.2 Ca6]]) call90 rfl (valid_bounds_1_ip0_iikkkkk_ok Ga2 Ga3 Ga4 Ga5 Ga6 hr47) rfl rfl) ?_
       rintro _ _ _ ⟨v48, _, rfl, ⟨⟨t49, rfl, rfl, rfl⟩, rfl⟩, _, rfl⟩
       refine J.run rfl rfl rfl hc45 <| jv (.bool (!t49)) (V.not rfl) <| jv (.bool (!t49)) (V.pickF rfl hc45 rfl) <| J.nil ?_
       obtain rfl := si ht44
       exact ⟨rfl, rt8, rfl, rfl⟩
     intro ρ
     refine J.nil <| cc rfl h21 (fun hc50 h21 => ?_) fun hc50 h21 => ?_
     · refine cr <| jm (ii i18) rfl <| jv (.agg #[ii 7, ii 1, ii i18, ii 0]) (V.build inf105 places105 rfl rfl) <| J.front 2 rfl <| js [ii 7, ii 1, ii i18, ii 0] sz105 rfl rfl rfl rfl rfl rfl <| J.nil ?_
       refine CJ.ret ?_
       obtain rfl := si h21
       refine ⟨nofun, fun e => ?_⟩
       subst e
       refine .inr ⟨nofun, ?_⟩
       obtain rfl := si h
       exact ⟨_, _, Res.one rfl ⟨_, _, rfl, Ld.agg (cs := [ii 7, ii 1, ii i18, ii 0]) underlying105 sz105 rfl (Rd.cls 0 0 rfl rfl)⟩, ⟨7, 1, i18, 0, rfl, rfl, rfl⟩, hpr, fun w hs => (Sep.dropAt 0 rfl (Sep.dropAt 0 rfl (Sep.dropAt 0 rfl hs)))⟩
     refine CJ.skip <| CJ.region <| jv (ii (IntKind.wrap .i64 (i18 + 1))) (V.add rfl rfl) <| jm (ii (IntKind.wrap .i64 (i18 + 1))) rfl <| J.dropAt 1 rfl <| J.front 1 rfl <| J.nil ?_
     obtain rfl := si h21
     exact ⟨rfl, ⟨IntKind.wrap .i64 (i18 + 1), rfl, rt6, rfl, rfl⟩⟩
   refine CJ.dropAt 1 rfl <| CJ.exit ?_
   obtain rfl := si h21
   refine ⟨nofun, fun e => ?_⟩
   subst e
   exact .inl ⟨rfl, _, rfl, ⟨rfl, rt1, rfl, rfl⟩⟩
 rintro s ρ _ _ ho51 ⟨rfl, hf52, rfl, rfl⟩
 subst ho51
 obtain ⟨ρ, rfl⟩ := hf52.ex
 refine PJ.done <| cr <| jv (.agg #[ii 0, ii 0, ii 0, ii 0]) (V.build inf105 places105 rfl rfl) <| js [ii 0, ii 0, ii 0, ii 0] sz105 rfl rfl rfl rfl rfl rfl <| J.nil <| CJ.ret ?_
 obtain rfl := si h
 exact ⟨_, _, Res.one rfl ⟨_, _, rfl, Ld.agg (cs := [ii 0, ii 0, ii 0, ii 0]) underlying105 sz105 rfl (Rd.cls 0 0 rfl rfl)⟩, ⟨0, 0, 0, 0, rfl, rfl, rfl⟩, hpr, fun w hs => (Sep.dropAt 0 rfl hs)⟩

noncomputable def fn_row_within_1_ap0_i (xa : (Int × Bool)) (qa0 : Int) : Option Bool :=
  some ((decide (xa.1 < 0)) || (decide (qa0 ≤ xa.1)))
theorem row_within_1_ap0_i_ok {K : Hp} {xa : (Int × Bool)} {qa0 : Int} {pba : Nat}  {r : Bool} (h : fn_row_within_1_ap0_i xa qa0 = some r) :
    Tr Tryz.prog 123 #[.agg #[ii xa.1, .bool xa.2], pt pba] K [Cl pba 3 [ii qa0]] (fun v K' L' => (∃ (t5 : Bool), t5 = r ∧ .bool t5 = v ∧ L' = [Cl pba 3 [ii qa0]]) ∧ K = K') := by
 refine Tr.k <| Tr.of func123 rfl ntmps123 rfl fun E F => ?_
 unfold fn_row_within_1_ap0_i at h
 refine cr <| jbx [ii xa.1, .bool xa.2] rfl rfl fun b6 => ja (.bool false) rfl <| J.nil <| CJ.seq <| CJ.region ?_
 refine jv _ (V.fad underlying150 rfl nz3 rfl) <| jv (ii xa.1) (V.ld rfl (Ld.sc sc3 (Rd.cl 0 rfl rfl))) <| jv (.bool (decide (xa.1 < 0))) (V.lss rfl rfl) <| jm (.bool (decide (xa.1 < 0))) rfl <| J.cut 5 <| jmeet [(12, .bool ((decide (xa.1 < 0)) || (decide (qa0 ≤ xa.1))))] ?_ ?_
 · rcases bt (decide (xa.1 < 0)) with hc9 | hc9
   · refine J.skip rfl rfl rfl rfl hc9 <| J.skip rfl rfl rfl rfl hc9 <| J.skip rfl rfl rfl rfl hc9 <| J.skip rfl rfl rfl rfl hc9 <| jv (.bool true) (V.pickT rfl hc9 rfl) <| J.nil ?_
     exact ⟨rfl, ⟨(by simp only [hc9]; rfl), trivial⟩, rfl, rfl⟩
   refine J.run rfl rfl rfl hc9 <| jv _ (V.fad underlying150 rfl nz3 rfl) <| J.run rfl rfl rfl hc9 <| jv (ii xa.1) (V.ld rfl (Ld.sc sc3 (Rd.cl 0 rfl rfl))) <| J.run rfl rfl rfl hc9 <| jv (ii qa0) (V.ld rfl (Ld.sc sc3 (Rd.cl 1 rfl rfl))) <| J.run rfl rfl rfl hc9 ?_
   refine jv (.bool (decide (qa0 ≤ xa.1))) (V.geq rfl rfl) <| jv (.bool (decide (qa0 ≤ xa.1))) (V.pickF rfl hc9 rfl) <| J.nil ?_
   exact ⟨rfl, ⟨(by simp only [hc9]; rfl), trivial⟩, rfl, rfl⟩
 intro ρ
 refine ja (.bool ((decide (xa.1 < 0)) || (decide (qa0 ≤ xa.1)))) rfl <| J.nil <| CJ.ret ?_
 obtain rfl := si h
 exact ⟨_, _, Res.one rfl rfl, ⟨(decide (xa.1 < 0)) || (decide (qa0 ≤ xa.1)), rfl, rfl, rfl⟩, hpr, fun w hs => (Sep.dropAt 0 rfl hs)⟩
noncomputable def fn_slices_IndexFunc_api_Slot_api_Slot_k_row_within_1_p0_i_l1 (xa : Tq3) (qa0 : Int) : Int → Option (Int ⊕ (Unit ⊕ Int)) := fun (i1 : Int) => cond (decide (i1 < (((xa.length : Nat) : Int)))) ((getI xa i1).bind fun x2 => (fn_row_within_1_ap0_i (x2.1, x2.2) qa0).bind fun t3 => cond (t3) (some (.inr ((.inr (i1))))) (some (.inl (IntKind.wrap .i64 (i1 + 1))))) (some (.inr ((.inl ()))))
noncomputable def fn_slices_IndexFunc_api_Slot_api_Slot_k_row_within_1_p0_i (xa : Tq3) (qa0 : Int) : Option Int :=
  (loop (fn_slices_IndexFunc_api_Slot_api_Slot_k_row_within_1_p0_i_l1 xa qa0) 0 : Option (Unit ⊕ Int)).bind fun o => match o with | .inr r => some r | .inl () => some ((-1))
theorem slices_IndexFunc_api_Slot_api_Slot_k_row_within_1_p0_i_ok {K : Hp} {xa : Tq3} {qa0 : Int} {pba : Nat} {Aa0 : Option Addr} {Ca0 : Nat} (Ga0 : Is K (.sl Yq1) [sl Aa0 xa Ca0] xa) {r : Int} (h : fn_slices_IndexFunc_api_Slot_api_Slot_k_row_within_1_p0_i xa qa0 = some r) :
    Tr Tryz.prog 132 #[sl Aa0 xa Ca0, .func (.func 123) #[] #[pt pba]] K [Cl pba 3 [ii qa0]] (fun v K' L' => (∃ (i2 : Int), i2 = r ∧ ii i2 = v ∧ L' = [Cl pba 3 [ii qa0]]) ∧ K = K') := by
 refine Tr.k <| Tr.of func132 rfl ntmps132 rfl fun E F => ?_
 unfold fn_slices_IndexFunc_api_Slot_api_Slot_k_row_within_1_p0_i at h
 refine cr <| ja (ii 0) rfl <| J.nil <| CJ.seq <| CJ.seq <| CJ.region ?_
 refine jm (sl Aa0 xa Ca0) rfl <| jv (ii (((xa.length : Nat) : Int))) (V.len underlying24 rfl) <| jm (ii 0) rfl <| J.nil ?_
 obtain ⟨o3, ho5, h⟩ := ob h
 refine CJ.joinN (o := o3) (fun s ρ K' L' => () = s ∧ Fits [] ρ ∧ K = K' ∧ L' = Cl pba 3 [ii qa0] :: F) ?_ ?_
 · refine CJ.block <| CJ.loop (fun s ρ K' L' => ∃ (i6 : Int), i6 = s ∧ Fits [(0, sl Aa0 xa Ca0), (1, .func (.func 123) #[] #[pt pba]), (7, ii (((xa.length : Nat) : Int))), (8, ii i6)] ρ ∧ K = K' ∧ L' = Cl pba 3 [ii qa0] :: F) ho5 ⟨0, rfl, rt4, rfl, rfl⟩ ?_
   rintro s ρ _ _ r7 ⟨i6, rfl, hf9, rfl, rfl⟩ h10
   obtain ⟨ρ, rfl⟩ := hf9.ex
   refine cr <| jv (.bool (decide (i6 < (((xa.length : Nat) : Int))))) (V.lss rfl rfl) <| J.nil <| CJ.seq <| cc rfl h10 (fun hc11 h10 => ?_) fun hc11 h10 => ?_
   · refine CJ.skip <| CJ.seq <| CJ.block <| cr <| jm (ii i6) rfl <| ja (ii i6) rfl ?_
     refine J.nil <| cr <| jm (.func (.func 123) #[] #[pt pba]) rfl <| jm (sl Aa0 xa Ca0) rfl <| jm (ii i6) rfl ?_
     obtain ⟨x12, hx13, h10⟩ := ob h10
     obtain ⟨p14, p15, p17⟩ := getI_some hx13
     obtain ⟨b18, o19, e20, a21⟩ := (Ga0).at p15
     refine jv _ (V.iad underlying24 sz150 rfl e20 rfl p14 p17) <| jv (.agg #[ii x12.1, .bool x12.2]) (V.ld rfl (Ld.aggK (cs := [ii x12.1, .bool x12.2]) underlying150 sz150 rfl ⟨((a21).fst).int, (((a21).snd).one).bool, trivial⟩ hpr)) ?_
     obtain ⟨r22, hr23, h10⟩ := ob h10
     refine J.op rfl (A.call (L1 := [Cl pba 3 [ii qa0]]) call123 rfl (row_within_1_ap0_i_ok hr23) rfl rfl) ?_
     rintro _ _ _ ⟨v25, _, rfl, ⟨⟨t26, rfl, rfl, rfl⟩, rfl⟩, _, rfl⟩
     refine J.nil <| cc rfl h10 (fun hc27 h10 => ?_) fun hc27 h10 => ?_
     · refine cr <| jm (ii i6) rfl <| ja (ii i6) rfl <| J.nil <| CJ.ret ?_
       obtain rfl := si h10
       refine ⟨nofun, fun e => ?_⟩
       subst e
       refine .inr ⟨nofun, ?_⟩
       obtain rfl := si h
       exact ⟨_, _, Res.one rfl rfl, ⟨i6, rfl, rfl, rfl⟩, hpr, fun w hs => hs⟩
     refine CJ.skip <| CJ.region <| jv (ii (IntKind.wrap .i64 (i6 + 1))) (V.add rfl rfl) <| jm (ii (IntKind.wrap .i64 (i6 + 1))) rfl <| J.nil ?_
     obtain rfl := si h10
     exact ⟨rfl, ⟨IntKind.wrap .i64 (i6 + 1), rfl, rt4, rfl, rfl⟩⟩
   refine CJ.exit ?_
   obtain rfl := si h10
   refine ⟨nofun, fun e => ?_⟩
   subst e
   exact .inl ⟨rfl, _, rfl, ⟨rfl, trivial, rfl, rfl⟩⟩
 rintro s ρ _ _ ho28 ⟨rfl, hf29, rfl, rfl⟩
 subst ho28
 obtain ⟨ρ, rfl⟩ := hf29.ex
 refine PJ.done <| cr <| ja (ii (-1)) rfl <| J.nil <| CJ.ret ?_
 obtain rfl := si h
 exact ⟨_, _, Res.one rfl rfl, ⟨(-1), rfl, rfl, rfl⟩, hpr, fun w hs => hs⟩

noncomputable def fn_slices_ContainsFunc_api_Slot_api_Slot_k_row_within_1_p0_i (xa : Tq3) (qa0 : Int) : Option Bool :=
  (fn_slices_IndexFunc_api_Slot_api_Slot_k_row_within_1_p0_i xa qa0).bind fun i10 => some (decide (0 ≤ i10))
theorem slices_ContainsFunc_api_Slot_api_Slot_k_row_within_1_p0_i_ok {K : Hp} {xa : Tq3} {qa0 : Int} {pba : Nat} {Aa0 : Option Addr} {Ca0 : Nat} (Ga0 : Is K (.sl Yq1) [sl Aa0 xa Ca0] xa) {r : Bool} (h : fn_slices_ContainsFunc_api_Slot_api_Slot_k_row_within_1_p0_i xa qa0 = some r) :
    Tr Tryz.prog 122 #[sl Aa0 xa Ca0, .func (.func 123) #[] #[pt pba]] K [Cl pba 3 [ii qa0]] (fun v K' L' => (∃ (t7 : Bool), t7 = r ∧ .bool t7 = v ∧ L' = [Cl pba 3 [ii qa0]]) ∧ K = K') := by
 refine Tr.k <| Tr.of func122 rfl ntmps122 rfl fun E F => ?_
 unfold fn_slices_ContainsFunc_api_Slot_api_Slot_k_row_within_1_p0_i at h
 refine cr <| ja (.bool false) rfl <| J.nil <| cr <| jm (sl Aa0 xa Ca0) rfl ?_
 refine jm (.func (.func 123) #[] #[pt pba]) rfl ?_
 obtain ⟨r8, hr9, h⟩ := ob h
 refine J.op rfl (A.call (L1 := [Cl pba 3 [ii qa0]]) call132 rfl (slices_IndexFunc_api_Slot_api_Slot_k_row_within_1_p0_i_ok Ga0 hr9) rfl rfl) ?_
 rintro _ _ _ ⟨v11, _, rfl, ⟨⟨i10, rfl, rfl, rfl⟩, rfl⟩, _, rfl⟩
 refine jv (.bool (decide (0 ≤ i10))) (V.geq rfl rfl) <| ja (.bool (decide (0 ≤ i10))) rfl <| J.nil <| CJ.ret ?_
 obtain rfl := si h
 exact ⟨_, _, Res.one rfl rfl, ⟨decide (0 ≤ i10), rfl, rfl, rfl⟩, hpr, fun w hs => hs⟩

noncomputable def fn_row_within (xa : Tq3) (xb : Int) : Option Bool :=
  (fn_slices_ContainsFunc_api_Slot_api_Slot_k_row_within_1_p0_i xa xb).bind fun t14 => some (!t14)
theorem row_within_ok {K : Hp} {xa : Tq3} {xb : Int} {Aa0 : Option Addr} {Ca0 : Nat} (Ga0 : Is K (.sl Yq1) [sl Aa0 xa Ca0] xa) {r : Bool} (h : fn_row_within xa xb = some r) :
    Tr Tryz.prog 112 #[.agg #[sl Aa0 xa Ca0], ii xb] K [] (fun v K' L' => (∃ (t9 : Bool), t9 = r ∧ .bool t9 = v ∧ L' = []) ∧ K = K') := by
 refine Tr.k <| Tr.of func112 rfl ntmps112 rfl fun E F => ?_
 unfold fn_row_within at h
 refine cr <| jbx [sl Aa0 xa Ca0] rfl rfl fun b10 => jbx [ii xb] rfl rfl fun b11 => ja (.bool false) rfl <| J.nil <| CJ.seq ?_
 refine CJ.region <| jv _ (V.fad underlying26 rfl nz24 rfl) <| jv (sl Aa0 xa Ca0) (V.ld rfl (Ld.sc sc24 (Rd.cl 1 rfl rfl))) <| jv (.func (.func 123) #[] #[pt b11]) (V.mkf rfl) ?_
 obtain ⟨r12, hr13, h⟩ := ob h
 refine J.op rfl (A.call (L1 := [Cl b11 3 [ii xb]]) call122 rfl (slices_ContainsFunc_api_Slot_api_Slot_k_row_within_1_p0_i_ok Ga0 hr13) rfl rfl) ?_
 rintro _ _ _ ⟨v15, _, rfl, ⟨⟨t14, rfl, rfl, rfl⟩, rfl⟩, _, rfl⟩
 refine jv (.bool (!t14)) (V.not rfl) <| ja (.bool (!t14)) rfl <| J.nil <| CJ.ret ?_
 obtain rfl := si h
 exact ⟨_, _, Res.one rfl rfl, ⟨!t14, rfl, rfl, rfl⟩, hpr, fun w hs => (Sep.dropAt 0 rfl (Sep.dropAt 0 rfl hs))⟩

noncomputable def fn_row_Check (xa : Tq3) (xb : Int) : Option Int :=
  cond (decide (16 < (((xa.length : Nat) : Int)))) (some (6)) ((fn_row_within xa xb).bind fun t15 => cond (!t15) (some (7)) (some (0)))
theorem row_Check_ok {K : Hp} {xa : Tq3} {xb : Int} {Aa0 : Option Addr} {Ca0 : Nat} (Ga0 : Is K (.sl Yq1) [sl Aa0 xa Ca0] xa) {r : Int} (h : fn_row_Check xa xb = some r) :
    Tr Tryz.prog 91 #[.agg #[sl Aa0 xa Ca0], ii xb] K [] (fun v K' L' => (∃ (i10 : Int), i10 = r ∧ ii i10 = v ∧ L' = []) ∧ K = K') := by
 refine Tr.k <| Tr.of func91 rfl ntmps91 rfl fun E F => ?_
 unfold fn_row_Check at h
 refine cr <| jbx [sl Aa0 xa Ca0] rfl rfl fun b11 => ja (ii 0) rfl <| J.nil <| CJ.seq <| CJ.seq ?_
 refine CJ.region <| jv _ (V.fad underlying26 rfl nz24 rfl) <| jv (sl Aa0 xa Ca0) (V.ld rfl (Ld.sc sc24 (Rd.cl 0 rfl rfl))) <| jv (ii (((xa.length : Nat) : Int))) (V.len underlying24 rfl) <| jv (.bool (decide (16 < (((xa.length : Nat) : Int))))) (V.gtr rfl rfl) <| J.nil <| cc rfl h (fun hc12 h => ?_) fun hc12 h => ?_
 · refine cr <| ja (ii 6) rfl <| J.nil <| CJ.ret ?_
   obtain rfl := si h
   exact ⟨_, _, Res.one rfl rfl, ⟨6, rfl, rfl, rfl⟩, hpr, fun w hs => (Sep.dropAt 0 rfl hs)⟩
 refine CJ.skip <| CJ.seq <| cr <| jv (.agg #[sl Aa0 xa Ca0]) (V.ld rfl (Ld.agg (cs := [sl Aa0 xa Ca0]) underlying26 sz26 rfl (Rd.cls 0 0 rfl rfl))) <| jm (ii xb) rfl ?_
 obtain ⟨r13, hr14, h⟩ := ob h
 refine J.op rfl (A.call (L1 := []) call112 rfl (row_within_ok Ga0 hr14) rfl rfl) ?_
 rintro _ _ _ ⟨v16, _, rfl, ⟨⟨t15, rfl, rfl, rfl⟩, rfl⟩, _, rfl⟩
 refine jv (.bool (!t15)) (V.not rfl) <| J.nil <| cc rfl h (fun hc19 h => ?_) fun hc19 h => ?_
 · refine cr <| ja (ii 7) rfl <| J.nil <| CJ.ret ?_
   obtain rfl := si h
   exact ⟨_, _, Res.one rfl rfl, ⟨7, rfl, rfl, rfl⟩, hpr, fun w hs => (Sep.dropAt 0 rfl hs)⟩
 refine CJ.skip <| cr <| ja (ii 0) rfl <| J.nil <| CJ.ret ?_
 obtain rfl := si h
 exact ⟨_, _, Res.one rfl rfl, ⟨0, rfl, rfl, rfl⟩, hpr, fun w hs => (Sep.dropAt 0 rfl hs)⟩
noncomputable def fn_valid_locals_az_l1 (xa : Tq1) : Int → Option (Int ⊕ (Unit ⊕ Tq7)) := fun (i1 : Int) => cond (decide (i1 < (((xa.2.2.2.1.length : Nat) : Int)))) ((getI xa.2.2.2.1 i1).bind fun x2 => (fn_tick_Counter_Add_zii 1 1).bind fun _ => (fn_row_Check x2 xa.2.1).bind fun i3 => cond (!decide (i3 = 0)) (some (.inr ((.inr ((i3, 2, i1, 0)))))) (some (.inl (IntKind.wrap .i64 (i1 + 1))))) (some (.inr ((.inl ()))))
noncomputable def fn_valid_locals_az (xa : Tq1) : Option Tq7 :=
  cond (decide ((((xa.2.2.2.1.length : Nat) : Int)) = 0)) (some ((14, 2, 0, 0))) (cond (decide (65536 < (((xa.2.2.2.1.length : Nat) : Int)))) (some ((6, 2, 0, 0))) ((loop (fn_valid_locals_az_l1 xa) 0 : Option (Unit ⊕ Tq7)).bind fun o => match o with | .inr r => some r | .inl () => some ((0, 0, 0, 0))))
theorem valid_locals_az_ok {K : Hp} {xa : Tq1} {Aa2 : Option Addr} {Ca2 : Nat} {Aa3 : Option Addr} {Ca3 : Nat} {Aa4 : Option Addr} {Ca4 : Nat} {Aa5 : Option Addr} {Ca5 : Nat} {Aa6 : Option Addr} {Ca6 : Nat} (Ga2 : Is K (.sl Yq5) [sl Aa2 xa.2.2.1 Ca2] xa.2.2.1) (Ga3 : Is K Yq8 [sl Aa3 xa.2.2.2.1 Ca3] xa.2.2.2.1) (Ga4 : Is K (.sl Yq1) [sl Aa4 xa.2.2.2.2.1 Ca4] xa.2.2.2.2.1) (Ga5 : Is K Yq4 [sl Aa5 xa.2.2.2.2.2.1 Ca5] xa.2.2.2.2.2.1) (Ga6 : Is K (.sl Yq3) [sl Aa6 xa.2.2.2.2.2.2 Ca6] xa.2.2.2.2.2.2) {r : Tq7} (h : fn_valid_locals_az xa = some r) :
    Tr Tryz.prog 67 #[.agg #[ii xa.1, ii xa.2.1, sl Aa2 xa.2.2.1 Ca2, sl Aa3 xa.2.2.2.1 Ca3, sl Aa4 xa.2.2.2.2.1 Ca4, sl Aa5 xa.2.2.2.2.2.1 Ca5, sl Aa6 xa.2.2.2.2.2.2 Ca6], .pointer none] K [] (fun v K' L' => (∃ (i7 : Int) (i9 : Int) (i10 : Int) (i11 : Int), (i7, i9, i10, i11) = r ∧ .agg #[ii i7, ii i9, ii i10, ii i11] = v ∧ L' = []) ∧ K = K') := by
 refine Tr.k <| Tr.of func67 rfl ntmps67 rfl fun E F => ?_
 unfold fn_valid_locals_az at h
 refine cr <| jbx [ii xa.1, ii xa.2.1, sl Aa2 xa.2.2.1 Ca2, sl Aa3 xa.2.2.2.1 Ca3, sl Aa4 xa.2.2.2.2.1 Ca4, sl Aa5 xa.2.2.2.2.2.1 Ca5, sl Aa6 xa.2.2.2.2.2.2 Ca6] rfl rfl fun b12 => jal inf105 [ii 0, ii 0, ii 0, ii 0] rfl fun b13 => J.nil <| CJ.seq <| CJ.seq ?_
 refine CJ.region <| jv _ (V.fad underlying30 rfl nz23 rfl) <| jv (sl Aa3 xa.2.2.2.1 Ca3) (V.ld rfl (Ld.sc sc23 (Rd.cl 1 rfl rfl))) <| jv (ii (((xa.2.2.2.1.length : Nat) : Int))) (V.len underlying23 rfl) <| jv (.bool (decide ((((xa.2.2.2.1.length : Nat) : Int)) = 0))) (V.eql rfl rfl) <| J.nil <| cc rfl h (fun hc14 h => ?_) fun hc14 h => ?_
 · refine cr <| jv (.agg #[ii 14, ii 2, ii 0, ii 0]) (V.build inf105 places105 rfl rfl) <| js [ii 14, ii 2, ii 0, ii 0] sz105 rfl rfl rfl rfl rfl rfl <| J.nil <| CJ.ret ?_
   obtain rfl := si h
   exact ⟨_, _, Res.one rfl ⟨_, _, rfl, Ld.agg (cs := [ii 14, ii 2, ii 0, ii 0]) underlying105 sz105 rfl (Rd.cls 0 0 rfl rfl)⟩, ⟨14, 2, 0, 0, rfl, rfl, rfl⟩, hpr, fun w hs => (Sep.dropAt 0 rfl (Sep.dropAt 0 rfl hs))⟩
 refine CJ.skip <| CJ.seq <| cr <| jv _ (V.fad underlying30 rfl nz23 rfl) <| jv (sl Aa3 xa.2.2.2.1 Ca3) (V.ld rfl (Ld.sc sc23 (Rd.cl 1 rfl rfl))) <| jv (ii (((xa.2.2.2.1.length : Nat) : Int))) (V.len underlying23 rfl) ?_
 refine jv (.bool (decide (65536 < (((xa.2.2.2.1.length : Nat) : Int))))) (V.gtr rfl rfl) <| J.nil <| cc rfl h (fun hc15 h => ?_) fun hc15 h => ?_
 · refine cr <| jv (.agg #[ii 6, ii 2, ii 0, ii 0]) (V.build inf105 places105 rfl rfl) <| js [ii 6, ii 2, ii 0, ii 0] sz105 rfl rfl rfl rfl rfl rfl <| J.nil <| CJ.ret ?_
   obtain rfl := si h
   exact ⟨_, _, Res.one rfl ⟨_, _, rfl, Ld.agg (cs := [ii 6, ii 2, ii 0, ii 0]) underlying105 sz105 rfl (Rd.cls 0 0 rfl rfl)⟩, ⟨6, 2, 0, 0, rfl, rfl, rfl⟩, hpr, fun w hs => (Sep.dropAt 0 rfl (Sep.dropAt 0 rfl hs))⟩
 refine CJ.skip <| CJ.seq <| cr <| jv _ (V.fad underlying30 rfl nz23 rfl) <| jv (sl Aa3 xa.2.2.2.1 Ca3) (V.ld rfl (Ld.sc sc23 (Rd.cl 1 rfl rfl))) <| jv (ii (((xa.2.2.2.1.length : Nat) : Int))) (V.len underlying23 rfl) ?_
 refine jm (ii 0) rfl <| J.nil ?_
 obtain ⟨o17, ho18, h⟩ := ob h
 refine CJ.joinN (o := o17) (fun s ρ K' L' => () = s ∧ Fits [(4, pt b13)] ρ ∧ K = K' ∧ L' = Cl b13 105 [ii 0, ii 0, ii 0, ii 0] :: F) ?_ ?_
 · refine CJ.block <| CJ.front 1 rfl <| CJ.loop (fun s ρ K' L' => ∃ (i19 : Int), i19 = s ∧ Fits [(1, .pointer none), (2, pt b12), (4, pt b13), (19, sl Aa3 xa.2.2.2.1 Ca3), (20, ii (((xa.2.2.2.1.length : Nat) : Int))), (21, ii i19)] ρ ∧ K = K' ∧ L' = Cl b12 30 [ii xa.1, ii xa.2.1, sl Aa2 xa.2.2.1 Ca2, sl Aa3 xa.2.2.2.1 Ca3, sl Aa4 xa.2.2.2.2.1 Ca4, sl Aa5 xa.2.2.2.2.2.1 Ca5, sl Aa6 xa.2.2.2.2.2.2 Ca6] :: Cl b13 105 [ii 0, ii 0, ii 0, ii 0] :: F) ho18 ⟨0, rfl, rt6, rfl, rfl⟩ ?_
   rintro s ρ _ _ r20 ⟨i19, rfl, hf21, rfl, rfl⟩ h22
   obtain ⟨ρ, rfl⟩ := hf21.ex
   refine cr <| jv (.bool (decide (i19 < (((xa.2.2.2.1.length : Nat) : Int))))) (V.lss rfl rfl) <| J.nil <| CJ.seq <| cc rfl h22 (fun hc24 h22 => ?_) fun hc24 h22 => ?_
   · refine CJ.skip <| CJ.seq <| CJ.block <| cr <| jm (ii i19) rfl ?_
     obtain ⟨x25, hx27, h22⟩ := ob h22
     obtain ⟨p28, p29, p31⟩ := getI_some hx27
     obtain ⟨b33, o34, e35, a36⟩ := (Ga3).at p29
     refine jv _ (V.iad underlying23 sz26 rfl e35 rfl p28 p31) ?_
     obtain ⟨ad37, cp38, c39, f40⟩ := ((a36).one).sl
     refine jv (.agg #[sl ad37 x25 cp38]) (V.ld rfl (Ld.aggK (cs := [sl ad37 x25 cp38]) underlying26 sz26 rfl ⟨c39, trivial⟩ hpr)) <| jal inf26 [nos] rfl fun b41 => ja (ii i19) rfl <| js [sl ad37 x25 cp38] sz26 rfl rfl rfl rfl rfl rfl <| J.nil <| CJ.seq <| CJ.region ?_
     refine jm (.pointer none) rfl ?_
     obtain ⟨r42, hr43, h22⟩ := ob h22
     refine J.op rfl (A.call (L1 := []) call64 rfl (tick_Counter_Add_zii_ok hr43) rfl rfl) ?_
     rintro _ _ _ ⟨v44, _, rfl, ⟨⟨rfl, rfl, rfl⟩, rfl⟩, _, rfl⟩
     refine J.nil <| cr <| jv (.agg #[sl ad37 x25 cp38]) (V.ld rfl (Ld.agg (cs := [sl ad37 x25 cp38]) underlying26 sz26 rfl (Rd.cls 0 0 rfl rfl))) <| jv _ (V.fad underlying30 rfl nz3 rfl) <| jv (ii xa.2.1) (V.ld rfl (Ld.sc sc3 (Rd.cl 1 rfl rfl))) ?_
     obtain ⟨r45, hr46, h22⟩ := ob h22
     refine J.op rfl (A.call (L1 := []) call91 rfl (row_Check_ok f40 hr46) rfl rfl) ?_
     rintro _ _ _ ⟨v47, _, rfl, ⟨⟨i48, rfl, rfl, rfl⟩, rfl⟩, _, rfl⟩
     refine ja (ii i48) rfl <| J.nil <| cr <| jm (ii i48) rfl <| jv (.bool (!decide (i48 = 0))) (V.neq rfl rfl) <| J.nil ?_
     refine cc rfl h22 (fun hc49 h22 => ?_) fun hc49 h22 => ?_
     · refine cr <| jm (ii i48) rfl <| jm (ii i19) rfl <| jv (.agg #[ii i48, ii 2, ii i19, ii 0]) (V.build inf105 places105 rfl rfl) <| J.front 2 rfl <| js [ii i48, ii 2, ii i19, ii 0] sz105 rfl rfl rfl rfl rfl rfl ?_
       refine J.nil <| CJ.ret ?_
       obtain rfl := si h22
       refine ⟨nofun, fun e => ?_⟩
       subst e
       refine .inr ⟨nofun, ?_⟩
       obtain rfl := si h
       exact ⟨_, _, Res.one rfl ⟨_, _, rfl, Ld.agg (cs := [ii i48, ii 2, ii i19, ii 0]) underlying105 sz105 rfl (Rd.cls 0 0 rfl rfl)⟩, ⟨i48, 2, i19, 0, rfl, rfl, rfl⟩, hpr, fun w hs => (Sep.dropAt 0 rfl (Sep.dropAt 0 rfl (Sep.dropAt 0 rfl hs)))⟩
     refine CJ.skip <| CJ.region <| jv (ii (IntKind.wrap .i64 (i19 + 1))) (V.add rfl rfl) <| jm (ii (IntKind.wrap .i64 (i19 + 1))) rfl <| J.dropAt 0 rfl <| J.nil ?_
     obtain rfl := si h22
     exact ⟨rfl, ⟨IntKind.wrap .i64 (i19 + 1), rfl, rt6, rfl, rfl⟩⟩
   refine CJ.dropAt 0 rfl <| CJ.exit ?_
   obtain rfl := si h22
   refine ⟨nofun, fun e => ?_⟩
   subst e
   exact .inl ⟨rfl, _, rfl, ⟨rfl, rt1, rfl, rfl⟩⟩
 rintro s ρ _ _ ho50 ⟨rfl, hf51, rfl, rfl⟩
 subst ho50
 obtain ⟨ρ, rfl⟩ := hf51.ex
 refine PJ.done <| cr <| jv (.agg #[ii 0, ii 0, ii 0, ii 0]) (V.build inf105 places105 rfl rfl) <| js [ii 0, ii 0, ii 0, ii 0] sz105 rfl rfl rfl rfl rfl rfl <| J.nil <| CJ.ret ?_
 obtain rfl := si h
 exact ⟨_, _, Res.one rfl ⟨_, _, rfl, Ld.agg (cs := [ii 0, ii 0, ii 0, ii 0]) underlying105 sz105 rfl (Rd.cls 0 0 rfl rfl)⟩, ⟨0, 0, 0, 0, rfl, rfl, rfl⟩, hpr, fun w hs => (Sep.dropAt 0 rfl hs)⟩

noncomputable def fn_row_Shape_1 (xa : (Int × Bool)) (xb : (Int × Bool)) : Option Bool :=
  some (xa.2 == xb.2)
theorem row_Shape_1_ok {K : Hp} {xa : (Int × Bool)} {xb : (Int × Bool)}   {r : Bool} (h : fn_row_Shape_1 xa xb = some r) :
    Tr Tryz.prog 114 #[.agg #[ii xa.1, .bool xa.2], .agg #[ii xb.1, .bool xb.2]] K [] (fun v K' L' => (∃ (t3 : Bool), t3 = r ∧ .bool t3 = v ∧ L' = []) ∧ K = K') := by
 refine Tr.k <| Tr.of func114 rfl ntmps114 rfl fun E F => ?_
 unfold fn_row_Shape_1 at h
 refine cr <| jbx [ii xa.1, .bool xa.2] rfl rfl fun b4 => jbx [ii xb.1, .bool xb.2] rfl rfl fun b5 => ja (.bool false) rfl <| J.nil <| CJ.seq ?_
 refine CJ.region <| jv _ (V.fad underlying150 rfl nz4 rfl) <| jv (.bool xa.2) (V.ld rfl (Ld.sc sc4 (Rd.cl 1 rfl rfl))) <| jv _ (V.fad underlying150 rfl nz4 rfl) <| jv (.bool xb.2) (V.ld rfl (Ld.sc sc4 (Rd.cl 0 rfl rfl))) <| jv (.bool (xa.2 == xb.2)) (V.eqb underlying4 rfl rfl) <| ja (.bool (xa.2 == xb.2)) rfl ?_
 refine J.nil <| CJ.ret ?_
 obtain rfl := si h
 exact ⟨_, _, Res.one rfl rfl, ⟨xa.2 == xb.2, rfl, rfl, rfl⟩, hpr, fun w hs => (Sep.dropAt 0 rfl (Sep.dropAt 0 rfl hs))⟩
noncomputable def fn_slices_EqualFunc_api_Slot_api_Slot_api_Slot_api_Slot_kk_row_Shape_1_l1 (xa : Tq3) (xb : Tq3) : Int → Option (Int ⊕ (Unit ⊕ Bool)) := fun (i1 : Int) => cond (decide (i1 < (((xa.length : Nat) : Int)))) ((getI xa i1).bind fun x2 => (getI xb i1).bind fun x3 => (fn_row_Shape_1 (x2.1, x2.2) (x3.1, x3.2)).bind fun t4 => cond (!t4) (some (.inr ((.inr (false))))) (some (.inl (IntKind.wrap .i64 (i1 + 1))))) (some (.inr ((.inl ()))))
noncomputable def fn_slices_EqualFunc_api_Slot_api_Slot_api_Slot_api_Slot_kk_row_Shape_1 (xa : Tq3) (xb : Tq3) : Option Bool :=
  cond (!decide ((((xa.length : Nat) : Int)) = (((xb.length : Nat) : Int)))) (some (false)) ((loop (fn_slices_EqualFunc_api_Slot_api_Slot_api_Slot_api_Slot_kk_row_Shape_1_l1 xa xb) 0 : Option (Unit ⊕ Bool)).bind fun o => match o with | .inr r => some r | .inl () => some (true))
theorem slices_EqualFunc_api_Slot_api_Slot_api_Slot_api_Slot_kk_row_Shape_1_ok {K : Hp} {xa : Tq3} {xb : Tq3} {Aa0 : Option Addr} {Ca0 : Nat} {Ab0 : Option Addr} {Cb0 : Nat} (Ga0 : Is K (.sl Yq1) [sl Aa0 xa Ca0] xa) (Gb0 : Is K (.sl Yq1) [sl Ab0 xb Cb0] xb) {r : Bool} (h : fn_slices_EqualFunc_api_Slot_api_Slot_api_Slot_api_Slot_kk_row_Shape_1 xa xb = some r) :
    Tr Tryz.prog 113 #[sl Aa0 xa Ca0, sl Ab0 xb Cb0, .func (.func 114) #[] #[]] K [] (fun v K' L' => (∃ (t2 : Bool), t2 = r ∧ .bool t2 = v ∧ L' = []) ∧ K = K') := by
 refine Tr.k <| Tr.of func113 rfl ntmps113 rfl fun E F => ?_
 unfold fn_slices_EqualFunc_api_Slot_api_Slot_api_Slot_api_Slot_kk_row_Shape_1 at h
 refine cr <| ja (.bool false) rfl <| J.nil <| CJ.seq <| CJ.seq <| CJ.region ?_
 refine jm (sl Aa0 xa Ca0) rfl <| jv (ii (((xa.length : Nat) : Int))) (V.len underlying24 rfl) <| jm (sl Ab0 xb Cb0) rfl <| jv (ii (((xb.length : Nat) : Int))) (V.len underlying24 rfl) <| jv (.bool (!decide ((((xa.length : Nat) : Int)) = (((xb.length : Nat) : Int))))) (V.neq rfl rfl) <| J.nil <| cc rfl h (fun hc3 h => ?_) fun hc3 h => ?_
 · refine cr <| ja (.bool false) rfl <| J.nil <| CJ.ret ?_
   obtain rfl := si h
   exact ⟨_, _, Res.one rfl rfl, ⟨false, rfl, rfl, rfl⟩, hpr, fun w hs => hs⟩
 refine CJ.skip <| CJ.seq <| cr <| jm (sl Aa0 xa Ca0) rfl <| jv (ii (((xa.length : Nat) : Int))) (V.len underlying24 rfl) <| jm (ii 0) rfl ?_
 refine J.nil ?_
 obtain ⟨o4, ho6, h⟩ := ob h
 refine CJ.joinN (o := o4) (fun s ρ K' L' => () = s ∧ Fits [] ρ ∧ K = K' ∧ F = L') ?_ ?_
 · refine CJ.block <| CJ.loop (fun s ρ K' L' => ∃ (i7 : Int), i7 = s ∧ Fits [(1, sl Ab0 xb Cb0), (2, .func (.func 114) #[] #[]), (15, sl Aa0 xa Ca0), (16, ii (((xa.length : Nat) : Int))), (17, ii i7)] ρ ∧ K = K' ∧ F = L') ho6 ⟨0, rfl, rt5, rfl, rfl⟩ ?_
   rintro s ρ _ _ r9 ⟨i7, rfl, hf10, rfl, rfl⟩ h11
   obtain ⟨ρ, rfl⟩ := hf10.ex
   refine cr <| jv (.bool (decide (i7 < (((xa.length : Nat) : Int))))) (V.lss rfl rfl) <| J.nil <| CJ.seq <| cc rfl h11 (fun hc12 h11 => ?_) fun hc12 h11 => ?_
   · refine CJ.skip <| CJ.seq <| CJ.block <| cr <| jm (ii i7) rfl ?_
     obtain ⟨x13, hx14, h11⟩ := ob h11
     obtain ⟨p15, p17, p18⟩ := getI_some hx14
     obtain ⟨b19, o20, e21, a22⟩ := (Ga0).at p17
     refine jv _ (V.iad underlying24 sz150 rfl e21 rfl p15 p18) <| jv (.agg #[ii x13.1, .bool x13.2]) (V.ld rfl (Ld.aggK (cs := [ii x13.1, .bool x13.2]) underlying150 sz150 rfl ⟨((a22).fst).int, (((a22).snd).one).bool, trivial⟩ hpr)) <| jal inf150 [ii 0, .bool false] rfl fun b23 => ja (ii i7) rfl <| js [ii x13.1, .bool x13.2] sz150 rfl rfl rfl rfl rfl rfl <| J.nil <| CJ.seq ?_
     refine CJ.region <| jm (sl Ab0 xb Cb0) rfl <| jm (ii i7) rfl ?_
     obtain ⟨x25, hx26, h11⟩ := ob h11
     obtain ⟨p27, p28, p29⟩ := getI_some hx26
     obtain ⟨b30, o31, e33, a34⟩ := (Gb0).at p28
     refine jv _ (V.iad underlying24 sz150 rfl e33 rfl p27 p29) <| jv (.agg #[ii x25.1, .bool x25.2]) (V.ld rfl (Ld.aggK (cs := [ii x25.1, .bool x25.2]) underlying150 sz150 rfl ⟨((a34).fst).int, (((a34).snd).one).bool, trivial⟩ hpr)) <| jal inf150 [ii 0, .bool false] rfl fun b35 => js [ii x25.1, .bool x25.2] sz150 rfl rfl rfl rfl rfl rfl <| J.nil <| CJ.seq <| CJ.region ?_
     refine jm (.func (.func 114) #[] #[]) rfl <| jv (.agg #[ii x13.1, .bool x13.2]) (V.ld rfl (Ld.agg (cs := [ii x13.1, .bool x13.2]) underlying150 sz150 rfl (Rd.cls 1 0 rfl rfl))) <| jv (.agg #[ii x25.1, .bool x25.2]) (V.ld rfl (Ld.agg (cs := [ii x25.1, .bool x25.2]) underlying150 sz150 rfl (Rd.cls 0 0 rfl rfl))) ?_
     obtain ⟨r36, hr37, h11⟩ := ob h11
     refine J.op rfl (A.call (L1 := []) call114 rfl (row_Shape_1_ok hr37) rfl rfl) ?_
     rintro _ _ _ ⟨v38, _, rfl, ⟨⟨t39, rfl, rfl, rfl⟩, rfl⟩, _, rfl⟩
     refine jv (.bool (!t39)) (V.not rfl) <| J.nil <| cc rfl h11 (fun hc40 h11 => ?_) fun hc40 h11 => ?_
     · refine cr <| ja (.bool false) rfl <| J.nil <| CJ.ret ?_
       obtain rfl := si h11
       refine ⟨nofun, fun e => ?_⟩
       subst e
       refine .inr ⟨nofun, ?_⟩
       obtain rfl := si h
       exact ⟨_, _, Res.one rfl rfl, ⟨false, rfl, rfl, rfl⟩, hpr, fun w hs => (Sep.dropAt 0 rfl (Sep.dropAt 0 rfl hs))⟩
     refine CJ.skip <| CJ.region <| jv (ii (IntKind.wrap .i64 (i7 + 1))) (V.add rfl rfl) <| jm (ii (IntKind.wrap .i64 (i7 + 1))) rfl <| J.dropAt 0 rfl <| J.dropAt 0 rfl <| J.nil ?_
     obtain rfl := si h11
     exact ⟨rfl, ⟨IntKind.wrap .i64 (i7 + 1), rfl, rt5, rfl, rfl⟩⟩
   refine CJ.exit ?_
   obtain rfl := si h11
   refine ⟨nofun, fun e => ?_⟩
   subst e
   exact .inl ⟨rfl, _, rfl, ⟨rfl, trivial, rfl, rfl⟩⟩
 rintro s ρ _ _ ho41 ⟨rfl, hf42, rfl, rfl⟩
 subst ho41
 obtain ⟨ρ, rfl⟩ := hf42.ex
 refine PJ.done <| cr <| ja (.bool true) rfl <| J.nil <| CJ.ret ?_
 obtain rfl := si h
 exact ⟨_, _, Res.one rfl rfl, ⟨true, rfl, rfl, rfl⟩, hpr, fun w hs => hs⟩

noncomputable def fn_row_Shape (xa : Tq3) (xb : Tq3) : Option Bool :=
  (fn_slices_EqualFunc_api_Slot_api_Slot_api_Slot_api_Slot_kk_row_Shape_1 xa xb).bind fun t14 => some (t14)
theorem row_Shape_ok {K : Hp} {xa : Tq3} {xb : Tq3} {Aa0 : Option Addr} {Ca0 : Nat} {Ab0 : Option Addr} {Cb0 : Nat} (Ga0 : Is K (.sl Yq1) [sl Aa0 xa Ca0] xa) (Gb0 : Is K (.sl Yq1) [sl Ab0 xb Cb0] xb) {r : Bool} (h : fn_row_Shape xa xb = some r) :
    Tr Tryz.prog 92 #[.agg #[sl Aa0 xa Ca0], .agg #[sl Ab0 xb Cb0]] K [] (fun v K' L' => (∃ (t9 : Bool), t9 = r ∧ .bool t9 = v ∧ L' = []) ∧ K = K') := by
 refine Tr.k <| Tr.of func92 rfl ntmps92 rfl fun E F => ?_
 unfold fn_row_Shape at h
 refine cr <| jbx [sl Aa0 xa Ca0] rfl rfl fun b10 => jbx [sl Ab0 xb Cb0] rfl rfl fun b11 => ja (.bool false) rfl <| J.nil <| CJ.seq ?_
 refine CJ.region <| jv _ (V.fad underlying26 rfl nz24 rfl) <| jv (sl Aa0 xa Ca0) (V.ld rfl (Ld.sc sc24 (Rd.cl 1 rfl rfl))) <| jv _ (V.fad underlying26 rfl nz24 rfl) <| jv (sl Ab0 xb Cb0) (V.ld rfl (Ld.sc sc24 (Rd.cl 0 rfl rfl))) ?_
 obtain ⟨r12, hr13, h⟩ := ob h
 refine J.op rfl (A.call (L1 := []) call113 rfl (slices_EqualFunc_api_Slot_api_Slot_api_Slot_api_Slot_kk_row_Shape_1_ok Ga0 Gb0 hr13) rfl rfl) ?_
 rintro _ _ _ ⟨v15, _, rfl, ⟨⟨t14, rfl, rfl, rfl⟩, rfl⟩, _, rfl⟩
 refine ja (.bool t14) rfl <| J.nil <| CJ.ret ?_
 obtain rfl := si h
 exact ⟨_, _, Res.one rfl rfl, ⟨t14, rfl, rfl, rfl⟩, hpr, fun w hs => (Sep.dropAt 0 rfl (Sep.dropAt 0 rfl hs))⟩

noncomputable def fn_valid_ret_az (xa : Tq1) : Option Tq7 :=
  (fn_row_Check xa.2.2.2.2.1 xa.1).bind fun i59 => cond (decide (i59 = 0)) ((getI xa.2.2.2.1 0).bind fun x85 => (fn_row_Shape xa.2.2.2.2.1 x85).bind fun t1 => cond (!t1) (some ((8, 3, 0, 0))) (some ((i59, 3, 0, 0)))) (some ((i59, 3, 0, 0)))
theorem valid_ret_az_ok {K : Hp} {xa : Tq1} {Aa2 : Option Addr} {Ca2 : Nat} {Aa3 : Option Addr} {Ca3 : Nat} {Aa4 : Option Addr} {Ca4 : Nat} {Aa5 : Option Addr} {Ca5 : Nat} {Aa6 : Option Addr} {Ca6 : Nat} (Ga2 : Is K (.sl Yq5) [sl Aa2 xa.2.2.1 Ca2] xa.2.2.1) (Ga3 : Is K Yq8 [sl Aa3 xa.2.2.2.1 Ca3] xa.2.2.2.1) (Ga4 : Is K (.sl Yq1) [sl Aa4 xa.2.2.2.2.1 Ca4] xa.2.2.2.2.1) (Ga5 : Is K Yq4 [sl Aa5 xa.2.2.2.2.2.1 Ca5] xa.2.2.2.2.2.1) (Ga6 : Is K (.sl Yq3) [sl Aa6 xa.2.2.2.2.2.2 Ca6] xa.2.2.2.2.2.2) {r : Tq7} (h : fn_valid_ret_az xa = some r) :
    Tr Tryz.prog 68 #[.agg #[ii xa.1, ii xa.2.1, sl Aa2 xa.2.2.1 Ca2, sl Aa3 xa.2.2.2.1 Ca3, sl Aa4 xa.2.2.2.2.1 Ca4, sl Aa5 xa.2.2.2.2.2.1 Ca5, sl Aa6 xa.2.2.2.2.2.2 Ca6], .pointer none] K [] (fun v K' L' => (∃ (i51 : Int) (i52 : Int) (i53 : Int) (i54 : Int), (i51, i52, i53, i54) = r ∧ .agg #[ii i51, ii i52, ii i53, ii i54] = v ∧ L' = []) ∧ K = K') := by
 refine Tr.k <| Tr.of func68 rfl ntmps68 rfl fun E F => ?_
 unfold fn_valid_ret_az at h
 refine cr <| jbx [ii xa.1, ii xa.2.1, sl Aa2 xa.2.2.1 Ca2, sl Aa3 xa.2.2.2.1 Ca3, sl Aa4 xa.2.2.2.2.1 Ca4, sl Aa5 xa.2.2.2.2.2.1 Ca5, sl Aa6 xa.2.2.2.2.2.2 Ca6] rfl rfl fun b55 => jal inf105 [ii 0, ii 0, ii 0, ii 0] rfl fun b56 => J.nil <| CJ.seq <| CJ.region ?_
 refine jv _ (V.fad underlying30 rfl nz26 rfl) <| jv (.agg #[sl Aa4 xa.2.2.2.2.1 Ca4]) (V.ld rfl (Ld.agg (cs := [sl Aa4 xa.2.2.2.2.1 Ca4]) underlying26 sz26 rfl (Rd.cls 1 4 rfl rfl))) <| jv _ (V.fad underlying30 rfl nz3 rfl) <| jv (ii xa.1) (V.ld rfl (Ld.sc sc3 (Rd.cl 1 rfl rfl))) ?_
 obtain ⟨r57, hr58, h⟩ := ob h
 refine J.op rfl (A.call (L1 := []) call91 rfl (row_Check_ok Ga4 hr58) rfl rfl) ?_
 rintro _ _ _ ⟨v60, _, rfl, ⟨⟨i59, rfl, rfl, rfl⟩, rfl⟩, _, rfl⟩
 refine jv (.agg #[ii i59, ii 3, ii 0, ii 0]) (V.build inf105 places105 rfl rfl) <| jal inf105 [ii 0, ii 0, ii 0, ii 0] rfl fun b63 => js [ii i59, ii 3, ii 0, ii 0] sz105 rfl rfl rfl rfl rfl rfl <| J.nil <| CJ.seq <| CJ.seq <| CJ.mix [Cl b63 105 [ii i59, ii 3, ii 0, ii 0], Cl b56 105 [ii 0, ii 0, ii 0, ii 0], Cl b55 30 [ii xa.1, ii xa.2.1, sl Aa2 xa.2.2.1 Ca2, sl Aa3 xa.2.2.2.1 Ca3, sl Aa4 xa.2.2.2.2.1 Ca4, sl Aa5 xa.2.2.2.2.2.1 Ca5, sl Aa6 xa.2.2.2.2.2.2 Ca6]] [([0, 1, 2, 3, 4, 5, 6, 7, 8, 9], 10)] [11, 12] [] mixO (by decide +kernel) ⟨0, rfl, 0, rfl, 0, rfl, trivial⟩ rfl rfl rfl ?_
 refine JM.cons <| qv _ (V.fad underlying105 rfl nz72 rfl) <| qv (ii i59) (V.ld rfl (Ld.sc sc72 (Rd.cl 0 rfl rfl))) <| qv (.bool (decide (i59 = 0))) (V.eql rfl rfl) <| qm (.bool (decide (i59 = 0))) rfl ?_
 rcases bt (decide (i59 = 0)) with hc84 | hc84
 · have h := ct hc84 h
   refine JQ.run rfl rfl rfl hc84 <| qv _ (V.fad underlying30 rfl nz26 rfl) <| JQ.run rfl rfl rfl hc84 <| qv (.agg #[sl Aa4 xa.2.2.2.2.1 Ca4]) (V.ld rfl (Ld.agg (cs := [sl Aa4 xa.2.2.2.2.1 Ca4]) underlying26 sz26 rfl (Rd.cls 2 4 rfl rfl))) <| JQ.run rfl rfl rfl hc84 <| qv _ (V.fad underlying30 rfl nz23 rfl) <| JQ.run rfl rfl rfl hc84 ?_
   refine qv (sl Aa3 xa.2.2.2.1 Ca3) (V.ld rfl (Ld.sc sc23 (Rd.cl 2 rfl rfl))) <| JQ.run rfl rfl rfl hc84 ?_
   obtain ⟨x85, hx86, h⟩ := ob h
   obtain ⟨p87, p88, p89⟩ := getI_some hx86
   obtain ⟨b90, o91, e92, a93⟩ := (Ga3).at p88
   refine qv _ (V.iad underlying23 sz26 rfl e92 rfl p87 p89) <| JQ.run rfl rfl rfl hc84 ?_
   obtain ⟨ad94, cp95, c96, f97⟩ := ((a93).one).sl
   refine qv (.agg #[sl ad94 x85 cp95]) (V.ld rfl (Ld.aggK (cs := [sl ad94 x85 cp95]) underlying26 sz26 rfl ⟨c96, trivial⟩ hpr)) <| JQ.nil <| JA.run rfl rfl rfl hc84 ?_
   obtain ⟨r98, hr99, h⟩ := ob h
   refine JA.op rfl (A.call (L1 := []) call92 rfl (row_Shape_ok Ga4 f97 hr99) rfl rfl) ?_
   rintro _ _ _ ⟨v7, _, rfl, ⟨⟨t9, rfl, rfl, rfl⟩, rfl⟩, _, rfl⟩
   refine ⟨fun w hs => Hold.sub hpr ⟨0, rfl, 0, rfl, 0, rfl, trivial⟩ hs, ?_⟩
   refine JM.nil <| JQ.run rfl rfl rfl hc84 <| qv (.bool (!t9)) (V.not rfl) <| qv (.bool (!t9)) (V.pickT rfl hc84 rfl) <| JQ.nil <| J.nil <| cc rfl h (fun hc10 h => ?_) fun hc10 h => ?_
   · refine CJ.region <| jv _ (V.fad underlying105 rfl nz72 rfl) <| js1 [ii 8, ii 3, ii 0, ii 0] sz72 rfl rfl rfl rfl rfl rfl <| J.nil <| cr <| jv (.agg #[ii 8, ii 3, ii 0, ii 0]) (V.ld rfl (Ld.agg (cs := [ii 8, ii 3, ii 0, ii 0]) underlying105 sz105 rfl (Rd.cls 0 0 rfl rfl))) ?_
     refine J.front 1 rfl <| js [ii 8, ii 3, ii 0, ii 0] sz105 rfl rfl rfl rfl rfl rfl <| J.nil <| CJ.ret ?_
     obtain rfl := si h
     exact ⟨_, _, Res.one rfl ⟨_, _, rfl, Ld.agg (cs := [ii 8, ii 3, ii 0, ii 0]) underlying105 sz105 rfl (Rd.cls 0 0 rfl rfl)⟩, ⟨8, 3, 0, 0, rfl, rfl, rfl⟩, hpr, fun w hs => (Sep.dropAt 0 rfl (Sep.dropAt 0 rfl (Sep.dropAt 0 rfl hs)))⟩
   refine CJ.skip <| cr <| jv (.agg #[ii i59, ii 3, ii 0, ii 0]) (V.ld rfl (Ld.agg (cs := [ii i59, ii 3, ii 0, ii 0]) underlying105 sz105 rfl (Rd.cls 0 0 rfl rfl))) <| J.front 1 rfl <| js [ii i59, ii 3, ii 0, ii 0] sz105 rfl rfl rfl rfl rfl rfl <| J.nil ?_
   refine CJ.ret ?_
   obtain rfl := si h
   exact ⟨_, _, Res.one rfl ⟨_, _, rfl, Ld.agg (cs := [ii i59, ii 3, ii 0, ii 0]) underlying105 sz105 rfl (Rd.cls 0 0 rfl rfl)⟩, ⟨i59, 3, 0, 0, rfl, rfl, rfl⟩, hpr, fun w hs => (Sep.dropAt 0 rfl (Sep.dropAt 0 rfl (Sep.dropAt 0 rfl hs)))⟩
 have h := cf hc84 h
 refine JQ.skip rfl rfl rfl rfl hc84 <| JQ.skip rfl rfl rfl rfl hc84 <| JQ.skip rfl rfl rfl rfl hc84 <| JQ.skip rfl rfl rfl rfl hc84 <| JQ.skip rfl rfl rfl rfl hc84 <| JQ.skip rfl rfl rfl rfl hc84 <| JQ.nil ?_
 refine JA.skip rfl rfl rfl rfl hc84 <| JM.nil <| JQ.skip rfl rfl rfl rfl hc84 <| qv (.bool false) (V.pickF rfl hc84 rfl) <| JQ.nil <| J.nil <| CJ.condK (b := false) rfl rfl ?_
 refine CJ.skip <| cr <| jv (.agg #[ii i59, ii 3, ii 0, ii 0]) (V.ld rfl (Ld.agg (cs := [ii i59, ii 3, ii 0, ii 0]) underlying105 sz105 rfl (Rd.cls 0 0 rfl rfl))) <| J.front 1 rfl <| js [ii i59, ii 3, ii 0, ii 0] sz105 rfl rfl rfl rfl rfl rfl <| J.nil ?_
 refine CJ.ret ?_
 obtain rfl := si h
 exact ⟨_, _, Res.one rfl ⟨_, _, rfl, Ld.agg (cs := [ii i59, ii 3, ii 0, ii 0]) underlying105 sz105 rfl (Rd.cls 0 0 rfl rfl)⟩, ⟨i59, 3, 0, 0, rfl, rfl, rfl⟩, hpr, fun w hs => (Sep.dropAt 0 rfl (Sep.dropAt 0 rfl (Sep.dropAt 0 rfl hs)))⟩

noncomputable def fn_sig_Check_1_ip0_ikkk (xa : Int) (qa0 : Int) (qa1 : Tq8) (qa2 : (List Tq3)) (qa3 : Tq3) : Option Bool :=
  some ((decide (0 ≤ xa)) && (decide (xa < qa0)))
theorem sig_Check_1_ip0_ikkk_ok {K : Hp} {xa : Int} {qa0 : Int} {qa1 : Tq8} {qa2 : (List Tq3)} {qa3 : Tq3} {pba : Nat} {adqa1 : Option Addr} {cpqa1 : Nat} {adqa2 : Option Addr} {cpqa2 : Nat} {adqa3 : Option Addr} {cpqa3 : Nat} (fqa1 : Is K (.sl Yq5) [sl adqa1 qa1 cpqa1] qa1) (fqa2 : Is K Yq8 [sl adqa2 qa2 cpqa2] qa2) (fqa3 : Is K (.sl Yq1) [sl adqa3 qa3 cpqa3] qa3) {r : Bool} (h : fn_sig_Check_1_ip0_ikkk xa qa0 qa1 qa2 qa3 = some r) :
    Tr Tryz.prog 115 #[ii xa, pt pba] K [Cl pba 55 [ii qa0, sl adqa1 qa1 cpqa1, sl adqa2 qa2 cpqa2, sl adqa3 qa3 cpqa3]] (fun v K' L' => (∃ (t4 : Bool), t4 = r ∧ .bool t4 = v ∧ L' = [Cl pba 55 [ii qa0, sl adqa1 qa1 cpqa1, sl adqa2 qa2 cpqa2, sl adqa3 qa3 cpqa3]]) ∧ K = K') := by
 refine Tr.k <| Tr.of func115 rfl ntmps115 rfl fun E F => ?_
 unfold fn_sig_Check_1_ip0_ikkk at h
 refine cr <| ja (.bool false) rfl <| J.nil <| cr <| jm (ii xa) rfl ?_
 refine jv (.bool (decide (0 ≤ xa))) (V.geq rfl rfl) <| jm (.bool (decide (0 ≤ xa))) rfl <| J.cut 5 <| jmeet [(11, .bool ((decide (0 ≤ xa)) && (decide (xa < qa0))))] ?_ ?_
 · rcases bt (decide (0 ≤ xa)) with hc7 | hc7
   · refine J.run rfl rfl rfl hc7 <| jm (ii xa) rfl <| J.run rfl rfl rfl hc7 <| jv _ (V.fad underlying55 rfl nz3 rfl) <| J.run rfl rfl rfl hc7 <| jv (ii qa0) (V.ld rfl (Ld.sc sc3 (Rd.cl 0 rfl rfl))) <| J.run rfl rfl rfl hc7 ?_
     refine jv (.bool (decide (xa < qa0))) (V.lss rfl rfl) <| jv (.bool (decide (xa < qa0))) (V.pickT rfl hc7 rfl) <| J.nil ?_
     exact ⟨rfl, ⟨(by simp only [hc7]; rfl), trivial⟩, rfl, rfl⟩
   refine J.skip rfl rfl rfl rfl hc7 <| J.skip rfl rfl rfl rfl hc7 <| J.skip rfl rfl rfl rfl hc7 <| J.skip rfl rfl rfl rfl hc7 <| jv (.bool false) (V.pickF rfl hc7 rfl) <| J.nil ?_
   exact ⟨rfl, ⟨(by simp only [hc7]; rfl), trivial⟩, rfl, rfl⟩
 intro ρ
 refine ja (.bool ((decide (0 ≤ xa)) && (decide (xa < qa0)))) rfl <| J.nil <| CJ.ret ?_
 obtain rfl := si h
 exact ⟨_, _, Res.one rfl rfl, ⟨(decide (0 ≤ xa)) && (decide (xa < qa0)), rfl, rfl, rfl⟩, hpr, fun w hs => hs⟩
noncomputable def fn_sig_Check_l1 (xa : Tq6) : Int → Option (Int ⊕ (Unit ⊕ Int)) := fun (i1 : Int) => cond (decide (i1 < (((xa.2.1.length : Nat) : Int)))) ((getI xa.2.1 i1).bind fun x2 => (fn_sig_Check_1_ip0_ikkk x2.1 xa.1 xa.2.1 xa.2.2.1 xa.2.2.2).bind fun t3 => (cond (!t3) (some (true)) ((fn_sig_Check_1_ip0_ikkk x2.2 xa.1 xa.2.1 xa.2.2.1 xa.2.2.2).bind fun t4 => some (!t4))).bind fun t5 => cond (t5) (some (.inr ((.inr (7))))) (some (.inl (IntKind.wrap .i64 (i1 + 1))))) (some (.inr ((.inl ()))))
noncomputable def fn_sig_Check_l2 (xa : Tq6) : Int → Option (Int ⊕ (Unit ⊕ Int)) := fun (i1 : Int) => cond (decide (i1 < (((xa.2.2.1.length : Nat) : Int)))) ((getI xa.2.2.1 i1).bind fun x2 => (fn_row_Check x2 xa.1).bind fun i3 => cond (!decide (i3 = 0)) (some (.inr ((.inr (i3))))) (some (.inl (IntKind.wrap .i64 (i1 + 1))))) (some (.inr ((.inl ()))))
noncomputable def fn_sig_Check (xa : Tq6) : Option Int :=
  cond (decide (xa.1 < 0)) (some (7)) (cond (((decide (16 < xa.1)) || (decide (16 < (((xa.2.1.length : Nat) : Int))))) || (decide (16 < (((xa.2.2.1.length : Nat) : Int))))) (some (6)) ((loop (fn_sig_Check_l1 xa) 0 : Option (Unit ⊕ Int)).bind fun o => match o with | .inr r => some r | .inl () => (loop (fn_sig_Check_l2 xa) 0 : Option (Unit ⊕ Int)).bind fun o => match o with | .inr r => some r | .inl () => (fn_row_Check xa.2.2.2 xa.1).bind fun i1 => some (i1)))
theorem sig_Check_ok {K : Hp} {xa : Tq6} {Aa1 : Option Addr} {Ca1 : Nat} {Aa2 : Option Addr} {Ca2 : Nat} {Aa3 : Option Addr} {Ca3 : Nat} (Ga1 : Is K (.sl Yq5) [sl Aa1 xa.2.1 Ca1] xa.2.1) (Ga2 : Is K Yq8 [sl Aa2 xa.2.2.1 Ca2] xa.2.2.1) (Ga3 : Is K (.sl Yq1) [sl Aa3 xa.2.2.2 Ca3] xa.2.2.2) {r : Int} (h : fn_sig_Check xa = some r) :
    Tr Tryz.prog 93 #[.agg #[ii xa.1, sl Aa1 xa.2.1 Ca1, sl Aa2 xa.2.2.1 Ca2, sl Aa3 xa.2.2.2 Ca3]] K [] (fun v K' L' => (∃ (i7 : Int), i7 = r ∧ ii i7 = v ∧ L' = []) ∧ K = K') := by
 refine Tr.k <| Tr.of func93 rfl ntmps93 rfl fun E F => ?_
 unfold fn_sig_Check at h
 refine cr <| jbx [ii xa.1, sl Aa1 xa.2.1 Ca1, sl Aa2 xa.2.2.1 Ca2, sl Aa3 xa.2.2.2 Ca3] rfl rfl fun b9 => ja (ii 0) rfl <| J.nil <| CJ.seq <| CJ.seq ?_
 refine CJ.region <| jv _ (V.fad underlying55 rfl nz3 rfl) <| jv (ii xa.1) (V.ld rfl (Ld.sc sc3 (Rd.cl 0 rfl rfl))) <| jv (.bool (decide (xa.1 < 0))) (V.lss rfl rfl) <| J.nil <| cc rfl h (fun hc10 h => ?_) fun hc10 h => ?_
 · refine cr <| ja (ii 7) rfl <| J.nil <| CJ.ret ?_
   obtain rfl := si h
   exact ⟨_, _, Res.one rfl rfl, ⟨7, rfl, rfl, rfl⟩, hpr, fun w hs => (Sep.dropAt 0 rfl hs)⟩
 refine CJ.skip <| CJ.seq <| cr <| jv _ (V.fad underlying55 rfl nz3 rfl) <| jv (ii xa.1) (V.ld rfl (Ld.sc sc3 (Rd.cl 0 rfl rfl))) <| jv (.bool (decide (16 < xa.1))) (V.gtr rfl rfl) ?_
 refine jm (.bool (decide (16 < xa.1))) rfl <| J.cut 5 <| jmeet [(20, .bool ((decide (16 < xa.1)) || (decide (16 < (((xa.2.1.length : Nat) : Int)))))), (1, pt b9)] ?_ ?_
 · rcases bt (decide (16 < xa.1)) with hc11 | hc11
   · refine J.skip rfl rfl rfl rfl hc11 <| J.skip rfl rfl rfl rfl hc11 <| J.skip rfl rfl rfl rfl hc11 <| J.skip rfl rfl rfl rfl hc11 <| jv (.bool true) (V.pickT rfl hc11 rfl) <| J.nil ?_
     exact ⟨rfl, ⟨(by simp only [hc11]; rfl), rfl, trivial⟩, rfl, rfl⟩
   refine J.run rfl rfl rfl hc11 <| jv _ (V.fad underlying55 rfl nz22 rfl) <| J.run rfl rfl rfl hc11 <| jv (sl Aa1 xa.2.1 Ca1) (V.ld rfl (Ld.sc sc22 (Rd.cl 0 rfl rfl))) <| J.run rfl rfl rfl hc11 <| jv (ii (((xa.2.1.length : Nat) : Int))) (V.len underlying22 rfl) <| J.run rfl rfl rfl hc11 ?_
   refine jv (.bool (decide (16 < (((xa.2.1.length : Nat) : Int))))) (V.gtr rfl rfl) <| jv (.bool (decide (16 < (((xa.2.1.length : Nat) : Int))))) (V.pickF rfl hc11 rfl) <| J.nil ?_
   exact ⟨rfl, ⟨(by simp only [hc11]; rfl), rfl, trivial⟩, rfl, rfl⟩
 intro ρ
 refine jm (.bool ((decide (16 < xa.1)) || (decide (16 < (((xa.2.1.length : Nat) : Int)))))) rfl <| J.cut 5 <| jmeet [(26, .bool (((decide (16 < xa.1)) || (decide (16 < (((xa.2.1.length : Nat) : Int))))) || (decide (16 < (((xa.2.2.1.length : Nat) : Int)))))), (1, pt b9)] ?_ ?_
 · rcases bt ((decide (16 < xa.1)) || (decide (16 < (((xa.2.1.length : Nat) : Int))))) with hc12 | hc12
   · refine J.skip rfl rfl rfl rfl hc12 <| J.skip rfl rfl rfl rfl hc12 <| J.skip rfl rfl rfl rfl hc12 <| J.skip rfl rfl rfl rfl hc12 <| jv (.bool true) (V.pickT rfl hc12 rfl) <| J.nil ?_
     exact ⟨rfl, ⟨(by simp only [hc12]; rfl), rfl, trivial⟩, rfl, rfl⟩
   refine J.run rfl rfl rfl hc12 <| jv _ (V.fad underlying55 rfl nz23 rfl) <| J.run rfl rfl rfl hc12 <| jv (sl Aa2 xa.2.2.1 Ca2) (V.ld rfl (Ld.sc sc23 (Rd.cl 0 rfl rfl))) <| J.run rfl rfl rfl hc12 <| jv (ii (((xa.2.2.1.length : Nat) : Int))) (V.len underlying23 rfl) <| J.run rfl rfl rfl hc12 ?_
   refine jv (.bool (decide (16 < (((xa.2.2.1.length : Nat) : Int))))) (V.gtr rfl rfl) <| jv (.bool (decide (16 < (((xa.2.2.1.length : Nat) : Int))))) (V.pickF rfl hc12 rfl) <| J.nil ?_
   exact ⟨rfl, ⟨(by simp only [hc12]; rfl), rfl, trivial⟩, rfl, rfl⟩
 intro ρ
 refine J.nil <| cc rfl h (fun hc13 h => ?_) fun hc13 h => ?_
 · refine cr <| ja (ii 6) rfl <| J.nil <| CJ.ret ?_
   obtain rfl := si h
   exact ⟨_, _, Res.one rfl rfl, ⟨6, rfl, rfl, rfl⟩, hpr, fun w hs => (Sep.dropAt 0 rfl hs)⟩
 refine CJ.skip <| cr <| jv (.func (.func 115) #[] #[pt b9]) (V.mkf rfl) <| ja (.func (.func 115) #[] #[pt b9]) rfl <| J.nil <| CJ.seq ?_
 refine cr <| jv _ (V.fad underlying55 rfl nz22 rfl) <| jv (sl Aa1 xa.2.1 Ca1) (V.ld rfl (Ld.sc sc22 (Rd.cl 0 rfl rfl))) <| jv (ii (((xa.2.1.length : Nat) : Int))) (V.len underlying22 rfl) <| jm (ii 0) rfl <| J.nil ?_
 obtain ⟨o14, ho15, h⟩ := ob h
 refine CJ.joinN (o := o14) (fun s ρ K' L' => () = s ∧ Fits [(1, pt b9)] ρ ∧ K = K' ∧ L' = Cl b9 55 [ii xa.1, sl Aa1 xa.2.1 Ca1, sl Aa2 xa.2.2.1 Ca2, sl Aa3 xa.2.2.2 Ca3] :: F) ?_ ?_
 · refine CJ.block <| CJ.loop (fun s ρ K' L' => ∃ (i17 : Int), i17 = s ∧ Fits [(1, pt b9), (3, .func (.func 115) #[] #[pt b9]), (29, sl Aa1 xa.2.1 Ca1), (30, ii (((xa.2.1.length : Nat) : Int))), (31, ii i17)] ρ ∧ K = K' ∧ L' = Cl b9 55 [ii xa.1, sl Aa1 xa.2.1 Ca1, sl Aa2 xa.2.2.1 Ca2, sl Aa3 xa.2.2.2 Ca3] :: F) ho15 ⟨0, rfl, rt5, rfl, rfl⟩ ?_
   rintro s ρ _ _ r18 ⟨i17, rfl, hf19, rfl, rfl⟩ h20
   obtain ⟨ρ, rfl⟩ := hf19.ex
   refine cr <| jv (.bool (decide (i17 < (((xa.2.1.length : Nat) : Int))))) (V.lss rfl rfl) <| J.nil <| CJ.seq <| cc rfl h20 (fun hc21 h20 => ?_) fun hc21 h20 => ?_
   · refine CJ.skip <| CJ.seq <| CJ.block <| CJ.seq <| CJ.region ?_
     obtain ⟨x24, hx25, h20⟩ := ob h20
     obtain ⟨p27, p28, p29⟩ := getI_some hx25
     obtain ⟨b30, o31, e33, a34⟩ := (Ga1).at p28
     refine jv _ (V.iad underlying22 sz126 rfl e33 rfl p27 p29) <| jv (.agg #[ii x24.1, ii x24.2]) (V.ld rfl (Ld.aggK (cs := [ii x24.1, ii x24.2]) underlying126 sz126 rfl ⟨((a34).fst).int, (((a34).snd).one).int, trivial⟩ hpr)) <| jal inf126 [ii 0, ii 0] rfl fun b35 => js [ii x24.1, ii x24.2] sz126 rfl rfl rfl rfl rfl rfl <| J.nil <| CJ.seq <| CJ.region ?_
     refine jm (.func (.func 115) #[] #[pt b9]) rfl <| jv _ (V.fad underlying126 rfl nz3 rfl) <| jv (ii x24.1) (V.ld rfl (Ld.sc sc3 (Rd.cl 0 rfl rfl))) ?_
     obtain ⟨r36, hr37, h20⟩ := ob h20
     refine J.front 1 rfl <| J.op rfl (A.call (L1 := [Cl b9 55 [ii xa.1, sl Aa1 xa.2.1 Ca1, sl Aa2 xa.2.2.1 Ca2, sl Aa3 xa.2.2.2 Ca3]]) call115 rfl (sig_Check_1_ip0_ikkk_ok Ga1 Ga2 Ga3 hr37) rfl rfl) ?_
     rintro _ _ _ ⟨v38, _, rfl, ⟨⟨t39, rfl, rfl, rfl⟩, rfl⟩, _, rfl⟩
     refine jv (.bool (!t39)) (V.not rfl) <| jm (.bool (!t39)) rfl <| J.cut 6 ?_
     obtain ⟨t40, ht41, h20⟩ := ob h20
     refine jmeet [(46, .bool t40), (1, pt b9), (3, .func (.func 115) #[] #[pt b9]), (29, sl Aa1 xa.2.1 Ca1), (30, ii (((xa.2.1.length : Nat) : Int))), (31, ii i17)] ?_ ?_
     · rcases bt (!t39) with hc42 | hc42
       · have ht41 := ct hc42 ht41
         refine J.skip rfl rfl rfl rfl hc42 <| J.skip rfl rfl rfl rfl hc42 <| J.skip rfl rfl rfl rfl hc42 <| J.skip rfl rfl rfl rfl hc42 <| J.skip rfl rfl rfl rfl hc42 <| jv (.bool true) (V.pickT rfl hc42 rfl) <| J.nil ?_
         obtain rfl := si ht41
         exact ⟨rfl, rt6, rfl, rfl⟩
       have ht41 := cf hc42 ht41
       refine J.run rfl rfl rfl hc42 <| jm (.func (.func 115) #[] #[pt b9]) rfl <| J.run rfl rfl rfl hc42 <| jv _ (V.fad underlying126 rfl nz3 rfl) <| J.run rfl rfl rfl hc42 <| jv (ii x24.2) (V.ld rfl (Ld.sc sc3 (Rd.cl 1 rfl rfl))) <| J.run rfl rfl rfl hc42 ?_
       obtain ⟨r43, hr44, ht41⟩ := ob ht41
       refine J.op rfl (A.call (L1 := [Cl b9 55 [ii xa.1, sl Aa1 xa.2.1 Ca1, sl Aa2 xa.2.2.1 Ca2, sl Aa3 xa.2.2.2 Ca3]]) call115 rfl (sig_Check_1_ip0_ikkk_ok Ga1 Ga2 Ga3 hr44) rfl rfl) ?_
       rintro _ _ _ ⟨v45, _, rfl, ⟨⟨t46, rfl, rfl, rfl⟩, rfl⟩, _, rfl⟩
       refine J.run rfl rfl rfl hc42 <| jv (.bool (!t46)) (V.not rfl) <| jv (.bool (!t46)) (V.pickF rfl hc42 rfl) <| J.nil ?_
       obtain rfl := si ht41
       exact ⟨rfl, rt6, rfl, rfl⟩
     intro ρ
     refine J.nil <| cc rfl h20 (fun hc47 h20 => ?_) fun hc47 h20 => ?_
     · refine cr <| ja (ii 7) rfl <| J.nil <| CJ.ret ?_
       obtain rfl := si h20
       refine ⟨nofun, fun e => ?_⟩
       subst e
       refine .inr ⟨nofun, ?_⟩
       obtain rfl := si h
       exact ⟨_, _, Res.one rfl rfl, ⟨7, rfl, rfl, rfl⟩, hpr, fun w hs => (Sep.dropAt 0 rfl (Sep.dropAt 0 rfl hs))⟩
     refine CJ.skip <| CJ.region <| jv (ii (IntKind.wrap .i64 (i17 + 1))) (V.add rfl rfl) <| jm (ii (IntKind.wrap .i64 (i17 + 1))) rfl <| J.dropAt 1 rfl <| J.nil ?_
     obtain rfl := si h20
     exact ⟨rfl, ⟨IntKind.wrap .i64 (i17 + 1), rfl, rt5, rfl, rfl⟩⟩
   refine CJ.exit ?_
   obtain rfl := si h20
   refine ⟨nofun, fun e => ?_⟩
   subst e
   exact .inl ⟨rfl, _, rfl, ⟨rfl, rt1, rfl, rfl⟩⟩
 rintro s ρ _ _ ho48 ⟨rfl, hf49, rfl, rfl⟩
 subst ho48
 obtain ⟨ρ, rfl⟩ := hf49.ex
 refine PJ.done <| CJ.seq <| cr <| jv _ (V.fad underlying55 rfl nz23 rfl) <| jv (sl Aa2 xa.2.2.1 Ca2) (V.ld rfl (Ld.sc sc23 (Rd.cl 0 rfl rfl))) <| jv (ii (((xa.2.2.1.length : Nat) : Int))) (V.len underlying23 rfl) ?_
 refine jm (ii 0) rfl <| J.nil ?_
 obtain ⟨o50, ho51, h⟩ := ob h
 refine CJ.joinN (o := o50) (fun s ρ K' L' => () = s ∧ Fits [(1, pt b9)] ρ ∧ K = K' ∧ L' = Cl b9 55 [ii xa.1, sl Aa1 xa.2.1 Ca1, sl Aa2 xa.2.2.1 Ca2, sl Aa3 xa.2.2.2 Ca3] :: F) ?_ ?_
 · refine CJ.block <| CJ.loop (fun s ρ K' L' => ∃ (i52 : Int), i52 = s ∧ Fits [(1, pt b9), (49, sl Aa2 xa.2.2.1 Ca2), (50, ii (((xa.2.2.1.length : Nat) : Int))), (51, ii i52)] ρ ∧ K = K' ∧ L' = Cl b9 55 [ii xa.1, sl Aa1 xa.2.1 Ca1, sl Aa2 xa.2.2.1 Ca2, sl Aa3 xa.2.2.2 Ca3] :: F) ho51 ⟨0, rfl, rt4, rfl, rfl⟩ ?_
   rintro s ρ _ _ r53 ⟨i52, rfl, hf54, rfl, rfl⟩ h56
   obtain ⟨ρ, rfl⟩ := hf54.ex
   refine cr <| jv (.bool (decide (i52 < (((xa.2.2.1.length : Nat) : Int))))) (V.lss rfl rfl) <| J.nil <| CJ.seq <| cc rfl h56 (fun hc57 h56 => ?_) fun hc57 h56 => ?_
   · refine CJ.skip <| CJ.seq <| CJ.block <| CJ.seq <| CJ.region ?_
     obtain ⟨x58, hx59, h56⟩ := ob h56
     obtain ⟨p60, p61, p62⟩ := getI_some hx59
     obtain ⟨b63, o65, e66, a67⟩ := (Ga2).at p61
     refine jv _ (V.iad underlying23 sz26 rfl e66 rfl p60 p62) ?_
     obtain ⟨ad68, cp69, c70, f71⟩ := ((a67).one).sl
     refine jv (.agg #[sl ad68 x58 cp69]) (V.ld rfl (Ld.aggK (cs := [sl ad68 x58 cp69]) underlying26 sz26 rfl ⟨c70, trivial⟩ hpr)) <| jal inf26 [nos] rfl fun b72 => js [sl ad68 x58 cp69] sz26 rfl rfl rfl rfl rfl rfl <| J.nil <| cr <| jv (.agg #[sl ad68 x58 cp69]) (V.ld rfl (Ld.agg (cs := [sl ad68 x58 cp69]) underlying26 sz26 rfl (Rd.cls 0 0 rfl rfl))) ?_
     refine jv _ (V.fad underlying55 rfl nz3 rfl) <| jv (ii xa.1) (V.ld rfl (Ld.sc sc3 (Rd.cl 1 rfl rfl))) ?_
     obtain ⟨r73, hr74, h56⟩ := ob h56
     refine J.op rfl (A.call (L1 := []) call91 rfl (row_Check_ok f71 hr74) rfl rfl) ?_
     rintro _ _ _ ⟨v75, _, rfl, ⟨⟨i76, rfl, rfl, rfl⟩, rfl⟩, _, rfl⟩
     refine ja (ii i76) rfl <| J.nil <| cr <| jm (ii i76) rfl <| jv (.bool (!decide (i76 = 0))) (V.neq rfl rfl) <| J.nil ?_
     refine cc rfl h56 (fun hc77 h56 => ?_) fun hc77 h56 => ?_
     · refine cr <| jm (ii i76) rfl <| ja (ii i76) rfl <| J.nil <| CJ.ret ?_
       obtain rfl := si h56
       refine ⟨nofun, fun e => ?_⟩
       subst e
       refine .inr ⟨nofun, ?_⟩
       obtain rfl := si h
       exact ⟨_, _, Res.one rfl rfl, ⟨i76, rfl, rfl, rfl⟩, hpr, fun w hs => (Sep.dropAt 0 rfl (Sep.dropAt 0 rfl hs))⟩
     refine CJ.skip <| CJ.region <| jv (ii (IntKind.wrap .i64 (i52 + 1))) (V.add rfl rfl) <| jm (ii (IntKind.wrap .i64 (i52 + 1))) rfl <| J.dropAt 0 rfl <| J.nil ?_
     obtain rfl := si h56
     exact ⟨rfl, ⟨IntKind.wrap .i64 (i52 + 1), rfl, rt4, rfl, rfl⟩⟩
   refine CJ.exit ?_
   obtain rfl := si h56
   refine ⟨nofun, fun e => ?_⟩
   subst e
   exact .inl ⟨rfl, _, rfl, ⟨rfl, rt1, rfl, rfl⟩⟩
 rintro s ρ _ _ ho78 ⟨rfl, hf79, rfl, rfl⟩
 subst ho78
 obtain ⟨ρ, rfl⟩ := hf79.ex
 refine PJ.done <| cr <| jv _ (V.fad underlying55 rfl nz26 rfl) <| jv (.agg #[sl Aa3 xa.2.2.2 Ca3]) (V.ld rfl (Ld.agg (cs := [sl Aa3 xa.2.2.2 Ca3]) underlying26 sz26 rfl (Rd.cls 0 3 rfl rfl))) <| jv _ (V.fad underlying55 rfl nz3 rfl) <| jv (ii xa.1) (V.ld rfl (Ld.sc sc3 (Rd.cl 0 rfl rfl))) ?_
 obtain ⟨r80, hr81, h⟩ := ob h
 refine J.op rfl (A.call (L1 := []) call91 rfl (row_Check_ok Ga3 hr81) rfl rfl) ?_
 rintro _ _ _ ⟨v82, _, rfl, ⟨⟨i83, rfl, rfl, rfl⟩, rfl⟩, _, rfl⟩
 refine ja (ii i83) rfl <| J.nil <| CJ.ret ?_
 obtain rfl := si h
 exact ⟨_, _, Res.one rfl rfl, ⟨i83, rfl, rfl, rfl⟩, hpr, fun w hs => (Sep.dropAt 0 rfl hs)⟩
noncomputable def fn_valid_sigs_az_l1 (xa : Tq1) : Int → Option (Int ⊕ (Unit ⊕ Tq7)) := fun (i1 : Int) => cond (decide (i1 < (((xa.2.2.2.2.2.1.length : Nat) : Int)))) ((getI xa.2.2.2.2.2.1 i1).bind fun x2 => (fn_tick_Counter_Add_zii 1 1).bind fun _ => (fn_sig_Check (x2.1, x2.2.1, x2.2.2.1, x2.2.2.2)).bind fun i3 => cond (!decide (i3 = 0)) (some (.inr ((.inr ((i3, 4, i1, 0)))))) (some (.inl (IntKind.wrap .i64 (i1 + 1))))) (some (.inr ((.inl ()))))
noncomputable def fn_valid_sigs_az (xa : Tq1) : Option Tq7 :=
  cond (decide (65536 < (((xa.2.2.2.2.2.1.length : Nat) : Int)))) (some ((6, 4, 0, 0))) ((loop (fn_valid_sigs_az_l1 xa) 0 : Option (Unit ⊕ Tq7)).bind fun o => match o with | .inr r => some r | .inl () => some ((0, 0, 0, 0)))
theorem valid_sigs_az_ok {K : Hp} {xa : Tq1} {Aa2 : Option Addr} {Ca2 : Nat} {Aa3 : Option Addr} {Ca3 : Nat} {Aa4 : Option Addr} {Ca4 : Nat} {Aa5 : Option Addr} {Ca5 : Nat} {Aa6 : Option Addr} {Ca6 : Nat} (Ga2 : Is K (.sl Yq5) [sl Aa2 xa.2.2.1 Ca2] xa.2.2.1) (Ga3 : Is K Yq8 [sl Aa3 xa.2.2.2.1 Ca3] xa.2.2.2.1) (Ga4 : Is K (.sl Yq1) [sl Aa4 xa.2.2.2.2.1 Ca4] xa.2.2.2.2.1) (Ga5 : Is K Yq4 [sl Aa5 xa.2.2.2.2.2.1 Ca5] xa.2.2.2.2.2.1) (Ga6 : Is K (.sl Yq3) [sl Aa6 xa.2.2.2.2.2.2 Ca6] xa.2.2.2.2.2.2) {r : Tq7} (h : fn_valid_sigs_az xa = some r) :
    Tr Tryz.prog 69 #[.agg #[ii xa.1, ii xa.2.1, sl Aa2 xa.2.2.1 Ca2, sl Aa3 xa.2.2.2.1 Ca3, sl Aa4 xa.2.2.2.2.1 Ca4, sl Aa5 xa.2.2.2.2.2.1 Ca5, sl Aa6 xa.2.2.2.2.2.2 Ca6], .pointer none] K [] (fun v K' L' => (∃ (i7 : Int) (i9 : Int) (i10 : Int) (i11 : Int), (i7, i9, i10, i11) = r ∧ .agg #[ii i7, ii i9, ii i10, ii i11] = v ∧ L' = []) ∧ K = K') := by
 refine Tr.k <| Tr.of func69 rfl ntmps69 rfl fun E F => ?_
 unfold fn_valid_sigs_az at h
 refine cr <| jbx [ii xa.1, ii xa.2.1, sl Aa2 xa.2.2.1 Ca2, sl Aa3 xa.2.2.2.1 Ca3, sl Aa4 xa.2.2.2.2.1 Ca4, sl Aa5 xa.2.2.2.2.2.1 Ca5, sl Aa6 xa.2.2.2.2.2.2 Ca6] rfl rfl fun b12 => jal inf105 [ii 0, ii 0, ii 0, ii 0] rfl fun b13 => J.nil <| CJ.seq <| CJ.seq ?_
 refine CJ.region <| jv _ (V.fad underlying30 rfl nz27 rfl) <| jv (sl Aa5 xa.2.2.2.2.2.1 Ca5) (V.ld rfl (Ld.sc sc27 (Rd.cl 1 rfl rfl))) <| jv (ii (((xa.2.2.2.2.2.1.length : Nat) : Int))) (V.len underlying27 rfl) <| jv (.bool (decide (65536 < (((xa.2.2.2.2.2.1.length : Nat) : Int))))) (V.gtr rfl rfl) <| J.nil <| cc rfl h (fun hc14 h => ?_) fun hc14 h => ?_
 · refine cr <| jv (.agg #[ii 6, ii 4, ii 0, ii 0]) (V.build inf105 places105 rfl rfl) <| js [ii 6, ii 4, ii 0, ii 0] sz105 rfl rfl rfl rfl rfl rfl <| J.nil <| CJ.ret ?_
   obtain rfl := si h
   exact ⟨_, _, Res.one rfl ⟨_, _, rfl, Ld.agg (cs := [ii 6, ii 4, ii 0, ii 0]) underlying105 sz105 rfl (Rd.cls 0 0 rfl rfl)⟩, ⟨6, 4, 0, 0, rfl, rfl, rfl⟩, hpr, fun w hs => (Sep.dropAt 0 rfl (Sep.dropAt 0 rfl hs))⟩
 refine CJ.skip <| CJ.seq <| cr <| jv _ (V.fad underlying30 rfl nz27 rfl) <| jv (sl Aa5 xa.2.2.2.2.2.1 Ca5) (V.ld rfl (Ld.sc sc27 (Rd.cl 1 rfl rfl))) <| jv (ii (((xa.2.2.2.2.2.1.length : Nat) : Int))) (V.len underlying27 rfl) ?_
 refine jm (ii 0) rfl <| J.nil ?_
 obtain ⟨o15, ho17, h⟩ := ob h
 refine CJ.joinN (o := o15) (fun s ρ K' L' => () = s ∧ Fits [(4, pt b13)] ρ ∧ K = K' ∧ L' = Cl b13 105 [ii 0, ii 0, ii 0, ii 0] :: F) ?_ ?_
 · refine CJ.block <| CJ.dropAt 1 rfl <| CJ.loop (fun s ρ K' L' => ∃ (i18 : Int), i18 = s ∧ Fits [(1, .pointer none), (4, pt b13), (14, sl Aa5 xa.2.2.2.2.2.1 Ca5), (15, ii (((xa.2.2.2.2.2.1.length : Nat) : Int))), (16, ii i18)] ρ ∧ K = K' ∧ L' = Cl b13 105 [ii 0, ii 0, ii 0, ii 0] :: F) ho17 ⟨0, rfl, rt5, rfl, rfl⟩ ?_
   rintro s ρ _ _ r19 ⟨i18, rfl, hf20, rfl, rfl⟩ h21
   obtain ⟨ρ, rfl⟩ := hf20.ex
   refine cr <| jv (.bool (decide (i18 < (((xa.2.2.2.2.2.1.length : Nat) : Int))))) (V.lss rfl rfl) <| J.nil <| CJ.seq <| cc rfl h21 (fun hc22 h21 => ?_) fun hc22 h21 => ?_
   · refine CJ.skip <| CJ.seq <| CJ.block <| cr <| jm (ii i18) rfl ?_
     obtain ⟨x23, hx24, h21⟩ := ob h21
     obtain ⟨p25, p26, p28⟩ := getI_some hx24
     obtain ⟨b29, o31, e33, a34⟩ := (Ga5).at p26
     refine jv _ (V.iad underlying27 sz55 rfl e33 rfl p25 p28) ?_
     obtain ⟨ad35, cp36, c37, f38⟩ := (((a34).snd).fst).sl
     obtain ⟨ad39, cp40, c41, f42⟩ := ((((a34).snd).snd).fst).sl
     obtain ⟨ad43, cp44, c45, f46⟩ := ((((((a34).snd).snd).snd).one).one).sl
     refine jv (.agg #[ii x23.1, sl ad35 x23.2.1 cp36, sl ad39 x23.2.2.1 cp40, sl ad43 x23.2.2.2 cp44]) (V.ld rfl (Ld.aggK (cs := [ii x23.1, sl ad35 x23.2.1 cp36, sl ad39 x23.2.2.1 cp40, sl ad43 x23.2.2.2 cp44]) underlying55 sz55 rfl ⟨((a34).fst).int, c37, c41, c45, trivial⟩ hpr)) <| jal inf55 [ii 0, nos, nos, nos] rfl fun b47 => ja (ii i18) rfl <| js [ii x23.1, sl ad35 x23.2.1 cp36, sl ad39 x23.2.2.1 cp40, sl ad43 x23.2.2.2 cp44] sz55 rfl rfl rfl rfl rfl rfl <| J.nil <| CJ.seq <| CJ.region ?_
     refine jm (.pointer none) rfl ?_
     obtain ⟨r48, hr49, h21⟩ := ob h21
     refine J.op rfl (A.call (L1 := []) call64 rfl (tick_Counter_Add_zii_ok hr49) rfl rfl) ?_
     rintro _ _ _ ⟨v50, _, rfl, ⟨⟨rfl, rfl, rfl⟩, rfl⟩, _, rfl⟩
     refine J.nil <| cr <| jv (.agg #[ii x23.1, sl ad35 x23.2.1 cp36, sl ad39 x23.2.2.1 cp40, sl ad43 x23.2.2.2 cp44]) (V.ld rfl (Ld.agg (cs := [ii x23.1, sl ad35 x23.2.1 cp36, sl ad39 x23.2.2.1 cp40, sl ad43 x23.2.2.2 cp44]) underlying55 sz55 rfl (Rd.cls 0 0 rfl rfl))) ?_
     obtain ⟨r51, hr52, h21⟩ := ob h21
     refine J.op rfl (A.call (L1 := []) call93 rfl (sig_Check_ok f38 f42 f46 hr52) rfl rfl) ?_
     rintro _ _ _ ⟨v53, _, rfl, ⟨⟨i54, rfl, rfl, rfl⟩, rfl⟩, _, rfl⟩
     refine ja (ii i54) rfl <| J.nil <| cr <| jm (ii i54) rfl <| jv (.bool (!decide (i54 = 0))) (V.neq rfl rfl) <| J.nil ?_
     refine cc rfl h21 (fun hc56 h21 => ?_) fun hc56 h21 => ?_
     · refine cr <| jm (ii i54) rfl <| jm (ii i18) rfl <| jv (.agg #[ii i54, ii 4, ii i18, ii 0]) (V.build inf105 places105 rfl rfl) <| J.front 1 rfl <| js [ii i54, ii 4, ii i18, ii 0] sz105 rfl rfl rfl rfl rfl rfl ?_
       refine J.nil <| CJ.ret ?_
       obtain rfl := si h21
       refine ⟨nofun, fun e => ?_⟩
       subst e
       refine .inr ⟨nofun, ?_⟩
       obtain rfl := si h
       exact ⟨_, _, Res.one rfl ⟨_, _, rfl, Ld.agg (cs := [ii i54, ii 4, ii i18, ii 0]) underlying105 sz105 rfl (Rd.cls 0 0 rfl rfl)⟩, ⟨i54, 4, i18, 0, rfl, rfl, rfl⟩, hpr, fun w hs => (Sep.dropAt 0 rfl (Sep.dropAt 0 rfl hs))⟩
     refine CJ.skip <| CJ.region <| jv (ii (IntKind.wrap .i64 (i18 + 1))) (V.add rfl rfl) <| jm (ii (IntKind.wrap .i64 (i18 + 1))) rfl <| J.dropAt 0 rfl <| J.nil ?_
     obtain rfl := si h21
     exact ⟨rfl, ⟨IntKind.wrap .i64 (i18 + 1), rfl, rt5, rfl, rfl⟩⟩
   refine CJ.exit ?_
   obtain rfl := si h21
   refine ⟨nofun, fun e => ?_⟩
   subst e
   exact .inl ⟨rfl, _, rfl, ⟨rfl, rt1, rfl, rfl⟩⟩
 rintro s ρ _ _ ho57 ⟨rfl, hf58, rfl, rfl⟩
 subst ho57
 obtain ⟨ρ, rfl⟩ := hf58.ex
 refine PJ.done <| cr <| jv (.agg #[ii 0, ii 0, ii 0, ii 0]) (V.build inf105 places105 rfl rfl) <| js [ii 0, ii 0, ii 0, ii 0] sz105 rfl rfl rfl rfl rfl rfl <| J.nil <| CJ.ret ?_
 obtain rfl := si h
 exact ⟨_, _, Res.one rfl ⟨_, _, rfl, Ld.agg (cs := [ii 0, ii 0, ii 0, ii 0]) underlying105 sz105 rfl (Rd.cls 0 0 rfl rfl)⟩, ⟨0, 0, 0, 0, rfl, rfl, rfl⟩, hpr, fun w hs => (Sep.dropAt 0 rfl hs)⟩
noncomputable def fn_valid_blocks_az_l1 (xa : Tq1) : (Int × Int) → Option ((Int × Int) ⊕ (Unit ⊕ Tq7)) := fun ((i1, i2) : (Int × Int)) => cond (decide (i2 < (((xa.2.2.2.2.2.2.length : Nat) : Int)))) ((getI xa.2.2.2.2.2.2 i2).bind fun x3 => (fn_tick_Counter_Add_zii 1 1).bind fun _ => cond (decide (65536 < (IntKind.wrap .i64 (i1 + (((x3.1.length : Nat) : Int)))))) (some (.inr ((.inr ((6, 5, i2, 0)))))) (some (.inl ((IntKind.wrap .i64 (i1 + (((x3.1.length : Nat) : Int))), IntKind.wrap .i64 (i2 + 1)))))) (some (.inr ((.inl ()))))
noncomputable def fn_valid_blocks_az (xa : Tq1) : Option Tq7 :=
  cond (decide ((((xa.2.2.2.2.2.2.length : Nat) : Int)) = 0)) (some ((14, 5, 0, 0))) (cond (decide (65536 < (((xa.2.2.2.2.2.2.length : Nat) : Int)))) (some ((6, 5, 0, 0))) ((loop (fn_valid_blocks_az_l1 xa) (0, 0) : Option (Unit ⊕ Tq7)).bind fun o => match o with | .inr r => some r | .inl () => some ((0, 0, 0, 0))))
theorem valid_blocks_az_ok {K : Hp} {xa : Tq1} {Aa2 : Option Addr} {Ca2 : Nat} {Aa3 : Option Addr} {Ca3 : Nat} {Aa4 : Option Addr} {Ca4 : Nat} {Aa5 : Option Addr} {Ca5 : Nat} {Aa6 : Option Addr} {Ca6 : Nat} (Ga2 : Is K (.sl Yq5) [sl Aa2 xa.2.2.1 Ca2] xa.2.2.1) (Ga3 : Is K Yq8 [sl Aa3 xa.2.2.2.1 Ca3] xa.2.2.2.1) (Ga4 : Is K (.sl Yq1) [sl Aa4 xa.2.2.2.2.1 Ca4] xa.2.2.2.2.1) (Ga5 : Is K Yq4 [sl Aa5 xa.2.2.2.2.2.1 Ca5] xa.2.2.2.2.2.1) (Ga6 : Is K (.sl Yq3) [sl Aa6 xa.2.2.2.2.2.2 Ca6] xa.2.2.2.2.2.2) {r : Tq7} (h : fn_valid_blocks_az xa = some r) :
    Tr Tryz.prog 70 #[.agg #[ii xa.1, ii xa.2.1, sl Aa2 xa.2.2.1 Ca2, sl Aa3 xa.2.2.2.1 Ca3, sl Aa4 xa.2.2.2.2.1 Ca4, sl Aa5 xa.2.2.2.2.2.1 Ca5, sl Aa6 xa.2.2.2.2.2.2 Ca6], .pointer none] K [] (fun v K' L' => (∃ (i7 : Int) (i9 : Int) (i10 : Int) (i11 : Int), (i7, i9, i10, i11) = r ∧ .agg #[ii i7, ii i9, ii i10, ii i11] = v ∧ L' = []) ∧ K = K') := by
 refine Tr.k <| Tr.of func70 rfl ntmps70 rfl fun E F => ?_
 unfold fn_valid_blocks_az at h
 refine cr <| jbx [ii xa.1, ii xa.2.1, sl Aa2 xa.2.2.1 Ca2, sl Aa3 xa.2.2.2.1 Ca3, sl Aa4 xa.2.2.2.2.1 Ca4, sl Aa5 xa.2.2.2.2.2.1 Ca5, sl Aa6 xa.2.2.2.2.2.2 Ca6] rfl rfl fun b12 => jal inf105 [ii 0, ii 0, ii 0, ii 0] rfl fun b13 => J.nil <| CJ.seq <| CJ.seq ?_
 refine CJ.region <| jv _ (V.fad underlying30 rfl nz28 rfl) <| jv (sl Aa6 xa.2.2.2.2.2.2 Ca6) (V.ld rfl (Ld.sc sc28 (Rd.cl 1 rfl rfl))) <| jv (ii (((xa.2.2.2.2.2.2.length : Nat) : Int))) (V.len underlying28 rfl) <| jv (.bool (decide ((((xa.2.2.2.2.2.2.length : Nat) : Int)) = 0))) (V.eql rfl rfl) <| J.nil <| cc rfl h (fun hc14 h => ?_) fun hc14 h => ?_
 · refine cr <| jv (.agg #[ii 14, ii 5, ii 0, ii 0]) (V.build inf105 places105 rfl rfl) <| js [ii 14, ii 5, ii 0, ii 0] sz105 rfl rfl rfl rfl rfl rfl <| J.nil <| CJ.ret ?_
   obtain rfl := si h
   exact ⟨_, _, Res.one rfl ⟨_, _, rfl, Ld.agg (cs := [ii 14, ii 5, ii 0, ii 0]) underlying105 sz105 rfl (Rd.cls 0 0 rfl rfl)⟩, ⟨14, 5, 0, 0, rfl, rfl, rfl⟩, hpr, fun w hs => (Sep.dropAt 0 rfl (Sep.dropAt 0 rfl hs))⟩
 refine CJ.skip <| CJ.seq <| cr <| jv _ (V.fad underlying30 rfl nz28 rfl) <| jv (sl Aa6 xa.2.2.2.2.2.2 Ca6) (V.ld rfl (Ld.sc sc28 (Rd.cl 1 rfl rfl))) <| jv (ii (((xa.2.2.2.2.2.2.length : Nat) : Int))) (V.len underlying28 rfl) ?_
 refine jv (.bool (decide (65536 < (((xa.2.2.2.2.2.2.length : Nat) : Int))))) (V.gtr rfl rfl) <| J.nil <| cc rfl h (fun hc15 h => ?_) fun hc15 h => ?_
 · refine cr <| jv (.agg #[ii 6, ii 5, ii 0, ii 0]) (V.build inf105 places105 rfl rfl) <| js [ii 6, ii 5, ii 0, ii 0] sz105 rfl rfl rfl rfl rfl rfl <| J.nil <| CJ.ret ?_
   obtain rfl := si h
   exact ⟨_, _, Res.one rfl ⟨_, _, rfl, Ld.agg (cs := [ii 6, ii 5, ii 0, ii 0]) underlying105 sz105 rfl (Rd.cls 0 0 rfl rfl)⟩, ⟨6, 5, 0, 0, rfl, rfl, rfl⟩, hpr, fun w hs => (Sep.dropAt 0 rfl (Sep.dropAt 0 rfl hs))⟩
 refine CJ.skip <| cr <| ja (ii 0) rfl <| J.nil <| CJ.seq <| CJ.seq ?_
 refine CJ.region <| jv _ (V.fad underlying30 rfl nz28 rfl) <| jv (sl Aa6 xa.2.2.2.2.2.2 Ca6) (V.ld rfl (Ld.sc sc28 (Rd.cl 1 rfl rfl))) <| jv (ii (((xa.2.2.2.2.2.2.length : Nat) : Int))) (V.len underlying28 rfl) <| jm (ii 0) rfl <| J.nil ?_
 obtain ⟨o17, ho18, h⟩ := ob h
 refine CJ.joinN (o := o17) (fun s ρ K' L' => () = s ∧ Fits [(4, pt b13)] ρ ∧ K = K' ∧ L' = Cl b13 105 [ii 0, ii 0, ii 0, ii 0] :: F) ?_ ?_
 · refine CJ.block <| CJ.dropAt 1 rfl <| CJ.loop (fun s ρ K' L' => ∃ (i19 : Int) (i20 : Int), (i19, i20) = s ∧ Fits [(1, .pointer none), (4, pt b13), (5, ii i19), (19, sl Aa6 xa.2.2.2.2.2.2 Ca6), (20, ii (((xa.2.2.2.2.2.2.length : Nat) : Int))), (21, ii i20)] ρ ∧ K = K' ∧ L' = Cl b13 105 [ii 0, ii 0, ii 0, ii 0] :: F) ho18 ⟨0, 0, rfl, rt6, rfl, rfl⟩ ?_
   rintro s ρ _ _ r21 ⟨i19, i20, rfl, hf22, rfl, rfl⟩ h23
   obtain ⟨ρ, rfl⟩ := hf22.ex
   refine cr <| jv (.bool (decide (i20 < (((xa.2.2.2.2.2.2.length : Nat) : Int))))) (V.lss rfl rfl) <| J.nil <| CJ.seq <| cc rfl h23 (fun hc24 h23 => ?_) fun hc24 h23 => ?_
   · refine CJ.skip <| CJ.seq <| CJ.block <| cr <| jm (ii i20) rfl ?_
     obtain ⟨x25, hx26, h23⟩ := ob h23
     obtain ⟨p27, p29, p31⟩ := getI_some hx26
     obtain ⟨b33, o34, e35, a36⟩ := (Ga6).at p29
     refine jv _ (V.iad underlying28 sz60 rfl e35 rfl p27 p31) ?_
     obtain ⟨ad37, cp38, c39, f40⟩ := ((a36).fst).sl
     obtain ⟨ad41, cp42, c43, f44⟩ := (((((((a36).snd).one).snd).snd).snd).fst).sl
     obtain ⟨ad45, cp46, c47, f48⟩ := ((((((((a36).snd).one).snd).snd).snd).snd).fst).sl
     obtain ⟨ad49, cp50, c51, f52⟩ := (((((((((a36).snd).one).snd).snd).snd).snd).snd).one).sl
     refine jv (.agg #[sl ad37 x25.1 cp38, ii x25.2.1, ii x25.2.2.1, ii x25.2.2.2.1, sl ad41 x25.2.2.2.2.1 cp42, sl ad45 x25.2.2.2.2.2.1 cp46, sl ad49 x25.2.2.2.2.2.2 cp50]) (V.ld rfl (Ld.aggK (cs := [sl ad37 x25.1 cp38, ii x25.2.1, ii x25.2.2.1, ii x25.2.2.2.1, sl ad41 x25.2.2.2.2.1 cp42, sl ad45 x25.2.2.2.2.2.1 cp46, sl ad49 x25.2.2.2.2.2.2 cp50]) underlying60 sz60 rfl ⟨c39, ((((a36).snd).one).fst).int, (((((a36).snd).one).snd).fst).int, ((((((a36).snd).one).snd).snd).fst).int, c43, c47, c51, trivial⟩ hpr)) <| jal inf60 [nos, ii 0, ii 0, ii 0, nos, nos, nos] rfl fun b53 => ja (ii i20) rfl <| js [sl ad37 x25.1 cp38, ii x25.2.1, ii x25.2.2.1, ii x25.2.2.2.1, sl ad41 x25.2.2.2.2.1 cp42, sl ad45 x25.2.2.2.2.2.1 cp46, sl ad49 x25.2.2.2.2.2.2 cp50] sz60 rfl rfl rfl rfl rfl rfl <| J.nil <| CJ.seq <| CJ.region ?_
     refine jm (.pointer none) rfl ?_
     obtain ⟨r54, hr55, h23⟩ := ob h23
     refine J.op rfl (A.call (L1 := []) call64 rfl (tick_Counter_Add_zii_ok hr55) rfl rfl) ?_
     rintro _ _ _ ⟨v57, _, rfl, ⟨⟨rfl, rfl, rfl⟩, rfl⟩, _, rfl⟩
     refine J.nil <| cr <| jm (ii i19) rfl <| jv _ (V.fad underlying60 rfl nz56 rfl) <| jv (sl ad37 x25.1 cp38) (V.ld rfl (Ld.sc sc56 (Rd.cl 0 rfl rfl))) <| jv (ii (((x25.1.length : Nat) : Int))) (V.len underlying56 rfl) ?_
     refine jv (ii (IntKind.wrap .i64 (i19 + (((x25.1.length : Nat) : Int))))) (V.add rfl rfl) <| ja (ii (IntKind.wrap .i64 (i19 + (((x25.1.length : Nat) : Int))))) rfl <| J.nil <| cr <| jm (ii (IntKind.wrap .i64 (i19 + (((x25.1.length : Nat) : Int))))) rfl <| jv (.bool (decide (65536 < (IntKind.wrap .i64 (i19 + (((x25.1.length : Nat) : Int))))))) (V.gtr rfl rfl) ?_
     refine J.nil <| cc rfl h23 (fun hc58 h23 => ?_) fun hc58 h23 => ?_
     · refine cr <| jm (ii i20) rfl <| jv (.agg #[ii 6, ii 5, ii i20, ii 0]) (V.build inf105 places105 rfl rfl) <| J.front 1 rfl <| js [ii 6, ii 5, ii i20, ii 0] sz105 rfl rfl rfl rfl rfl rfl <| J.nil ?_
       refine CJ.ret ?_
       obtain rfl := si h23
       refine ⟨nofun, fun e => ?_⟩
       subst e
       refine .inr ⟨nofun, ?_⟩
       obtain rfl := si h
       exact ⟨_, _, Res.one rfl ⟨_, _, rfl, Ld.agg (cs := [ii 6, ii 5, ii i20, ii 0]) underlying105 sz105 rfl (Rd.cls 0 0 rfl rfl)⟩, ⟨6, 5, i20, 0, rfl, rfl, rfl⟩, hpr, fun w hs => (Sep.dropAt 0 rfl (Sep.dropAt 0 rfl hs))⟩
     refine CJ.skip <| CJ.region <| jv (ii (IntKind.wrap .i64 (i20 + 1))) (V.add rfl rfl) <| jm (ii (IntKind.wrap .i64 (i20 + 1))) rfl <| J.dropAt 0 rfl <| J.nil ?_
     obtain rfl := si h23
     exact ⟨rfl, ⟨IntKind.wrap .i64 (i19 + (((x25.1.length : Nat) : Int))), IntKind.wrap .i64 (i20 + 1), rfl, rt6, rfl, rfl⟩⟩
   refine CJ.exit ?_
   obtain rfl := si h23
   refine ⟨nofun, fun e => ?_⟩
   subst e
   exact .inl ⟨rfl, _, rfl, ⟨rfl, rt1, rfl, rfl⟩⟩
 rintro s ρ _ _ ho59 ⟨rfl, hf61, rfl, rfl⟩
 subst ho59
 obtain ⟨ρ, rfl⟩ := hf61.ex
 refine PJ.done <| cr <| jv (.agg #[ii 0, ii 0, ii 0, ii 0]) (V.build inf105 places105 rfl rfl) <| js [ii 0, ii 0, ii 0, ii 0] sz105 rfl rfl rfl rfl rfl rfl <| J.nil <| CJ.ret ?_
 obtain rfl := si h
 exact ⟨_, _, Res.one rfl ⟨_, _, rfl, Ld.agg (cs := [ii 0, ii 0, ii 0, ii 0]) underlying105 sz105 rfl (Rd.cls 0 0 rfl rfl)⟩, ⟨0, 0, 0, 0, rfl, rfl, rfl⟩, hpr, fun w hs => (Sep.dropAt 0 rfl hs)⟩

noncomputable def fn_stmt_fieldsOf (xa : Int) : Option (Bool × Bool × Bool × Bool) :=
  cond (decide (xa = 0)) (some ((false, false, false, true))) (cond (decide (xa = 1)) (some ((true, true, false, true))) ((cond (decide (xa = 2)) (some (decide (xa = 2))) (some (decide (xa = 3))) : Option Bool).bind fun t22 => cond (t22) (some ((true, true, true, true))) (cond (decide (xa = 4)) (some ((false, true, false, true))) (cond (decide (xa = 5)) (some ((true, false, false, true))) (some ((false, false, false, false)))))))
theorem stmt_fieldsOf_ok {K : Hp} {xa : Int}   {r : (Bool × Bool × Bool × Bool)} (h : fn_stmt_fieldsOf xa = some r) :
    Tr Tryz.prog 133 #[ii xa] K [] (fun v K' L' => (∃ (t14 : Bool) (t15 : Bool) (t16 : Bool) (t17 : Bool), (t14, t15, t16, t17) = r ∧ .tuple #[.agg #[.bool t14, .bool t15, .bool t16], .bool t17] = v ∧ L' = []) ∧ K = K') := by
 refine Tr.k <| Tr.of func133 rfl ntmps133 rfl fun E F => ?_
 unfold fn_stmt_fieldsOf at h
 refine cr <| jal inf175 [.bool false, .bool false, .bool false] rfl fun b18 => ja (.bool false) rfl <| J.nil <| CJ.seq <| CJ.seq ?_
 refine CJ.region <| jm (ii xa) rfl <| J.nil <| CJ.block <| cr <| jv (.bool (decide (xa = 0))) (V.eql rfl rfl) ?_
 refine ja (.bool (decide (xa = 0))) rfl <| J.nil <| cc rfl h (fun hc19 h => ?_) fun hc19 h => ?_
 · refine cr <| jv (.agg #[.bool false, .bool false, .bool false]) (V.build inf175 places175 rfl rfl) <| js [.bool false, .bool false, .bool false] sz175 rfl rfl rfl rfl rfl rfl <| ja (.bool true) rfl <| J.nil <| CJ.ret ?_
   obtain rfl := si h
   exact ⟨_, _, Res.two rfl ⟨_, _, rfl, Ld.agg (cs := [.bool false, .bool false, .bool false]) underlying175 sz175 rfl (Rd.cls 0 0 rfl rfl)⟩ rfl, ⟨false, false, false, true, rfl, rfl, rfl⟩, hpr, fun w hs => (Sep.dropAt 0 rfl hs)⟩
 refine cr <| jv (.bool (decide (xa = 1))) (V.eql rfl rfl) <| ja (.bool (decide (xa = 1))) rfl <| J.nil <| cc rfl h (fun hc20 h => ?_) fun hc20 h => ?_
 · refine cr <| jv (.agg #[.bool true, .bool true, .bool false]) (V.build inf175 places175 rfl rfl) <| js [.bool true, .bool true, .bool false] sz175 rfl rfl rfl rfl rfl rfl <| ja (.bool true) rfl <| J.nil <| CJ.ret ?_
   obtain rfl := si h
   exact ⟨_, _, Res.two rfl ⟨_, _, rfl, Ld.agg (cs := [.bool true, .bool true, .bool false]) underlying175 sz175 rfl (Rd.cls 0 0 rfl rfl)⟩ rfl, ⟨true, true, false, true, rfl, rfl, rfl⟩, hpr, fun w hs => (Sep.dropAt 0 rfl hs)⟩
 refine CJ.seq ?_
 obtain ⟨o23, ho24, h⟩ := ob h
 refine CJ.meetN (fun ρ K' L' => ∃ (t22 : Bool), t22 = o23 ∧ Fits [(2, pt b18), (4, ii xa), (11, .bool t22)] ρ ∧ K = K' ∧ L' = Cl b18 175 [.bool false, .bool false, .bool false] :: F) ?_ ?_
 · refine cr <| jv (.bool (decide (xa = 2))) (V.eql rfl rfl) <| ja (.bool (decide (xa = 2))) rfl <| J.nil <| cc rfl ho24 (fun hc25 ho24 => ?_) fun hc25 ho24 => ?_
   · refine CJ.skip ?_
     obtain rfl := si ho24
     exact ⟨rfl, ⟨decide (xa = 2), rfl, rt3, rfl, rfl⟩⟩
   refine CJ.region <| jv (.bool (decide (xa = 3))) (V.eql rfl rfl) <| ja (.bool (decide (xa = 3))) rfl <| J.nil ?_
   obtain rfl := si ho24
   exact ⟨rfl, ⟨decide (xa = 3), rfl, rt3, rfl, rfl⟩⟩
 rintro ρ _ _ ⟨t22, rfl, hf26, rfl, rfl⟩
 obtain ⟨ρ, rfl⟩ := hf26.ex
 refine PJ.done <| cc rfl h (fun hc28 h => ?_) fun hc28 h => ?_
 · refine cr <| jv (.agg #[.bool true, .bool true, .bool true]) (V.build inf175 places175 rfl rfl) <| js [.bool true, .bool true, .bool true] sz175 rfl rfl rfl rfl rfl rfl <| ja (.bool true) rfl <| J.nil <| CJ.ret ?_
   obtain rfl := si h
   exact ⟨_, _, Res.two rfl ⟨_, _, rfl, Ld.agg (cs := [.bool true, .bool true, .bool true]) underlying175 sz175 rfl (Rd.cls 0 0 rfl rfl)⟩ rfl, ⟨true, true, true, true, rfl, rfl, rfl⟩, hpr, fun w hs => (Sep.dropAt 0 rfl hs)⟩
 refine cr <| jv (.bool (decide (xa = 4))) (V.eql rfl rfl) <| ja (.bool (decide (xa = 4))) rfl <| J.nil <| cc rfl h (fun hc29 h => ?_) fun hc29 h => ?_
 · refine cr <| jv (.agg #[.bool false, .bool true, .bool false]) (V.build inf175 places175 rfl rfl) <| js [.bool false, .bool true, .bool false] sz175 rfl rfl rfl rfl rfl rfl <| ja (.bool true) rfl <| J.nil <| CJ.ret ?_
   obtain rfl := si h
   exact ⟨_, _, Res.two rfl ⟨_, _, rfl, Ld.agg (cs := [.bool false, .bool true, .bool false]) underlying175 sz175 rfl (Rd.cls 0 0 rfl rfl)⟩ rfl, ⟨false, true, false, true, rfl, rfl, rfl⟩, hpr, fun w hs => (Sep.dropAt 0 rfl hs)⟩
 refine cr <| jv (.bool (decide (xa = 5))) (V.eql rfl rfl) <| ja (.bool (decide (xa = 5))) rfl <| J.nil <| cc rfl h (fun hc30 h => ?_) fun hc30 h => ?_
 · refine cr <| jv (.agg #[.bool true, .bool false, .bool false]) (V.build inf175 places175 rfl rfl) <| js [.bool true, .bool false, .bool false] sz175 rfl rfl rfl rfl rfl rfl <| ja (.bool true) rfl <| J.nil <| CJ.ret ?_
   obtain rfl := si h
   exact ⟨_, _, Res.two rfl ⟨_, _, rfl, Ld.agg (cs := [.bool true, .bool false, .bool false]) underlying175 sz175 rfl (Rd.cls 0 0 rfl rfl)⟩ rfl, ⟨true, false, false, true, rfl, rfl, rfl⟩, hpr, fun w hs => (Sep.dropAt 0 rfl hs)⟩
 refine CJ.skip <| cr <| jv (.agg #[.bool false, .bool false, .bool false]) (V.build inf175 places175 rfl rfl) <| js [.bool false, .bool false, .bool false] sz175 rfl rfl rfl rfl rfl rfl <| ja (.bool false) rfl <| J.nil ?_
 refine CJ.ret ?_
 obtain rfl := si h
 exact ⟨_, _, Res.two rfl ⟨_, _, rfl, Ld.agg (cs := [.bool false, .bool false, .bool false]) underlying175 sz175 rfl (Rd.cls 0 0 rfl rfl)⟩ rfl, ⟨false, false, false, false, rfl, rfl, rfl⟩, hpr, fun w hs => (Sep.dropAt 0 rfl hs)⟩

noncomputable def fn_stmt_own (xa : Tq2) (xb : (Bool × Bool × Bool)) : Option Tq2 :=
  (cond (xb.1) (some (xa.2.1)) (some (0)) : Option Int).bind fun i30 => (cond (xb.2.1) (some (xa.2.2.1)) (some (0)) : Option Int).bind fun i37 => cond (xb.2.2) (some ((xa.1, i30, i37, xa.2.2.2.1, xa.2.2.2.2))) (some ((xa.1, i30, i37, 0, false)))
theorem stmt_own_ok {K : Hp} {xa : Tq2} {xb : (Bool × Bool × Bool)}   {r : Tq2} (h : fn_stmt_own xa xb = some r) :
    Tr Tryz.prog 134 #[.agg #[ii xa.1, ii xa.2.1, ii xa.2.2.1, ii xa.2.2.2.1, .bool xa.2.2.2.2], .agg #[.bool xb.1, .bool xb.2.1, .bool xb.2.2]] K [] (fun v K' L' => (∃ (i20 : Int) (i21 : Int) (i22 : Int) (i23 : Int) (t24 : Bool), (i20, i21, i22, i23, t24) = r ∧ .agg #[ii i20, ii i21, ii i22, ii i23, .bool t24] = v ∧ L' = []) ∧ K = K') := by
 refine Tr.k <| Tr.of func134 rfl ntmps134 rfl fun E F => ?_
 unfold fn_stmt_own at h
 refine cr <| jbx [ii xa.1, ii xa.2.1, ii xa.2.2.1, ii xa.2.2.2.1, .bool xa.2.2.2.2] rfl rfl fun b25 => jbx [.bool xb.1, .bool xb.2.1, .bool xb.2.2] rfl rfl fun b26 => jal inf62 [ii 0, ii 0, ii 0, ii 0, .bool false] rfl fun b27 => J.nil <| CJ.seq ?_
 refine CJ.region <| jv _ (V.fad underlying62 rfl nz3 rfl) <| jv (ii xa.1) (V.ld rfl (Ld.sc sc3 (Rd.cl 2 rfl rfl))) <| jv (.agg #[ii xa.1, ii 0, ii 0, ii 0, .bool false]) (V.build inf62 places62 rfl rfl) <| jal inf62 [ii 0, ii 0, ii 0, ii 0, .bool false] rfl fun b28 => js [ii xa.1, ii 0, ii 0, ii 0, .bool false] sz62 rfl rfl rfl rfl rfl rfl <| J.nil ?_
 refine CJ.seq ?_
 obtain ⟨o31, ho32, h⟩ := ob h
 refine CJ.meetN (fun ρ K' L' => ∃ (i30 : Int), i30 = o31 ∧ Fits [(2, pt b25), (3, pt b26), (4, pt b27), (5, pt b28)] ρ ∧ K = K' ∧ L' = Cl b25 62 [ii xa.1, ii xa.2.1, ii xa.2.2.1, ii xa.2.2.2.1, .bool xa.2.2.2.2] :: Cl b26 175 [.bool xb.1, .bool xb.2.1, .bool xb.2.2] :: Cl b27 62 [ii 0, ii 0, ii 0, ii 0, .bool false] :: Cl b28 62 [ii xa.1, ii i30, ii 0, ii 0, .bool false] :: F) ?_ ?_
 · refine cr <| jv _ (V.fad underlying175 rfl nz4 rfl) <| jv (.bool xb.1) (V.ld rfl (Ld.sc sc4 (Rd.cl 2 rfl rfl))) <| J.nil <| cc rfl ho32 (fun hc33 ho32 => ?_) fun hc33 ho32 => ?_
   · refine CJ.region <| jv _ (V.fad underlying62 rfl nz3 rfl) <| jv (ii xa.2.1) (V.ld rfl (Ld.sc sc3 (Rd.cl 3 rfl rfl))) <| jv _ (V.fad underlying62 rfl nz3 rfl) <| js1 [ii xa.1, ii xa.2.1, ii 0, ii 0, .bool false] sz3 rfl rfl rfl rfl rfl rfl <| J.front 1 rfl <| J.front 2 rfl ?_
     refine J.front 3 rfl <| J.nil ?_
     obtain rfl := si ho32
     exact ⟨rfl, ⟨xa.2.1, rfl, rt4, rfl, rfl⟩⟩
   refine CJ.front 1 rfl <| CJ.front 2 rfl <| CJ.front 3 rfl <| CJ.skip ?_
   obtain rfl := si ho32
   exact ⟨rfl, ⟨0, rfl, rt4, rfl, rfl⟩⟩
 rintro ρ _ _ ⟨i30, rfl, hf34, rfl, rfl⟩
 obtain ⟨ρ, rfl⟩ := hf34.ex
 refine PJ.done <| CJ.seq ?_
 obtain ⟨o38, ho39, h⟩ := ob h
 refine CJ.meetN (fun ρ K' L' => ∃ (i37 : Int), i37 = o38 ∧ Fits [(2, pt b25), (3, pt b26), (4, pt b27), (5, pt b28)] ρ ∧ K = K' ∧ L' = Cl b25 62 [ii xa.1, ii xa.2.1, ii xa.2.2.1, ii xa.2.2.2.1, .bool xa.2.2.2.2] :: Cl b26 175 [.bool xb.1, .bool xb.2.1, .bool xb.2.2] :: Cl b27 62 [ii 0, ii 0, ii 0, ii 0, .bool false] :: Cl b28 62 [ii xa.1, ii i30, ii i37, ii 0, .bool false] :: F) ?_ ?_
 · refine cr <| jv _ (V.fad underlying175 rfl nz4 rfl) <| jv (.bool xb.2.1) (V.ld rfl (Ld.sc sc4 (Rd.cl 1 rfl rfl))) <| J.nil <| cc rfl ho39 (fun hc40 ho39 => ?_) fun hc40 ho39 => ?_
   · refine CJ.region <| jv _ (V.fad underlying62 rfl nz3 rfl) <| jv (ii xa.2.2.1) (V.ld rfl (Ld.sc sc3 (Rd.cl 0 rfl rfl))) <| jv _ (V.fad underlying62 rfl nz3 rfl) <| J.front 3 rfl <| js1 [ii xa.1, ii i30, ii xa.2.2.1, ii 0, .bool false] sz3 rfl rfl rfl rfl rfl rfl <| J.front 3 rfl ?_
     refine J.front 3 rfl <| J.front 3 rfl <| J.nil ?_
     obtain rfl := si ho39
     exact ⟨rfl, ⟨xa.2.2.1, rfl, rt4, rfl, rfl⟩⟩
   refine CJ.skip ?_
   obtain rfl := si ho39
   exact ⟨rfl, ⟨0, rfl, rt4, rfl, rfl⟩⟩
 rintro ρ _ _ ⟨i37, rfl, hf41, rfl, rfl⟩
 obtain ⟨ρ, rfl⟩ := hf41.ex
 refine PJ.done <| CJ.seq <| cr <| jv _ (V.fad underlying175 rfl nz4 rfl) <| jv (.bool xb.2.2) (V.ld rfl (Ld.sc sc4 (Rd.cl 1 rfl rfl))) <| J.nil ?_
 refine cc rfl h (fun hc43 h => ?_) fun hc43 h => ?_
 · refine CJ.mix [Cl b25 62 [ii xa.1, ii xa.2.1, ii xa.2.2.1, ii xa.2.2.2.1, .bool xa.2.2.2.2], Cl b26 175 [.bool xb.1, .bool xb.2.1, .bool xb.2.2], Cl b27 62 [ii 0, ii 0, ii 0, ii 0, .bool false]] [([0, 1, 2, 3, 4], 5)] [6] [7] mixO (by decide +kernel) ⟨0, rfl, 0, rfl, 0, rfl, trivial⟩ rfl rfl rfl <| JM.cons <| qv _ (V.fad underlying62 rfl nz3 rfl) <| qv (ii xa.2.2.2.1) (V.ld rfl (Ld.sc sc3 (Rd.cl 0 rfl rfl))) <| qv _ (V.fad underlying62 rfl nz4 rfl) <| qv (.bool xa.2.2.2.2) (V.ld rfl (Ld.sc sc4 (Rd.cl 0 rfl rfl))) <| qv _ (V.fad underlying62 rfl nz3 rfl) ?_
   refine JQ.nil <| JA.front 3 rfl <| JA.op rfl (A.store1 (v := ii xa.2.2.2.1) (cs' := [ii xa.1, ii i30, ii i37, ii xa.2.2.2.1, .bool false]) sz3 rfl rfl rfl rfl rfl rfl) ?_
   rintro _ _ _ ⟨rfl, rfl, rfl⟩
   refine ⟨fun w hs => Hold.sub hpr ⟨1, rfl, 1, rfl, 1, rfl, trivial⟩ hs, ?_⟩
   refine JM.nil <| qv _ (V.fad underlying62 rfl nz4 rfl) <| JQ.nil <| js1 [ii xa.1, ii i30, ii i37, ii xa.2.2.2.1, .bool xa.2.2.2.2] sz4 rfl rfl rfl rfl rfl rfl <| J.nil <| CJ.seq <| CJ.region ?_
   refine jv (.agg #[ii xa.1, ii i30, ii i37, ii xa.2.2.2.1, .bool xa.2.2.2.2]) (V.ld rfl (Ld.agg (cs := [ii xa.1, ii i30, ii i37, ii xa.2.2.2.1, .bool xa.2.2.2.2]) underlying62 sz62 rfl (Rd.cls 0 0 rfl rfl))) <| J.front 3 rfl <| js [ii xa.1, ii i30, ii i37, ii xa.2.2.2.1, .bool xa.2.2.2.2] sz62 rfl rfl rfl rfl rfl rfl <| J.nil <| CJ.ret ?_
   obtain rfl := si h
   exact ⟨_, _, Res.one rfl ⟨_, _, rfl, Ld.agg (cs := [ii xa.1, ii i30, ii i37, ii xa.2.2.2.1, .bool xa.2.2.2.2]) underlying62 sz62 rfl (Rd.cls 0 0 rfl rfl)⟩, ⟨xa.1, i30, i37, xa.2.2.2.1, xa.2.2.2.2, rfl, rfl, rfl⟩, hpr, fun w hs => (Sep.dropAt 0 rfl (Sep.dropAt 0 rfl (Sep.dropAt 0 rfl (Sep.dropAt 0 rfl hs))))⟩
 refine CJ.skip <| cr <| jv (.agg #[ii xa.1, ii i30, ii i37, ii 0, .bool false]) (V.ld rfl (Ld.agg (cs := [ii xa.1, ii i30, ii i37, ii 0, .bool false]) underlying62 sz62 rfl (Rd.cls 3 0 rfl rfl))) <| J.front 2 rfl <| js [ii xa.1, ii i30, ii i37, ii 0, .bool false] sz62 rfl rfl rfl rfl rfl rfl <| J.nil ?_
 refine CJ.ret ?_
 obtain rfl := si h
 exact ⟨_, _, Res.one rfl ⟨_, _, rfl, Ld.agg (cs := [ii xa.1, ii i30, ii i37, ii 0, .bool false]) underlying62 sz62 rfl (Rd.cls 0 0 rfl rfl)⟩, ⟨xa.1, i30, i37, 0, false, rfl, rfl, rfl⟩, hpr, fun w hs => (Sep.dropAt 0 rfl (Sep.dropAt 0 rfl (Sep.dropAt 0 rfl (Sep.dropAt 0 rfl hs))))⟩

noncomputable def fn_stmt_form (xa : Tq2) : Option (Bool × Bool × Bool × Int) :=
  (fn_stmt_fieldsOf xa.1).bind fun (t45, t46, t47, t48) => cond (!t48) (some ((false, false, false, 3))) ((fn_stmt_own (xa.1, xa.2.1, xa.2.2.1, xa.2.2.2.1, xa.2.2.2.2) (t45, t46, t47)).bind fun (i67, i68, i69, i70, t71) => cond (!((decide (xa.1 = i67)) && ((decide (xa.2.1 = i68)) && ((decide (xa.2.2.1 = i69)) && ((decide (xa.2.2.2.1 = i70)) && (xa.2.2.2.2 == t71)))))) (some ((false, false, false, 3))) (some ((t45, t46, t47, 0))))
theorem stmt_form_ok {K : Hp} {xa : Tq2}   {r : (Bool × Bool × Bool × Int)} (h : fn_stmt_form xa = some r) :
    Tr Tryz.prog 124 #[.agg #[ii xa.1, ii xa.2.1, ii xa.2.2.1, ii xa.2.2.2.1, .bool xa.2.2.2.2]] K [] (fun v K' L' => (∃ (t37 : Bool) (t38 : Bool) (t39 : Bool) (i40 : Int), (t37, t38, t39, i40) = r ∧ .tuple #[.agg #[.bool t37, .bool t38, .bool t39], ii i40] = v ∧ L' = []) ∧ K = K') := by
 refine Tr.k <| Tr.of func124 rfl ntmps124 rfl fun E F => ?_
 unfold fn_stmt_form at h
 refine cr <| jbx [ii xa.1, ii xa.2.1, ii xa.2.2.1, ii xa.2.2.2.1, .bool xa.2.2.2.2] rfl rfl fun b41 => jal inf175 [.bool false, .bool false, .bool false] rfl fun b42 => ja (ii 0) rfl <| J.nil <| CJ.seq ?_
 refine CJ.region <| jv _ (V.fad underlying62 rfl nz3 rfl) <| jv (ii xa.1) (V.ld rfl (Ld.sc sc3 (Rd.cl 1 rfl rfl))) ?_
 obtain ⟨r43, hr44, h⟩ := ob h
 refine J.op rfl (A.call (L1 := []) call133 rfl (stmt_fieldsOf_ok hr44) rfl rfl) ?_
 rintro _ _ _ ⟨v49, _, rfl, ⟨⟨t45, t46, t47, t48, rfl, rfl, rfl⟩, rfl⟩, _, rfl⟩
 refine jm (.tuple #[.agg #[.bool t45, .bool t46, .bool t47], .bool t48]) rfl <| jx (.agg #[.bool t45, .bool t46, .bool t47]) rfl rfl <| jx (.bool t48) rfl rfl <| jal inf175 [.bool false, .bool false, .bool false] rfl fun b52 => js [.bool t45, .bool t46, .bool t47] sz175 rfl rfl rfl rfl rfl rfl <| ja (.bool t48) rfl <| J.nil ?_
 refine CJ.seq <| CJ.seq <| CJ.mix [Cl b52 175 [.bool t45, .bool t46, .bool t47], Cl b42 175 [.bool false, .bool false, .bool false], Cl b41 62 [ii xa.1, ii xa.2.1, ii xa.2.2.1, ii xa.2.2.2.1, .bool xa.2.2.2.2]] [([0, 1, 2, 3, 4, 5], 6)] [7, 8] [] mixO (by decide +kernel) ⟨0, rfl, 0, rfl, 0, rfl, trivial⟩ rfl rfl rfl <| JM.cons <| qm (.bool t48) rfl <| qv (.bool (!t48)) (V.not rfl) <| qm (.bool (!t48)) rfl ?_
 rcases bt (!t48) with hc64 | hc64
 · have h := ct hc64 h
   refine JQ.skip rfl rfl rfl rfl hc64 <| JQ.skip rfl rfl rfl rfl hc64 <| JQ.skip rfl rfl rfl rfl hc64 <| JQ.nil <| JA.skip rfl rfl rfl rfl hc64 <| JM.nil <| JQ.skip rfl rfl rfl rfl hc64 ?_
   refine qv (.bool true) (V.pickT rfl hc64 rfl) <| JQ.nil <| J.nil <| CJ.condK (b := true) rfl rfl <| cr <| jv (.agg #[.bool false, .bool false, .bool false]) (V.build inf175 places175 rfl rfl) ?_
   refine J.front 1 rfl <| js [.bool false, .bool false, .bool false] sz175 rfl rfl rfl rfl rfl rfl <| ja (ii 3) rfl <| J.nil <| CJ.ret ?_
   obtain rfl := si h
   exact ⟨_, _, Res.two rfl ⟨_, _, rfl, Ld.agg (cs := [.bool false, .bool false, .bool false]) underlying175 sz175 rfl (Rd.cls 0 0 rfl rfl)⟩ rfl, ⟨false, false, false, 3, rfl, rfl, rfl⟩, hpr, fun w hs => (Sep.dropAt 0 rfl (Sep.dropAt 0 rfl (Sep.dropAt 0 rfl hs)))⟩
 have h := cf hc64 h
 refine JQ.run rfl rfl rfl hc64 <| qv (.agg #[ii xa.1, ii xa.2.1, ii xa.2.2.1, ii xa.2.2.2.1, .bool xa.2.2.2.2]) (V.ld rfl (Ld.agg (cs := [ii xa.1, ii xa.2.1, ii xa.2.2.1, ii xa.2.2.2.1, .bool xa.2.2.2.2]) underlying62 sz62 rfl (Rd.cls 2 0 rfl rfl))) <| JQ.run rfl rfl rfl hc64 <| qv (.agg #[ii xa.1, ii xa.2.1, ii xa.2.2.1, ii xa.2.2.2.1, .bool xa.2.2.2.2]) (V.ld rfl (Ld.agg (cs := [ii xa.1, ii xa.2.1, ii xa.2.2.1, ii xa.2.2.2.1, .bool xa.2.2.2.2]) underlying62 sz62 rfl (Rd.cls 2 0 rfl rfl))) <| JQ.run rfl rfl rfl hc64 <| qv (.agg #[.bool t45, .bool t46, .bool t47]) (V.ld rfl (Ld.agg (cs := [.bool t45, .bool t46, .bool t47]) underlying175 sz175 rfl (Rd.cls 0 0 rfl rfl))) <| JQ.nil ?_
 refine JA.run rfl rfl rfl hc64 ?_
 obtain ⟨r65, hr66, h⟩ := ob h
 refine JA.op rfl (A.call (L1 := []) call134 rfl (stmt_own_ok hr66) rfl rfl) ?_
 rintro _ _ _ ⟨v72, _, rfl, ⟨⟨i67, i68, i69, i70, t71, rfl, rfl, rfl⟩, rfl⟩, _, rfl⟩
 refine ⟨fun w hs => Hold.sub hpr ⟨0, rfl, 0, rfl, 0, rfl, trivial⟩ hs, ?_⟩
 refine JM.nil <| JQ.run rfl rfl rfl hc64 <| qv (.bool (!((decide (xa.1 = i67)) && ((decide (xa.2.1 = i68)) && ((decide (xa.2.2.1 = i69)) && ((decide (xa.2.2.2.1 = i70)) && (xa.2.2.2.2 == t71))))))) (V.nest eqg62 (EqIn.st (d := 9999) rfl underlying62 sih62 (EqFs.cons (by decide) (Ld0.sc sc3 rfl) (Ld0.sc sc3 rfl) (EqIn.int (d := 9998) rfl underlying3) (EqFs.cons (by decide) (Ld0.sc sc3 rfl) (Ld0.sc sc3 rfl) (EqIn.int (d := 9998) rfl underlying3) (EqFs.cons (by decide) (Ld0.sc sc3 rfl) (Ld0.sc sc3 rfl) (EqIn.int (d := 9998) rfl underlying3) (EqFs.cons (by decide) (Ld0.sc sc3 rfl) (Ld0.sc sc3 rfl) (EqIn.int (d := 9998) rfl underlying3) (EqFs.last (by decide) (Ld0.sc sc4 rfl) (Ld0.sc sc4 rfl) (EqIn.bool (d := 9998) rfl underlying4))))))) rfl rfl) <| qv (.bool (!((decide (xa.1 = i67)) && ((decide (xa.2.1 = i68)) && ((decide (xa.2.2.1 = i69)) && ((decide (xa.2.2.2.1 = i70)) && (xa.2.2.2.2 == t71))))))) (V.pickF rfl hc64 rfl) <| JQ.nil <| J.nil <| cc rfl h (fun hc75 h => ?_) fun hc75 h => ?_
 · refine cr <| jv (.agg #[.bool false, .bool false, .bool false]) (V.build inf175 places175 rfl rfl) <| J.front 1 rfl <| js [.bool false, .bool false, .bool false] sz175 rfl rfl rfl rfl rfl rfl <| ja (ii 3) rfl <| J.nil ?_
   refine CJ.ret ?_
   obtain rfl := si h
   exact ⟨_, _, Res.two rfl ⟨_, _, rfl, Ld.agg (cs := [.bool false, .bool false, .bool false]) underlying175 sz175 rfl (Rd.cls 0 0 rfl rfl)⟩ rfl, ⟨false, false, false, 3, rfl, rfl, rfl⟩, hpr, fun w hs => (Sep.dropAt 0 rfl (Sep.dropAt 0 rfl (Sep.dropAt 0 rfl hs)))⟩
 refine CJ.skip <| cr <| jv (.agg #[.bool t45, .bool t46, .bool t47]) (V.ld rfl (Ld.agg (cs := [.bool t45, .bool t46, .bool t47]) underlying175 sz175 rfl (Rd.cls 0 0 rfl rfl))) <| J.front 1 rfl <| js [.bool t45, .bool t46, .bool t47] sz175 rfl rfl rfl rfl rfl rfl <| ja (ii 0) rfl ?_
 refine J.nil <| CJ.ret ?_
 obtain rfl := si h
 exact ⟨_, _, Res.two rfl ⟨_, _, rfl, Ld.agg (cs := [.bool t45, .bool t46, .bool t47]) underlying175 sz175 rfl (Rd.cls 0 0 rfl rfl)⟩ rfl, ⟨t45, t46, t47, 0, rfl, rfl, rfl⟩, hpr, fun w hs => (Sep.dropAt 0 rfl (Sep.dropAt 0 rfl (Sep.dropAt 0 rfl hs)))⟩

noncomputable def fn_stmt_Needs_1_ip0_k (xa : Int) (qa0 : (List Tq3)) : Option Bool :=
  some ((decide (0 ≤ xa)) && (decide (xa < (((qa0.length : Nat) : Int)))))
theorem stmt_Needs_1_ip0_k_ok {K : Hp} {xa : Int} {qa0 : (List Tq3)} {pba : Nat} {adqa0 : Option Addr} {cpqa0 : Nat} (fqa0 : Is K Yq8 [sl adqa0 qa0 cpqa0] qa0) {r : Bool} (h : fn_stmt_Needs_1_ip0_k xa qa0 = some r) :
    Tr Tryz.prog 125 #[ii xa, pt pba] K [Cl pba 23 [sl adqa0 qa0 cpqa0]] (fun v K' L' => (∃ (t4 : Bool), t4 = r ∧ .bool t4 = v ∧ L' = [Cl pba 23 [sl adqa0 qa0 cpqa0]]) ∧ K = K') := by
 refine Tr.k <| Tr.of func125 rfl ntmps125 rfl fun E F => ?_
 unfold fn_stmt_Needs_1_ip0_k at h
 refine cr <| ja (.bool false) rfl <| J.nil <| cr <| jm (ii xa) rfl ?_
 refine jv (.bool (decide (0 ≤ xa))) (V.geq rfl rfl) <| jm (.bool (decide (0 ≤ xa))) rfl <| J.cut 5 <| jmeet [(11, .bool ((decide (0 ≤ xa)) && (decide (xa < (((qa0.length : Nat) : Int))))))] ?_ ?_
 · rcases bt (decide (0 ≤ xa)) with hc7 | hc7
   · refine J.run rfl rfl rfl hc7 <| jm (ii xa) rfl <| J.run rfl rfl rfl hc7 <| jv (sl adqa0 qa0 cpqa0) (V.ld rfl (Ld.sc sc23 (Rd.cl 0 rfl rfl))) <| J.run rfl rfl rfl hc7 <| jv (ii (((qa0.length : Nat) : Int))) (V.len underlying23 rfl) <| J.run rfl rfl rfl hc7 ?_
     refine jv (.bool (decide (xa < (((qa0.length : Nat) : Int))))) (V.lss rfl rfl) <| jv (.bool (decide (xa < (((qa0.length : Nat) : Int))))) (V.pickT rfl hc7 rfl) <| J.nil ?_
     exact ⟨rfl, ⟨(by simp only [hc7]; rfl), trivial⟩, rfl, rfl⟩
   refine J.skip rfl rfl rfl rfl hc7 <| J.skip rfl rfl rfl rfl hc7 <| J.skip rfl rfl rfl rfl hc7 <| J.skip rfl rfl rfl rfl hc7 <| jv (.bool false) (V.pickF rfl hc7 rfl) <| J.nil ?_
   exact ⟨rfl, ⟨(by simp only [hc7]; rfl), trivial⟩, rfl, rfl⟩
 intro ρ
 refine ja (.bool ((decide (0 ≤ xa)) && (decide (xa < (((qa0.length : Nat) : Int)))))) rfl <| J.nil <| CJ.ret ?_
 obtain rfl := si h
 exact ⟨_, _, Res.one rfl rfl, ⟨(decide (0 ≤ xa)) && (decide (xa < (((qa0.length : Nat) : Int)))), rfl, rfl, rfl⟩, hpr, fun w hs => hs⟩
noncomputable def fn_relate_related_l1 (xa : Tq3) (xb : Tq3) (xc : Int) (xd : Int) : Tq10 → Option (Tq10 ⊕ (List Tq2)) := fun ((l1, i2) : Tq10) => cond (decide (i2 < (((xa.length : Nat) : Int)))) ((getI xa i2).bind fun x3 => (getI xb i2).bind fun x4 => (app l1 (([(x3.1, x4.1, xc, IntKind.wrap .i64 (xd + i2), false)] : List Tq2))).bind fun z5 => (getI xb i2).bind fun x6 => cond (x6.2) ((getI xb i2).bind fun x7 => (getI xa i2).bind fun x9 => (app z5 (([(x7.1, x9.1, xc, IntKind.wrap .i64 (xd + i2), true)] : List Tq2))).bind fun z10 => some (.inl ((z10, IntKind.wrap .i64 (i2 + 1))))) (some (.inl ((z5, IntKind.wrap .i64 (i2 + 1)))))) (some (.inr (l1)))
noncomputable def fn_relate_related (xa : Tq3) (xb : Tq3) (xc : Int) (xd : Int) : Option ((List Tq2)) :=
  (loop (fn_relate_related_l1 xa xb xc xd) ([], 0) : Option ((List Tq2))).bind fun l1 => some (l1)
theorem relate_related_ok {K : Hp} {xa : Tq3} {xb : Tq3} {xc : Int} {xd : Int} {Aa0 : Option Addr} {Ca0 : Nat} {Ab0 : Option Addr} {Cb0 : Nat} (Ga0 : Is K (.sl Yq1) [sl Aa0 xa Ca0] xa) (Gb0 : Is K (.sl Yq1) [sl Ab0 xb Cb0] xb) {r : (List Tq2)} (h : fn_relate_related xa xb xc xd = some r) :
    Tr Tryz.prog 135 #[sl Aa0 xa Ca0, sl Ab0 xb Cb0, ii xc, ii xd] K [] (fun v K' L' => (∃ (l2 : (List Tq2)) (ad5 : Option Addr) (cp6 : Nat), l2 = r ∧ sl ad5 l2 cp6 = v ∧ L' = [Row Hp.nil 187 Yq2 (sl ad5 l2 cp6) l2]) ∧ K = K') := by
 refine Tr.k <| Tr.of func135 rfl ntmps135 rfl fun E F => ?_
 unfold fn_relate_related at h
 refine cr <| ja (nos) rfl <| J.nil <| cr <| ja (nos) rfl ?_
 refine J.nil <| CJ.seq <| cr <| jm (sl Aa0 xa Ca0) rfl <| jv (ii (((xa.length : Nat) : Int))) (V.len underlying24 rfl) <| jm (ii 0) rfl ?_
 refine J.nil ?_
 obtain ⟨o9, ho10, h⟩ := ob h
 refine CJ.meetN (fun ρ K' L' => ∃ (l11 : (List Tq2)) (ad12 : Option Addr) (cp13 : Nat), l11 = o9 ∧ Fits [(9, sl ad12 l11 cp13)] ρ ∧ K = K' ∧ L' = Row Hp.nil 187 Yq2 (sl ad12 l11 cp13) l11 :: F) ?_ ?_
 · refine CJ.block <| CJ.by (fun w hs => Sep.rowNil (e := 187) (t := Yq2) hs) <| CJ.loop (fun s ρ K' L' => ∃ (l14 : (List Tq2)) (i15 : Int) (ad17 : Option Addr) (cp18 : Nat), (l14, i15) = s ∧ Fits [(0, sl Aa0 xa Ca0), (1, sl Ab0 xb Cb0), (2, ii xc), (3, ii xd), (9, sl ad17 l14 cp18), (12, ii (((xa.length : Nat) : Int))), (13, ii i15)] ρ ∧ K = K' ∧ L' = Row Hp.nil 187 Yq2 (sl ad17 l14 cp18) l14 :: F) ho10 ⟨[], 0, none, 0, rfl, rt7, rfl, rfl⟩ ?_
   rintro s ρ _ _ r19 ⟨l14, i15, ad17, cp18, rfl, hf20, rfl, rfl⟩ h21
   obtain ⟨ρ, rfl⟩ := hf20.ex
   refine CJ.wit Row.hn fun hn22 => cr <| jv (.bool (decide (i15 < (((xa.length : Nat) : Int))))) (V.lss rfl rfl) <| J.nil <| CJ.seq <| cc rfl h21 (fun hc23 h21 => ?_) fun hc23 h21 => ?_
   · refine CJ.skip <| CJ.seq <| CJ.block <| cr <| jm (ii i15) rfl <| ja (ii i15) rfl ?_
     refine J.nil <| CJ.seq <| CJ.mix [Row Hp.nil 187 Yq2 (sl ad17 l14 cp18) l14] [([0, 1, 2, 3, 4, 5, 6, 7, 8, 9, 10, 11, 12, 13, 14, 15], 16)] [] [17, 18] mixO (by decide +kernel) ⟨0, rfl, trivial⟩ rfl rfl rfl <| JM.cons <| qm (sl ad17 l14 cp18) rfl <| qm (sl Aa0 xa Ca0) rfl <| qm (ii i15) rfl ?_
     obtain ⟨x25, hx26, h21⟩ := ob h21
     obtain ⟨p27, p28, p29⟩ := getI_some hx26
     obtain ⟨b30, o31, e33, a34⟩ := (Ga0).at p28
     refine qv _ (V.iad underlying24 sz150 rfl e33 rfl p27 p29) <| qv _ (V.fad underlying150 rfl nz3 rfl) <| qv (ii x25.1) (V.ld rfl (Ld.sc sc3 (Rd.k ((a34).fst).int hpr))) <| qm (sl Ab0 xb Cb0) rfl <| qm (ii i15) rfl ?_
     obtain ⟨x35, hx36, h21⟩ := ob h21
     obtain ⟨p37, p38, p39⟩ := getI_some hx36
     obtain ⟨b40, o41, e42, a43⟩ := (Gb0).at p38
     refine qv _ (V.iad underlying24 sz150 rfl e42 rfl p37 p39) <| qv _ (V.fad underlying150 rfl nz3 rfl) <| qv (ii x35.1) (V.ld rfl (Ld.sc sc3 (Rd.k ((a43).fst).int hpr))) <| qm (ii xc) rfl <| qm (ii xd) rfl <| qm (ii i15) rfl <| qv (ii (IntKind.wrap .i64 (xd + i15))) (V.add rfl rfl) ?_
     refine qv (.agg #[ii x25.1, ii x35.1, ii xc, ii (IntKind.wrap .i64 (xd + i15)), .bool false]) (V.build inf187 places187 rfl rfl) <| JQ.nil ?_
     refine JA.op rfl (A.lit (K0 := Hp.nil) (ty := Yq2) (xs := ([(x25.1, x35.1, xc, IntKind.wrap .i64 (xd + i15), false)] : List Tq2)) underlying159 inf187 rfl (by decide) rfl rfl rfl ⟨_, _, rfl, ⟨_, _, rfl, rfl, rfl, ⟨_, _, rfl, rfl, rfl, ⟨_, _, rfl, rfl, rfl, ⟨_, _, rfl, rfl, rfl, rfl⟩⟩⟩⟩, rfl⟩ rfl (by decide)) ?_
     rintro _ _ _ ⟨b44, rfl, rfl, rfl⟩
     have hn45 : ([(x25.1, x35.1, xc, IntKind.wrap .i64 (xd + i15), false)] : List Tq2) ≠ [] → ∃ g, (some ⟨b44, 0, none⟩ : Option Addr) = some ⟨g, 0, none⟩ := fun _ => ⟨b44, rfl⟩
     refine ⟨fun w hs => Hold.sub hpr ⟨1, rfl, trivial⟩ hs, ?_⟩
     refine JM.nil <| JQ.nil ?_
     obtain ⟨z46, hz47, h21⟩ := ob h21
     refine J.front 1 rfl <| J.op rfl (A.appR (Kr := Hp.nil) underlying159 inf187 rfl rfl (by decide) (by decide) rfl rfl (Els.flat rfl) (Els.flat rfl) hz47) ?_
     rintro _ _ _ ⟨v48, rfl, rfl, rfl⟩
     refine J.wit Row.form ?_
     rintro ⟨ad49, cp50, rfl, _, _, hn51⟩
     refine ja (sl ad49 z46 cp50) rfl <| J.nil <| cr <| jm (sl Ab0 xb Cb0) rfl <| jm (ii i15) rfl ?_
     obtain ⟨x52, hx53, h21⟩ := ob h21
     obtain ⟨p54, p55, p56⟩ := getI_some hx53
     obtain ⟨b57, o58, e59, a60⟩ := (Gb0).at p55
     refine jv _ (V.iad underlying24 sz150 rfl e59 rfl p54 p56) <| jv _ (V.fad underlying150 rfl nz4 rfl) <| jv (.bool x52.2) (V.ld rfl (Ld.sc sc4 (Rd.k (((a60).snd).one).bool hpr))) <| J.nil <| cc rfl h21 (fun hc61 h21 => ?_) fun hc61 h21 => ?_
     · refine CJ.mix [Row Hp.nil 187 Yq2 (sl ad49 z46 cp50) z46] [([0, 1, 2, 3, 4, 5, 6, 7, 8, 9, 10, 11, 12, 13, 14, 15], 16)] [] [17, 18] mixO (by decide +kernel) ⟨0, rfl, trivial⟩ rfl rfl rfl <| JM.cons <| qm (sl ad49 z46 cp50) rfl <| qm (sl Ab0 xb Cb0) rfl <| qm (ii i15) rfl ?_
       obtain ⟨x62, hx63, h21⟩ := ob h21
       obtain ⟨p65, p66, p67⟩ := getI_some hx63
       obtain ⟨b68, o69, e70, a71⟩ := (Gb0).at p66
       refine qv _ (V.iad underlying24 sz150 rfl e70 rfl p65 p67) <| qv _ (V.fad underlying150 rfl nz3 rfl) <| qv (ii x62.1) (V.ld rfl (Ld.sc sc3 (Rd.k ((a71).fst).int hpr))) <| qm (sl Aa0 xa Ca0) rfl <| qm (ii i15) rfl ?_
       obtain ⟨x72, hx73, h21⟩ := ob h21
       obtain ⟨p74, p75, p76⟩ := getI_some hx73
       obtain ⟨b77, o78, e79, a80⟩ := (Ga0).at p75
       refine qv _ (V.iad underlying24 sz150 rfl e79 rfl p74 p76) <| qv _ (V.fad underlying150 rfl nz3 rfl) <| qv (ii x72.1) (V.ld rfl (Ld.sc sc3 (Rd.k ((a80).fst).int hpr))) <| qm (ii xc) rfl <| qm (ii xd) rfl <| qm (ii i15) rfl <| qv (ii (IntKind.wrap .i64 (xd + i15))) (V.add rfl rfl) ?_
       refine qv (.agg #[ii x62.1, ii x72.1, ii xc, ii (IntKind.wrap .i64 (xd + i15)), .bool true]) (V.build inf187 places187 rfl rfl) <| JQ.nil ?_
       refine JA.op rfl (A.lit (K0 := Hp.nil) (ty := Yq2) (xs := ([(x62.1, x72.1, xc, IntKind.wrap .i64 (xd + i15), true)] : List Tq2)) underlying159 inf187 rfl (by decide) rfl rfl rfl ⟨_, _, rfl, ⟨_, _, rfl, rfl, rfl, ⟨_, _, rfl, rfl, rfl, ⟨_, _, rfl, rfl, rfl, ⟨_, _, rfl, rfl, rfl, rfl⟩⟩⟩⟩, rfl⟩ rfl (by decide)) ?_
       rintro _ _ _ ⟨b81, rfl, rfl, rfl⟩
       have hn82 : ([(x62.1, x72.1, xc, IntKind.wrap .i64 (xd + i15), true)] : List Tq2) ≠ [] → ∃ g, (some ⟨b81, 0, none⟩ : Option Addr) = some ⟨g, 0, none⟩ := fun _ => ⟨b81, rfl⟩
       refine ⟨fun w hs => Hold.sub hpr ⟨1, rfl, trivial⟩ hs, ?_⟩
       refine JM.nil <| JQ.nil ?_
       obtain ⟨z83, hz84, h21⟩ := ob h21
       refine J.front 1 rfl <| J.op rfl (A.appR (Kr := Hp.nil) underlying159 inf187 rfl rfl (by decide) (by decide) rfl rfl (Els.flat rfl) (Els.flat rfl) hz84) ?_
       rintro _ _ _ ⟨v85, rfl, rfl, rfl⟩
       refine J.wit Row.form ?_
       rintro ⟨ad86, cp87, rfl, _, _, hn88⟩
       refine ja (sl ad86 z83 cp87) rfl <| J.nil <| CJ.region <| jv (ii (IntKind.wrap .i64 (i15 + 1))) (V.add rfl rfl) <| jm (ii (IntKind.wrap .i64 (i15 + 1))) rfl <| J.nil ?_
       obtain rfl := si h21
       exact ⟨rfl, ⟨z83, IntKind.wrap .i64 (i15 + 1), ad86, cp87, rfl, rt7, rfl, rfl⟩⟩
     refine CJ.skip <| CJ.region <| jv (ii (IntKind.wrap .i64 (i15 + 1))) (V.add rfl rfl) <| jm (ii (IntKind.wrap .i64 (i15 + 1))) rfl <| J.nil ?_
     obtain rfl := si h21
     exact ⟨rfl, ⟨z46, IntKind.wrap .i64 (i15 + 1), ad49, cp50, rfl, rt7, rfl, rfl⟩⟩
   refine CJ.exit ?_
   obtain rfl := si h21
   refine ⟨nofun, fun e => ?_⟩
   subst e
   exact ⟨rfl, ⟨l14, ad17, cp18, rfl, rt1, rfl, rfl⟩⟩
 rintro ρ _ _ ⟨l11, ad12, cp13, rfl, hf89, rfl, rfl⟩
 obtain ⟨ρ, rfl⟩ := hf89.ex
 refine PJ.wit Row.hn fun hn90 => PJ.done <| cr <| jm (sl ad12 l11 cp13) rfl <| ja (sl ad12 l11 cp13) rfl <| J.nil ?_
 refine CJ.ret ?_
 obtain rfl := si h
 exact ⟨_, _, Res.one rfl rfl, ⟨l11, ad12, cp13, rfl, rfl, rfl⟩, hpr, fun w hs => hs⟩

noncomputable def fn_relate_Flow (xa : Tq3) (xb : Tq3) (xc : Int) (xd : Int) : Option (Tq10) :=
  (fn_row_Shape xa xb).bind fun t30 => cond (!t30) (some (([], 8))) ((fn_relate_related xa xb xc xd).bind fun l38 => some ((l38, 0)))
theorem relate_Flow_ok {K : Hp} {xa : Tq3} {xb : Tq3} {xc : Int} {xd : Int} {Aa0 : Option Addr} {Ca0 : Nat} {Ab0 : Option Addr} {Cb0 : Nat} (Ga0 : Is K (.sl Yq1) [sl Aa0 xa Ca0] xa) (Gb0 : Is K (.sl Yq1) [sl Ab0 xb Cb0] xb) {r : Tq10} (h : fn_relate_Flow xa xb xc xd = some r) :
    Tr Tryz.prog 126 #[.agg #[sl Aa0 xa Ca0], .agg #[sl Ab0 xb Cb0], ii xc, ii xd] K [] (fun v K' L' => (∃ (l20 : (List Tq2)) (i25 : Int) (ad21 : Option Addr) (cp22 : Nat), (l20, i25) = r ∧ .tuple #[sl ad21 l20 cp22, ii i25] = v ∧ L' = [Row Hp.nil 187 Yq2 (sl ad21 l20 cp22) l20]) ∧ K = K') := by
 refine Tr.k <| Tr.of func126 rfl ntmps126 rfl fun E F => ?_
 unfold fn_relate_Flow at h
 refine cr <| jbx [sl Aa0 xa Ca0] rfl rfl fun b26 => jbx [sl Ab0 xb Cb0] rfl rfl fun b27 => ja (nos) rfl <| ja (ii 0) rfl <| J.nil ?_
 refine CJ.seq <| cr <| jv (.agg #[sl Aa0 xa Ca0]) (V.ld rfl (Ld.agg (cs := [sl Aa0 xa Ca0]) underlying26 sz26 rfl (Rd.cls 1 0 rfl rfl))) <| jv (.agg #[sl Ab0 xb Cb0]) (V.ld rfl (Ld.agg (cs := [sl Ab0 xb Cb0]) underlying26 sz26 rfl (Rd.cls 0 0 rfl rfl))) ?_
 obtain ⟨r28, hr29, h⟩ := ob h
 refine J.op rfl (A.call (L1 := []) call92 rfl (row_Shape_ok Ga0 Gb0 hr29) rfl rfl) ?_
 rintro _ _ _ ⟨v31, _, rfl, ⟨⟨t30, rfl, rfl, rfl⟩, rfl⟩, _, rfl⟩
 refine jv (.bool (!t30)) (V.not rfl) <| J.nil <| cc rfl h (fun hc34 h => ?_) fun hc34 h => ?_
 · refine cr <| ja (nos) rfl <| ja (ii 8) rfl <| J.nil <| CJ.by (fun w hs => Sep.rowNil (e := 187) (t := Yq2) hs) <| CJ.ret ?_
   obtain rfl := si h
   exact ⟨_, _, Res.two rfl rfl rfl, ⟨[], 8, none, 0, rfl, rfl, rfl⟩, hpr, fun w hs => (Sep.dropAt 1 rfl (Sep.dropAt 1 rfl hs))⟩
 refine CJ.skip <| cr <| jv _ (V.fad underlying26 rfl nz24 rfl) <| jv (sl Aa0 xa Ca0) (V.ld rfl (Ld.sc sc24 (Rd.cl 1 rfl rfl))) <| jv _ (V.fad underlying26 rfl nz24 rfl) <| jv (sl Ab0 xb Cb0) (V.ld rfl (Ld.sc sc24 (Rd.cl 0 rfl rfl))) ?_
 refine jm (ii xc) rfl <| jm (ii xd) rfl ?_
 obtain ⟨r36, hr37, h⟩ := ob h
 refine J.op rfl (A.call (L1 := []) call135 rfl (relate_related_ok Ga0 Gb0 hr37) rfl rfl) ?_
 rintro _ _ _ ⟨v42, _, rfl, ⟨⟨l38, ad39, cp40, rfl, rfl, rfl⟩, rfl⟩, _, rfl⟩
 refine J.wit Row.hn fun hn41 => ja (sl ad39 l38 cp40) rfl <| ja (ii 0) rfl <| J.nil <| CJ.ret ?_
 obtain rfl := si h
 exact ⟨_, _, Res.two rfl rfl rfl, ⟨l38, 0, ad39, cp40, rfl, rfl, rfl⟩, hpr, fun w hs => (Sep.dropAt 1 rfl (Sep.dropAt 1 rfl hs))⟩
noncomputable def fn_row_Ref_l1 (xa : Tq3) (xc : Bool) : (Tq3 × Int) → Option ((Tq3 × Int) ⊕ Tq3) := fun ((l1, i2) : (Tq3 × Int)) => cond (decide (i2 < (((xa.length : Nat) : Int)))) ((getI xa i2).bind fun x3 => (app l1 (([(x3.1, x3.2 || xc)] : List (Int × Bool)))).bind fun z4 => some (.inl ((z4, IntKind.wrap .i64 (i2 + 1))))) (some (.inr (l1)))
noncomputable def fn_row_Ref (xa : Tq3) (xb : Int) (xc : Bool) : Option (Tq3) :=
  (loop (fn_row_Ref_l1 xa xc) ((([(xb, false)] : List (Int × Bool)), 0)) : Option (Tq3)).bind fun l1 => some (l1)
theorem row_Ref_ok {K : Hp} {xa : Tq3} {xb : Int} {xc : Bool} {Aa0 : Option Addr} {Ca0 : Nat} (Ga0 : Is K (.sl Yq1) [sl Aa0 xa Ca0] xa) {r : Tq3} (h : fn_row_Ref xa xb xc = some r) :
    Tr Tryz.prog 136 #[.agg #[sl Aa0 xa Ca0], ii xb, .bool xc] K [] (fun v K' L' => (∃ (l1 : Tq3) (ad5 : Option Addr) (cp7 : Nat), l1 = r ∧ .agg #[sl ad5 l1 cp7] = v ∧ L' = [Row Hp.nil 150 Yq1 (sl ad5 l1 cp7) l1]) ∧ K = K') := by
 refine Tr.k <| Tr.of func136 rfl ntmps136 rfl fun E F => ?_
 unfold fn_row_Ref at h
 refine cr <| jbx [sl Aa0 xa Ca0] rfl rfl fun b9 => jal inf26 [nos] rfl fun b10 => J.nil <| CJ.seq <| CJ.region ?_
 refine jm (ii xb) rfl <| jv (.agg #[ii xb, .bool false]) (V.build inf150 places150 rfl rfl) ?_
 refine J.op rfl (A.lit (K0 := Hp.nil) (ty := Yq1) (xs := ([(xb, false)] : List (Int × Bool))) underlying24 inf150 rfl (by decide) rfl rfl rfl ⟨_, _, rfl, ⟨_, _, rfl, rfl, rfl, rfl⟩, rfl⟩ rfl (by decide)) ?_
 rintro _ _ _ ⟨b11, rfl, rfl, rfl⟩
 have hn12 : ([(xb, false)] : List (Int × Bool)) ≠ [] → ∃ g, (some ⟨b11, 0, none⟩ : Option Addr) = some ⟨g, 0, none⟩ := fun _ => ⟨b11, rfl⟩
 refine ja (.slice (some ⟨b11, 0, none⟩) ((([(xb, false)] : List (Int × Bool))).length) 1) rfl <| J.nil <| CJ.seq <| cr <| jv _ (V.fad underlying26 rfl nz24 rfl) <| jv (sl Aa0 xa Ca0) (V.ld rfl (Ld.sc sc24 (Rd.cl 2 rfl rfl))) ?_
 refine jv (ii (((xa.length : Nat) : Int))) (V.len underlying24 rfl) <| jm (ii 0) rfl <| J.nil ?_
 obtain ⟨o13, ho14, h⟩ := ob h
 refine CJ.meetN (fun ρ K' L' => ∃ (l15 : Tq3) (ad17 : Option Addr) (cp18 : Nat), l15 = o13 ∧ Fits [(6, pt b10), (7, sl ad17 l15 cp18)] ρ ∧ K = K' ∧ L' = Cl b10 26 [nos] :: Row Hp.nil 150 Yq1 (sl ad17 l15 cp18) l15 :: F) ?_ ?_
 · refine CJ.block <| CJ.dropAt 2 rfl <| CJ.front 1 rfl <| CJ.loop (fun s ρ K' L' => ∃ (l19 : Tq3) (i20 : Int) (ad21 : Option Addr) (cp22 : Nat), (l19, i20) = s ∧ Fits [(2, .bool xc), (6, pt b10), (7, sl ad21 l19 cp22), (14, sl Aa0 xa Ca0), (15, ii (((xa.length : Nat) : Int))), (16, ii i20)] ρ ∧ K = K' ∧ L' = Cl b10 26 [nos] :: Row Hp.nil 150 Yq1 (sl ad21 l19 cp22) l19 :: F) ho14 ⟨([(xb, false)] : List (Int × Bool)), 0, (some ⟨b11, 0, none⟩), 1, rfl, rt6, rfl, rfl⟩ ?_
   rintro s ρ _ _ r23 ⟨l19, i20, ad21, cp22, rfl, hf25, rfl, rfl⟩ h27
   obtain ⟨ρ, rfl⟩ := hf25.ex
   refine CJ.front 1 rfl <| CJ.wit Row.hn fun hn28 => cr <| jv (.bool (decide (i20 < (((xa.length : Nat) : Int))))) (V.lss rfl rfl) <| J.nil <| CJ.seq ?_
   refine cc rfl h27 (fun hc29 h27 => ?_) fun hc29 h27 => ?_
   · refine CJ.skip <| CJ.seq <| CJ.block <| CJ.seq <| CJ.region ?_
     obtain ⟨x30, hx31, h27⟩ := ob h27
     obtain ⟨p33, p34, p35⟩ := getI_some hx31
     obtain ⟨b36, o37, e38, a39⟩ := (Ga0).at p34
     refine jv _ (V.iad underlying24 sz150 rfl e38 rfl p33 p35) <| jv (.agg #[ii x30.1, .bool x30.2]) (V.ld rfl (Ld.aggK (cs := [ii x30.1, .bool x30.2]) underlying150 sz150 rfl ⟨((a39).fst).int, (((a39).snd).one).bool, trivial⟩ hpr)) <| jal inf150 [ii 0, .bool false] rfl fun b40 => js [ii x30.1, .bool x30.2] sz150 rfl rfl rfl rfl rfl rfl <| J.nil <| CJ.region <| jm (sl ad21 l19 cp22) rfl ?_
     refine jv _ (V.fad underlying150 rfl nz3 rfl) <| jv (ii x30.1) (V.ld rfl (Ld.sc sc3 (Rd.cl 0 rfl rfl))) <| jv _ (V.fad underlying150 rfl nz4 rfl) <| jv (.bool x30.2) (V.ld rfl (Ld.sc sc4 (Rd.cl 0 rfl rfl))) <| jm (.bool x30.2) rfl <| J.cut 2 <| jmeet [(27, .bool (x30.2 || xc)), (2, .bool xc), (6, pt b10), (14, sl Aa0 xa Ca0), (15, ii (((xa.length : Nat) : Int))), (16, ii i20), (20, sl ad21 l19 cp22), (22, ii x30.1)] ?_ ?_
     · rcases bt (x30.2) with hc41 | hc41
       · refine J.skip rfl rfl rfl rfl hc41 <| jv (.bool true) (V.pickT rfl hc41 rfl) <| J.nil ?_
         exact ⟨rfl, ⟨(by simp only [hc41]; rfl), rfl, rfl, rfl, rfl, rfl, rfl, rfl, trivial⟩, rfl, rfl⟩
       refine J.run rfl rfl rfl hc41 <| jm (.bool xc) rfl <| jv (.bool xc) (V.pickF rfl hc41 rfl) <| J.nil ?_
       exact ⟨rfl, ⟨(by simp only [hc41]; rfl), rfl, rfl, rfl, rfl, rfl, rfl, rfl, trivial⟩, rfl, rfl⟩
     intro ρ
     refine jv (.agg #[ii x30.1, .bool (x30.2 || xc)]) (V.build inf150 places150 rfl rfl) ?_
     refine J.op rfl (A.lit (K0 := Hp.nil) (ty := Yq1) (xs := ([(x30.1, x30.2 || xc)] : List (Int × Bool))) underlying24 inf150 rfl (by decide) rfl rfl rfl ⟨_, _, rfl, ⟨_, _, rfl, rfl, rfl, rfl⟩, rfl⟩ rfl (by decide)) ?_
     rintro _ _ _ ⟨b42, rfl, rfl, rfl⟩
     have hn43 : ([(x30.1, x30.2 || xc)] : List (Int × Bool)) ≠ [] → ∃ g, (some ⟨b42, 0, none⟩ : Option Addr) = some ⟨g, 0, none⟩ := fun _ => ⟨b42, rfl⟩
     obtain ⟨z44, hz45, h27⟩ := ob h27
     refine J.front 2 rfl <| J.op rfl (A.appR (Kr := Hp.nil) underlying24 inf150 rfl rfl (by decide) (by decide) rfl rfl (Els.flat rfl) (Els.flat rfl) hz45) ?_
     rintro _ _ _ ⟨v46, rfl, rfl, rfl⟩
     refine J.wit Row.form ?_
     rintro ⟨ad47, cp48, rfl, _, _, hn49⟩
     refine ja (sl ad47 z44 cp48) rfl <| J.nil <| CJ.region <| jv (ii (IntKind.wrap .i64 (i20 + 1))) (V.add rfl rfl) <| jm (ii (IntKind.wrap .i64 (i20 + 1))) rfl <| J.dropAt 1 rfl <| J.front 1 rfl ?_
     refine J.nil ?_
     obtain rfl := si h27
     exact ⟨rfl, ⟨z44, IntKind.wrap .i64 (i20 + 1), ad47, cp48, rfl, rt6, rfl, rfl⟩⟩
   refine CJ.front 1 rfl <| CJ.exit ?_
   obtain rfl := si h27
   refine ⟨nofun, fun e => ?_⟩
   subst e
   exact ⟨rfl, ⟨l19, ad21, cp22, rfl, rt2, rfl, rfl⟩⟩
 rintro ρ _ _ ⟨l15, ad17, cp18, rfl, hf50, rfl, rfl⟩
 obtain ⟨ρ, rfl⟩ := hf50.ex
 refine PJ.front 1 rfl <| PJ.wit Row.hn fun hn51 => PJ.done <| cr <| jm (sl ad17 l15 cp18) rfl <| jv (.agg #[sl ad17 l15 cp18]) (V.build inf26 places26 rfl rfl) ?_
 refine J.front 1 rfl <| js [sl ad17 l15 cp18] sz26 rfl rfl rfl rfl rfl rfl <| J.nil <| CJ.ret ?_
 obtain rfl := si h
 exact ⟨_, _, Res.one rfl ⟨_, _, rfl, Ld.agg (cs := [sl ad17 l15 cp18]) underlying26 sz26 rfl (Rd.cls 0 0 rfl rfl)⟩, ⟨l15, ad17, cp18, rfl, rfl, rfl⟩, hpr, fun w hs => (Sep.dropAt 0 rfl hs)⟩

noncomputable def fn_relate_Loan (xa : Tq3) (xb : Tq3) (xc : Int) (xd : Bool) : Option (Tq10) :=
  (fn_row_Ref xa xc xd).bind fun l1 => (fn_row_Shape xb l1).bind fun t2 => cond (!t2) (some (([], 8))) ((getI xb 0).bind fun x3 => (subL xb 1 (((xb.length : Nat) : Int))).bind fun y4 => (fn_relate_related xa y4 1 1).bind fun l5 => (app (([(xc, x3.1, 2, 0, false)] : List Tq2)) l5).bind fun z6 => some ((z6, 0)))
theorem relate_Loan_ok {K : Hp} {xa : Tq3} {xb : Tq3} {xc : Int} {xd : Bool} {Aa0 : Option Addr} {Ca0 : Nat} {Ab0 : Option Addr} {Cb0 : Nat} (Ga0 : Is K (.sl Yq1) [sl Aa0 xa Ca0] xa) (Gb0 : Is K (.sl Yq1) [sl Ab0 xb Cb0] xb) {r : Tq10} (h : fn_relate_Loan xa xb xc xd = some r) :
    Tr Tryz.prog 127 #[.agg #[sl Aa0 xa Ca0], .agg #[sl Ab0 xb Cb0], ii xc, .bool xd] K [] (fun v K' L' => (∃ (l92 : (List Tq2)) (i97 : Int) (ad93 : Option Addr) (cp94 : Nat), (l92, i97) = r ∧ .tuple #[sl ad93 l92 cp94, ii i97] = v ∧ L' = [Row Hp.nil 187 Yq2 (sl ad93 l92 cp94) l92]) ∧ K = K') := by
 refine Tr.k <| Tr.of func127 rfl ntmps127 rfl fun E F => ?_
 unfold fn_relate_Loan at h
 refine cr <| jbx [sl Aa0 xa Ca0] rfl rfl fun b98 => jbx [sl Ab0 xb Cb0] rfl rfl fun b99 => ja (nos) rfl <| ja (ii 0) rfl <| J.nil ?_
 refine CJ.seq <| CJ.seq <| CJ.mix [Cl b99 26 [sl Ab0 xb Cb0], Cl b98 26 [sl Aa0 xa Ca0]] [([0, 1, 2, 3], 4), ([], 5)] [6] [] mixO (by decide +kernel) ⟨0, rfl, 0, rfl, trivial⟩ rfl rfl rfl <| JM.cons <| qv (.agg #[sl Ab0 xb Cb0]) (V.ld rfl (Ld.agg (cs := [sl Ab0 xb Cb0]) underlying26 sz26 rfl (Rd.cls 0 0 rfl rfl))) <| qv (.agg #[sl Aa0 xa Ca0]) (V.ld rfl (Ld.agg (cs := [sl Aa0 xa Ca0]) underlying26 sz26 rfl (Rd.cls 1 0 rfl rfl))) <| qm (ii xc) rfl ?_
 refine qm (.bool xd) rfl <| JQ.nil ?_
 obtain ⟨r2, hr4, h⟩ := ob h
 refine JA.op rfl (A.call (L1 := []) call136 rfl (row_Ref_ok Ga0 hr4) rfl rfl) ?_
 rintro _ _ _ ⟨v5, _, rfl, ⟨⟨l6, ad7, cp9, rfl, rfl, rfl⟩, rfl⟩, _, rfl⟩
 refine ⟨fun w hs => Hold.sub hpr ⟨1, rfl, 1, rfl, trivial⟩ hs, ?_⟩
 refine JM.wit Row.hn fun hn10 => JM.cons <| JQ.nil ?_
 obtain ⟨r11, hr12, h⟩ := ob h
 refine JA.op rfl (A.call (L1 := [Row Hp.nil 150 Yq1 (sl ad7 l6 cp9) l6]) call92 rfl (Tr.lend (Hp.nil_le _) (by decide) (fun K13 hK14 f15 => row_Shape_ok (Gb0.mono hK14) f15 hr12)) rfl rfl) ?_
 rintro _ _ _ ⟨v17, _, rfl, ⟨⟨_, ⟨t18, rfl, rfl, rfl⟩, rfl⟩, rfl⟩, _, rfl⟩
 refine ⟨fun w hs => Hold.sub hpr ⟨1, rfl, 1, rfl, trivial⟩ hs, ?_⟩
 refine JM.nil <| qv (.bool (!t18)) (V.not rfl) <| JQ.nil <| J.nil <| cc rfl h (fun hc19 h => ?_) fun hc19 h => ?_
 · refine cr <| ja (nos) rfl <| ja (ii 8) rfl <| J.nil <| CJ.by (fun w hs => Sep.rowNil (e := 187) (t := Yq2) hs) <| CJ.ret ?_
   obtain rfl := si h
   exact ⟨_, _, Res.two rfl rfl rfl, ⟨[], 8, none, 0, rfl, rfl, rfl⟩, hpr, fun w hs => (Sep.dropAt 1 rfl (Sep.dropAt 1 rfl (Sep.dropAt 1 rfl hs)))⟩
 refine CJ.skip <| cr <| jm (ii xc) rfl <| jv _ (V.fad underlying26 rfl nz24 rfl) <| jv (sl Ab0 xb Cb0) (V.ld rfl (Ld.sc sc24 (Rd.cl 1 rfl rfl))) ?_
 obtain ⟨x20, hx21, h⟩ := ob h
 obtain ⟨p22, p23, p25⟩ := getI_some hx21
 obtain ⟨b27, o28, e29, a30⟩ := (Gb0).at p23
 refine jv _ (V.iad underlying24 sz150 rfl e29 rfl p22 p25) <| jv _ (V.fad underlying150 rfl nz3 rfl) <| jv (ii x20.1) (V.ld rfl (Ld.sc sc3 (Rd.k ((a30).fst).int hpr))) <| jv (.agg #[ii xc, ii x20.1, ii 2, ii 0, .bool false]) (V.build inf187 places187 rfl rfl) ?_
 refine J.op rfl (A.lit (K0 := Hp.nil) (ty := Yq2) (xs := ([(xc, x20.1, 2, 0, false)] : List Tq2)) underlying159 inf187 rfl (by decide) rfl rfl rfl ⟨_, _, rfl, ⟨_, _, rfl, rfl, rfl, ⟨_, _, rfl, rfl, rfl, ⟨_, _, rfl, rfl, rfl, ⟨_, _, rfl, rfl, rfl, rfl⟩⟩⟩⟩, rfl⟩ rfl (by decide)) ?_
 rintro _ _ _ ⟨b31, rfl, rfl, rfl⟩
 have hn33 : ([(xc, x20.1, 2, 0, false)] : List Tq2) ≠ [] → ∃ g, (some ⟨b31, 0, none⟩ : Option Addr) = some ⟨g, 0, none⟩ := fun _ => ⟨b31, rfl⟩
 refine ja (.slice (some ⟨b31, 0, none⟩) ((([(xc, x20.1, 2, 0, false)] : List Tq2)).length) 1) rfl <| J.nil <| CJ.seq <| CJ.mix [Row Hp.nil 187 Yq2 (.slice (some ⟨b31, 0, none⟩) ((([(xc, x20.1, 2, 0, false)] : List Tq2)).length) 1) (([(xc, x20.1, 2, 0, false)] : List Tq2)), Row Hp.nil 150 Yq1 (sl ad7 l6 cp9) l6, Cl b99 26 [sl Ab0 xb Cb0], Cl b98 26 [sl Aa0 xa Ca0]] [([0, 1, 2, 3, 4, 5], 6)] [] [7, 8, 9] mixO (by decide +kernel) ⟨0, rfl, 0, rfl, 0, rfl, 0, rfl, trivial⟩ rfl rfl rfl <| JM.cons <| qm (.slice (some ⟨b31, 0, none⟩) ((([(xc, x20.1, 2, 0, false)] : List Tq2)).length) 1) rfl <| qv _ (V.fad underlying26 rfl nz24 rfl) ?_
 refine qv (sl Aa0 xa Ca0) (V.ld rfl (Ld.sc sc24 (Rd.cl 3 rfl rfl))) <| qv _ (V.fad underlying26 rfl nz24 rfl) <| qv (sl Ab0 xb Cb0) (V.ld rfl (Ld.sc sc24 (Rd.cl 2 rfl rfl))) ?_
 obtain ⟨y34, hy35, h⟩ := ob h
 obtain ⟨ad36, cp37, hv38, f39⟩ := V.subI (tp := Yq1) underlying24 sz150 Gb0 hy35
 refine qv (sl ad36 y34 cp37) (hv38 rfl (fun _ h => by cases h; exact ⟨_, rfl⟩) nofun nofun (fun _ => rfl)) <| JQ.nil ?_
 obtain ⟨r40, hr41, h⟩ := ob h
 refine JA.op rfl (A.call (L1 := []) call135 rfl (relate_related_ok Ga0 f39 hr41) rfl rfl) ?_
 rintro _ _ _ ⟨v42, _, rfl, ⟨⟨l43, ad44, cp45, rfl, rfl, rfl⟩, rfl⟩, _, rfl⟩
 refine ⟨fun w hs => Hold.sub hpr ⟨1, rfl, 1, rfl, 1, rfl, 1, rfl, trivial⟩ hs, ?_⟩
 refine JM.wit Row.hn fun hn46 => JM.nil <| JQ.nil ?_
 obtain ⟨z47, hz48, h⟩ := ob h
 refine J.front 1 rfl <| J.op rfl (A.appR (Kr := Hp.nil) underlying159 inf187 rfl rfl (by decide) (by decide) rfl rfl (Els.flat rfl) (Els.flat rfl) hz48) ?_
 rintro _ _ _ ⟨v49, rfl, rfl, rfl⟩
 refine J.wit Row.form ?_
 rintro ⟨ad50, cp51, rfl, _, _, hn52⟩
 refine ja (sl ad50 z47 cp51) rfl <| ja (ii 0) rfl <| J.nil <| CJ.ret ?_
 obtain rfl := si h
 exact ⟨_, _, Res.two rfl rfl rfl, ⟨z47, 0, ad50, cp51, rfl, rfl, rfl⟩, hpr, fun w hs => (Sep.dropAt 1 rfl (Sep.dropAt 1 rfl (Sep.dropAt 1 rfl hs)))⟩

noncomputable def fn_relate_mayBorrowAgain_1 (xa : (Int × Bool)) : Option Bool :=
  some (!xa.2)
theorem relate_mayBorrowAgain_1_ok {K : Hp} {xa : (Int × Bool)}   {r : Bool} (h : fn_relate_mayBorrowAgain_1 xa = some r) :
    Tr Tryz.prog 143 #[.agg #[ii xa.1, .bool xa.2]] K [] (fun v K' L' => (∃ (t2 : Bool), t2 = r ∧ .bool t2 = v ∧ L' = []) ∧ K = K') := by
 refine Tr.k <| Tr.of func143 rfl ntmps143 rfl fun E F => ?_
 unfold fn_relate_mayBorrowAgain_1 at h
 refine cr <| jbx [ii xa.1, .bool xa.2] rfl rfl fun b3 => ja (.bool false) rfl <| J.nil <| CJ.seq <| CJ.region ?_
 refine jv _ (V.fad underlying150 rfl nz4 rfl) <| jv (.bool xa.2) (V.ld rfl (Ld.sc sc4 (Rd.cl 0 rfl rfl))) <| jv (.bool (!xa.2)) (V.not rfl) <| ja (.bool (!xa.2)) rfl <| J.nil <| CJ.ret ?_
 obtain rfl := si h
 exact ⟨_, _, Res.one rfl rfl, ⟨!xa.2, rfl, rfl, rfl⟩, hpr, fun w hs => (Sep.dropAt 0 rfl hs)⟩
end Go.Proofs.YtbennpandomacaaGreat
