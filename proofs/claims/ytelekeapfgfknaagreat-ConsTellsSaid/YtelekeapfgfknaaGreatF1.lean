/- What Go functions answer: generated. -/
import Derived.Test.YtelekeapfgfknaaGreatSh
import Derived.Test.YtelekeapfgfknaaGreatRows
import Derived.Test.YtelekeapfgfknaaGreatAr
import Derived.Test.YtelekeapfgfknaaGreatAw
import Derived.Test.YtelekeapfgfknaaGreatDp
import Derived.Test.YtelekeapfgfknaaGreatFl
import Derived.Test.YtelekeapfgfknaaGreatSt
namespace Go.Proofs.YtelekeapfgfknaaGreat
open Go.RowKit
set_option linter.unusedVariables false
set_option linter.unnecessarySimpa false
set_option linter.unusedSimpArgs false
set_option maxRecDepth 20000
theorem sz30 : (Tryz.prog.info? 30).map (·.size) = some 7 := by kernel_rfl
theorem nz22 : Tryz.prog.cellsOf 22 ≠ 0 := by decide +kernel
theorem sc22 : scalar Tryz.prog 22 = true := by kernel_rfl
theorem nz23 : Tryz.prog.cellsOf 23 ≠ 0 := by decide +kernel
theorem sc23 : scalar Tryz.prog 23 = true := by kernel_rfl
theorem nz27 : Tryz.prog.cellsOf 27 ≠ 0 := by decide +kernel
theorem sc27 : scalar Tryz.prog 27 = true := by kernel_rfl
theorem nz28 : Tryz.prog.cellsOf 28 ≠ 0 := by decide +kernel
theorem sc28 : scalar Tryz.prog 28 = true := by kernel_rfl
theorem nz26 : Tryz.prog.cellsOf 26 ≠ 0 := by decide +kernel
theorem sz26 : (Tryz.prog.info? 26).map (·.size) = some 1 := by kernel_rfl
theorem nz24 : Tryz.prog.cellsOf 24 ≠ 0 := by decide +kernel
theorem sc24 : scalar Tryz.prog 24 = true := by kernel_rfl
theorem sz70 : (Tryz.prog.info? 70).map (·.size) = some 4 := by kernel_rfl
theorem sz63 : (Tryz.prog.info? 63).map (·.size) = some 7 := by kernel_rfl
theorem nz61 : Tryz.prog.cellsOf 61 ≠ 0 := by decide +kernel
theorem sz61 : (Tryz.prog.info? 61).map (·.size) = some 6 := by kernel_rfl
theorem inf61 : Inf Tryz.prog 61 (.agg #[.int .i64 0, .int .i64 0, .int .i64 0, .slice none 0 0, .slice none 0 0, .slice none 0 0]) 6 96 := by unfold Inf; kernel_rfl
theorem nz58 : Tryz.prog.cellsOf 58 ≠ 0 := by decide +kernel
theorem sc58 : scalar Tryz.prog 58 = true := by kernel_rfl
theorem nz59 : Tryz.prog.cellsOf 59 ≠ 0 := by decide +kernel
theorem sc59 : scalar Tryz.prog 59 = true := by kernel_rfl
theorem inf72 : Inf Tryz.prog 72 (.agg #[.int .i64 0, .bool false]) 2 16 := by unfold Inf; kernel_rfl
theorem places72 : Places Tryz.prog 72 [(0, 1), (1, 1)] := ⟨_, Tryz.underlying72, by kernel_rfl⟩
theorem inf26 : Inf Tryz.prog 26 (.agg #[.slice none 0 0]) 1 24 := by unfold Inf; kernel_rfl
theorem places26 : Places Tryz.prog 26 [(0, 1)] := ⟨_, Tryz.underlying26, by kernel_rfl⟩
theorem inf65 : Inf Tryz.prog 65 (.agg #[.int .i64 0, .int .i64 0, .int .i64 0, .int .i64 0, .bool false]) 5 40 := by unfold Inf; kernel_rfl
theorem places65 : Places Tryz.prog 65 [(0, 1), (1, 1), (2, 1), (3, 1), (4, 1)] := ⟨_, Tryz.underlying65, by kernel_rfl⟩
theorem places61 : Places Tryz.prog 61 [(0, 1), (1, 1), (2, 1), (3, 1), (4, 1), (5, 1)] := ⟨_, Tryz.underlying61, by kernel_rfl⟩
theorem inf63 : Inf Tryz.prog 63 (.agg #[.slice none 0 0, .int .i64 0, .int .i64 0, .int .i64 0, .slice none 0 0, .slice none 0 0, .slice none 0 0]) 7 120 := by unfold Inf; kernel_rfl
theorem places63 : Places Tryz.prog 63 [(0, 1), (1, 6)] := ⟨_, Tryz.underlying63, by kernel_rfl⟩
theorem inf30 : Inf Tryz.prog 30 (.agg #[.int .i64 0, .int .i64 0, .slice none 0 0, .slice none 0 0, .slice none 0 0, .slice none 0 0, .slice none 0 0]) 7 136 := by unfold Inf; kernel_rfl
theorem places30 : Places Tryz.prog 30 [(0, 1), (1, 1), (2, 1), (3, 1), (4, 1), (5, 1), (6, 1)] := ⟨_, Tryz.underlying30, by kernel_rfl⟩
theorem inf98 : Inf Tryz.prog 98 (.agg #[.slice none 0 0, .int .i64 0]) 2 32 := by unfold Inf; kernel_rfl
theorem places98 : Places Tryz.prog 98 [(0, 1), (1, 1)] := ⟨_, Tryz.underlying98, by kernel_rfl⟩
theorem inf111 : Inf Tryz.prog 111 (.agg #[.int .i64 0, .int .i64 0, .int .i64 0, .int .i64 0]) 4 32 := by unfold Inf; kernel_rfl
theorem inf112 : Inf Tryz.prog 112 .nilFunc 1 8 := by unfold Inf; kernel_rfl
theorem sz112 : (Tryz.prog.info? 112).map (·.size) = some 1 := by kernel_rfl
theorem sc112 : scalar Tryz.prog 112 = true := by kernel_rfl
theorem places111 : Places Tryz.prog 111 [(0, 1), (1, 1), (2, 1), (3, 1)] := ⟨_, Tryz.underlying111, by kernel_rfl⟩
theorem sz111 : (Tryz.prog.info? 111).map (·.size) = some 4 := by kernel_rfl
theorem nz3 : Tryz.prog.cellsOf 3 ≠ 0 := by decide +kernel
theorem sc3 : scalar Tryz.prog 3 = true := by kernel_rfl
theorem nz88 : Tryz.prog.cellsOf 88 ≠ 0 := by decide +kernel
theorem sz88 : (Tryz.prog.info? 88).map (·.size) = some 1 := by kernel_rfl
theorem sc88 : scalar Tryz.prog 88 = true := by kernel_rfl
theorem sz83 : (Tryz.prog.info? 83).map (·.size) = some 2 := by kernel_rfl
theorem inf83 : Inf Tryz.prog 83 (.agg #[.int .i64 0, .int .i64 0]) 2 16 := by unfold Inf; kernel_rfl
theorem sz72 : (Tryz.prog.info? 72).map (·.size) = some 2 := by kernel_rfl
theorem nz4 : Tryz.prog.cellsOf 4 ≠ 0 := by decide +kernel
theorem sc4 : scalar Tryz.prog 4 = true := by kernel_rfl
theorem mixO : Tryz.prog.follows .mixedOrders = true := by kernel_rfl
theorem inf70 : Inf Tryz.prog 70 (.agg #[.int .i64 0, .slice none 0 0, .slice none 0 0, .slice none 0 0]) 4 80 := by unfold Inf; kernel_rfl
theorem inf117 : Inf Tryz.prog 117 (.agg #[.int .i64 0, .int .i64 0, .slice none 0 0, .slice none 0 0, .slice none 0 0]) 5 88 := by unfold Inf; kernel_rfl
theorem places117 : Places Tryz.prog 117 [(0, 1), (1, 1), (2, 1), (3, 1), (4, 1)] := ⟨_, Tryz.underlying117, by kernel_rfl⟩
theorem sz117 : (Tryz.prog.info? 117).map (·.size) = some 5 := by kernel_rfl
theorem sz65 : (Tryz.prog.info? 65).map (·.size) = some 5 := by kernel_rfl
theorem inf129 : Inf Tryz.prog 129 (.agg #[.bool false, .bool false, .bool false]) 3 3 := by unfold Inf; kernel_rfl
theorem places129 : Places Tryz.prog 129 [(0, 1), (1, 1), (2, 1)] := ⟨_, Tryz.underlying129, by kernel_rfl⟩
theorem sz129 : (Tryz.prog.info? 129).map (·.size) = some 3 := by kernel_rfl
theorem sz3 : (Tryz.prog.info? 3).map (·.size) = some 1 := by kernel_rfl
theorem sz4 : (Tryz.prog.info? 4).map (·.size) = some 1 := by kernel_rfl
theorem sih65 : Tryz.prog.stoodInHeld 65 = false := by kernel_rfl
theorem eqg65 : Tryz.prog.eqGuardType Tryz.prog.depth 65 = false := by kernel_rfl
theorem inf103 : Inf Tryz.prog 103 (.agg #[.int .i64 0, .int .i64 0, .int .i64 0, .int .i64 0, .bool false]) 5 40 := by unfold Inf; kernel_rfl
theorem places103 : Places Tryz.prog 103 [(0, 1), (1, 1), (2, 1), (3, 1), (4, 1)] := ⟨_, Tryz.underlying103, by kernel_rfl⟩
theorem inf3 : Inf Tryz.prog 3 (.int .i64 0) 1 8 := by unfold Inf; kernel_rfl
theorem sz59 : (Tryz.prog.info? 59).map (·.size) = some 1 := by kernel_rfl
theorem inf76 : Inf Tryz.prog 76 (.agg #[.int .i64 0, .int .i64 0, .slice none 0 0, .slice none 0 0, .slice none 0 0, .slice none 0 0, .slice none 0 0, .pointer none]) 8 144 := by unfold Inf; kernel_rfl
theorem places76 : Places Tryz.prog 76 [(0, 7), (7, 1)] := ⟨_, Tryz.underlying76, by kernel_rfl⟩
theorem sz76 : (Tryz.prog.info? 76).map (·.size) = some 8 := by kernel_rfl
theorem nz73 : Tryz.prog.cellsOf 73 ≠ 0 := by decide +kernel
theorem sc73 : scalar Tryz.prog 73 = true := by kernel_rfl
theorem nz30 : Tryz.prog.cellsOf 30 ≠ 0 := by decide +kernel
theorem sz103 : (Tryz.prog.info? 103).map (·.size) = some 5 := by kernel_rfl
theorem inf49 : Inf Tryz.prog 49 (.agg #[.int .i64 0, .int .i64 0, .int .i64 0, .int .i64 0, .bool false]) 5 40 := by unfold Inf; kernel_rfl
theorem places49 : Places Tryz.prog 49 [(0, 1), (1, 1), (2, 1), (3, 1), (4, 1)] := ⟨_, Tryz.underlying49, by kernel_rfl⟩
theorem sz49 : (Tryz.prog.info? 49).map (·.size) = some 5 := by kernel_rfl
theorem inf51 : Inf Tryz.prog 51 (.agg #[.int .i64 0, .int .i64 0, .int .i64 0, .int .i64 0, .int .i64 0, .int .i64 0, .bool false]) 7 56 := by unfold Inf; kernel_rfl
theorem places51 : Places Tryz.prog 51 [(0, 1), (1, 1), (2, 5)] := ⟨_, Tryz.underlying51, by kernel_rfl⟩
theorem sz51 : (Tryz.prog.info? 51).map (·.size) = some 7 := by kernel_rfl
theorem places83 : Places Tryz.prog 83 [(0, 1), (1, 1)] := ⟨_, Tryz.underlying83, by kernel_rfl⟩
theorem nz49 : Tryz.prog.cellsOf 49 ≠ 0 := by decide +kernel
theorem inf136 : Inf Tryz.prog 136 (.agg #[.int .u8 0, .int .u8 0, .int .u8 0, .int .u8 0, .int .u8 0, .int .u8 0, .int .u8 0, .int .u8 0, .int .u8 0, .int .u8 0, .int .u8 0, .int .u8 0, .int .u8 0, .int .u8 0, .int .u8 0, .int .u8 0, .int .u8 0, .int .u8 0, .int .u8 0, .int .u8 0]) 20 20 := by unfold Inf; kernel_rfl
theorem sz5 : (Tryz.prog.info? 5).map (·.size) = some 1 := by kernel_rfl
theorem inf9 : Inf Tryz.prog 9 (.string ⟨[].toArray⟩) 1 16 := by unfold Inf; kernel_rfl
theorem sz9 : (Tryz.prog.info? 9).map (·.size) = some 1 := by kernel_rfl
theorem sc9 : scalar Tryz.prog 9 = true := by kernel_rfl
theorem inf35 : Inf Tryz.prog 35 (.agg #[.int .i64 0, .int .i64 0, .int .i64 0, .int .i64 0, .int .i64 0, .int .i64 0, .int .i64 0]) 7 56 := by unfold Inf; kernel_rfl
theorem nz33 : Tryz.prog.cellsOf 33 ≠ 0 := by decide +kernel
theorem inf55 : Inf Tryz.prog 55 (.agg #[.int .i64 0, .int .i64 0, .bool false]) 3 24 := by unfold Inf; kernel_rfl
theorem inf95 : Inf Tryz.prog 95 (.agg #[.int .i64 0, .int .i64 0, .int .i64 0, .int .i64 0]) 4 32 := by unfold Inf; kernel_rfl
theorem places95 : Places Tryz.prog 95 [(0, 1), (1, 1), (2, 1), (3, 1)] := ⟨_, Tryz.underlying95, by kernel_rfl⟩
theorem sz95 : (Tryz.prog.info? 95).map (·.size) = some 4 := by kernel_rfl
theorem inf87 : Inf Tryz.prog 87 (.agg #[.int .i64 0, .int .i64 0, .slice none 0 0, .slice none 0 0, .slice none 0 0]) 5 88 := by unfold Inf; kernel_rfl
theorem places87 : Places Tryz.prog 87 [(0, 1), (1, 1), (2, 1), (3, 1), (4, 1)] := ⟨_, Tryz.underlying87, by kernel_rfl⟩
theorem sz87 : (Tryz.prog.info? 87).map (·.size) = some 5 := by kernel_rfl
theorem inf93 : Inf Tryz.prog 93 (.agg #[.int .i64 0, .int .i64 0, .int .i64 0, .int .i64 0, .bool false]) 5 40 := by unfold Inf; kernel_rfl
theorem places93 : Places Tryz.prog 93 [(0, 1), (1, 1), (2, 1), (3, 1), (4, 1)] := ⟨_, Tryz.underlying93, by kernel_rfl⟩
theorem places55 : Places Tryz.prog 55 [(0, 1), (1, 1), (2, 1)] := ⟨_, Tryz.underlying55, by kernel_rfl⟩
theorem sz55 : (Tryz.prog.info? 55).map (·.size) = some 3 := by kernel_rfl
theorem sz93 : (Tryz.prog.info? 93).map (·.size) = some 5 := by kernel_rfl
theorem sih49 : Tryz.prog.stoodInHeld 49 = false := by kernel_rfl
theorem sih51 : Tryz.prog.stoodInHeld 51 = false := by kernel_rfl
theorem eqg51 : Tryz.prog.eqGuardType Tryz.prog.depth 51 = false := by kernel_rfl

noncomputable def fn_ref15_Few (xa : (List (Int × Bool))) (xb : Int) : Option Bool :=
  some (decide ((((xa.length : Nat) : Int)) ≤ xb))
set_option maxRecDepth 100000 in
set_option maxHeartbeats 4000000 in
theorem ref15_Few_ok {K : Hp} {xa : (List (Int × Bool))} {xb : Int} {adxa_0 : Option Addr} {cpxa_0 : Nat} (fxa_0 : Is K (.sl (.cons (.int .i64) (.one .bool))) [.slice adxa_0 xa.length cpxa_0] xa) {r : Bool} (h : fn_ref15_Few xa xb = some r) :
    Tr Tryz.prog 19 #[.agg #[.slice adxa_0 xa.length cpxa_0], ii xb] K [] (fun v K' L' => (∃ (t2 : Bool), t2 = r ∧ .bool t2 = v ∧ L' = []) ∧ K = K') := by
 refine Tr.k <| Tr.of Tryz.func19 rfl Tryz.ntmps19 rfl fun E F => ?_
 unfold fn_ref15_Few at h
 refine cr <| jbx [.slice adxa_0 xa.length cpxa_0] rfl rfl fun b3 => ja (.bool false) rfl <| J.nil <| CJ.seq <| CJ.region ?_
 refine jv _ (V.fad Tryz.underlying26 rfl nz24 rfl) <| jv (.slice adxa_0 xa.length cpxa_0) (V.ld rfl (Ld.sc sc24 (Rd.cl 0 rfl rfl))) <| jv (ii (((xa.length : Nat) : Int))) (V.len Tryz.underlying24 rfl) <| jm (ii xb) rfl <| jv (.bool (decide ((((xa.length : Nat) : Int)) ≤ xb))) (V.leq rfl rfl) <| ja (.bool (decide ((((xa.length : Nat) : Int)) ≤ xb))) rfl <| J.nil ?_
 refine CJ.ret ?_
 obtain rfl := si h
 exact ⟨_, _, Res.one rfl rfl, ⟨decide ((((xa.length : Nat) : Int)) ≤ xb), rfl, rfl, rfl⟩, (Hp.le_refl _), fun w hs => (Sep.dropAt 0 rfl hs)⟩
noncomputable def fn_ref17_Few_l1 (xa : (Int × (List (Int × Int)) × (List (List (Int × Bool))) × (List (Int × Bool)))) : Int → Option (Int ⊕ (Unit ⊕ Bool)) := fun (i283 : Int) => cond (decide (i283 < (((xa.2.2.1.length : Nat) : Int)))) ((getI xa.2.2.1 i283).bind fun x311 => (fn_ref15_Few x311 20).bind fun t326 => cond (!t326) (some (.inr ((.inr (false))))) (some (.inl (IntKind.wrap .i64 (i283 + 1))))) (some (.inr ((.inl ()))))
noncomputable def fn_ref17_Few (xa : (Int × (List (Int × Int)) × (List (List (Int × Bool))) × (List (Int × Bool)))) : Option Bool :=
  (cond ((decide (20 < (((xa.2.1.length : Nat) : Int)))) || (decide (20 < (((xa.2.2.1.length : Nat) : Int))))) (some (true)) ((fn_ref15_Few xa.2.2.2 20).bind fun t184 => some (!t184))).bind fun t179 => cond (t179) (some (false)) ((loop (fn_ref17_Few_l1 xa) 0 : Option (Unit ⊕ Bool)).bind fun o => match o with | .inr r => some r | .inl () => some (true))
set_option maxRecDepth 100000 in
set_option maxHeartbeats 4000000 in
theorem ref17_Few_ok {K : Hp} {xa : (Int × (List (Int × Int)) × (List (List (Int × Bool))) × (List (Int × Bool)))} {adxa_1 : Option Addr} {cpxa_1 : Nat} {adxa_2 : Option Addr} {cpxa_2 : Nat} {adxa_3 : Option Addr} {cpxa_3 : Nat} (fxa_1 : Is K (.sl (.cons (.int .i64) (.one (.int .i64)))) [.slice adxa_1 xa.2.1.length cpxa_1] xa.2.1) (fxa_2 : Is K (.sl (.one (.sl (.cons (.int .i64) (.one .bool))))) [.slice adxa_2 xa.2.2.1.length cpxa_2] xa.2.2.1) (fxa_3 : Is K (.sl (.cons (.int .i64) (.one .bool))) [.slice adxa_3 xa.2.2.2.length cpxa_3] xa.2.2.2) {r : Bool} (h : fn_ref17_Few xa = some r) :
    Tr Tryz.prog 20 #[.agg #[ii xa.1, .slice adxa_1 xa.2.1.length cpxa_1, .slice adxa_2 xa.2.2.1.length cpxa_2, .slice adxa_3 xa.2.2.2.length cpxa_3]] K [] (fun v K' L' => (∃ (t167 : Bool), t167 = r ∧ .bool t167 = v ∧ L' = []) ∧ K = K') := by
 refine Tr.k <| Tr.of Tryz.func20 rfl Tryz.ntmps20 rfl fun E F => ?_
 unfold fn_ref17_Few at h
 refine cr <| jbx [ii xa.1, .slice adxa_1 xa.2.1.length cpxa_1, .slice adxa_2 xa.2.2.1.length cpxa_2, .slice adxa_3 xa.2.2.2.length cpxa_3] rfl rfl fun b168 => ja (.bool false) rfl <| J.nil <| CJ.seq <| CJ.seq ?_
 refine CJ.region <| jv _ (V.fad Tryz.underlying70 rfl nz22 rfl) <| jv (.slice adxa_1 xa.2.1.length cpxa_1) (V.ld rfl (Ld.sc sc22 (Rd.cl 0 rfl rfl))) <| jv (ii (((xa.2.1.length : Nat) : Int))) (V.len Tryz.underlying22 rfl) <| jv (.bool (decide (20 < (((xa.2.1.length : Nat) : Int))))) (V.gtr rfl rfl) <| jm (.bool (decide (20 < (((xa.2.1.length : Nat) : Int))))) rfl <| J.cut 5 ?_
 refine jmeet [(13, .bool ((decide (20 < (((xa.2.1.length : Nat) : Int)))) || (decide (20 < (((xa.2.2.1.length : Nat) : Int)))))), (1, .pointer (some ⟨b168, 0, none⟩))] ?_ ?_
 · rcases bt (decide (20 < (((xa.2.1.length : Nat) : Int)))) with hc171 | hc171
   · refine J.skip rfl rfl rfl rfl hc171 <| J.skip rfl rfl rfl rfl hc171 <| J.skip rfl rfl rfl rfl hc171 <| J.skip rfl rfl rfl rfl hc171 <| jv (.bool true) (V.pickT rfl hc171 rfl) <| J.nil ?_
     exact ⟨rfl, ⟨(by simp only [hc171]; rfl), rfl, trivial⟩, rfl, rfl⟩
   refine J.run rfl rfl rfl hc171 <| jv _ (V.fad Tryz.underlying70 rfl nz23 rfl) <| J.run rfl rfl rfl hc171 <| jv (.slice adxa_2 xa.2.2.1.length cpxa_2) (V.ld rfl (Ld.sc sc23 (Rd.cl 0 rfl rfl))) <| J.run rfl rfl rfl hc171 <| jv (ii (((xa.2.2.1.length : Nat) : Int))) (V.len Tryz.underlying23 rfl) <| J.run rfl rfl rfl hc171 ?_
   refine jv (.bool (decide (20 < (((xa.2.2.1.length : Nat) : Int))))) (V.gtr rfl rfl) <| jv (.bool (decide (20 < (((xa.2.2.1.length : Nat) : Int))))) (V.pickF rfl hc171 rfl) <| J.nil ?_
   exact ⟨rfl, ⟨(by simp only [hc171]; rfl), rfl, trivial⟩, rfl, rfl⟩
 intro ρ
 refine jm (.bool ((decide (20 < (((xa.2.1.length : Nat) : Int)))) || (decide (20 < (((xa.2.2.1.length : Nat) : Int)))))) rfl <| J.cut 5 ?_
 obtain ⟨t179, ht180, h⟩ := ob h
 refine jmeet [(19, .bool t179), (1, .pointer (some ⟨b168, 0, none⟩))] ?_ ?_
 · rcases bt ((decide (20 < (((xa.2.1.length : Nat) : Int)))) || (decide (20 < (((xa.2.2.1.length : Nat) : Int))))) with hc181 | hc181
   · have ht180 := ct hc181 ht180
     refine J.skip rfl rfl rfl rfl hc181 <| J.skip rfl rfl rfl rfl hc181 <| J.skip rfl rfl rfl rfl hc181 <| J.skip rfl rfl rfl rfl hc181 <| jv (.bool true) (V.pickT rfl hc181 rfl) <| J.nil ?_
     obtain rfl := si ht180
     exact ⟨rfl, ⟨rfl, rfl, trivial⟩, rfl, rfl⟩
   have ht180 := cf hc181 ht180
   refine J.run rfl rfl rfl hc181 <| jv _ (V.fad Tryz.underlying70 rfl nz26 rfl) <| J.run rfl rfl rfl hc181 <| jv (.agg #[.slice adxa_3 xa.2.2.2.length cpxa_3]) (V.ld rfl (Ld.agg (cs := [.slice adxa_3 xa.2.2.2.length cpxa_3]) Tryz.underlying26 sz26 rfl (Rd.cls 0 3 rfl rfl))) <| J.run rfl rfl rfl hc181 ?_
   obtain ⟨r182, hr183, ht180⟩ := ob ht180
   refine J.op rfl (A.call (L1 := []) Tryz.call19 rfl (ref15_Few_ok fxa_3 hr183) rfl rfl) ?_
   rintro _ _ _ ⟨v185, _, rfl, ⟨⟨t184, rfl, rfl, rfl⟩, rfl⟩, _, rfl⟩
   refine J.run rfl rfl rfl hc181 <| jv (.bool (!t184)) (V.not rfl) <| jv (.bool (!t184)) (V.pickF rfl hc181 rfl) <| J.nil ?_
   obtain rfl := si ht180
   exact ⟨rfl, ⟨rfl, rfl, trivial⟩, rfl, rfl⟩
 intro ρ
 refine J.nil <| cc rfl h (fun hc188 h => ?_) fun hc188 h => ?_
 · refine cr <| ja (.bool false) rfl <| J.nil <| CJ.ret ?_
   obtain rfl := si h
   exact ⟨_, _, Res.one rfl rfl, ⟨false, rfl, rfl, rfl⟩, (Hp.le_refl _), fun w hs => (Sep.dropAt 0 rfl hs)⟩
 refine CJ.skip <| CJ.seq <| cr <| ja (ii 0) rfl <| J.nil ?_
 obtain ⟨o259, ho260, h⟩ := ob h
 refine CJ.joinN (o := o259) (fun s ρ K' L' => () = s ∧ Fits [] ρ ∧ K = K' ∧ F = L') ?_ ?_
 · refine CJ.block <| CJ.loop (fun s ρ K' L' => ∃ (i283 : Int), i283 = s ∧ Fits [(1, .pointer (some ⟨b168, 0, none⟩)), (3, ii i283)] ρ ∧ K = K' ∧ L' = Cl b168 70 [ii xa.1, .slice adxa_1 xa.2.1.length cpxa_1, .slice adxa_2 xa.2.2.1.length cpxa_2, .slice adxa_3 xa.2.2.2.length cpxa_3] :: F) ho260 ⟨0, rfl, ⟨rfl, rfl, trivial⟩, rfl, rfl⟩ ?_
   rintro s ρ _ _ r309 ⟨i283, rfl, hf307, rfl, rfl⟩ h306
   obtain ⟨ρ, rfl⟩ := hf307.ex
   refine CJ.seq <| cr <| jm (ii i283) rfl <| jv _ (V.fad Tryz.underlying70 rfl nz23 rfl) <| jv (.slice adxa_2 xa.2.2.1.length cpxa_2) (V.ld rfl (Ld.sc sc23 (Rd.cl 0 rfl rfl))) <| jv (ii (((xa.2.2.1.length : Nat) : Int))) (V.len Tryz.underlying23 rfl) ?_
   refine jv (.bool (decide (i283 < (((xa.2.2.1.length : Nat) : Int))))) (V.lss rfl rfl) <| J.nil <| cc rfl h306 (fun hc310 h306 => ?_) fun hc310 h306 => ?_
   · refine CJ.skip <| CJ.seq <| CJ.block <| cr <| jv _ (V.fad Tryz.underlying70 rfl nz23 rfl) <| jv (.slice adxa_2 xa.2.2.1.length cpxa_2) (V.ld rfl (Ld.sc sc23 (Rd.cl 0 rfl rfl))) ?_
     refine jm (ii i283) rfl ?_
     obtain ⟨x311, hx312, h306⟩ := ob h306
     obtain ⟨p313, p314, p315⟩ := getI_some hx312
     obtain ⟨b316, o317, e318, a319⟩ := (fxa_2).at p314
     refine jv _ (V.iad Tryz.underlying23 sz26 rfl e318 rfl p313 p315) ?_
     obtain ⟨ad320, cp321, c322, f323⟩ := ((a319).one).sl
     refine jv (.agg #[.slice ad320 x311.length cp321]) (V.ld rfl (Ld.aggK (cs := [.slice ad320 x311.length cp321]) Tryz.underlying26 sz26 rfl ⟨c322, trivial⟩ (Hp.le_refl _))) ?_
     obtain ⟨r324, hr325, h306⟩ := ob h306
     refine J.op rfl (A.call (L1 := []) Tryz.call19 rfl (ref15_Few_ok f323 hr325) rfl rfl) ?_
     rintro _ _ _ ⟨v327, _, rfl, ⟨⟨t326, rfl, rfl, rfl⟩, rfl⟩, _, rfl⟩
     refine jv (.bool (!t326)) (V.not rfl) <| J.nil <| cc rfl h306 (fun hc330 h306 => ?_) fun hc330 h306 => ?_
     · refine cr <| ja (.bool false) rfl <| J.nil <| CJ.ret ?_
       obtain rfl := si h306
       refine ⟨nofun, fun e => ?_⟩
       subst e
       refine .inr ⟨nofun, ?_⟩
       obtain rfl := si h
       exact ⟨_, _, Res.one rfl rfl, ⟨false, rfl, rfl, rfl⟩, (Hp.le_refl _), fun w hs => (Sep.dropAt 0 rfl hs)⟩
     refine CJ.skip <| CJ.region <| jm (ii i283) rfl <| jv (ii (IntKind.wrap .i64 (i283 + 1))) (V.add rfl rfl) <| ja (ii (IntKind.wrap .i64 (i283 + 1))) rfl <| J.nil ?_
     obtain rfl := si h306
     exact ⟨rfl, ⟨IntKind.wrap .i64 (i283 + 1), rfl, ⟨rfl, rfl, trivial⟩, rfl, rfl⟩⟩
   refine CJ.dropAt 0 rfl <| CJ.exit ?_
   obtain rfl := si h306
   refine ⟨nofun, fun e => ?_⟩
   subst e
   exact .inl ⟨rfl, _, rfl, ⟨rfl, trivial, rfl, rfl⟩⟩
 rintro s ρ _ _ ho331 ⟨rfl, hf332, rfl, rfl⟩
 subst ho331
 obtain ⟨ρ, rfl⟩ := hf332.ex
 refine PJ.done <| cr <| ja (.bool true) rfl <| J.nil <| CJ.ret ?_
 obtain rfl := si h
 exact ⟨_, _, Res.one rfl rfl, ⟨true, rfl, rfl, rfl⟩, (Hp.le_refl _), fun w hs => hs⟩
noncomputable def fn_ref20_Small_l1 (xa : (Int × Int × (List (Int × Int)) × (List (List (Int × Bool))) × (List (Int × Bool)) × (List (Int × (List (Int × Int)) × (List (List (Int × Bool))) × (List (Int × Bool)))) × (List ((List (Int × Int × Int × Int × Bool)) × (Int × Int × Int × (List Int) × (List Int) × (List Int)))))) : Int → Option (Int ⊕ (Unit ⊕ Bool)) := fun (i773 : Int) => cond (decide (i773 < (((xa.2.2.2.1.length : Nat) : Int)))) ((getI xa.2.2.2.1 i773).bind fun x801 => (fn_ref15_Few x801 20).bind fun t816 => cond (!t816) (some (.inr ((.inr (false))))) (some (.inl (IntKind.wrap .i64 (i773 + 1))))) (some (.inr ((.inl ()))))
noncomputable def fn_ref20_Small_l2 (xa : (Int × Int × (List (Int × Int)) × (List (List (Int × Bool))) × (List (Int × Bool)) × (List (Int × (List (Int × Int)) × (List (List (Int × Bool))) × (List (Int × Bool)))) × (List ((List (Int × Int × Int × Int × Bool)) × (Int × Int × Int × (List Int) × (List Int) × (List Int)))))) : Int → Option (Int ⊕ (Unit ⊕ Bool)) := fun (i950 : Int) => cond (decide (i950 < (((xa.2.2.2.2.2.1.length : Nat) : Int)))) ((getI xa.2.2.2.2.2.1 i950).bind fun x986 => (fn_ref17_Few (x986.1, x986.2.1, x986.2.2.1, x986.2.2.2)).bind fun t1009 => cond (!t1009) (some (.inr ((.inr (false))))) (some (.inl (IntKind.wrap .i64 (i950 + 1))))) (some (.inr ((.inl ()))))
noncomputable def fn_ref20_Small_l3 (xa : (Int × Int × (List (Int × Int)) × (List (List (Int × Bool))) × (List (Int × Bool)) × (List (Int × (List (Int × Int)) × (List (List (Int × Bool))) × (List (Int × Bool)))) × (List ((List (Int × Int × Int × Int × Bool)) × (Int × Int × Int × (List Int) × (List Int) × (List Int)))))) : (Int × Int) → Option ((Int × Int) ⊕ (Int ⊕ Bool)) := fun ((i1204, i1205) : (Int × Int)) => cond (decide (i1205 < (((xa.2.2.2.2.2.2.length : Nat) : Int)))) ((getI xa.2.2.2.2.2.2 i1205).bind fun x1256 => (getI xa.2.2.2.2.2.2 i1205).bind fun x1278 => cond (((decide (20 < (((x1256.2.2.2.2.1.length : Nat) : Int)))) || (decide (20 < (((x1256.2.2.2.2.2.1.length : Nat) : Int))))) || (decide (20 < (((x1256.2.2.2.2.2.2.length : Nat) : Int))))) (some (.inr ((.inr (false))))) (some (.inl ((IntKind.wrap .i64 (i1204 + (((x1278.1.length : Nat) : Int))), IntKind.wrap .i64 (i1205 + 1)))))) (some (.inr (.inl i1204)))
noncomputable def fn_ref20_Small (xa : (Int × Int × (List (Int × Int)) × (List (List (Int × Bool))) × (List (Int × Bool)) × (List (Int × (List (Int × Int)) × (List (List (Int × Bool))) × (List (Int × Bool)))) × (List ((List (Int × Int × Int × Int × Bool)) × (Int × Int × Int × (List Int) × (List Int) × (List Int)))))) : Option Bool :=
  (cond ((((decide (20 < (((xa.2.2.1.length : Nat) : Int)))) || (decide (10 < (((xa.2.2.2.1.length : Nat) : Int))))) || (decide (4 < (((xa.2.2.2.2.2.1.length : Nat) : Int))))) || (decide (8 < (((xa.2.2.2.2.2.2.length : Nat) : Int))))) (some (true)) ((fn_ref15_Few xa.2.2.2.2.1 20).bind fun t674 => some (!t674))).bind fun t669 => cond (t669) (some (false)) ((loop (fn_ref20_Small_l1 xa) 0 : Option (Unit ⊕ Bool)).bind fun o => match o with | .inr r => some r | .inl () => (loop (fn_ref20_Small_l2 xa) 0 : Option (Unit ⊕ Bool)).bind fun o => match o with | .inr r => some r | .inl () => (loop (fn_ref20_Small_l3 xa) (0, 0) : Option (Int ⊕ Bool)).bind fun o => match o with | .inr r => some r | .inl i1156 => some (decide (i1156 ≤ 24)))
set_option maxRecDepth 100000 in
set_option maxHeartbeats 4000000 in
theorem ref20_Small_ok {K : Hp} {xa : (Int × Int × (List (Int × Int)) × (List (List (Int × Bool))) × (List (Int × Bool)) × (List (Int × (List (Int × Int)) × (List (List (Int × Bool))) × (List (Int × Bool)))) × (List ((List (Int × Int × Int × Int × Bool)) × (Int × Int × Int × (List Int) × (List Int) × (List Int)))))} {adxa_2 : Option Addr} {cpxa_2 : Nat} {adxa_3 : Option Addr} {cpxa_3 : Nat} {adxa_4 : Option Addr} {cpxa_4 : Nat} {adxa_5 : Option Addr} {cpxa_5 : Nat} {adxa_6 : Option Addr} {cpxa_6 : Nat} (fxa_2 : Is K (.sl (.cons (.int .i64) (.one (.int .i64)))) [.slice adxa_2 xa.2.2.1.length cpxa_2] xa.2.2.1) (fxa_3 : Is K (.sl (.one (.sl (.cons (.int .i64) (.one .bool))))) [.slice adxa_3 xa.2.2.2.1.length cpxa_3] xa.2.2.2.1) (fxa_4 : Is K (.sl (.cons (.int .i64) (.one .bool))) [.slice adxa_4 xa.2.2.2.2.1.length cpxa_4] xa.2.2.2.2.1) (fxa_5 : Is K (.sl (.cons (.int .i64) (.cons (.sl (.cons (.int .i64) (.one (.int .i64)))) (.cons (.sl (.one (.sl (.cons (.int .i64) (.one .bool))))) (.one (.one (.sl (.cons (.int .i64) (.one .bool))))))))) [.slice adxa_5 xa.2.2.2.2.2.1.length cpxa_5] xa.2.2.2.2.2.1) (fxa_6 : Is K (.sl (.cons (.sl (.cons (.int .i64) (.cons (.int .i64) (.cons (.int .i64) (.cons (.int .i64) (.one .bool)))))) (.one (.cons (.int .i64) (.cons (.int .i64) (.cons (.int .i64) (.cons (.sl (.int .i64)) (.cons (.sl (.int .i64)) (.one (.sl (.int .i64))))))))))) [.slice adxa_6 xa.2.2.2.2.2.2.length cpxa_6] xa.2.2.2.2.2.2) {r : Bool} (h : fn_ref20_Small xa = some r) :
    Tr Tryz.prog 5 #[.agg #[ii xa.1, ii xa.2.1, .slice adxa_2 xa.2.2.1.length cpxa_2, .slice adxa_3 xa.2.2.2.1.length cpxa_3, .slice adxa_4 xa.2.2.2.2.1.length cpxa_4, .slice adxa_5 xa.2.2.2.2.2.1.length cpxa_5, .slice adxa_6 xa.2.2.2.2.2.2.length cpxa_6]] K [] (fun v K' L' => (∃ (t651 : Bool), t651 = r ∧ .bool t651 = v ∧ L' = []) ∧ K = K') := by
 refine Tr.k <| Tr.of Tryz.func5 rfl Tryz.ntmps5 rfl fun E F => ?_
 unfold fn_ref20_Small at h
 refine cr <| jbx [ii xa.1, ii xa.2.1, .slice adxa_2 xa.2.2.1.length cpxa_2, .slice adxa_3 xa.2.2.2.1.length cpxa_3, .slice adxa_4 xa.2.2.2.2.1.length cpxa_4, .slice adxa_5 xa.2.2.2.2.2.1.length cpxa_5, .slice adxa_6 xa.2.2.2.2.2.2.length cpxa_6] rfl rfl fun b652 => ja (.bool false) rfl <| J.nil <| CJ.seq <| CJ.seq ?_
 refine CJ.region <| jv _ (V.fad Tryz.underlying30 rfl nz22 rfl) <| jv (.slice adxa_2 xa.2.2.1.length cpxa_2) (V.ld rfl (Ld.sc sc22 (Rd.cl 0 rfl rfl))) <| jv (ii (((xa.2.2.1.length : Nat) : Int))) (V.len Tryz.underlying22 rfl) <| jv (.bool (decide (20 < (((xa.2.2.1.length : Nat) : Int))))) (V.gtr rfl rfl) <| jm (.bool (decide (20 < (((xa.2.2.1.length : Nat) : Int))))) rfl <| J.cut 5 ?_
 refine jmeet [(17, .bool ((decide (20 < (((xa.2.2.1.length : Nat) : Int)))) || (decide (10 < (((xa.2.2.2.1.length : Nat) : Int)))))), (1, .pointer (some ⟨b652, 0, none⟩))] ?_ ?_
 · rcases bt (decide (20 < (((xa.2.2.1.length : Nat) : Int)))) with hc655 | hc655
   · refine J.skip rfl rfl rfl rfl hc655 <| J.skip rfl rfl rfl rfl hc655 <| J.skip rfl rfl rfl rfl hc655 <| J.skip rfl rfl rfl rfl hc655 <| jv (.bool true) (V.pickT rfl hc655 rfl) <| J.nil ?_
     exact ⟨rfl, ⟨(by simp only [hc655]; rfl), rfl, trivial⟩, rfl, rfl⟩
   refine J.run rfl rfl rfl hc655 <| jv _ (V.fad Tryz.underlying30 rfl nz23 rfl) <| J.run rfl rfl rfl hc655 <| jv (.slice adxa_3 xa.2.2.2.1.length cpxa_3) (V.ld rfl (Ld.sc sc23 (Rd.cl 0 rfl rfl))) <| J.run rfl rfl rfl hc655 <| jv (ii (((xa.2.2.2.1.length : Nat) : Int))) (V.len Tryz.underlying23 rfl) <| J.run rfl rfl rfl hc655 ?_
   refine jv (.bool (decide (10 < (((xa.2.2.2.1.length : Nat) : Int))))) (V.gtr rfl rfl) <| jv (.bool (decide (10 < (((xa.2.2.2.1.length : Nat) : Int))))) (V.pickF rfl hc655 rfl) <| J.nil ?_
   exact ⟨rfl, ⟨(by simp only [hc655]; rfl), rfl, trivial⟩, rfl, rfl⟩
 intro ρ
 refine jm (.bool ((decide (20 < (((xa.2.2.1.length : Nat) : Int)))) || (decide (10 < (((xa.2.2.2.1.length : Nat) : Int)))))) rfl <| J.cut 5 <| jmeet [(23, .bool (((decide (20 < (((xa.2.2.1.length : Nat) : Int)))) || (decide (10 < (((xa.2.2.2.1.length : Nat) : Int))))) || (decide (4 < (((xa.2.2.2.2.2.1.length : Nat) : Int)))))), (1, .pointer (some ⟨b652, 0, none⟩))] ?_ ?_
 · rcases bt ((decide (20 < (((xa.2.2.1.length : Nat) : Int)))) || (decide (10 < (((xa.2.2.2.1.length : Nat) : Int))))) with hc658 | hc658
   · refine J.skip rfl rfl rfl rfl hc658 <| J.skip rfl rfl rfl rfl hc658 <| J.skip rfl rfl rfl rfl hc658 <| J.skip rfl rfl rfl rfl hc658 <| jv (.bool true) (V.pickT rfl hc658 rfl) <| J.nil ?_
     exact ⟨rfl, ⟨(by simp only [hc658]; rfl), rfl, trivial⟩, rfl, rfl⟩
   refine J.run rfl rfl rfl hc658 <| jv _ (V.fad Tryz.underlying30 rfl nz27 rfl) <| J.run rfl rfl rfl hc658 <| jv (.slice adxa_5 xa.2.2.2.2.2.1.length cpxa_5) (V.ld rfl (Ld.sc sc27 (Rd.cl 0 rfl rfl))) <| J.run rfl rfl rfl hc658 <| jv (ii (((xa.2.2.2.2.2.1.length : Nat) : Int))) (V.len Tryz.underlying27 rfl) <| J.run rfl rfl rfl hc658 ?_
   refine jv (.bool (decide (4 < (((xa.2.2.2.2.2.1.length : Nat) : Int))))) (V.gtr rfl rfl) <| jv (.bool (decide (4 < (((xa.2.2.2.2.2.1.length : Nat) : Int))))) (V.pickF rfl hc658 rfl) <| J.nil ?_
   exact ⟨rfl, ⟨(by simp only [hc658]; rfl), rfl, trivial⟩, rfl, rfl⟩
 intro ρ
 refine jm (.bool (((decide (20 < (((xa.2.2.1.length : Nat) : Int)))) || (decide (10 < (((xa.2.2.2.1.length : Nat) : Int))))) || (decide (4 < (((xa.2.2.2.2.2.1.length : Nat) : Int)))))) rfl <| J.cut 5 <| jmeet [(29, .bool ((((decide (20 < (((xa.2.2.1.length : Nat) : Int)))) || (decide (10 < (((xa.2.2.2.1.length : Nat) : Int))))) || (decide (4 < (((xa.2.2.2.2.2.1.length : Nat) : Int))))) || (decide (8 < (((xa.2.2.2.2.2.2.length : Nat) : Int)))))), (1, .pointer (some ⟨b652, 0, none⟩))] ?_ ?_
 · rcases bt (((decide (20 < (((xa.2.2.1.length : Nat) : Int)))) || (decide (10 < (((xa.2.2.2.1.length : Nat) : Int))))) || (decide (4 < (((xa.2.2.2.2.2.1.length : Nat) : Int))))) with hc661 | hc661
   · refine J.skip rfl rfl rfl rfl hc661 <| J.skip rfl rfl rfl rfl hc661 <| J.skip rfl rfl rfl rfl hc661 <| J.skip rfl rfl rfl rfl hc661 <| jv (.bool true) (V.pickT rfl hc661 rfl) <| J.nil ?_
     exact ⟨rfl, ⟨(by simp only [hc661]; rfl), rfl, trivial⟩, rfl, rfl⟩
   refine J.run rfl rfl rfl hc661 <| jv _ (V.fad Tryz.underlying30 rfl nz28 rfl) <| J.run rfl rfl rfl hc661 <| jv (.slice adxa_6 xa.2.2.2.2.2.2.length cpxa_6) (V.ld rfl (Ld.sc sc28 (Rd.cl 0 rfl rfl))) <| J.run rfl rfl rfl hc661 <| jv (ii (((xa.2.2.2.2.2.2.length : Nat) : Int))) (V.len Tryz.underlying28 rfl) <| J.run rfl rfl rfl hc661 ?_
   refine jv (.bool (decide (8 < (((xa.2.2.2.2.2.2.length : Nat) : Int))))) (V.gtr rfl rfl) <| jv (.bool (decide (8 < (((xa.2.2.2.2.2.2.length : Nat) : Int))))) (V.pickF rfl hc661 rfl) <| J.nil ?_
   exact ⟨rfl, ⟨(by simp only [hc661]; rfl), rfl, trivial⟩, rfl, rfl⟩
 intro ρ
 refine jm (.bool ((((decide (20 < (((xa.2.2.1.length : Nat) : Int)))) || (decide (10 < (((xa.2.2.2.1.length : Nat) : Int))))) || (decide (4 < (((xa.2.2.2.2.2.1.length : Nat) : Int))))) || (decide (8 < (((xa.2.2.2.2.2.2.length : Nat) : Int)))))) rfl <| J.cut 5 ?_
 obtain ⟨t669, ht670, h⟩ := ob h
 refine jmeet [(35, .bool t669), (1, .pointer (some ⟨b652, 0, none⟩))] ?_ ?_
 · rcases bt ((((decide (20 < (((xa.2.2.1.length : Nat) : Int)))) || (decide (10 < (((xa.2.2.2.1.length : Nat) : Int))))) || (decide (4 < (((xa.2.2.2.2.2.1.length : Nat) : Int))))) || (decide (8 < (((xa.2.2.2.2.2.2.length : Nat) : Int))))) with hc671 | hc671
   · have ht670 := ct hc671 ht670
     refine J.skip rfl rfl rfl rfl hc671 <| J.skip rfl rfl rfl rfl hc671 <| J.skip rfl rfl rfl rfl hc671 <| J.skip rfl rfl rfl rfl hc671 <| jv (.bool true) (V.pickT rfl hc671 rfl) <| J.nil ?_
     obtain rfl := si ht670
     exact ⟨rfl, ⟨rfl, rfl, trivial⟩, rfl, rfl⟩
   have ht670 := cf hc671 ht670
   refine J.run rfl rfl rfl hc671 <| jv _ (V.fad Tryz.underlying30 rfl nz26 rfl) <| J.run rfl rfl rfl hc671 <| jv (.agg #[.slice adxa_4 xa.2.2.2.2.1.length cpxa_4]) (V.ld rfl (Ld.agg (cs := [.slice adxa_4 xa.2.2.2.2.1.length cpxa_4]) Tryz.underlying26 sz26 rfl (Rd.cls 0 4 rfl rfl))) <| J.run rfl rfl rfl hc671 ?_
   obtain ⟨r672, hr673, ht670⟩ := ob ht670
   refine J.op rfl (A.call (L1 := []) Tryz.call19 rfl (ref15_Few_ok fxa_4 hr673) rfl rfl) ?_
   rintro _ _ _ ⟨v675, _, rfl, ⟨⟨t674, rfl, rfl, rfl⟩, rfl⟩, _, rfl⟩
   refine J.run rfl rfl rfl hc671 <| jv (.bool (!t674)) (V.not rfl) <| jv (.bool (!t674)) (V.pickF rfl hc671 rfl) <| J.nil ?_
   obtain rfl := si ht670
   exact ⟨rfl, ⟨rfl, rfl, trivial⟩, rfl, rfl⟩
 intro ρ
 refine J.nil <| cc rfl h (fun hc678 h => ?_) fun hc678 h => ?_
 · refine cr <| ja (.bool false) rfl <| J.nil <| CJ.ret ?_
   obtain rfl := si h
   exact ⟨_, _, Res.one rfl rfl, ⟨false, rfl, rfl, rfl⟩, (Hp.le_refl _), fun w hs => (Sep.dropAt 0 rfl hs)⟩
 refine CJ.skip <| CJ.seq <| cr <| ja (ii 0) rfl <| J.nil ?_
 obtain ⟨o749, ho750, h⟩ := ob h
 refine CJ.joinN (o := o749) (fun s ρ K' L' => () = s ∧ Fits [(1, .pointer (some ⟨b652, 0, none⟩))] ρ ∧ K = K' ∧ L' = Cl b652 30 [ii xa.1, ii xa.2.1, .slice adxa_2 xa.2.2.1.length cpxa_2, .slice adxa_3 xa.2.2.2.1.length cpxa_3, .slice adxa_4 xa.2.2.2.2.1.length cpxa_4, .slice adxa_5 xa.2.2.2.2.2.1.length cpxa_5, .slice adxa_6 xa.2.2.2.2.2.2.length cpxa_6] :: F) ?_ ?_
 · refine CJ.block <| CJ.loop (fun s ρ K' L' => ∃ (i773 : Int), i773 = s ∧ Fits [(1, .pointer (some ⟨b652, 0, none⟩)), (3, ii i773)] ρ ∧ K = K' ∧ L' = Cl b652 30 [ii xa.1, ii xa.2.1, .slice adxa_2 xa.2.2.1.length cpxa_2, .slice adxa_3 xa.2.2.2.1.length cpxa_3, .slice adxa_4 xa.2.2.2.2.1.length cpxa_4, .slice adxa_5 xa.2.2.2.2.2.1.length cpxa_5, .slice adxa_6 xa.2.2.2.2.2.2.length cpxa_6] :: F) ho750 ⟨0, rfl, ⟨rfl, rfl, trivial⟩, rfl, rfl⟩ ?_
   rintro s ρ _ _ r799 ⟨i773, rfl, hf797, rfl, rfl⟩ h796
   obtain ⟨ρ, rfl⟩ := hf797.ex
   refine CJ.seq <| cr <| jm (ii i773) rfl <| jv _ (V.fad Tryz.underlying30 rfl nz23 rfl) <| jv (.slice adxa_3 xa.2.2.2.1.length cpxa_3) (V.ld rfl (Ld.sc sc23 (Rd.cl 0 rfl rfl))) <| jv (ii (((xa.2.2.2.1.length : Nat) : Int))) (V.len Tryz.underlying23 rfl) ?_
   refine jv (.bool (decide (i773 < (((xa.2.2.2.1.length : Nat) : Int))))) (V.lss rfl rfl) <| J.nil <| cc rfl h796 (fun hc800 h796 => ?_) fun hc800 h796 => ?_
   · refine CJ.skip <| CJ.seq <| CJ.block <| cr <| jv _ (V.fad Tryz.underlying30 rfl nz23 rfl) <| jv (.slice adxa_3 xa.2.2.2.1.length cpxa_3) (V.ld rfl (Ld.sc sc23 (Rd.cl 0 rfl rfl))) ?_
     refine jm (ii i773) rfl ?_
     obtain ⟨x801, hx802, h796⟩ := ob h796
     obtain ⟨p803, p804, p805⟩ := getI_some hx802
     obtain ⟨b806, o807, e808, a809⟩ := (fxa_3).at p804
     refine jv _ (V.iad Tryz.underlying23 sz26 rfl e808 rfl p803 p805) ?_
     obtain ⟨ad810, cp811, c812, f813⟩ := ((a809).one).sl
     refine jv (.agg #[.slice ad810 x801.length cp811]) (V.ld rfl (Ld.aggK (cs := [.slice ad810 x801.length cp811]) Tryz.underlying26 sz26 rfl ⟨c812, trivial⟩ (Hp.le_refl _))) ?_
     obtain ⟨r814, hr815, h796⟩ := ob h796
     refine J.op rfl (A.call (L1 := []) Tryz.call19 rfl (ref15_Few_ok f813 hr815) rfl rfl) ?_
     rintro _ _ _ ⟨v817, _, rfl, ⟨⟨t816, rfl, rfl, rfl⟩, rfl⟩, _, rfl⟩
     refine jv (.bool (!t816)) (V.not rfl) <| J.nil <| cc rfl h796 (fun hc820 h796 => ?_) fun hc820 h796 => ?_
     · refine cr <| ja (.bool false) rfl <| J.nil <| CJ.ret ?_
       obtain rfl := si h796
       refine ⟨nofun, fun e => ?_⟩
       subst e
       refine .inr ⟨nofun, ?_⟩
       obtain rfl := si h
       exact ⟨_, _, Res.one rfl rfl, ⟨false, rfl, rfl, rfl⟩, (Hp.le_refl _), fun w hs => (Sep.dropAt 0 rfl hs)⟩
     refine CJ.skip <| CJ.region <| jm (ii i773) rfl <| jv (ii (IntKind.wrap .i64 (i773 + 1))) (V.add rfl rfl) <| ja (ii (IntKind.wrap .i64 (i773 + 1))) rfl <| J.nil ?_
     obtain rfl := si h796
     exact ⟨rfl, ⟨IntKind.wrap .i64 (i773 + 1), rfl, ⟨rfl, rfl, trivial⟩, rfl, rfl⟩⟩
   refine CJ.exit ?_
   obtain rfl := si h796
   refine ⟨nofun, fun e => ?_⟩
   subst e
   exact .inl ⟨rfl, _, rfl, ⟨rfl, ⟨rfl, trivial⟩, rfl, rfl⟩⟩
 rintro s ρ _ _ ho821 ⟨rfl, hf822, rfl, rfl⟩
 subst ho821
 obtain ⟨ρ, rfl⟩ := hf822.ex
 refine PJ.done <| CJ.seq <| cr <| ja (ii 0) rfl <| J.nil ?_
 obtain ⟨o918, ho919, h⟩ := ob h
 refine CJ.joinN (o := o918) (fun s ρ K' L' => () = s ∧ Fits [(1, .pointer (some ⟨b652, 0, none⟩))] ρ ∧ K = K' ∧ L' = Cl b652 30 [ii xa.1, ii xa.2.1, .slice adxa_2 xa.2.2.1.length cpxa_2, .slice adxa_3 xa.2.2.2.1.length cpxa_3, .slice adxa_4 xa.2.2.2.2.1.length cpxa_4, .slice adxa_5 xa.2.2.2.2.2.1.length cpxa_5, .slice adxa_6 xa.2.2.2.2.2.2.length cpxa_6] :: F) ?_ ?_
 · refine CJ.block <| CJ.loop (fun s ρ K' L' => ∃ (i950 : Int), i950 = s ∧ Fits [(1, .pointer (some ⟨b652, 0, none⟩)), (4, ii i950)] ρ ∧ K = K' ∧ L' = Cl b652 30 [ii xa.1, ii xa.2.1, .slice adxa_2 xa.2.2.1.length cpxa_2, .slice adxa_3 xa.2.2.2.1.length cpxa_3, .slice adxa_4 xa.2.2.2.2.1.length cpxa_4, .slice adxa_5 xa.2.2.2.2.2.1.length cpxa_5, .slice adxa_6 xa.2.2.2.2.2.2.length cpxa_6] :: F) ho919 ⟨0, rfl, ⟨rfl, rfl, trivial⟩, rfl, rfl⟩ ?_
   rintro s ρ _ _ r984 ⟨i950, rfl, hf982, rfl, rfl⟩ h981
   obtain ⟨ρ, rfl⟩ := hf982.ex
   refine CJ.seq <| cr <| jm (ii i950) rfl <| jv _ (V.fad Tryz.underlying30 rfl nz27 rfl) <| jv (.slice adxa_5 xa.2.2.2.2.2.1.length cpxa_5) (V.ld rfl (Ld.sc sc27 (Rd.cl 0 rfl rfl))) <| jv (ii (((xa.2.2.2.2.2.1.length : Nat) : Int))) (V.len Tryz.underlying27 rfl) ?_
   refine jv (.bool (decide (i950 < (((xa.2.2.2.2.2.1.length : Nat) : Int))))) (V.lss rfl rfl) <| J.nil <| cc rfl h981 (fun hc985 h981 => ?_) fun hc985 h981 => ?_
   · refine CJ.skip <| CJ.seq <| CJ.block <| cr <| jv _ (V.fad Tryz.underlying30 rfl nz27 rfl) <| jv (.slice adxa_5 xa.2.2.2.2.2.1.length cpxa_5) (V.ld rfl (Ld.sc sc27 (Rd.cl 0 rfl rfl))) ?_
     refine jm (ii i950) rfl ?_
     obtain ⟨x986, hx987, h981⟩ := ob h981
     obtain ⟨p988, p989, p990⟩ := getI_some hx987
     obtain ⟨b991, o992, e993, a994⟩ := (fxa_5).at p989
     refine jv _ (V.iad Tryz.underlying27 sz70 rfl e993 rfl p988 p990) ?_
     obtain ⟨ad995, cp996, c997, f998⟩ := (((a994).snd).fst).sl
     obtain ⟨ad999, cp1000, c1001, f1002⟩ := ((((a994).snd).snd).fst).sl
     obtain ⟨ad1003, cp1004, c1005, f1006⟩ := ((((((a994).snd).snd).snd).one).one).sl
     refine jv (.agg #[ii x986.1, .slice ad995 x986.2.1.length cp996, .slice ad999 x986.2.2.1.length cp1000, .slice ad1003 x986.2.2.2.length cp1004]) (V.ld rfl (Ld.aggK (cs := [ii x986.1, .slice ad995 x986.2.1.length cp996, .slice ad999 x986.2.2.1.length cp1000, .slice ad1003 x986.2.2.2.length cp1004]) Tryz.underlying70 sz70 rfl ⟨((a994).fst).int, c997, c1001, c1005, trivial⟩ (Hp.le_refl _))) ?_
     obtain ⟨r1007, hr1008, h981⟩ := ob h981
     refine J.op rfl (A.call (L1 := []) Tryz.call20 rfl (ref17_Few_ok f998 f1002 f1006 hr1008) rfl rfl) ?_
     rintro _ _ _ ⟨v1010, _, rfl, ⟨⟨t1009, rfl, rfl, rfl⟩, rfl⟩, _, rfl⟩
     refine jv (.bool (!t1009)) (V.not rfl) <| J.nil <| cc rfl h981 (fun hc1013 h981 => ?_) fun hc1013 h981 => ?_
     · refine cr <| ja (.bool false) rfl <| J.nil <| CJ.ret ?_
       obtain rfl := si h981
       refine ⟨nofun, fun e => ?_⟩
       subst e
       refine .inr ⟨nofun, ?_⟩
       obtain rfl := si h
       exact ⟨_, _, Res.one rfl rfl, ⟨false, rfl, rfl, rfl⟩, (Hp.le_refl _), fun w hs => (Sep.dropAt 0 rfl hs)⟩
     refine CJ.skip <| CJ.region <| jm (ii i950) rfl <| jv (ii (IntKind.wrap .i64 (i950 + 1))) (V.add rfl rfl) <| ja (ii (IntKind.wrap .i64 (i950 + 1))) rfl <| J.nil ?_
     obtain rfl := si h981
     exact ⟨rfl, ⟨IntKind.wrap .i64 (i950 + 1), rfl, ⟨rfl, rfl, trivial⟩, rfl, rfl⟩⟩
   refine CJ.exit ?_
   obtain rfl := si h981
   refine ⟨nofun, fun e => ?_⟩
   subst e
   exact .inl ⟨rfl, _, rfl, ⟨rfl, ⟨rfl, trivial⟩, rfl, rfl⟩⟩
 rintro s ρ _ _ ho1014 ⟨rfl, hf1015, rfl, rfl⟩
 subst ho1014
 obtain ⟨ρ, rfl⟩ := hf1015.ex
 refine PJ.done <| cr <| ja (ii 0) rfl <| J.nil <| CJ.seq <| CJ.seq ?_
 refine CJ.region <| ja (ii 0) rfl <| J.nil ?_
 obtain ⟨o1157, ho1158, h⟩ := ob h
 refine CJ.joinN (o := o1157) (fun s ρ K' L' => ∃ (i1156 : Int), i1156 = s ∧ Fits [(5, ii i1156)] ρ ∧ K = K' ∧ F = L') ?_ ?_
 · refine CJ.block <| CJ.loop (fun s ρ K' L' => ∃ (i1204 : Int) (i1205 : Int), (i1204, i1205) = s ∧ Fits [(1, .pointer (some ⟨b652, 0, none⟩)), (5, ii i1204), (6, ii i1205)] ρ ∧ K = K' ∧ L' = Cl b652 30 [ii xa.1, ii xa.2.1, .slice adxa_2 xa.2.2.1.length cpxa_2, .slice adxa_3 xa.2.2.2.1.length cpxa_3, .slice adxa_4 xa.2.2.2.2.1.length cpxa_4, .slice adxa_5 xa.2.2.2.2.2.1.length cpxa_5, .slice adxa_6 xa.2.2.2.2.2.2.length cpxa_6] :: F) ho1158 ⟨0, 0, rfl, ⟨rfl, rfl, rfl, trivial⟩, rfl, rfl⟩ ?_
   rintro s ρ _ _ r1254 ⟨i1204, i1205, rfl, hf1252, rfl, rfl⟩ h1251
   obtain ⟨ρ, rfl⟩ := hf1252.ex
   refine CJ.seq <| cr <| jm (ii i1205) rfl <| jv _ (V.fad Tryz.underlying30 rfl nz28 rfl) <| jv (.slice adxa_6 xa.2.2.2.2.2.2.length cpxa_6) (V.ld rfl (Ld.sc sc28 (Rd.cl 0 rfl rfl))) <| jv (ii (((xa.2.2.2.2.2.2.length : Nat) : Int))) (V.len Tryz.underlying28 rfl) ?_
   refine jv (.bool (decide (i1205 < (((xa.2.2.2.2.2.2.length : Nat) : Int))))) (V.lss rfl rfl) <| J.nil <| cc rfl h1251 (fun hc1255 h1251 => ?_) fun hc1255 h1251 => ?_
   · refine CJ.skip <| CJ.seq <| CJ.block <| cr <| jv _ (V.fad Tryz.underlying30 rfl nz28 rfl) <| jv (.slice adxa_6 xa.2.2.2.2.2.2.length cpxa_6) (V.ld rfl (Ld.sc sc28 (Rd.cl 0 rfl rfl))) ?_
     refine jm (ii i1205) rfl ?_
     obtain ⟨x1256, hx1257, h1251⟩ := ob h1251
     obtain ⟨p1258, p1259, p1260⟩ := getI_some hx1257
     obtain ⟨b1261, o1262, e1263, a1264⟩ := (fxa_6).at p1259
     refine jv _ (V.iad Tryz.underlying28 sz63 rfl e1263 rfl p1258 p1260) <| jv _ (V.fad Tryz.underlying63 rfl nz61 rfl) ?_
     obtain ⟨ad1265, cp1266, c1267, f1268⟩ := (((((((a1264).snd).one).snd).snd).snd).fst).sl
     obtain ⟨ad1269, cp1270, c1271, f1272⟩ := ((((((((a1264).snd).one).snd).snd).snd).snd).fst).sl
     obtain ⟨ad1273, cp1274, c1275, f1276⟩ := (((((((((a1264).snd).one).snd).snd).snd).snd).snd).one).sl
     refine jv (.agg #[ii x1256.2.1, ii x1256.2.2.1, ii x1256.2.2.2.1, .slice ad1265 x1256.2.2.2.2.1.length cp1266, .slice ad1269 x1256.2.2.2.2.2.1.length cp1270, .slice ad1273 x1256.2.2.2.2.2.2.length cp1274]) (V.ld rfl (Ld.aggK (cs := [ii x1256.2.1, ii x1256.2.2.1, ii x1256.2.2.2.1, .slice ad1265 x1256.2.2.2.2.1.length cp1266, .slice ad1269 x1256.2.2.2.2.2.1.length cp1270, .slice ad1273 x1256.2.2.2.2.2.2.length cp1274]) Tryz.underlying61 sz61 rfl ⟨((((a1264).snd).one).fst).int, (((((a1264).snd).one).snd).fst).int, ((((((a1264).snd).one).snd).snd).fst).int, c1267, c1271, c1275, trivial⟩ (Hp.le_refl _))) <| jal inf61 [ii 0, ii 0, ii 0, nos, nos, nos] rfl fun b1277 => js [ii x1256.2.1, ii x1256.2.2.1, ii x1256.2.2.2.1, .slice ad1265 x1256.2.2.2.2.1.length cp1266, .slice ad1269 x1256.2.2.2.2.2.1.length cp1270, .slice ad1273 x1256.2.2.2.2.2.2.length cp1274] sz61 rfl rfl rfl rfl rfl rfl <| J.nil <| cr <| jm (ii i1204) rfl ?_
     refine jv _ (V.fad Tryz.underlying30 rfl nz28 rfl) <| jv (.slice adxa_6 xa.2.2.2.2.2.2.length cpxa_6) (V.ld rfl (Ld.sc sc28 (Rd.cl 1 rfl rfl))) <| jm (ii i1205) rfl ?_
     obtain ⟨x1278, hx1279, h1251⟩ := ob h1251
     obtain ⟨p1280, p1281, p1282⟩ := getI_some hx1279
     obtain ⟨b1283, o1284, e1285, a1286⟩ := (fxa_6).at p1281
     refine jv _ (V.iad Tryz.underlying28 sz63 rfl e1285 rfl p1280 p1282) <| jv _ (V.fad Tryz.underlying63 rfl nz58 rfl) ?_
     obtain ⟨ad1287, cp1288, c1289, f1290⟩ := ((a1286).fst).sl
     refine jv (.slice ad1287 x1278.1.length cp1288) (V.ld rfl (Ld.sc sc58 (Rd.k c1289 (Hp.le_refl _)))) <| jv (ii (((x1278.1.length : Nat) : Int))) (V.len Tryz.underlying58 rfl) <| jv (ii (IntKind.wrap .i64 (i1204 + (((x1278.1.length : Nat) : Int))))) (V.add rfl rfl) <| ja (ii (IntKind.wrap .i64 (i1204 + (((x1278.1.length : Nat) : Int))))) rfl <| J.nil <| CJ.seq <| CJ.region ?_
     refine jv _ (V.fad Tryz.underlying61 rfl nz59 rfl) <| jv (.slice ad1265 x1256.2.2.2.2.1.length cp1266) (V.ld rfl (Ld.sc sc59 (Rd.cl 0 rfl rfl))) <| jv (ii (((x1256.2.2.2.2.1.length : Nat) : Int))) (V.len Tryz.underlying59 rfl) <| jv (.bool (decide (20 < (((x1256.2.2.2.2.1.length : Nat) : Int))))) (V.gtr rfl rfl) <| jm (.bool (decide (20 < (((x1256.2.2.2.2.1.length : Nat) : Int))))) rfl <| J.cut 5 <| jmeet [(95, .bool ((decide (20 < (((x1256.2.2.2.2.1.length : Nat) : Int)))) || (decide (20 < (((x1256.2.2.2.2.2.1.length : Nat) : Int)))))), (1, .pointer (some ⟨b652, 0, none⟩)), (5, ii (IntKind.wrap .i64 (i1204 + (((x1278.1.length : Nat) : Int))))), (6, ii i1205), (7, .pointer (some ⟨b1277, 0, none⟩))] ?_ ?_
     · rcases bt (decide (20 < (((x1256.2.2.2.2.1.length : Nat) : Int)))) with hc1293 | hc1293
       · refine J.skip rfl rfl rfl rfl hc1293 <| J.skip rfl rfl rfl rfl hc1293 <| J.skip rfl rfl rfl rfl hc1293 <| J.skip rfl rfl rfl rfl hc1293 <| jv (.bool true) (V.pickT rfl hc1293 rfl) <| J.nil ?_
         exact ⟨rfl, ⟨(by simp only [hc1293]; rfl), rfl, rfl, rfl, rfl, trivial⟩, rfl, rfl⟩
       refine J.run rfl rfl rfl hc1293 <| jv _ (V.fad Tryz.underlying61 rfl nz59 rfl) <| J.run rfl rfl rfl hc1293 <| jv (.slice ad1269 x1256.2.2.2.2.2.1.length cp1270) (V.ld rfl (Ld.sc sc59 (Rd.cl 0 rfl rfl))) <| J.run rfl rfl rfl hc1293 <| jv (ii (((x1256.2.2.2.2.2.1.length : Nat) : Int))) (V.len Tryz.underlying59 rfl) <| J.run rfl rfl rfl hc1293 ?_
       refine jv (.bool (decide (20 < (((x1256.2.2.2.2.2.1.length : Nat) : Int))))) (V.gtr rfl rfl) <| jv (.bool (decide (20 < (((x1256.2.2.2.2.2.1.length : Nat) : Int))))) (V.pickF rfl hc1293 rfl) <| J.nil ?_
       exact ⟨rfl, ⟨(by simp only [hc1293]; rfl), rfl, rfl, rfl, rfl, trivial⟩, rfl, rfl⟩
     intro ρ
     refine jm (.bool ((decide (20 < (((x1256.2.2.2.2.1.length : Nat) : Int)))) || (decide (20 < (((x1256.2.2.2.2.2.1.length : Nat) : Int)))))) rfl <| J.cut 5 <| jmeet [(101, .bool (((decide (20 < (((x1256.2.2.2.2.1.length : Nat) : Int)))) || (decide (20 < (((x1256.2.2.2.2.2.1.length : Nat) : Int))))) || (decide (20 < (((x1256.2.2.2.2.2.2.length : Nat) : Int)))))), (1, .pointer (some ⟨b652, 0, none⟩)), (5, ii (IntKind.wrap .i64 (i1204 + (((x1278.1.length : Nat) : Int))))), (6, ii i1205)] ?_ ?_
     · rcases bt ((decide (20 < (((x1256.2.2.2.2.1.length : Nat) : Int)))) || (decide (20 < (((x1256.2.2.2.2.2.1.length : Nat) : Int))))) with hc1296 | hc1296
       · refine J.skip rfl rfl rfl rfl hc1296 <| J.skip rfl rfl rfl rfl hc1296 <| J.skip rfl rfl rfl rfl hc1296 <| J.skip rfl rfl rfl rfl hc1296 <| jv (.bool true) (V.pickT rfl hc1296 rfl) <| J.nil ?_
         exact ⟨rfl, ⟨(by simp only [hc1296]; rfl), rfl, rfl, rfl, trivial⟩, rfl, rfl⟩
       refine J.run rfl rfl rfl hc1296 <| jv _ (V.fad Tryz.underlying61 rfl nz59 rfl) <| J.run rfl rfl rfl hc1296 <| jv (.slice ad1273 x1256.2.2.2.2.2.2.length cp1274) (V.ld rfl (Ld.sc sc59 (Rd.cl 0 rfl rfl))) <| J.run rfl rfl rfl hc1296 <| jv (ii (((x1256.2.2.2.2.2.2.length : Nat) : Int))) (V.len Tryz.underlying59 rfl) <| J.run rfl rfl rfl hc1296 ?_
       refine jv (.bool (decide (20 < (((x1256.2.2.2.2.2.2.length : Nat) : Int))))) (V.gtr rfl rfl) <| jv (.bool (decide (20 < (((x1256.2.2.2.2.2.2.length : Nat) : Int))))) (V.pickF rfl hc1296 rfl) <| J.nil ?_
       exact ⟨rfl, ⟨(by simp only [hc1296]; rfl), rfl, rfl, rfl, trivial⟩, rfl, rfl⟩
     intro ρ
     refine J.nil <| cc rfl h1251 (fun hc1297 h1251 => ?_) fun hc1297 h1251 => ?_
     · refine cr <| ja (.bool false) rfl <| J.nil <| CJ.ret ?_
       obtain rfl := si h1251
       refine ⟨nofun, fun e => ?_⟩
       subst e
       refine .inr ⟨nofun, ?_⟩
       obtain rfl := si h
       exact ⟨_, _, Res.one rfl rfl, ⟨false, rfl, rfl, rfl⟩, (Hp.le_refl _), fun w hs => (Sep.dropAt 0 rfl (Sep.dropAt 0 rfl hs))⟩
     refine CJ.skip <| CJ.region <| jm (ii i1205) rfl <| jv (ii (IntKind.wrap .i64 (i1205 + 1))) (V.add rfl rfl) <| ja (ii (IntKind.wrap .i64 (i1205 + 1))) rfl <| J.dropAt 0 rfl <| J.nil ?_
     obtain rfl := si h1251
     exact ⟨rfl, ⟨IntKind.wrap .i64 (i1204 + (((x1278.1.length : Nat) : Int))), IntKind.wrap .i64 (i1205 + 1), rfl, ⟨rfl, rfl, rfl, trivial⟩, rfl, rfl⟩⟩
   refine CJ.dropAt 0 rfl <| CJ.exit ?_
   obtain rfl := si h1251
   refine ⟨nofun, fun e => ?_⟩
   subst e
   exact .inl ⟨rfl, _, rfl, ⟨i1204, rfl, ⟨rfl, trivial⟩, rfl, rfl⟩⟩
 rintro s ρ _ _ ho1298 ⟨i1156, rfl, hf1299, rfl, rfl⟩
 subst ho1298
 obtain ⟨ρ, rfl⟩ := hf1299.ex
 refine PJ.done <| cr <| jm (ii i1156) rfl <| jv (.bool (decide (i1156 ≤ 24))) (V.leq rfl rfl) <| ja (.bool (decide (i1156 ≤ 24))) rfl <| J.nil ?_
 refine CJ.ret ?_
 obtain rfl := si h
 exact ⟨_, _, Res.one rfl rfl, ⟨decide (i1156 ≤ 24), rfl, rfl, rfl⟩, (Hp.le_refl _), fun w hs => hs⟩

noncomputable def fn_tick_Counter_Add_zii (xb : Int) (xc : Int) : Option Unit :=
  some (())
set_option maxRecDepth 100000 in
set_option maxHeartbeats 4000000 in
theorem tick_Counter_Add_zii_ok {K : Hp} {xb : Int} {xc : Int}   {r : Unit} (h : fn_tick_Counter_Add_zii xb xc = some r) :
    Tr Tryz.prog 24 #[.pointer none, ii xb, ii xc] K [] (fun v K' L' => (() = r ∧ .tuple #[] = v ∧ L' = []) ∧ K = K') := by
 refine Tr.k <| Tr.of Tryz.func24 rfl Tryz.ntmps24 rfl fun E F => ?_
 unfold fn_tick_Counter_Add_zii at h
 refine cr <| jm (.pointer none) rfl <| jv (.bool false) (Val.eq (V.pn_neq Tryz.underlying38 rfl rfl) rfl) <| jm (.bool false) rfl <| J.skip rfl rfl rfl rfl rfl <| J.skip rfl rfl rfl rfl rfl ?_
 refine jv (.bool false) (V.pickF rfl rfl rfl) <| jm (.bool false) rfl <| J.skip rfl rfl rfl rfl rfl <| J.skip rfl rfl rfl rfl rfl <| jv (.bool false) (V.pickF rfl rfl rfl) <| J.nil <| CJ.condK (b := false) rfl rfl ?_
 refine CJ.skip ?_
 obtain rfl := si h
 exact ⟨_, _, Res.zero rfl, ⟨rfl, rfl, rfl⟩, (Hp.le_refl _), fun w hs => hs⟩

noncomputable def fn_valid_head_az (xa : (Int × Int × (List (Int × Int)) × (List (List (Int × Bool))) × (List (Int × Bool)) × (List (Int × (List (Int × Int)) × (List (List (Int × Bool))) × (List (Int × Bool)))) × (List ((List (Int × Int × Int × Int × Bool)) × (Int × Int × Int × (List Int) × (List Int) × (List Int)))))) : Option (Int × Int × Int × Int) :=
  cond ((decide (xa.1 < 1)) || (decide (xa.2.1 < xa.1))) (some ((7, 0, 0, 0))) (cond (decide (65536 < xa.2.1)) (some ((6, 0, 0, 0))) (some ((0, 0, 0, 0))))
set_option maxRecDepth 100000 in
set_option maxHeartbeats 4000000 in
theorem valid_head_az_ok {K : Hp} {xa : (Int × Int × (List (Int × Int)) × (List (List (Int × Bool))) × (List (Int × Bool)) × (List (Int × (List (Int × Int)) × (List (List (Int × Bool))) × (List (Int × Bool)))) × (List ((List (Int × Int × Int × Int × Bool)) × (Int × Int × Int × (List Int) × (List Int) × (List Int)))))} {adxa_2 : Option Addr} {cpxa_2 : Nat} {adxa_3 : Option Addr} {cpxa_3 : Nat} {adxa_4 : Option Addr} {cpxa_4 : Nat} {adxa_5 : Option Addr} {cpxa_5 : Nat} {adxa_6 : Option Addr} {cpxa_6 : Nat} (fxa_2 : Is K (.sl (.cons (.int .i64) (.one (.int .i64)))) [.slice adxa_2 xa.2.2.1.length cpxa_2] xa.2.2.1) (fxa_3 : Is K (.sl (.one (.sl (.cons (.int .i64) (.one .bool))))) [.slice adxa_3 xa.2.2.2.1.length cpxa_3] xa.2.2.2.1) (fxa_4 : Is K (.sl (.cons (.int .i64) (.one .bool))) [.slice adxa_4 xa.2.2.2.2.1.length cpxa_4] xa.2.2.2.2.1) (fxa_5 : Is K (.sl (.cons (.int .i64) (.cons (.sl (.cons (.int .i64) (.one (.int .i64)))) (.cons (.sl (.one (.sl (.cons (.int .i64) (.one .bool))))) (.one (.one (.sl (.cons (.int .i64) (.one .bool))))))))) [.slice adxa_5 xa.2.2.2.2.2.1.length cpxa_5] xa.2.2.2.2.2.1) (fxa_6 : Is K (.sl (.cons (.sl (.cons (.int .i64) (.cons (.int .i64) (.cons (.int .i64) (.cons (.int .i64) (.one .bool)))))) (.one (.cons (.int .i64) (.cons (.int .i64) (.cons (.int .i64) (.cons (.sl (.int .i64)) (.cons (.sl (.int .i64)) (.one (.sl (.int .i64))))))))))) [.slice adxa_6 xa.2.2.2.2.2.2.length cpxa_6] xa.2.2.2.2.2.2) {r : (Int × Int × Int × Int)} (h : fn_valid_head_az xa = some r) :
    Tr Tryz.prog 69 #[.agg #[ii xa.1, ii xa.2.1, .slice adxa_2 xa.2.2.1.length cpxa_2, .slice adxa_3 xa.2.2.2.1.length cpxa_3, .slice adxa_4 xa.2.2.2.2.1.length cpxa_4, .slice adxa_5 xa.2.2.2.2.2.1.length cpxa_5, .slice adxa_6 xa.2.2.2.2.2.2.length cpxa_6], .pointer none] K [] (fun v K' L' => (∃ (i9 : Int) (i10 : Int) (i11 : Int) (i12 : Int), (i9, i10, i11, i12) = r ∧ .agg #[ii i9, ii i10, ii i11, ii i12] = v ∧ L' = []) ∧ K = K') := by
 refine Tr.k <| Tr.of Tryz.func69 rfl Tryz.ntmps69 rfl fun E F => ?_
 unfold fn_valid_head_az at h
 refine cr <| jbx [ii xa.1, ii xa.2.1, .slice adxa_2 xa.2.2.1.length cpxa_2, .slice adxa_3 xa.2.2.2.1.length cpxa_3, .slice adxa_4 xa.2.2.2.2.1.length cpxa_4, .slice adxa_5 xa.2.2.2.2.2.1.length cpxa_5, .slice adxa_6 xa.2.2.2.2.2.2.length cpxa_6] rfl rfl fun b13 => jal inf111 [ii 0, ii 0, ii 0, ii 0] rfl fun b14 => J.nil <| CJ.seq <| CJ.region ?_
 refine jv (.agg #[ii 0, ii 0, ii 0, ii 0]) (V.build inf111 places111 rfl rfl) <| jal inf111 [ii 0, ii 0, ii 0, ii 0] rfl fun b15 => js [ii 0, ii 0, ii 0, ii 0] sz111 rfl rfl rfl rfl rfl rfl <| J.nil <| CJ.seq <| CJ.block <| CJ.seq ?_
 refine CJ.region <| jv _ (V.fad Tryz.underlying30 rfl nz3 rfl) <| jv (ii xa.1) (V.ld rfl (Ld.sc sc3 (Rd.cl 2 rfl rfl))) <| jv (.bool (decide (xa.1 < 1))) (V.lss rfl rfl) <| jm (.bool (decide (xa.1 < 1))) rfl <| J.cut 6 <| jmeet [(17, .bool ((decide (xa.1 < 1)) || (decide (xa.2.1 < xa.1)))), (2, .pointer (some ⟨b13, 0, none⟩)), (4, .pointer (some ⟨b14, 0, none⟩)), (5, .pointer (some ⟨b15, 0, none⟩))] ?_ ?_
 · rcases bt (decide (xa.1 < 1)) with hc18 | hc18
   · refine J.skip rfl rfl rfl rfl hc18 <| J.skip rfl rfl rfl rfl hc18 <| J.skip rfl rfl rfl rfl hc18 <| J.skip rfl rfl rfl rfl hc18 <| J.skip rfl rfl rfl rfl hc18 <| jv (.bool true) (V.pickT rfl hc18 rfl) <| J.nil ?_
     exact ⟨rfl, ⟨(by simp only [hc18]; rfl), rfl, rfl, rfl, trivial⟩, rfl, rfl⟩
   refine J.run rfl rfl rfl hc18 <| jv _ (V.fad Tryz.underlying30 rfl nz3 rfl) <| J.run rfl rfl rfl hc18 <| jv (ii xa.2.1) (V.ld rfl (Ld.sc sc3 (Rd.cl 2 rfl rfl))) <| J.run rfl rfl rfl hc18 <| jv _ (V.fad Tryz.underlying30 rfl nz3 rfl) <| J.run rfl rfl rfl hc18 ?_
   refine jv (ii xa.1) (V.ld rfl (Ld.sc sc3 (Rd.cl 2 rfl rfl))) <| J.run rfl rfl rfl hc18 <| jv (.bool (decide (xa.2.1 < xa.1))) (V.lss rfl rfl) <| jv (.bool (decide (xa.2.1 < xa.1))) (V.pickF rfl hc18 rfl) <| J.nil ?_
   exact ⟨rfl, ⟨(by simp only [hc18]; rfl), rfl, rfl, rfl, trivial⟩, rfl, rfl⟩
 intro ρ
 refine ja (.bool ((decide (xa.1 < 1)) || (decide (xa.2.1 < xa.1)))) rfl <| J.nil <| cc rfl h (fun hc19 h => ?_) fun hc19 h => ?_
 · refine CJ.region <| jv _ (V.fad Tryz.underlying111 rfl nz88 rfl) <| js1 [ii 7, ii 0, ii 0, ii 0] sz88 rfl rfl rfl rfl rfl rfl <| J.nil <| cr <| jv (.agg #[ii 7, ii 0, ii 0, ii 0]) (V.ld rfl (Ld.agg (cs := [ii 7, ii 0, ii 0, ii 0]) Tryz.underlying111 sz111 rfl (Rd.cls 0 0 rfl rfl))) ?_
   refine J.front 1 rfl <| js [ii 7, ii 0, ii 0, ii 0] sz111 rfl rfl rfl rfl rfl rfl <| J.nil <| CJ.ret ?_
   obtain rfl := si h
   exact ⟨_, _, Res.one rfl ⟨_, _, rfl, Ld.agg (cs := [ii 7, ii 0, ii 0, ii 0]) Tryz.underlying111 sz111 rfl (Rd.cls 0 0 rfl rfl)⟩, ⟨7, 0, 0, 0, rfl, rfl, rfl⟩, (Hp.le_refl _), fun w hs => (Sep.dropAt 0 rfl (Sep.dropAt 0 rfl (Sep.dropAt 0 rfl hs)))⟩
 refine cr <| jv _ (V.fad Tryz.underlying30 rfl nz3 rfl) <| jv (ii xa.2.1) (V.ld rfl (Ld.sc sc3 (Rd.cl 2 rfl rfl))) <| jv (.bool (decide (65536 < xa.2.1))) (V.gtr rfl rfl) <| ja (.bool (decide (65536 < xa.2.1))) rfl <| J.nil ?_
 refine cc rfl h (fun hc20 h => ?_) fun hc20 h => ?_
 · refine CJ.region <| jv _ (V.fad Tryz.underlying111 rfl nz88 rfl) <| js1 [ii 6, ii 0, ii 0, ii 0] sz88 rfl rfl rfl rfl rfl rfl <| J.nil <| cr <| jv (.agg #[ii 6, ii 0, ii 0, ii 0]) (V.ld rfl (Ld.agg (cs := [ii 6, ii 0, ii 0, ii 0]) Tryz.underlying111 sz111 rfl (Rd.cls 0 0 rfl rfl))) ?_
   refine J.front 1 rfl <| js [ii 6, ii 0, ii 0, ii 0] sz111 rfl rfl rfl rfl rfl rfl <| J.nil <| CJ.ret ?_
   obtain rfl := si h
   exact ⟨_, _, Res.one rfl ⟨_, _, rfl, Ld.agg (cs := [ii 6, ii 0, ii 0, ii 0]) Tryz.underlying111 sz111 rfl (Rd.cls 0 0 rfl rfl)⟩, ⟨6, 0, 0, 0, rfl, rfl, rfl⟩, (Hp.le_refl _), fun w hs => (Sep.dropAt 0 rfl (Sep.dropAt 0 rfl (Sep.dropAt 0 rfl hs)))⟩
 refine CJ.skip <| cr <| jv (.agg #[ii 0, ii 0, ii 0, ii 0]) (V.ld rfl (Ld.agg (cs := [ii 0, ii 0, ii 0, ii 0]) Tryz.underlying111 sz111 rfl (Rd.cls 0 0 rfl rfl))) <| J.front 1 rfl <| js [ii 0, ii 0, ii 0, ii 0] sz111 rfl rfl rfl rfl rfl rfl <| J.nil ?_
 refine CJ.ret ?_
 obtain rfl := si h
 exact ⟨_, _, Res.one rfl ⟨_, _, rfl, Ld.agg (cs := [ii 0, ii 0, ii 0, ii 0]) Tryz.underlying111 sz111 rfl (Rd.cls 0 0 rfl rfl)⟩, ⟨0, 0, 0, 0, rfl, rfl, rfl⟩, (Hp.le_refl _), fun w hs => (Sep.dropAt 0 rfl (Sep.dropAt 0 rfl (Sep.dropAt 0 rfl hs)))⟩

noncomputable def fn_valid_bounds_1_ip0_iikkkkk (xa : Int) (qa0 : Int) (qa1 : Int) (qa2 : (List (Int × Int))) (qa3 : (List (List (Int × Bool)))) (qa4 : (List (Int × Bool))) (qa5 : (List (Int × (List (Int × Int)) × (List (List (Int × Bool))) × (List (Int × Bool))))) (qa6 : (List ((List (Int × Int × Int × Int × Bool)) × (Int × Int × Int × (List Int) × (List Int) × (List Int))))) : Option Bool :=
  some ((decide (0 ≤ xa)) && (decide (xa < qa0)))
set_option maxRecDepth 100000 in
set_option maxHeartbeats 4000000 in
theorem valid_bounds_1_ip0_iikkkkk_ok {K : Hp} {xa : Int} {qa0 : Int} {qa1 : Int} {qa2 : (List (Int × Int))} {qa3 : (List (List (Int × Bool)))} {qa4 : (List (Int × Bool))} {qa5 : (List (Int × (List (Int × Int)) × (List (List (Int × Bool))) × (List (Int × Bool))))} {qa6 : (List ((List (Int × Int × Int × Int × Bool)) × (Int × Int × Int × (List Int) × (List Int) × (List Int))))} {pba : Nat} {adqa2 : Option Addr} {cpqa2 : Nat} {adqa3 : Option Addr} {cpqa3 : Nat} {adqa4 : Option Addr} {cpqa4 : Nat} {adqa5 : Option Addr} {cpqa5 : Nat} {adqa6 : Option Addr} {cpqa6 : Nat} (fqa2 : Is K (.sl (.cons (.int .i64) (.one (.int .i64)))) [.slice adqa2 qa2.length cpqa2] qa2) (fqa3 : Is K (.sl (.one (.sl (.cons (.int .i64) (.one .bool))))) [.slice adqa3 qa3.length cpqa3] qa3) (fqa4 : Is K (.sl (.cons (.int .i64) (.one .bool))) [.slice adqa4 qa4.length cpqa4] qa4) (fqa5 : Is K (.sl (.cons (.int .i64) (.cons (.sl (.cons (.int .i64) (.one (.int .i64)))) (.cons (.sl (.one (.sl (.cons (.int .i64) (.one .bool))))) (.one (.one (.sl (.cons (.int .i64) (.one .bool))))))))) [.slice adqa5 qa5.length cpqa5] qa5) (fqa6 : Is K (.sl (.cons (.sl (.cons (.int .i64) (.cons (.int .i64) (.cons (.int .i64) (.cons (.int .i64) (.one .bool)))))) (.one (.cons (.int .i64) (.cons (.int .i64) (.cons (.int .i64) (.cons (.sl (.int .i64)) (.cons (.sl (.int .i64)) (.one (.sl (.int .i64))))))))))) [.slice adqa6 qa6.length cpqa6] qa6) {r : Bool} (h : fn_valid_bounds_1_ip0_iikkkkk xa qa0 qa1 qa2 qa3 qa4 qa5 qa6 = some r) :
    Tr Tryz.prog 87 #[ii xa, .pointer (some ⟨pba, 0, none⟩)] K [Cl pba 30 [ii qa0, ii qa1, .slice adqa2 qa2.length cpqa2, .slice adqa3 qa3.length cpqa3, .slice adqa4 qa4.length cpqa4, .slice adqa5 qa5.length cpqa5, .slice adqa6 qa6.length cpqa6]] (fun v K' L' => (∃ (t4 : Bool), t4 = r ∧ .bool t4 = v ∧ L' = [Cl pba 30 [ii qa0, ii qa1, .slice adqa2 qa2.length cpqa2, .slice adqa3 qa3.length cpqa3, .slice adqa4 qa4.length cpqa4, .slice adqa5 qa5.length cpqa5, .slice adqa6 qa6.length cpqa6]]) ∧ K = K') := by
 refine Tr.k <| Tr.of Tryz.func87 rfl Tryz.ntmps87 rfl fun E F => ?_
 unfold fn_valid_bounds_1_ip0_iikkkkk at h
 refine cr <| ja (.bool false) rfl <| J.nil <| cr <| jm (ii xa) rfl ?_
 refine jv (.bool (decide (0 ≤ xa))) (V.geq rfl rfl) <| jm (.bool (decide (0 ≤ xa))) rfl <| J.cut 5 <| jmeet [(11, .bool ((decide (0 ≤ xa)) && (decide (xa < qa0))))] ?_ ?_
 · rcases bt (decide (0 ≤ xa)) with hc7 | hc7
   · refine J.run rfl rfl rfl hc7 <| jm (ii xa) rfl <| J.run rfl rfl rfl hc7 <| jv _ (V.fad Tryz.underlying30 rfl nz3 rfl) <| J.run rfl rfl rfl hc7 <| jv (ii qa0) (V.ld rfl (Ld.sc sc3 (Rd.cl 0 rfl rfl))) <| J.run rfl rfl rfl hc7 ?_
     refine jv (.bool (decide (xa < qa0))) (V.lss rfl rfl) <| jv (.bool (decide (xa < qa0))) (V.pickT rfl hc7 rfl) <| J.nil ?_
     exact ⟨rfl, ⟨(by simp only [hc7]; rfl), trivial⟩, rfl, rfl⟩
   refine J.skip rfl rfl rfl rfl hc7 <| J.skip rfl rfl rfl rfl hc7 <| J.skip rfl rfl rfl rfl hc7 <| J.skip rfl rfl rfl rfl hc7 <| jv (.bool false) (V.pickF rfl hc7 rfl) <| J.nil ?_
   exact ⟨rfl, ⟨(by simp only [hc7]; rfl), trivial⟩, rfl, rfl⟩
 intro ρ
 refine ja (.bool ((decide (0 ≤ xa)) && (decide (xa < qa0)))) rfl <| J.nil <| CJ.ret ?_
 obtain rfl := si h
 exact ⟨_, _, Res.one rfl rfl, ⟨(decide (0 ≤ xa)) && (decide (xa < qa0)), rfl, rfl, rfl⟩, (Hp.le_refl _), fun w hs => hs⟩
noncomputable def fn_valid_bounds_az_l1 (xa : (Int × Int × (List (Int × Int)) × (List (List (Int × Bool))) × (List (Int × Bool)) × (List (Int × (List (Int × Int)) × (List (List (Int × Bool))) × (List (Int × Bool)))) × (List ((List (Int × Int × Int × Int × Bool)) × (Int × Int × Int × (List Int) × (List Int) × (List Int)))))) : Int → Option (Int ⊕ (Unit ⊕ (Int × Int × Int × Int))) := fun (i430 : Int) => cond (decide (i430 < (((xa.2.2.1.length : Nat) : Int)))) ((getI xa.2.2.1 i430).bind fun x476 => (fn_tick_Counter_Add_zii 1 1).bind fun _ => (fn_valid_bounds_1_ip0_iikkkkk x476.1 xa.1 xa.2.1 xa.2.2.1 xa.2.2.2.1 xa.2.2.2.2.1 xa.2.2.2.2.2.1 xa.2.2.2.2.2.2).bind fun t493 => (cond (!t493) (some (true)) ((fn_valid_bounds_1_ip0_iikkkkk x476.2 xa.1 xa.2.1 xa.2.2.1 xa.2.2.2.1 xa.2.2.2.2.1 xa.2.2.2.2.2.1 xa.2.2.2.2.2.2).bind fun t509 => some (!t509))).bind fun t504 => cond (t504) (some (.inr ((.inr ((7, 1, i430, 0)))))) (some (.inl (IntKind.wrap .i64 (i430 + 1))))) (some (.inr ((.inl ()))))
noncomputable def fn_valid_bounds_az (xa : (Int × Int × (List (Int × Int)) × (List (List (Int × Bool))) × (List (Int × Bool)) × (List (Int × (List (Int × Int)) × (List (List (Int × Bool))) × (List (Int × Bool)))) × (List ((List (Int × Int × Int × Int × Bool)) × (Int × Int × Int × (List Int) × (List Int) × (List Int)))))) : Option (Int × Int × Int × Int) :=
  cond (decide (65536 < (((xa.2.2.1.length : Nat) : Int)))) (some ((6, 1, 0, 0))) ((loop (fn_valid_bounds_az_l1 xa) 0 : Option (Unit ⊕ (Int × Int × Int × Int))).bind fun o => match o with | .inr r => some r | .inl () => some ((0, 0, 0, 0)))
set_option maxRecDepth 100000 in
set_option maxHeartbeats 4000000 in
theorem valid_bounds_az_ok {K : Hp} {xa : (Int × Int × (List (Int × Int)) × (List (List (Int × Bool))) × (List (Int × Bool)) × (List (Int × (List (Int × Int)) × (List (List (Int × Bool))) × (List (Int × Bool)))) × (List ((List (Int × Int × Int × Int × Bool)) × (Int × Int × Int × (List Int) × (List Int) × (List Int)))))} {adxa_2 : Option Addr} {cpxa_2 : Nat} {adxa_3 : Option Addr} {cpxa_3 : Nat} {adxa_4 : Option Addr} {cpxa_4 : Nat} {adxa_5 : Option Addr} {cpxa_5 : Nat} {adxa_6 : Option Addr} {cpxa_6 : Nat} (fxa_2 : Is K (.sl (.cons (.int .i64) (.one (.int .i64)))) [.slice adxa_2 xa.2.2.1.length cpxa_2] xa.2.2.1) (fxa_3 : Is K (.sl (.one (.sl (.cons (.int .i64) (.one .bool))))) [.slice adxa_3 xa.2.2.2.1.length cpxa_3] xa.2.2.2.1) (fxa_4 : Is K (.sl (.cons (.int .i64) (.one .bool))) [.slice adxa_4 xa.2.2.2.2.1.length cpxa_4] xa.2.2.2.2.1) (fxa_5 : Is K (.sl (.cons (.int .i64) (.cons (.sl (.cons (.int .i64) (.one (.int .i64)))) (.cons (.sl (.one (.sl (.cons (.int .i64) (.one .bool))))) (.one (.one (.sl (.cons (.int .i64) (.one .bool))))))))) [.slice adxa_5 xa.2.2.2.2.2.1.length cpxa_5] xa.2.2.2.2.2.1) (fxa_6 : Is K (.sl (.cons (.sl (.cons (.int .i64) (.cons (.int .i64) (.cons (.int .i64) (.cons (.int .i64) (.one .bool)))))) (.one (.cons (.int .i64) (.cons (.int .i64) (.cons (.int .i64) (.cons (.sl (.int .i64)) (.cons (.sl (.int .i64)) (.one (.sl (.int .i64))))))))))) [.slice adxa_6 xa.2.2.2.2.2.2.length cpxa_6] xa.2.2.2.2.2.2) {r : (Int × Int × Int × Int)} (h : fn_valid_bounds_az xa = some r) :
    Tr Tryz.prog 70 #[.agg #[ii xa.1, ii xa.2.1, .slice adxa_2 xa.2.2.1.length cpxa_2, .slice adxa_3 xa.2.2.2.1.length cpxa_3, .slice adxa_4 xa.2.2.2.2.1.length cpxa_4, .slice adxa_5 xa.2.2.2.2.2.1.length cpxa_5, .slice adxa_6 xa.2.2.2.2.2.2.length cpxa_6], .pointer none] K [] (fun v K' L' => (∃ (i257 : Int) (i258 : Int) (i259 : Int) (i260 : Int), (i257, i258, i259, i260) = r ∧ .agg #[ii i257, ii i258, ii i259, ii i260] = v ∧ L' = []) ∧ K = K') := by
 refine Tr.k <| Tr.of Tryz.func70 rfl Tryz.ntmps70 rfl fun E F => ?_
 unfold fn_valid_bounds_az at h
 refine cr <| jbx [ii xa.1, ii xa.2.1, .slice adxa_2 xa.2.2.1.length cpxa_2, .slice adxa_3 xa.2.2.2.1.length cpxa_3, .slice adxa_4 xa.2.2.2.2.1.length cpxa_4, .slice adxa_5 xa.2.2.2.2.2.1.length cpxa_5, .slice adxa_6 xa.2.2.2.2.2.2.length cpxa_6] rfl rfl fun b261 => jal inf111 [ii 0, ii 0, ii 0, ii 0] rfl fun b262 => J.nil <| CJ.seq <| CJ.seq ?_
 refine CJ.region <| jv _ (V.fad Tryz.underlying30 rfl nz22 rfl) <| jv (.slice adxa_2 xa.2.2.1.length cpxa_2) (V.ld rfl (Ld.sc sc22 (Rd.cl 1 rfl rfl))) <| jv (ii (((xa.2.2.1.length : Nat) : Int))) (V.len Tryz.underlying22 rfl) <| jv (.bool (decide (65536 < (((xa.2.2.1.length : Nat) : Int))))) (V.gtr rfl rfl) <| J.nil <| cc rfl h (fun hc263 h => ?_) fun hc263 h => ?_
 · refine cr <| jv (.agg #[ii 6, ii 1, ii 0, ii 0]) (V.build inf111 places111 rfl rfl) <| js [ii 6, ii 1, ii 0, ii 0] sz111 rfl rfl rfl rfl rfl rfl <| J.nil <| CJ.ret ?_
   obtain rfl := si h
   exact ⟨_, _, Res.one rfl ⟨_, _, rfl, Ld.agg (cs := [ii 6, ii 1, ii 0, ii 0]) Tryz.underlying111 sz111 rfl (Rd.cls 0 0 rfl rfl)⟩, ⟨6, 1, 0, 0, rfl, rfl, rfl⟩, (Hp.le_refl _), fun w hs => (Sep.dropAt 0 rfl (Sep.dropAt 0 rfl hs))⟩
 refine CJ.skip <| cr <| jv (.func (.func 87) #[] #[.pointer (some ⟨b261, 0, none⟩)]) (V.mkf rfl) <| ja (.func (.func 87) #[] #[.pointer (some ⟨b261, 0, none⟩)]) rfl <| J.nil <| CJ.seq ?_
 refine cr <| jv _ (V.fad Tryz.underlying30 rfl nz22 rfl) <| jv (.slice adxa_2 xa.2.2.1.length cpxa_2) (V.ld rfl (Ld.sc sc22 (Rd.cl 1 rfl rfl))) <| jv (ii (((xa.2.2.1.length : Nat) : Int))) (V.len Tryz.underlying22 rfl) <| jm (ii 0) rfl <| J.nil ?_
 obtain ⟨o388, ho389, h⟩ := ob h
 refine CJ.joinN (o := o388) (fun s ρ K' L' => () = s ∧ Fits [(4, .pointer (some ⟨b262, 0, none⟩))] ρ ∧ K = K' ∧ L' = Cl b262 111 [ii 0, ii 0, ii 0, ii 0] :: F) ?_ ?_
 · refine CJ.block <| CJ.loop (fun s ρ K' L' => ∃ (i430 : Int), i430 = s ∧ Fits [(1, .pointer none), (4, .pointer (some ⟨b262, 0, none⟩)), (5, .func (.func 87) #[] #[.pointer (some ⟨b261, 0, none⟩)]), (15, .slice adxa_2 xa.2.2.1.length cpxa_2), (16, ii (((xa.2.2.1.length : Nat) : Int))), (17, ii i430)] ρ ∧ K = K' ∧ L' = Cl b262 111 [ii 0, ii 0, ii 0, ii 0] :: Cl b261 30 [ii xa.1, ii xa.2.1, .slice adxa_2 xa.2.2.1.length cpxa_2, .slice adxa_3 xa.2.2.2.1.length cpxa_3, .slice adxa_4 xa.2.2.2.2.1.length cpxa_4, .slice adxa_5 xa.2.2.2.2.2.1.length cpxa_5, .slice adxa_6 xa.2.2.2.2.2.2.length cpxa_6] :: F) ho389 ⟨0, rfl, ⟨rfl, rfl, rfl, rfl, rfl, rfl, trivial⟩, rfl, rfl⟩ ?_
   rintro s ρ _ _ r474 ⟨i430, rfl, hf472, rfl, rfl⟩ h471
   obtain ⟨ρ, rfl⟩ := hf472.ex
   refine cr <| jv (.bool (decide (i430 < (((xa.2.2.1.length : Nat) : Int))))) (V.lss rfl rfl) <| J.nil <| CJ.seq <| cc rfl h471 (fun hc475 h471 => ?_) fun hc475 h471 => ?_
   · refine CJ.skip <| CJ.seq <| CJ.block <| cr <| jm (ii i430) rfl ?_
     obtain ⟨x476, hx477, h471⟩ := ob h471
     obtain ⟨p478, p479, p480⟩ := getI_some hx477
     obtain ⟨b481, o482, e483, a484⟩ := (fxa_2).at p479
     refine jv _ (V.iad Tryz.underlying22 sz83 rfl e483 rfl p478 p480) <| jv (.agg #[ii x476.1, ii x476.2]) (V.ld rfl (Ld.aggK (cs := [ii x476.1, ii x476.2]) Tryz.underlying83 sz83 rfl ⟨((a484).fst).int, (((a484).snd).one).int, trivial⟩ (Hp.le_refl _))) <| jal inf83 [ii 0, ii 0] rfl fun b485 => ja (ii i430) rfl <| js [ii x476.1, ii x476.2] sz83 rfl rfl rfl rfl rfl rfl <| J.nil <| CJ.seq ?_
     refine CJ.region <| jm (.pointer none) rfl ?_
     obtain ⟨r486, hr487, h471⟩ := ob h471
     refine J.op rfl (A.call (L1 := []) Tryz.call24 rfl (tick_Counter_Add_zii_ok hr487) rfl rfl) ?_
     rintro _ _ _ ⟨v488, _, rfl, ⟨⟨rfl, rfl, rfl⟩, rfl⟩, _, rfl⟩
     refine J.nil <| cr <| jm (.func (.func 87) #[] #[.pointer (some ⟨b261, 0, none⟩)]) rfl <| jv _ (V.fad Tryz.underlying83 rfl nz3 rfl) <| jv (ii x476.1) (V.ld rfl (Ld.sc sc3 (Rd.cl 0 rfl rfl))) ?_
     obtain ⟨r491, hr492, h471⟩ := ob h471
     refine J.front 2 rfl <| J.op rfl (A.call (L1 := [Cl b261 30 [ii xa.1, ii xa.2.1, .slice adxa_2 xa.2.2.1.length cpxa_2, .slice adxa_3 xa.2.2.2.1.length cpxa_3, .slice adxa_4 xa.2.2.2.2.1.length cpxa_4, .slice adxa_5 xa.2.2.2.2.2.1.length cpxa_5, .slice adxa_6 xa.2.2.2.2.2.2.length cpxa_6]]) Tryz.call87 rfl (valid_bounds_1_ip0_iikkkkk_ok fxa_2 fxa_3 fxa_4 fxa_5 fxa_6 hr492) rfl rfl) ?_
     rintro _ _ _ ⟨v494, _, rfl, ⟨⟨t493, rfl, rfl, rfl⟩, rfl⟩, _, rfl⟩
     refine jv (.bool (!t493)) (V.not rfl) <| jm (.bool (!t493)) rfl <| J.cut 6 ?_
     obtain ⟨t504, ht505, h471⟩ := ob h471
     refine jmeet [(35, .bool t504), (1, .pointer none), (4, .pointer (some ⟨b262, 0, none⟩)), (5, .func (.func 87) #[] #[.pointer (some ⟨b261, 0, none⟩)]), (6, ii i430), (15, .slice adxa_2 xa.2.2.1.length cpxa_2), (16, ii (((xa.2.2.1.length : Nat) : Int))), (17, ii i430)] ?_ ?_
     · rcases bt (!t493) with hc506 | hc506
       · have ht505 := ct hc506 ht505
         refine J.skip rfl rfl rfl rfl hc506 <| J.skip rfl rfl rfl rfl hc506 <| J.skip rfl rfl rfl rfl hc506 <| J.skip rfl rfl rfl rfl hc506 <| J.skip rfl rfl rfl rfl hc506 <| jv (.bool true) (V.pickT rfl hc506 rfl) <| J.nil ?_
         obtain rfl := si ht505
         exact ⟨rfl, ⟨rfl, rfl, rfl, rfl, rfl, rfl, rfl, rfl, trivial⟩, rfl, rfl⟩
       have ht505 := cf hc506 ht505
       refine J.run rfl rfl rfl hc506 <| jm (.func (.func 87) #[] #[.pointer (some ⟨b261, 0, none⟩)]) rfl <| J.run rfl rfl rfl hc506 <| jv _ (V.fad Tryz.underlying83 rfl nz3 rfl) <| J.run rfl rfl rfl hc506 <| jv (ii x476.2) (V.ld rfl (Ld.sc sc3 (Rd.cl 1 rfl rfl))) <| J.run rfl rfl rfl hc506 ?_
       obtain ⟨r507, hr508, ht505⟩ := ob ht505
       refine J.op rfl (A.call (L1 := [Cl b261 30 [ii xa.1, ii xa.2.1, .slice adxa_2 xa.2.2.1.length cpxa_2, .slice adxa_3 xa.2.2.2.1.length cpxa_3, .slice adxa_4 xa.2.2.2.2.1.length cpxa_4, .slice adxa_5 xa.2.2.2.2.2.1.length cpxa_5, .slice adxa_6 xa.2.2.2.2.2.2.length cpxa_6]]) Tryz.call87 rfl (valid_bounds_1_ip0_iikkkkk_ok fxa_2 fxa_3 fxa_4 fxa_5 fxa_6 hr508) rfl rfl) ?_
       rintro _ _ _ ⟨v510, _, rfl, ⟨⟨t509, rfl, rfl, rfl⟩, rfl⟩, _, rfl⟩
       refine J.run rfl rfl rfl hc506 <| jv (.bool (!t509)) (V.not rfl) <| jv (.bool (!t509)) (V.pickF rfl hc506 rfl) <| J.nil ?_
       obtain rfl := si ht505
       exact ⟨rfl, ⟨rfl, rfl, rfl, rfl, rfl, rfl, rfl, rfl, trivial⟩, rfl, rfl⟩
     intro ρ
     refine J.nil <| cc rfl h471 (fun hc513 h471 => ?_) fun hc513 h471 => ?_
     · refine cr <| jm (ii i430) rfl <| jv (.agg #[ii 7, ii 1, ii i430, ii 0]) (V.build inf111 places111 rfl rfl) <| J.front 2 rfl <| js [ii 7, ii 1, ii i430, ii 0] sz111 rfl rfl rfl rfl rfl rfl <| J.nil ?_
       refine CJ.ret ?_
       obtain rfl := si h471
       refine ⟨nofun, fun e => ?_⟩
       subst e
       refine .inr ⟨nofun, ?_⟩
       obtain rfl := si h
       exact ⟨_, _, Res.one rfl ⟨_, _, rfl, Ld.agg (cs := [ii 7, ii 1, ii i430, ii 0]) Tryz.underlying111 sz111 rfl (Rd.cls 0 0 rfl rfl)⟩, ⟨7, 1, i430, 0, rfl, rfl, rfl⟩, (Hp.le_refl _), fun w hs => (Sep.dropAt 0 rfl (Sep.dropAt 0 rfl (Sep.dropAt 0 rfl hs)))⟩
     refine CJ.skip <| CJ.region <| jv (ii (IntKind.wrap .i64 (i430 + 1))) (V.add rfl rfl) <| jm (ii (IntKind.wrap .i64 (i430 + 1))) rfl <| J.dropAt 1 rfl <| J.front 1 rfl <| J.nil ?_
     obtain rfl := si h471
     exact ⟨rfl, ⟨IntKind.wrap .i64 (i430 + 1), rfl, ⟨rfl, rfl, rfl, rfl, rfl, rfl, trivial⟩, rfl, rfl⟩⟩
   refine CJ.dropAt 1 rfl <| CJ.exit ?_
   obtain rfl := si h471
   refine ⟨nofun, fun e => ?_⟩
   subst e
   exact .inl ⟨rfl, _, rfl, ⟨rfl, ⟨rfl, trivial⟩, rfl, rfl⟩⟩
 rintro s ρ _ _ ho514 ⟨rfl, hf515, rfl, rfl⟩
 subst ho514
 obtain ⟨ρ, rfl⟩ := hf515.ex
 refine PJ.done <| cr <| jv (.agg #[ii 0, ii 0, ii 0, ii 0]) (V.build inf111 places111 rfl rfl) <| js [ii 0, ii 0, ii 0, ii 0] sz111 rfl rfl rfl rfl rfl rfl <| J.nil <| CJ.ret ?_
 obtain rfl := si h
 exact ⟨_, _, Res.one rfl ⟨_, _, rfl, Ld.agg (cs := [ii 0, ii 0, ii 0, ii 0]) Tryz.underlying111 sz111 rfl (Rd.cls 0 0 rfl rfl)⟩, ⟨0, 0, 0, 0, rfl, rfl, rfl⟩, (Hp.le_refl _), fun w hs => (Sep.dropAt 0 rfl hs)⟩

noncomputable def fn_row_within_1_ap0_i (xa : (Int × Bool)) (qa0 : Int) : Option Bool :=
  some ((decide (xa.1 < 0)) || (decide (qa0 ≤ xa.1)))
set_option maxRecDepth 100000 in
set_option maxHeartbeats 4000000 in
theorem row_within_1_ap0_i_ok {K : Hp} {xa : (Int × Bool)} {qa0 : Int} {pba : Nat}  {r : Bool} (h : fn_row_within_1_ap0_i xa qa0 = some r) :
    Tr Tryz.prog 116 #[.agg #[ii xa.1, .bool xa.2], .pointer (some ⟨pba, 0, none⟩)] K [Cl pba 3 [ii qa0]] (fun v K' L' => (∃ (t5 : Bool), t5 = r ∧ .bool t5 = v ∧ L' = [Cl pba 3 [ii qa0]]) ∧ K = K') := by
 refine Tr.k <| Tr.of Tryz.func116 rfl Tryz.ntmps116 rfl fun E F => ?_
 unfold fn_row_within_1_ap0_i at h
 refine cr <| jbx [ii xa.1, .bool xa.2] rfl rfl fun b6 => ja (.bool false) rfl <| J.nil <| CJ.seq <| CJ.region ?_
 refine jv _ (V.fad Tryz.underlying72 rfl nz3 rfl) <| jv (ii xa.1) (V.ld rfl (Ld.sc sc3 (Rd.cl 0 rfl rfl))) <| jv (.bool (decide (xa.1 < 0))) (V.lss rfl rfl) <| jm (.bool (decide (xa.1 < 0))) rfl <| J.cut 5 <| jmeet [(12, .bool ((decide (xa.1 < 0)) || (decide (qa0 ≤ xa.1))))] ?_ ?_
 · rcases bt (decide (xa.1 < 0)) with hc9 | hc9
   · refine J.skip rfl rfl rfl rfl hc9 <| J.skip rfl rfl rfl rfl hc9 <| J.skip rfl rfl rfl rfl hc9 <| J.skip rfl rfl rfl rfl hc9 <| jv (.bool true) (V.pickT rfl hc9 rfl) <| J.nil ?_
     exact ⟨rfl, ⟨(by simp only [hc9]; rfl), trivial⟩, rfl, rfl⟩
   refine J.run rfl rfl rfl hc9 <| jv _ (V.fad Tryz.underlying72 rfl nz3 rfl) <| J.run rfl rfl rfl hc9 <| jv (ii xa.1) (V.ld rfl (Ld.sc sc3 (Rd.cl 0 rfl rfl))) <| J.run rfl rfl rfl hc9 <| jv (ii qa0) (V.ld rfl (Ld.sc sc3 (Rd.cl 1 rfl rfl))) <| J.run rfl rfl rfl hc9 ?_
   refine jv (.bool (decide (qa0 ≤ xa.1))) (V.geq rfl rfl) <| jv (.bool (decide (qa0 ≤ xa.1))) (V.pickF rfl hc9 rfl) <| J.nil ?_
   exact ⟨rfl, ⟨(by simp only [hc9]; rfl), trivial⟩, rfl, rfl⟩
 intro ρ
 refine ja (.bool ((decide (xa.1 < 0)) || (decide (qa0 ≤ xa.1)))) rfl <| J.nil <| CJ.ret ?_
 obtain rfl := si h
 exact ⟨_, _, Res.one rfl rfl, ⟨(decide (xa.1 < 0)) || (decide (qa0 ≤ xa.1)), rfl, rfl, rfl⟩, (Hp.le_refl _), fun w hs => (Sep.dropAt 0 rfl hs)⟩
noncomputable def fn_slices_IndexFunc_api_Slot_api_Slot_k_row_within_1_p0_i_l1 (xa : (List (Int × Bool))) (qa0 : Int) : Int → Option (Int ⊕ (Unit ⊕ Int)) := fun (i201 : Int) => cond (decide (i201 < (((xa.length : Nat) : Int)))) ((getI xa i201).bind fun x225 => (fn_row_within_1_ap0_i (x225.1, x225.2) qa0).bind fun t236 => cond (t236) (some (.inr ((.inr (i201))))) (some (.inl (IntKind.wrap .i64 (i201 + 1))))) (some (.inr ((.inl ()))))
noncomputable def fn_slices_IndexFunc_api_Slot_api_Slot_k_row_within_1_p0_i (xa : (List (Int × Bool))) (qa0 : Int) : Option Int :=
  (loop (fn_slices_IndexFunc_api_Slot_api_Slot_k_row_within_1_p0_i_l1 xa qa0) 0 : Option (Unit ⊕ Int)).bind fun o => match o with | .inr r => some r | .inl () => some ((-1))
set_option maxRecDepth 100000 in
set_option maxHeartbeats 4000000 in
theorem slices_IndexFunc_api_Slot_api_Slot_k_row_within_1_p0_i_ok {K : Hp} {xa : (List (Int × Bool))} {qa0 : Int} {pba : Nat} {adxa_0 : Option Addr} {cpxa_0 : Nat} (fxa_0 : Is K (.sl (.cons (.int .i64) (.one .bool))) [.slice adxa_0 xa.length cpxa_0] xa) {r : Int} (h : fn_slices_IndexFunc_api_Slot_api_Slot_k_row_within_1_p0_i xa qa0 = some r) :
    Tr Tryz.prog 117 #[.slice adxa_0 xa.length cpxa_0, .func (.func 116) #[] #[.pointer (some ⟨pba, 0, none⟩)]] K [Cl pba 3 [ii qa0]] (fun v K' L' => (∃ (i122 : Int), i122 = r ∧ ii i122 = v ∧ L' = [Cl pba 3 [ii qa0]]) ∧ K = K') := by
 refine Tr.k <| Tr.of Tryz.func117 rfl Tryz.ntmps117 rfl fun E F => ?_
 unfold fn_slices_IndexFunc_api_Slot_api_Slot_k_row_within_1_p0_i at h
 refine cr <| ja (ii 0) rfl <| J.nil <| CJ.seq <| CJ.seq <| CJ.region ?_
 refine jm (.slice adxa_0 xa.length cpxa_0) rfl <| jv (ii (((xa.length : Nat) : Int))) (V.len Tryz.underlying24 rfl) <| jm (ii 0) rfl <| J.nil ?_
 obtain ⟨o181, ho182, h⟩ := ob h
 refine CJ.joinN (o := o181) (fun s ρ K' L' => () = s ∧ Fits [] ρ ∧ K = K' ∧ L' = Cl pba 3 [ii qa0] :: F) ?_ ?_
 · refine CJ.block <| CJ.loop (fun s ρ K' L' => ∃ (i201 : Int), i201 = s ∧ Fits [(0, .slice adxa_0 xa.length cpxa_0), (1, .func (.func 116) #[] #[.pointer (some ⟨pba, 0, none⟩)]), (7, ii (((xa.length : Nat) : Int))), (8, ii i201)] ρ ∧ K = K' ∧ L' = Cl pba 3 [ii qa0] :: F) ho182 ⟨0, rfl, ⟨rfl, rfl, rfl, rfl, trivial⟩, rfl, rfl⟩ ?_
   rintro s ρ _ _ r223 ⟨i201, rfl, hf221, rfl, rfl⟩ h220
   obtain ⟨ρ, rfl⟩ := hf221.ex
   refine cr <| jv (.bool (decide (i201 < (((xa.length : Nat) : Int))))) (V.lss rfl rfl) <| J.nil <| CJ.seq <| cc rfl h220 (fun hc224 h220 => ?_) fun hc224 h220 => ?_
   · refine CJ.skip <| CJ.seq <| CJ.block <| cr <| jm (ii i201) rfl <| ja (ii i201) rfl ?_
     refine J.nil <| cr <| jm (.func (.func 116) #[] #[.pointer (some ⟨pba, 0, none⟩)]) rfl <| jm (.slice adxa_0 xa.length cpxa_0) rfl <| jm (ii i201) rfl ?_
     obtain ⟨x225, hx226, h220⟩ := ob h220
     obtain ⟨p227, p228, p229⟩ := getI_some hx226
     obtain ⟨b230, o231, e232, a233⟩ := (fxa_0).at p228
     refine jv _ (V.iad Tryz.underlying24 sz72 rfl e232 rfl p227 p229) <| jv (.agg #[ii x225.1, .bool x225.2]) (V.ld rfl (Ld.aggK (cs := [ii x225.1, .bool x225.2]) Tryz.underlying72 sz72 rfl ⟨((a233).fst).int, (((a233).snd).one).bool, trivial⟩ (Hp.le_refl _))) ?_
     obtain ⟨r234, hr235, h220⟩ := ob h220
     refine J.op rfl (A.call (L1 := [Cl pba 3 [ii qa0]]) Tryz.call116 rfl (row_within_1_ap0_i_ok hr235) rfl rfl) ?_
     rintro _ _ _ ⟨v237, _, rfl, ⟨⟨t236, rfl, rfl, rfl⟩, rfl⟩, _, rfl⟩
     refine J.nil <| cc rfl h220 (fun hc240 h220 => ?_) fun hc240 h220 => ?_
     · refine cr <| jm (ii i201) rfl <| ja (ii i201) rfl <| J.nil <| CJ.ret ?_
       obtain rfl := si h220
       refine ⟨nofun, fun e => ?_⟩
       subst e
       refine .inr ⟨nofun, ?_⟩
       obtain rfl := si h
       exact ⟨_, _, Res.one rfl rfl, ⟨i201, rfl, rfl, rfl⟩, (Hp.le_refl _), fun w hs => hs⟩
     refine CJ.skip <| CJ.region <| jv (ii (IntKind.wrap .i64 (i201 + 1))) (V.add rfl rfl) <| jm (ii (IntKind.wrap .i64 (i201 + 1))) rfl <| J.nil ?_
     obtain rfl := si h220
     exact ⟨rfl, ⟨IntKind.wrap .i64 (i201 + 1), rfl, ⟨rfl, rfl, rfl, rfl, trivial⟩, rfl, rfl⟩⟩
   refine CJ.exit ?_
   obtain rfl := si h220
   refine ⟨nofun, fun e => ?_⟩
   subst e
   exact .inl ⟨rfl, _, rfl, ⟨rfl, trivial, rfl, rfl⟩⟩
 rintro s ρ _ _ ho241 ⟨rfl, hf242, rfl, rfl⟩
 subst ho241
 obtain ⟨ρ, rfl⟩ := hf242.ex
 refine PJ.done <| cr <| ja (ii (-1)) rfl <| J.nil <| CJ.ret ?_
 obtain rfl := si h
 exact ⟨_, _, Res.one rfl rfl, ⟨(-1), rfl, rfl, rfl⟩, (Hp.le_refl _), fun w hs => hs⟩

noncomputable def fn_slices_ContainsFunc_api_Slot_api_Slot_k_row_within_1_p0_i (xa : (List (Int × Bool))) (qa0 : Int) : Option Bool :=
  (fn_slices_IndexFunc_api_Slot_api_Slot_k_row_within_1_p0_i xa qa0).bind fun i10 => some (decide (0 ≤ i10))
set_option maxRecDepth 100000 in
set_option maxHeartbeats 4000000 in
theorem slices_ContainsFunc_api_Slot_api_Slot_k_row_within_1_p0_i_ok {K : Hp} {xa : (List (Int × Bool))} {qa0 : Int} {pba : Nat} {adxa_0 : Option Addr} {cpxa_0 : Nat} (fxa_0 : Is K (.sl (.cons (.int .i64) (.one .bool))) [.slice adxa_0 xa.length cpxa_0] xa) {r : Bool} (h : fn_slices_ContainsFunc_api_Slot_api_Slot_k_row_within_1_p0_i xa qa0 = some r) :
    Tr Tryz.prog 109 #[.slice adxa_0 xa.length cpxa_0, .func (.func 116) #[] #[.pointer (some ⟨pba, 0, none⟩)]] K [Cl pba 3 [ii qa0]] (fun v K' L' => (∃ (t7 : Bool), t7 = r ∧ .bool t7 = v ∧ L' = [Cl pba 3 [ii qa0]]) ∧ K = K') := by
 refine Tr.k <| Tr.of Tryz.func109 rfl Tryz.ntmps109 rfl fun E F => ?_
 unfold fn_slices_ContainsFunc_api_Slot_api_Slot_k_row_within_1_p0_i at h
 refine cr <| ja (.bool false) rfl <| J.nil <| cr <| jm (.slice adxa_0 xa.length cpxa_0) rfl ?_
 refine jm (.func (.func 116) #[] #[.pointer (some ⟨pba, 0, none⟩)]) rfl ?_
 obtain ⟨r8, hr9, h⟩ := ob h
 refine J.op rfl (A.call (L1 := [Cl pba 3 [ii qa0]]) Tryz.call117 rfl (slices_IndexFunc_api_Slot_api_Slot_k_row_within_1_p0_i_ok fxa_0 hr9) rfl rfl) ?_
 rintro _ _ _ ⟨v11, _, rfl, ⟨⟨i10, rfl, rfl, rfl⟩, rfl⟩, _, rfl⟩
 refine jv (.bool (decide (0 ≤ i10))) (V.geq rfl rfl) <| ja (.bool (decide (0 ≤ i10))) rfl <| J.nil <| CJ.ret ?_
 obtain rfl := si h
 exact ⟨_, _, Res.one rfl rfl, ⟨decide (0 ≤ i10), rfl, rfl, rfl⟩, (Hp.le_refl _), fun w hs => hs⟩

noncomputable def fn_row_within (xa : (List (Int × Bool))) (xb : Int) : Option Bool :=
  (fn_slices_ContainsFunc_api_Slot_api_Slot_k_row_within_1_p0_i xa xb).bind fun t14 => some (!t14)
set_option maxRecDepth 100000 in
set_option maxHeartbeats 4000000 in
theorem row_within_ok {K : Hp} {xa : (List (Int × Bool))} {xb : Int} {adxa_0 : Option Addr} {cpxa_0 : Nat} (fxa_0 : Is K (.sl (.cons (.int .i64) (.one .bool))) [.slice adxa_0 xa.length cpxa_0] xa) {r : Bool} (h : fn_row_within xa xb = some r) :
    Tr Tryz.prog 105 #[.agg #[.slice adxa_0 xa.length cpxa_0], ii xb] K [] (fun v K' L' => (∃ (t9 : Bool), t9 = r ∧ .bool t9 = v ∧ L' = []) ∧ K = K') := by
 refine Tr.k <| Tr.of Tryz.func105 rfl Tryz.ntmps105 rfl fun E F => ?_
 unfold fn_row_within at h
 refine cr <| jbx [.slice adxa_0 xa.length cpxa_0] rfl rfl fun b10 => jbx [ii xb] rfl rfl fun b11 => ja (.bool false) rfl <| J.nil <| CJ.seq ?_
 refine CJ.region <| jv _ (V.fad Tryz.underlying26 rfl nz24 rfl) <| jv (.slice adxa_0 xa.length cpxa_0) (V.ld rfl (Ld.sc sc24 (Rd.cl 1 rfl rfl))) <| jv (.func (.func 116) #[] #[.pointer (some ⟨b11, 0, none⟩)]) (V.mkf rfl) ?_
 obtain ⟨r12, hr13, h⟩ := ob h
 refine J.op rfl (A.call (L1 := [Cl b11 3 [ii xb]]) Tryz.call109 rfl (slices_ContainsFunc_api_Slot_api_Slot_k_row_within_1_p0_i_ok fxa_0 hr13) rfl rfl) ?_
 rintro _ _ _ ⟨v15, _, rfl, ⟨⟨t14, rfl, rfl, rfl⟩, rfl⟩, _, rfl⟩
 refine jv (.bool (!t14)) (V.not rfl) <| ja (.bool (!t14)) rfl <| J.nil <| CJ.ret ?_
 obtain rfl := si h
 exact ⟨_, _, Res.one rfl rfl, ⟨!t14, rfl, rfl, rfl⟩, (Hp.le_refl _), fun w hs => (Sep.dropAt 0 rfl (Sep.dropAt 0 rfl hs))⟩

noncomputable def fn_row_Check (xa : (List (Int × Bool))) (xb : Int) : Option Int :=
  cond (decide (16 < (((xa.length : Nat) : Int)))) (some (6)) ((fn_row_within xa xb).bind fun t15 => cond (!t15) (some (7)) (some (0)))
set_option maxRecDepth 100000 in
set_option maxHeartbeats 4000000 in
theorem row_Check_ok {K : Hp} {xa : (List (Int × Bool))} {xb : Int} {adxa_0 : Option Addr} {cpxa_0 : Nat} (fxa_0 : Is K (.sl (.cons (.int .i64) (.one .bool))) [.slice adxa_0 xa.length cpxa_0] xa) {r : Int} (h : fn_row_Check xa xb = some r) :
    Tr Tryz.prog 88 #[.agg #[.slice adxa_0 xa.length cpxa_0], ii xb] K [] (fun v K' L' => (∃ (i10 : Int), i10 = r ∧ ii i10 = v ∧ L' = []) ∧ K = K') := by
 refine Tr.k <| Tr.of Tryz.func88 rfl Tryz.ntmps88 rfl fun E F => ?_
 unfold fn_row_Check at h
 refine cr <| jbx [.slice adxa_0 xa.length cpxa_0] rfl rfl fun b11 => ja (ii 0) rfl <| J.nil <| CJ.seq <| CJ.seq ?_
 refine CJ.region <| jv _ (V.fad Tryz.underlying26 rfl nz24 rfl) <| jv (.slice adxa_0 xa.length cpxa_0) (V.ld rfl (Ld.sc sc24 (Rd.cl 0 rfl rfl))) <| jv (ii (((xa.length : Nat) : Int))) (V.len Tryz.underlying24 rfl) <| jv (.bool (decide (16 < (((xa.length : Nat) : Int))))) (V.gtr rfl rfl) <| J.nil <| cc rfl h (fun hc12 h => ?_) fun hc12 h => ?_
 · refine cr <| ja (ii 6) rfl <| J.nil <| CJ.ret ?_
   obtain rfl := si h
   exact ⟨_, _, Res.one rfl rfl, ⟨6, rfl, rfl, rfl⟩, (Hp.le_refl _), fun w hs => (Sep.dropAt 0 rfl hs)⟩
 refine CJ.skip <| CJ.seq <| cr <| jv (.agg #[.slice adxa_0 xa.length cpxa_0]) (V.ld rfl (Ld.agg (cs := [.slice adxa_0 xa.length cpxa_0]) Tryz.underlying26 sz26 rfl (Rd.cls 0 0 rfl rfl))) <| jm (ii xb) rfl ?_
 obtain ⟨r13, hr14, h⟩ := ob h
 refine J.op rfl (A.call (L1 := []) Tryz.call105 rfl (row_within_ok fxa_0 hr14) rfl rfl) ?_
 rintro _ _ _ ⟨v16, _, rfl, ⟨⟨t15, rfl, rfl, rfl⟩, rfl⟩, _, rfl⟩
 refine jv (.bool (!t15)) (V.not rfl) <| J.nil <| cc rfl h (fun hc19 h => ?_) fun hc19 h => ?_
 · refine cr <| ja (ii 7) rfl <| J.nil <| CJ.ret ?_
   obtain rfl := si h
   exact ⟨_, _, Res.one rfl rfl, ⟨7, rfl, rfl, rfl⟩, (Hp.le_refl _), fun w hs => (Sep.dropAt 0 rfl hs)⟩
 refine CJ.skip <| cr <| ja (ii 0) rfl <| J.nil <| CJ.ret ?_
 obtain rfl := si h
 exact ⟨_, _, Res.one rfl rfl, ⟨0, rfl, rfl, rfl⟩, (Hp.le_refl _), fun w hs => (Sep.dropAt 0 rfl hs)⟩
noncomputable def fn_valid_locals_az_l1 (xa : (Int × Int × (List (Int × Int)) × (List (List (Int × Bool))) × (List (Int × Bool)) × (List (Int × (List (Int × Int)) × (List (List (Int × Bool))) × (List (Int × Bool)))) × (List ((List (Int × Int × Int × Int × Bool)) × (Int × Int × Int × (List Int) × (List Int) × (List Int)))))) : Int → Option (Int ⊕ (Unit ⊕ (Int × Int × Int × Int))) := fun (i313 : Int) => cond (decide (i313 < (((xa.2.2.2.1.length : Nat) : Int)))) ((getI xa.2.2.2.1 i313).bind fun x347 => (fn_tick_Counter_Add_zii 1 1).bind fun _ => (fn_row_Check x347 xa.2.1).bind fun i368 => cond (!decide (i368 = 0)) (some (.inr ((.inr ((i368, 2, i313, 0)))))) (some (.inl (IntKind.wrap .i64 (i313 + 1))))) (some (.inr ((.inl ()))))
noncomputable def fn_valid_locals_az (xa : (Int × Int × (List (Int × Int)) × (List (List (Int × Bool))) × (List (Int × Bool)) × (List (Int × (List (Int × Int)) × (List (List (Int × Bool))) × (List (Int × Bool)))) × (List ((List (Int × Int × Int × Int × Bool)) × (Int × Int × Int × (List Int) × (List Int) × (List Int)))))) : Option (Int × Int × Int × Int) :=
  cond (decide ((((xa.2.2.2.1.length : Nat) : Int)) = 0)) (some ((14, 2, 0, 0))) (cond (decide (65536 < (((xa.2.2.2.1.length : Nat) : Int)))) (some ((6, 2, 0, 0))) ((loop (fn_valid_locals_az_l1 xa) 0 : Option (Unit ⊕ (Int × Int × Int × Int))).bind fun o => match o with | .inr r => some r | .inl () => some ((0, 0, 0, 0))))
set_option maxRecDepth 100000 in
set_option maxHeartbeats 4000000 in
theorem valid_locals_az_ok {K : Hp} {xa : (Int × Int × (List (Int × Int)) × (List (List (Int × Bool))) × (List (Int × Bool)) × (List (Int × (List (Int × Int)) × (List (List (Int × Bool))) × (List (Int × Bool)))) × (List ((List (Int × Int × Int × Int × Bool)) × (Int × Int × Int × (List Int) × (List Int) × (List Int)))))} {adxa_2 : Option Addr} {cpxa_2 : Nat} {adxa_3 : Option Addr} {cpxa_3 : Nat} {adxa_4 : Option Addr} {cpxa_4 : Nat} {adxa_5 : Option Addr} {cpxa_5 : Nat} {adxa_6 : Option Addr} {cpxa_6 : Nat} (fxa_2 : Is K (.sl (.cons (.int .i64) (.one (.int .i64)))) [.slice adxa_2 xa.2.2.1.length cpxa_2] xa.2.2.1) (fxa_3 : Is K (.sl (.one (.sl (.cons (.int .i64) (.one .bool))))) [.slice adxa_3 xa.2.2.2.1.length cpxa_3] xa.2.2.2.1) (fxa_4 : Is K (.sl (.cons (.int .i64) (.one .bool))) [.slice adxa_4 xa.2.2.2.2.1.length cpxa_4] xa.2.2.2.2.1) (fxa_5 : Is K (.sl (.cons (.int .i64) (.cons (.sl (.cons (.int .i64) (.one (.int .i64)))) (.cons (.sl (.one (.sl (.cons (.int .i64) (.one .bool))))) (.one (.one (.sl (.cons (.int .i64) (.one .bool))))))))) [.slice adxa_5 xa.2.2.2.2.2.1.length cpxa_5] xa.2.2.2.2.2.1) (fxa_6 : Is K (.sl (.cons (.sl (.cons (.int .i64) (.cons (.int .i64) (.cons (.int .i64) (.cons (.int .i64) (.one .bool)))))) (.one (.cons (.int .i64) (.cons (.int .i64) (.cons (.int .i64) (.cons (.sl (.int .i64)) (.cons (.sl (.int .i64)) (.one (.sl (.int .i64))))))))))) [.slice adxa_6 xa.2.2.2.2.2.2.length cpxa_6] xa.2.2.2.2.2.2) {r : (Int × Int × Int × Int)} (h : fn_valid_locals_az xa = some r) :
    Tr Tryz.prog 71 #[.agg #[ii xa.1, ii xa.2.1, .slice adxa_2 xa.2.2.1.length cpxa_2, .slice adxa_3 xa.2.2.2.1.length cpxa_3, .slice adxa_4 xa.2.2.2.2.1.length cpxa_4, .slice adxa_5 xa.2.2.2.2.2.1.length cpxa_5, .slice adxa_6 xa.2.2.2.2.2.2.length cpxa_6], .pointer none] K [] (fun v K' L' => (∃ (i187 : Int) (i188 : Int) (i189 : Int) (i190 : Int), (i187, i188, i189, i190) = r ∧ .agg #[ii i187, ii i188, ii i189, ii i190] = v ∧ L' = []) ∧ K = K') := by
 refine Tr.k <| Tr.of Tryz.func71 rfl Tryz.ntmps71 rfl fun E F => ?_
 unfold fn_valid_locals_az at h
 refine cr <| jbx [ii xa.1, ii xa.2.1, .slice adxa_2 xa.2.2.1.length cpxa_2, .slice adxa_3 xa.2.2.2.1.length cpxa_3, .slice adxa_4 xa.2.2.2.2.1.length cpxa_4, .slice adxa_5 xa.2.2.2.2.2.1.length cpxa_5, .slice adxa_6 xa.2.2.2.2.2.2.length cpxa_6] rfl rfl fun b191 => jal inf111 [ii 0, ii 0, ii 0, ii 0] rfl fun b192 => J.nil <| CJ.seq <| CJ.seq ?_
 refine CJ.region <| jv _ (V.fad Tryz.underlying30 rfl nz23 rfl) <| jv (.slice adxa_3 xa.2.2.2.1.length cpxa_3) (V.ld rfl (Ld.sc sc23 (Rd.cl 1 rfl rfl))) <| jv (ii (((xa.2.2.2.1.length : Nat) : Int))) (V.len Tryz.underlying23 rfl) <| jv (.bool (decide ((((xa.2.2.2.1.length : Nat) : Int)) = 0))) (V.eql rfl rfl) <| J.nil <| cc rfl h (fun hc193 h => ?_) fun hc193 h => ?_
 · refine cr <| jv (.agg #[ii 14, ii 2, ii 0, ii 0]) (V.build inf111 places111 rfl rfl) <| js [ii 14, ii 2, ii 0, ii 0] sz111 rfl rfl rfl rfl rfl rfl <| J.nil <| CJ.ret ?_
   obtain rfl := si h
   exact ⟨_, _, Res.one rfl ⟨_, _, rfl, Ld.agg (cs := [ii 14, ii 2, ii 0, ii 0]) Tryz.underlying111 sz111 rfl (Rd.cls 0 0 rfl rfl)⟩, ⟨14, 2, 0, 0, rfl, rfl, rfl⟩, (Hp.le_refl _), fun w hs => (Sep.dropAt 0 rfl (Sep.dropAt 0 rfl hs))⟩
 refine CJ.skip <| CJ.seq <| cr <| jv _ (V.fad Tryz.underlying30 rfl nz23 rfl) <| jv (.slice adxa_3 xa.2.2.2.1.length cpxa_3) (V.ld rfl (Ld.sc sc23 (Rd.cl 1 rfl rfl))) <| jv (ii (((xa.2.2.2.1.length : Nat) : Int))) (V.len Tryz.underlying23 rfl) ?_
 refine jv (.bool (decide (65536 < (((xa.2.2.2.1.length : Nat) : Int))))) (V.gtr rfl rfl) <| J.nil <| cc rfl h (fun hc194 h => ?_) fun hc194 h => ?_
 · refine cr <| jv (.agg #[ii 6, ii 2, ii 0, ii 0]) (V.build inf111 places111 rfl rfl) <| js [ii 6, ii 2, ii 0, ii 0] sz111 rfl rfl rfl rfl rfl rfl <| J.nil <| CJ.ret ?_
   obtain rfl := si h
   exact ⟨_, _, Res.one rfl ⟨_, _, rfl, Ld.agg (cs := [ii 6, ii 2, ii 0, ii 0]) Tryz.underlying111 sz111 rfl (Rd.cls 0 0 rfl rfl)⟩, ⟨6, 2, 0, 0, rfl, rfl, rfl⟩, (Hp.le_refl _), fun w hs => (Sep.dropAt 0 rfl (Sep.dropAt 0 rfl hs))⟩
 refine CJ.skip <| CJ.seq <| cr <| jv _ (V.fad Tryz.underlying30 rfl nz23 rfl) <| jv (.slice adxa_3 xa.2.2.2.1.length cpxa_3) (V.ld rfl (Ld.sc sc23 (Rd.cl 1 rfl rfl))) <| jv (ii (((xa.2.2.2.1.length : Nat) : Int))) (V.len Tryz.underlying23 rfl) ?_
 refine jm (ii 0) rfl <| J.nil ?_
 obtain ⟨o283, ho284, h⟩ := ob h
 refine CJ.joinN (o := o283) (fun s ρ K' L' => () = s ∧ Fits [(4, .pointer (some ⟨b192, 0, none⟩))] ρ ∧ K = K' ∧ L' = Cl b192 111 [ii 0, ii 0, ii 0, ii 0] :: F) ?_ ?_
 · refine CJ.block <| CJ.front 1 rfl <| CJ.loop (fun s ρ K' L' => ∃ (i313 : Int), i313 = s ∧ Fits [(1, .pointer none), (2, .pointer (some ⟨b191, 0, none⟩)), (4, .pointer (some ⟨b192, 0, none⟩)), (19, .slice adxa_3 xa.2.2.2.1.length cpxa_3), (20, ii (((xa.2.2.2.1.length : Nat) : Int))), (21, ii i313)] ρ ∧ K = K' ∧ L' = Cl b191 30 [ii xa.1, ii xa.2.1, .slice adxa_2 xa.2.2.1.length cpxa_2, .slice adxa_3 xa.2.2.2.1.length cpxa_3, .slice adxa_4 xa.2.2.2.2.1.length cpxa_4, .slice adxa_5 xa.2.2.2.2.2.1.length cpxa_5, .slice adxa_6 xa.2.2.2.2.2.2.length cpxa_6] :: Cl b192 111 [ii 0, ii 0, ii 0, ii 0] :: F) ho284 ⟨0, rfl, ⟨rfl, rfl, rfl, rfl, rfl, rfl, trivial⟩, rfl, rfl⟩ ?_
   rintro s ρ _ _ r345 ⟨i313, rfl, hf343, rfl, rfl⟩ h342
   obtain ⟨ρ, rfl⟩ := hf343.ex
   refine cr <| jv (.bool (decide (i313 < (((xa.2.2.2.1.length : Nat) : Int))))) (V.lss rfl rfl) <| J.nil <| CJ.seq <| cc rfl h342 (fun hc346 h342 => ?_) fun hc346 h342 => ?_
   · refine CJ.skip <| CJ.seq <| CJ.block <| cr <| jm (ii i313) rfl ?_
     obtain ⟨x347, hx348, h342⟩ := ob h342
     obtain ⟨p349, p350, p351⟩ := getI_some hx348
     obtain ⟨b352, o353, e354, a355⟩ := (fxa_3).at p350
     refine jv _ (V.iad Tryz.underlying23 sz26 rfl e354 rfl p349 p351) ?_
     obtain ⟨ad356, cp357, c358, f359⟩ := ((a355).one).sl
     refine jv (.agg #[.slice ad356 x347.length cp357]) (V.ld rfl (Ld.aggK (cs := [.slice ad356 x347.length cp357]) Tryz.underlying26 sz26 rfl ⟨c358, trivial⟩ (Hp.le_refl _))) <| jal inf26 [nos] rfl fun b360 => ja (ii i313) rfl <| js [.slice ad356 x347.length cp357] sz26 rfl rfl rfl rfl rfl rfl <| J.nil <| CJ.seq <| CJ.region ?_
     refine jm (.pointer none) rfl ?_
     obtain ⟨r361, hr362, h342⟩ := ob h342
     refine J.op rfl (A.call (L1 := []) Tryz.call24 rfl (tick_Counter_Add_zii_ok hr362) rfl rfl) ?_
     rintro _ _ _ ⟨v363, _, rfl, ⟨⟨rfl, rfl, rfl⟩, rfl⟩, _, rfl⟩
     refine J.nil <| cr <| jv (.agg #[.slice ad356 x347.length cp357]) (V.ld rfl (Ld.agg (cs := [.slice ad356 x347.length cp357]) Tryz.underlying26 sz26 rfl (Rd.cls 0 0 rfl rfl))) <| jv _ (V.fad Tryz.underlying30 rfl nz3 rfl) <| jv (ii xa.2.1) (V.ld rfl (Ld.sc sc3 (Rd.cl 1 rfl rfl))) ?_
     obtain ⟨r366, hr367, h342⟩ := ob h342
     refine J.op rfl (A.call (L1 := []) Tryz.call88 rfl (row_Check_ok f359 hr367) rfl rfl) ?_
     rintro _ _ _ ⟨v369, _, rfl, ⟨⟨i368, rfl, rfl, rfl⟩, rfl⟩, _, rfl⟩
     refine ja (ii i368) rfl <| J.nil <| cr <| jm (ii i368) rfl <| jv (.bool (!decide (i368 = 0))) (V.neq rfl rfl) <| J.nil ?_
     refine cc rfl h342 (fun hc372 h342 => ?_) fun hc372 h342 => ?_
     · refine cr <| jm (ii i368) rfl <| jm (ii i313) rfl <| jv (.agg #[ii i368, ii 2, ii i313, ii 0]) (V.build inf111 places111 rfl rfl) <| J.front 2 rfl <| js [ii i368, ii 2, ii i313, ii 0] sz111 rfl rfl rfl rfl rfl rfl ?_
       refine J.nil <| CJ.ret ?_
       obtain rfl := si h342
       refine ⟨nofun, fun e => ?_⟩
       subst e
       refine .inr ⟨nofun, ?_⟩
       obtain rfl := si h
       exact ⟨_, _, Res.one rfl ⟨_, _, rfl, Ld.agg (cs := [ii i368, ii 2, ii i313, ii 0]) Tryz.underlying111 sz111 rfl (Rd.cls 0 0 rfl rfl)⟩, ⟨i368, 2, i313, 0, rfl, rfl, rfl⟩, (Hp.le_refl _), fun w hs => (Sep.dropAt 0 rfl (Sep.dropAt 0 rfl (Sep.dropAt 0 rfl hs)))⟩
     refine CJ.skip <| CJ.region <| jv (ii (IntKind.wrap .i64 (i313 + 1))) (V.add rfl rfl) <| jm (ii (IntKind.wrap .i64 (i313 + 1))) rfl <| J.dropAt 0 rfl <| J.nil ?_
     obtain rfl := si h342
     exact ⟨rfl, ⟨IntKind.wrap .i64 (i313 + 1), rfl, ⟨rfl, rfl, rfl, rfl, rfl, rfl, trivial⟩, rfl, rfl⟩⟩
   refine CJ.dropAt 0 rfl <| CJ.exit ?_
   obtain rfl := si h342
   refine ⟨nofun, fun e => ?_⟩
   subst e
   exact .inl ⟨rfl, _, rfl, ⟨rfl, ⟨rfl, trivial⟩, rfl, rfl⟩⟩
 rintro s ρ _ _ ho373 ⟨rfl, hf374, rfl, rfl⟩
 subst ho373
 obtain ⟨ρ, rfl⟩ := hf374.ex
 refine PJ.done <| cr <| jv (.agg #[ii 0, ii 0, ii 0, ii 0]) (V.build inf111 places111 rfl rfl) <| js [ii 0, ii 0, ii 0, ii 0] sz111 rfl rfl rfl rfl rfl rfl <| J.nil <| CJ.ret ?_
 obtain rfl := si h
 exact ⟨_, _, Res.one rfl ⟨_, _, rfl, Ld.agg (cs := [ii 0, ii 0, ii 0, ii 0]) Tryz.underlying111 sz111 rfl (Rd.cls 0 0 rfl rfl)⟩, ⟨0, 0, 0, 0, rfl, rfl, rfl⟩, (Hp.le_refl _), fun w hs => (Sep.dropAt 0 rfl hs)⟩

noncomputable def fn_row_Shape_1 (xa : (Int × Bool)) (xb : (Int × Bool)) : Option Bool :=
  some (xa.2 == xb.2)
set_option maxRecDepth 100000 in
set_option maxHeartbeats 4000000 in
theorem row_Shape_1_ok {K : Hp} {xa : (Int × Bool)} {xb : (Int × Bool)}   {r : Bool} (h : fn_row_Shape_1 xa xb = some r) :
    Tr Tryz.prog 107 #[.agg #[ii xa.1, .bool xa.2], .agg #[ii xb.1, .bool xb.2]] K [] (fun v K' L' => (∃ (t3 : Bool), t3 = r ∧ .bool t3 = v ∧ L' = []) ∧ K = K') := by
 refine Tr.k <| Tr.of Tryz.func107 rfl Tryz.ntmps107 rfl fun E F => ?_
 unfold fn_row_Shape_1 at h
 refine cr <| jbx [ii xa.1, .bool xa.2] rfl rfl fun b4 => jbx [ii xb.1, .bool xb.2] rfl rfl fun b5 => ja (.bool false) rfl <| J.nil <| CJ.seq ?_
 refine CJ.region <| jv _ (V.fad Tryz.underlying72 rfl nz4 rfl) <| jv (.bool xa.2) (V.ld rfl (Ld.sc sc4 (Rd.cl 1 rfl rfl))) <| jv _ (V.fad Tryz.underlying72 rfl nz4 rfl) <| jv (.bool xb.2) (V.ld rfl (Ld.sc sc4 (Rd.cl 0 rfl rfl))) <| jv (.bool (xa.2 == xb.2)) (V.eqb Tryz.underlying4 rfl rfl) <| ja (.bool (xa.2 == xb.2)) rfl ?_
 refine J.nil <| CJ.ret ?_
 obtain rfl := si h
 exact ⟨_, _, Res.one rfl rfl, ⟨xa.2 == xb.2, rfl, rfl, rfl⟩, (Hp.le_refl _), fun w hs => (Sep.dropAt 0 rfl (Sep.dropAt 0 rfl hs))⟩
noncomputable def fn_slices_EqualFunc_api_Slot_api_Slot_api_Slot_api_Slot_kk_row_Shape_1_l1 (xa : (List (Int × Bool))) (xb : (List (Int × Bool))) : Int → Option (Int ⊕ (Unit ⊕ Bool)) := fun (i313 : Int) => cond (decide (i313 < (((xa.length : Nat) : Int)))) ((getI xa i313).bind fun x348 => (getI xb i313).bind fun x358 => (fn_row_Shape_1 (x348.1, x348.2) (x358.1, x358.2)).bind fun t370 => cond (!t370) (some (.inr ((.inr (false))))) (some (.inl (IntKind.wrap .i64 (i313 + 1))))) (some (.inr ((.inl ()))))
noncomputable def fn_slices_EqualFunc_api_Slot_api_Slot_api_Slot_api_Slot_kk_row_Shape_1 (xa : (List (Int × Bool))) (xb : (List (Int × Bool))) : Option Bool :=
  cond (!decide ((((xa.length : Nat) : Int)) = (((xb.length : Nat) : Int)))) (some (false)) ((loop (fn_slices_EqualFunc_api_Slot_api_Slot_api_Slot_api_Slot_kk_row_Shape_1_l1 xa xb) 0 : Option (Unit ⊕ Bool)).bind fun o => match o with | .inr r => some r | .inl () => some (true))
set_option maxRecDepth 100000 in
set_option maxHeartbeats 4000000 in
theorem slices_EqualFunc_api_Slot_api_Slot_api_Slot_api_Slot_kk_row_Shape_1_ok {K : Hp} {xa : (List (Int × Bool))} {xb : (List (Int × Bool))} {adxa_0 : Option Addr} {cpxa_0 : Nat} {adxb_0 : Option Addr} {cpxb_0 : Nat} (fxa_0 : Is K (.sl (.cons (.int .i64) (.one .bool))) [.slice adxa_0 xa.length cpxa_0] xa) (fxb_0 : Is K (.sl (.cons (.int .i64) (.one .bool))) [.slice adxb_0 xb.length cpxb_0] xb) {r : Bool} (h : fn_slices_EqualFunc_api_Slot_api_Slot_api_Slot_api_Slot_kk_row_Shape_1 xa xb = some r) :
    Tr Tryz.prog 106 #[.slice adxa_0 xa.length cpxa_0, .slice adxb_0 xb.length cpxb_0, .func (.func 107) #[] #[]] K [] (fun v K' L' => (∃ (t189 : Bool), t189 = r ∧ .bool t189 = v ∧ L' = []) ∧ K = K') := by
 refine Tr.k <| Tr.of Tryz.func106 rfl Tryz.ntmps106 rfl fun E F => ?_
 unfold fn_slices_EqualFunc_api_Slot_api_Slot_api_Slot_api_Slot_kk_row_Shape_1 at h
 refine cr <| ja (.bool false) rfl <| J.nil <| CJ.seq <| CJ.seq <| CJ.region ?_
 refine jm (.slice adxa_0 xa.length cpxa_0) rfl <| jv (ii (((xa.length : Nat) : Int))) (V.len Tryz.underlying24 rfl) <| jm (.slice adxb_0 xb.length cpxb_0) rfl <| jv (ii (((xb.length : Nat) : Int))) (V.len Tryz.underlying24 rfl) <| jv (.bool (!decide ((((xa.length : Nat) : Int)) = (((xb.length : Nat) : Int))))) (V.neq rfl rfl) <| J.nil <| cc rfl h (fun hc190 h => ?_) fun hc190 h => ?_
 · refine cr <| ja (.bool false) rfl <| J.nil <| CJ.ret ?_
   obtain rfl := si h
   exact ⟨_, _, Res.one rfl rfl, ⟨false, rfl, rfl, rfl⟩, (Hp.le_refl _), fun w hs => hs⟩
 refine CJ.skip <| CJ.seq <| cr <| jm (.slice adxa_0 xa.length cpxa_0) rfl <| jv (ii (((xa.length : Nat) : Int))) (V.len Tryz.underlying24 rfl) <| jm (ii 0) rfl ?_
 refine J.nil ?_
 obtain ⟨o282, ho283, h⟩ := ob h
 refine CJ.joinN (o := o282) (fun s ρ K' L' => () = s ∧ Fits [] ρ ∧ K = K' ∧ F = L') ?_ ?_
 · refine CJ.block <| CJ.loop (fun s ρ K' L' => ∃ (i313 : Int), i313 = s ∧ Fits [(1, .slice adxb_0 xb.length cpxb_0), (2, .func (.func 107) #[] #[]), (15, .slice adxa_0 xa.length cpxa_0), (16, ii (((xa.length : Nat) : Int))), (17, ii i313)] ρ ∧ K = K' ∧ F = L') ho283 ⟨0, rfl, ⟨rfl, rfl, rfl, rfl, rfl, trivial⟩, rfl, rfl⟩ ?_
   rintro s ρ _ _ r346 ⟨i313, rfl, hf344, rfl, rfl⟩ h343
   obtain ⟨ρ, rfl⟩ := hf344.ex
   refine cr <| jv (.bool (decide (i313 < (((xa.length : Nat) : Int))))) (V.lss rfl rfl) <| J.nil <| CJ.seq <| cc rfl h343 (fun hc347 h343 => ?_) fun hc347 h343 => ?_
   · refine CJ.skip <| CJ.seq <| CJ.block <| cr <| jm (ii i313) rfl ?_
     obtain ⟨x348, hx349, h343⟩ := ob h343
     obtain ⟨p350, p351, p352⟩ := getI_some hx349
     obtain ⟨b353, o354, e355, a356⟩ := (fxa_0).at p351
     refine jv _ (V.iad Tryz.underlying24 sz72 rfl e355 rfl p350 p352) <| jv (.agg #[ii x348.1, .bool x348.2]) (V.ld rfl (Ld.aggK (cs := [ii x348.1, .bool x348.2]) Tryz.underlying72 sz72 rfl ⟨((a356).fst).int, (((a356).snd).one).bool, trivial⟩ (Hp.le_refl _))) <| jal inf72 [ii 0, .bool false] rfl fun b357 => ja (ii i313) rfl <| js [ii x348.1, .bool x348.2] sz72 rfl rfl rfl rfl rfl rfl <| J.nil <| CJ.seq ?_
     refine CJ.region <| jm (.slice adxb_0 xb.length cpxb_0) rfl <| jm (ii i313) rfl ?_
     obtain ⟨x358, hx359, h343⟩ := ob h343
     obtain ⟨p360, p361, p362⟩ := getI_some hx359
     obtain ⟨b363, o364, e365, a366⟩ := (fxb_0).at p361
     refine jv _ (V.iad Tryz.underlying24 sz72 rfl e365 rfl p360 p362) <| jv (.agg #[ii x358.1, .bool x358.2]) (V.ld rfl (Ld.aggK (cs := [ii x358.1, .bool x358.2]) Tryz.underlying72 sz72 rfl ⟨((a366).fst).int, (((a366).snd).one).bool, trivial⟩ (Hp.le_refl _))) <| jal inf72 [ii 0, .bool false] rfl fun b367 => js [ii x358.1, .bool x358.2] sz72 rfl rfl rfl rfl rfl rfl <| J.nil <| CJ.seq <| CJ.region ?_
     refine jm (.func (.func 107) #[] #[]) rfl <| jv (.agg #[ii x348.1, .bool x348.2]) (V.ld rfl (Ld.agg (cs := [ii x348.1, .bool x348.2]) Tryz.underlying72 sz72 rfl (Rd.cls 1 0 rfl rfl))) <| jv (.agg #[ii x358.1, .bool x358.2]) (V.ld rfl (Ld.agg (cs := [ii x358.1, .bool x358.2]) Tryz.underlying72 sz72 rfl (Rd.cls 0 0 rfl rfl))) ?_
     obtain ⟨r368, hr369, h343⟩ := ob h343
     refine J.op rfl (A.call (L1 := []) Tryz.call107 rfl (row_Shape_1_ok hr369) rfl rfl) ?_
     rintro _ _ _ ⟨v371, _, rfl, ⟨⟨t370, rfl, rfl, rfl⟩, rfl⟩, _, rfl⟩
     refine jv (.bool (!t370)) (V.not rfl) <| J.nil <| cc rfl h343 (fun hc374 h343 => ?_) fun hc374 h343 => ?_
     · refine cr <| ja (.bool false) rfl <| J.nil <| CJ.ret ?_
       obtain rfl := si h343
       refine ⟨nofun, fun e => ?_⟩
       subst e
       refine .inr ⟨nofun, ?_⟩
       obtain rfl := si h
       exact ⟨_, _, Res.one rfl rfl, ⟨false, rfl, rfl, rfl⟩, (Hp.le_refl _), fun w hs => (Sep.dropAt 0 rfl (Sep.dropAt 0 rfl hs))⟩
     refine CJ.skip <| CJ.region <| jv (ii (IntKind.wrap .i64 (i313 + 1))) (V.add rfl rfl) <| jm (ii (IntKind.wrap .i64 (i313 + 1))) rfl <| J.dropAt 0 rfl <| J.dropAt 0 rfl <| J.nil ?_
     obtain rfl := si h343
     exact ⟨rfl, ⟨IntKind.wrap .i64 (i313 + 1), rfl, ⟨rfl, rfl, rfl, rfl, rfl, trivial⟩, rfl, rfl⟩⟩
   refine CJ.exit ?_
   obtain rfl := si h343
   refine ⟨nofun, fun e => ?_⟩
   subst e
   exact .inl ⟨rfl, _, rfl, ⟨rfl, trivial, rfl, rfl⟩⟩
 rintro s ρ _ _ ho375 ⟨rfl, hf376, rfl, rfl⟩
 subst ho375
 obtain ⟨ρ, rfl⟩ := hf376.ex
 refine PJ.done <| cr <| ja (.bool true) rfl <| J.nil <| CJ.ret ?_
 obtain rfl := si h
 exact ⟨_, _, Res.one rfl rfl, ⟨true, rfl, rfl, rfl⟩, (Hp.le_refl _), fun w hs => hs⟩

noncomputable def fn_row_Shape (xa : (List (Int × Bool))) (xb : (List (Int × Bool))) : Option Bool :=
  (fn_slices_EqualFunc_api_Slot_api_Slot_api_Slot_api_Slot_kk_row_Shape_1 xa xb).bind fun t14 => some (t14)
set_option maxRecDepth 100000 in
set_option maxHeartbeats 4000000 in
theorem row_Shape_ok {K : Hp} {xa : (List (Int × Bool))} {xb : (List (Int × Bool))} {adxa_0 : Option Addr} {cpxa_0 : Nat} {adxb_0 : Option Addr} {cpxb_0 : Nat} (fxa_0 : Is K (.sl (.cons (.int .i64) (.one .bool))) [.slice adxa_0 xa.length cpxa_0] xa) (fxb_0 : Is K (.sl (.cons (.int .i64) (.one .bool))) [.slice adxb_0 xb.length cpxb_0] xb) {r : Bool} (h : fn_row_Shape xa xb = some r) :
    Tr Tryz.prog 89 #[.agg #[.slice adxa_0 xa.length cpxa_0], .agg #[.slice adxb_0 xb.length cpxb_0]] K [] (fun v K' L' => (∃ (t9 : Bool), t9 = r ∧ .bool t9 = v ∧ L' = []) ∧ K = K') := by
 refine Tr.k <| Tr.of Tryz.func89 rfl Tryz.ntmps89 rfl fun E F => ?_
 unfold fn_row_Shape at h
 refine cr <| jbx [.slice adxa_0 xa.length cpxa_0] rfl rfl fun b10 => jbx [.slice adxb_0 xb.length cpxb_0] rfl rfl fun b11 => ja (.bool false) rfl <| J.nil <| CJ.seq ?_
 refine CJ.region <| jv _ (V.fad Tryz.underlying26 rfl nz24 rfl) <| jv (.slice adxa_0 xa.length cpxa_0) (V.ld rfl (Ld.sc sc24 (Rd.cl 1 rfl rfl))) <| jv _ (V.fad Tryz.underlying26 rfl nz24 rfl) <| jv (.slice adxb_0 xb.length cpxb_0) (V.ld rfl (Ld.sc sc24 (Rd.cl 0 rfl rfl))) ?_
 obtain ⟨r12, hr13, h⟩ := ob h
 refine J.op rfl (A.call (L1 := []) Tryz.call106 rfl (slices_EqualFunc_api_Slot_api_Slot_api_Slot_api_Slot_kk_row_Shape_1_ok fxa_0 fxb_0 hr13) rfl rfl) ?_
 rintro _ _ _ ⟨v15, _, rfl, ⟨⟨t14, rfl, rfl, rfl⟩, rfl⟩, _, rfl⟩
 refine ja (.bool t14) rfl <| J.nil <| CJ.ret ?_
 obtain rfl := si h
 exact ⟨_, _, Res.one rfl rfl, ⟨t14, rfl, rfl, rfl⟩, (Hp.le_refl _), fun w hs => (Sep.dropAt 0 rfl (Sep.dropAt 0 rfl hs))⟩

noncomputable def fn_valid_ret_az (xa : (Int × Int × (List (Int × Int)) × (List (List (Int × Bool))) × (List (Int × Bool)) × (List (Int × (List (Int × Int)) × (List (List (Int × Bool))) × (List (Int × Bool)))) × (List ((List (Int × Int × Int × Int × Bool)) × (Int × Int × Int × (List Int) × (List Int) × (List Int)))))) : Option (Int × Int × Int × Int) :=
  (fn_row_Check xa.2.2.2.2.1 xa.1).bind fun i59 => cond (decide (i59 = 0)) ((getI xa.2.2.2.1 0).bind fun x85 => (fn_row_Shape xa.2.2.2.2.1 x85).bind fun t100 => cond (!t100) (some ((8, 3, 0, 0))) (some ((i59, 3, 0, 0)))) (some ((i59, 3, 0, 0)))
set_option maxRecDepth 100000 in
set_option maxHeartbeats 4000000 in
theorem valid_ret_az_ok {K : Hp} {xa : (Int × Int × (List (Int × Int)) × (List (List (Int × Bool))) × (List (Int × Bool)) × (List (Int × (List (Int × Int)) × (List (List (Int × Bool))) × (List (Int × Bool)))) × (List ((List (Int × Int × Int × Int × Bool)) × (Int × Int × Int × (List Int) × (List Int) × (List Int)))))} {adxa_2 : Option Addr} {cpxa_2 : Nat} {adxa_3 : Option Addr} {cpxa_3 : Nat} {adxa_4 : Option Addr} {cpxa_4 : Nat} {adxa_5 : Option Addr} {cpxa_5 : Nat} {adxa_6 : Option Addr} {cpxa_6 : Nat} (fxa_2 : Is K (.sl (.cons (.int .i64) (.one (.int .i64)))) [.slice adxa_2 xa.2.2.1.length cpxa_2] xa.2.2.1) (fxa_3 : Is K (.sl (.one (.sl (.cons (.int .i64) (.one .bool))))) [.slice adxa_3 xa.2.2.2.1.length cpxa_3] xa.2.2.2.1) (fxa_4 : Is K (.sl (.cons (.int .i64) (.one .bool))) [.slice adxa_4 xa.2.2.2.2.1.length cpxa_4] xa.2.2.2.2.1) (fxa_5 : Is K (.sl (.cons (.int .i64) (.cons (.sl (.cons (.int .i64) (.one (.int .i64)))) (.cons (.sl (.one (.sl (.cons (.int .i64) (.one .bool))))) (.one (.one (.sl (.cons (.int .i64) (.one .bool))))))))) [.slice adxa_5 xa.2.2.2.2.2.1.length cpxa_5] xa.2.2.2.2.2.1) (fxa_6 : Is K (.sl (.cons (.sl (.cons (.int .i64) (.cons (.int .i64) (.cons (.int .i64) (.cons (.int .i64) (.one .bool)))))) (.one (.cons (.int .i64) (.cons (.int .i64) (.cons (.int .i64) (.cons (.sl (.int .i64)) (.cons (.sl (.int .i64)) (.one (.sl (.int .i64))))))))))) [.slice adxa_6 xa.2.2.2.2.2.2.length cpxa_6] xa.2.2.2.2.2.2) {r : (Int × Int × Int × Int)} (h : fn_valid_ret_az xa = some r) :
    Tr Tryz.prog 72 #[.agg #[ii xa.1, ii xa.2.1, .slice adxa_2 xa.2.2.1.length cpxa_2, .slice adxa_3 xa.2.2.2.1.length cpxa_3, .slice adxa_4 xa.2.2.2.2.1.length cpxa_4, .slice adxa_5 xa.2.2.2.2.2.1.length cpxa_5, .slice adxa_6 xa.2.2.2.2.2.2.length cpxa_6], .pointer none] K [] (fun v K' L' => (∃ (i51 : Int) (i52 : Int) (i53 : Int) (i54 : Int), (i51, i52, i53, i54) = r ∧ .agg #[ii i51, ii i52, ii i53, ii i54] = v ∧ L' = []) ∧ K = K') := by
 refine Tr.k <| Tr.of Tryz.func72 rfl Tryz.ntmps72 rfl fun E F => ?_
 unfold fn_valid_ret_az at h
 refine cr <| jbx [ii xa.1, ii xa.2.1, .slice adxa_2 xa.2.2.1.length cpxa_2, .slice adxa_3 xa.2.2.2.1.length cpxa_3, .slice adxa_4 xa.2.2.2.2.1.length cpxa_4, .slice adxa_5 xa.2.2.2.2.2.1.length cpxa_5, .slice adxa_6 xa.2.2.2.2.2.2.length cpxa_6] rfl rfl fun b55 => jal inf111 [ii 0, ii 0, ii 0, ii 0] rfl fun b56 => J.nil <| CJ.seq <| CJ.region ?_
 refine jv _ (V.fad Tryz.underlying30 rfl nz26 rfl) <| jv (.agg #[.slice adxa_4 xa.2.2.2.2.1.length cpxa_4]) (V.ld rfl (Ld.agg (cs := [.slice adxa_4 xa.2.2.2.2.1.length cpxa_4]) Tryz.underlying26 sz26 rfl (Rd.cls 1 4 rfl rfl))) <| jv _ (V.fad Tryz.underlying30 rfl nz3 rfl) <| jv (ii xa.1) (V.ld rfl (Ld.sc sc3 (Rd.cl 1 rfl rfl))) ?_
 obtain ⟨r57, hr58, h⟩ := ob h
 refine J.op rfl (A.call (L1 := []) Tryz.call88 rfl (row_Check_ok fxa_4 hr58) rfl rfl) ?_
 rintro _ _ _ ⟨v60, _, rfl, ⟨⟨i59, rfl, rfl, rfl⟩, rfl⟩, _, rfl⟩
 refine jv (.agg #[ii i59, ii 3, ii 0, ii 0]) (V.build inf111 places111 rfl rfl) <| jal inf111 [ii 0, ii 0, ii 0, ii 0] rfl fun b63 => js [ii i59, ii 3, ii 0, ii 0] sz111 rfl rfl rfl rfl rfl rfl <| J.nil <| CJ.seq <| CJ.seq <| CJ.mix [Cl b63 111 [ii i59, ii 3, ii 0, ii 0], Cl b56 111 [ii 0, ii 0, ii 0, ii 0], Cl b55 30 [ii xa.1, ii xa.2.1, .slice adxa_2 xa.2.2.1.length cpxa_2, .slice adxa_3 xa.2.2.2.1.length cpxa_3, .slice adxa_4 xa.2.2.2.2.1.length cpxa_4, .slice adxa_5 xa.2.2.2.2.2.1.length cpxa_5, .slice adxa_6 xa.2.2.2.2.2.2.length cpxa_6]] [([0, 1, 2, 3, 4, 5, 6, 7, 8, 9], 10)] [11, 12] [] mixO (by decide +kernel) ⟨0, rfl, 0, rfl, 0, rfl, trivial⟩ rfl rfl rfl ?_
 refine JM.cons <| qv _ (V.fad Tryz.underlying111 rfl nz88 rfl) <| qv (ii i59) (V.ld rfl (Ld.sc sc88 (Rd.cl 0 rfl rfl))) <| qv (.bool (decide (i59 = 0))) (V.eql rfl rfl) <| qm (.bool (decide (i59 = 0))) rfl ?_
 rcases bt (decide (i59 = 0)) with hc84 | hc84
 · have h := ct hc84 h
   refine JQ.run rfl rfl rfl hc84 <| qv _ (V.fad Tryz.underlying30 rfl nz26 rfl) <| JQ.run rfl rfl rfl hc84 <| qv (.agg #[.slice adxa_4 xa.2.2.2.2.1.length cpxa_4]) (V.ld rfl (Ld.agg (cs := [.slice adxa_4 xa.2.2.2.2.1.length cpxa_4]) Tryz.underlying26 sz26 rfl (Rd.cls 2 4 rfl rfl))) <| JQ.run rfl rfl rfl hc84 <| qv _ (V.fad Tryz.underlying30 rfl nz23 rfl) <| JQ.run rfl rfl rfl hc84 ?_
   refine qv (.slice adxa_3 xa.2.2.2.1.length cpxa_3) (V.ld rfl (Ld.sc sc23 (Rd.cl 2 rfl rfl))) <| JQ.run rfl rfl rfl hc84 ?_
   obtain ⟨x85, hx86, h⟩ := ob h
   obtain ⟨p87, p88, p89⟩ := getI_some hx86
   obtain ⟨b90, o91, e92, a93⟩ := (fxa_3).at p88
   refine qv _ (V.iad Tryz.underlying23 sz26 rfl e92 rfl p87 p89) <| JQ.run rfl rfl rfl hc84 ?_
   obtain ⟨ad94, cp95, c96, f97⟩ := ((a93).one).sl
   refine qv (.agg #[.slice ad94 x85.length cp95]) (V.ld rfl (Ld.aggK (cs := [.slice ad94 x85.length cp95]) Tryz.underlying26 sz26 rfl ⟨c96, trivial⟩ (Hp.le_refl _))) <| JQ.nil <| JA.run rfl rfl rfl hc84 ?_
   obtain ⟨r98, hr99, h⟩ := ob h
   refine JA.op rfl (A.call (L1 := []) Tryz.call89 rfl (row_Shape_ok fxa_4 f97 hr99) rfl rfl) ?_
   rintro _ _ _ ⟨v101, _, rfl, ⟨⟨t100, rfl, rfl, rfl⟩, rfl⟩, _, rfl⟩
   refine ⟨fun w hs => Hold.sub (Hp.le_refl _) ⟨0, rfl, 0, rfl, 0, rfl, trivial⟩ hs, ?_⟩
   refine JM.nil <| JQ.run rfl rfl rfl hc84 <| qv (.bool (!t100)) (V.not rfl) <| qv (.bool (!t100)) (V.pickT rfl hc84 rfl) <| JQ.nil <| J.nil <| cc rfl h (fun hc104 h => ?_) fun hc104 h => ?_
   · refine CJ.region <| jv _ (V.fad Tryz.underlying111 rfl nz88 rfl) <| js1 [ii 8, ii 3, ii 0, ii 0] sz88 rfl rfl rfl rfl rfl rfl <| J.nil <| cr <| jv (.agg #[ii 8, ii 3, ii 0, ii 0]) (V.ld rfl (Ld.agg (cs := [ii 8, ii 3, ii 0, ii 0]) Tryz.underlying111 sz111 rfl (Rd.cls 0 0 rfl rfl))) ?_
     refine J.front 1 rfl <| js [ii 8, ii 3, ii 0, ii 0] sz111 rfl rfl rfl rfl rfl rfl <| J.nil <| CJ.ret ?_
     obtain rfl := si h
     exact ⟨_, _, Res.one rfl ⟨_, _, rfl, Ld.agg (cs := [ii 8, ii 3, ii 0, ii 0]) Tryz.underlying111 sz111 rfl (Rd.cls 0 0 rfl rfl)⟩, ⟨8, 3, 0, 0, rfl, rfl, rfl⟩, (Hp.le_refl _), fun w hs => (Sep.dropAt 0 rfl (Sep.dropAt 0 rfl (Sep.dropAt 0 rfl hs)))⟩
   refine CJ.skip <| cr <| jv (.agg #[ii i59, ii 3, ii 0, ii 0]) (V.ld rfl (Ld.agg (cs := [ii i59, ii 3, ii 0, ii 0]) Tryz.underlying111 sz111 rfl (Rd.cls 0 0 rfl rfl))) <| J.front 1 rfl <| js [ii i59, ii 3, ii 0, ii 0] sz111 rfl rfl rfl rfl rfl rfl <| J.nil ?_
   refine CJ.ret ?_
   obtain rfl := si h
   exact ⟨_, _, Res.one rfl ⟨_, _, rfl, Ld.agg (cs := [ii i59, ii 3, ii 0, ii 0]) Tryz.underlying111 sz111 rfl (Rd.cls 0 0 rfl rfl)⟩, ⟨i59, 3, 0, 0, rfl, rfl, rfl⟩, (Hp.le_refl _), fun w hs => (Sep.dropAt 0 rfl (Sep.dropAt 0 rfl (Sep.dropAt 0 rfl hs)))⟩
 have h := cf hc84 h
 refine JQ.skip rfl rfl rfl rfl hc84 <| JQ.skip rfl rfl rfl rfl hc84 <| JQ.skip rfl rfl rfl rfl hc84 <| JQ.skip rfl rfl rfl rfl hc84 <| JQ.skip rfl rfl rfl rfl hc84 <| JQ.skip rfl rfl rfl rfl hc84 <| JQ.nil ?_
 refine JA.skip rfl rfl rfl rfl hc84 <| JM.nil <| JQ.skip rfl rfl rfl rfl hc84 <| qv (.bool false) (V.pickF rfl hc84 rfl) <| JQ.nil <| J.nil <| CJ.condK (b := false) rfl rfl ?_
 refine CJ.skip <| cr <| jv (.agg #[ii i59, ii 3, ii 0, ii 0]) (V.ld rfl (Ld.agg (cs := [ii i59, ii 3, ii 0, ii 0]) Tryz.underlying111 sz111 rfl (Rd.cls 0 0 rfl rfl))) <| J.front 1 rfl <| js [ii i59, ii 3, ii 0, ii 0] sz111 rfl rfl rfl rfl rfl rfl <| J.nil ?_
 refine CJ.ret ?_
 obtain rfl := si h
 exact ⟨_, _, Res.one rfl ⟨_, _, rfl, Ld.agg (cs := [ii i59, ii 3, ii 0, ii 0]) Tryz.underlying111 sz111 rfl (Rd.cls 0 0 rfl rfl)⟩, ⟨i59, 3, 0, 0, rfl, rfl, rfl⟩, (Hp.le_refl _), fun w hs => (Sep.dropAt 0 rfl (Sep.dropAt 0 rfl (Sep.dropAt 0 rfl hs)))⟩

noncomputable def fn_sig_Check_1_ip0_ikkk (xa : Int) (qa0 : Int) (qa1 : (List (Int × Int))) (qa2 : (List (List (Int × Bool)))) (qa3 : (List (Int × Bool))) : Option Bool :=
  some ((decide (0 ≤ xa)) && (decide (xa < qa0)))
set_option maxRecDepth 100000 in
set_option maxHeartbeats 4000000 in
theorem sig_Check_1_ip0_ikkk_ok {K : Hp} {xa : Int} {qa0 : Int} {qa1 : (List (Int × Int))} {qa2 : (List (List (Int × Bool)))} {qa3 : (List (Int × Bool))} {pba : Nat} {adqa1 : Option Addr} {cpqa1 : Nat} {adqa2 : Option Addr} {cpqa2 : Nat} {adqa3 : Option Addr} {cpqa3 : Nat} (fqa1 : Is K (.sl (.cons (.int .i64) (.one (.int .i64)))) [.slice adqa1 qa1.length cpqa1] qa1) (fqa2 : Is K (.sl (.one (.sl (.cons (.int .i64) (.one .bool))))) [.slice adqa2 qa2.length cpqa2] qa2) (fqa3 : Is K (.sl (.cons (.int .i64) (.one .bool))) [.slice adqa3 qa3.length cpqa3] qa3) {r : Bool} (h : fn_sig_Check_1_ip0_ikkk xa qa0 qa1 qa2 qa3 = some r) :
    Tr Tryz.prog 108 #[ii xa, .pointer (some ⟨pba, 0, none⟩)] K [Cl pba 70 [ii qa0, .slice adqa1 qa1.length cpqa1, .slice adqa2 qa2.length cpqa2, .slice adqa3 qa3.length cpqa3]] (fun v K' L' => (∃ (t4 : Bool), t4 = r ∧ .bool t4 = v ∧ L' = [Cl pba 70 [ii qa0, .slice adqa1 qa1.length cpqa1, .slice adqa2 qa2.length cpqa2, .slice adqa3 qa3.length cpqa3]]) ∧ K = K') := by
 refine Tr.k <| Tr.of Tryz.func108 rfl Tryz.ntmps108 rfl fun E F => ?_
 unfold fn_sig_Check_1_ip0_ikkk at h
 refine cr <| ja (.bool false) rfl <| J.nil <| cr <| jm (ii xa) rfl ?_
 refine jv (.bool (decide (0 ≤ xa))) (V.geq rfl rfl) <| jm (.bool (decide (0 ≤ xa))) rfl <| J.cut 5 <| jmeet [(11, .bool ((decide (0 ≤ xa)) && (decide (xa < qa0))))] ?_ ?_
 · rcases bt (decide (0 ≤ xa)) with hc7 | hc7
   · refine J.run rfl rfl rfl hc7 <| jm (ii xa) rfl <| J.run rfl rfl rfl hc7 <| jv _ (V.fad Tryz.underlying70 rfl nz3 rfl) <| J.run rfl rfl rfl hc7 <| jv (ii qa0) (V.ld rfl (Ld.sc sc3 (Rd.cl 0 rfl rfl))) <| J.run rfl rfl rfl hc7 ?_
     refine jv (.bool (decide (xa < qa0))) (V.lss rfl rfl) <| jv (.bool (decide (xa < qa0))) (V.pickT rfl hc7 rfl) <| J.nil ?_
     exact ⟨rfl, ⟨(by simp only [hc7]; rfl), trivial⟩, rfl, rfl⟩
   refine J.skip rfl rfl rfl rfl hc7 <| J.skip rfl rfl rfl rfl hc7 <| J.skip rfl rfl rfl rfl hc7 <| J.skip rfl rfl rfl rfl hc7 <| jv (.bool false) (V.pickF rfl hc7 rfl) <| J.nil ?_
   exact ⟨rfl, ⟨(by simp only [hc7]; rfl), trivial⟩, rfl, rfl⟩
 intro ρ
 refine ja (.bool ((decide (0 ≤ xa)) && (decide (xa < qa0)))) rfl <| J.nil <| CJ.ret ?_
 obtain rfl := si h
 exact ⟨_, _, Res.one rfl rfl, ⟨(decide (0 ≤ xa)) && (decide (xa < qa0)), rfl, rfl, rfl⟩, (Hp.le_refl _), fun w hs => hs⟩
noncomputable def fn_sig_Check_l1 (xa : (Int × (List (Int × Int)) × (List (List (Int × Bool))) × (List (Int × Bool)))) : Int → Option (Int ⊕ (Unit ⊕ Int)) := fun (i546 : Int) => cond (decide (i546 < (((xa.2.1.length : Nat) : Int)))) ((getI xa.2.1 i546).bind fun x587 => (fn_sig_Check_1_ip0_ikkk x587.1 xa.1 xa.2.1 xa.2.2.1 xa.2.2.2).bind fun t599 => (cond (!t599) (some (true)) ((fn_sig_Check_1_ip0_ikkk x587.2 xa.1 xa.2.1 xa.2.2.1 xa.2.2.2).bind fun t615 => some (!t615))).bind fun t610 => cond (t610) (some (.inr ((.inr (7))))) (some (.inl (IntKind.wrap .i64 (i546 + 1))))) (some (.inr ((.inl ()))))
noncomputable def fn_sig_Check_l2 (xa : (Int × (List (Int × Int)) × (List (List (Int × Bool))) × (List (Int × Bool)))) : Int → Option (Int ⊕ (Unit ⊕ Int)) := fun (i721 : Int) => cond (decide (i721 < (((xa.2.2.1.length : Nat) : Int)))) ((getI xa.2.2.1 i721).bind fun x750 => (fn_row_Check x750 xa.1).bind fun i766 => cond (!decide (i766 = 0)) (some (.inr ((.inr (i766))))) (some (.inl (IntKind.wrap .i64 (i721 + 1))))) (some (.inr ((.inl ()))))
noncomputable def fn_sig_Check (xa : (Int × (List (Int × Int)) × (List (List (Int × Bool))) × (List (Int × Bool)))) : Option Int :=
  cond (decide (xa.1 < 0)) (some (7)) (cond (((decide (16 < xa.1)) || (decide (16 < (((xa.2.1.length : Nat) : Int))))) || (decide (16 < (((xa.2.2.1.length : Nat) : Int))))) (some (6)) ((loop (fn_sig_Check_l1 xa) 0 : Option (Unit ⊕ Int)).bind fun o => match o with | .inr r => some r | .inl () => (loop (fn_sig_Check_l2 xa) 0 : Option (Unit ⊕ Int)).bind fun o => match o with | .inr r => some r | .inl () => (fn_row_Check xa.2.2.2 xa.1).bind fun i776 => some (i776)))
set_option maxRecDepth 100000 in
set_option maxHeartbeats 4000000 in
theorem sig_Check_ok {K : Hp} {xa : (Int × (List (Int × Int)) × (List (List (Int × Bool))) × (List (Int × Bool)))} {adxa_1 : Option Addr} {cpxa_1 : Nat} {adxa_2 : Option Addr} {cpxa_2 : Nat} {adxa_3 : Option Addr} {cpxa_3 : Nat} (fxa_1 : Is K (.sl (.cons (.int .i64) (.one (.int .i64)))) [.slice adxa_1 xa.2.1.length cpxa_1] xa.2.1) (fxa_2 : Is K (.sl (.one (.sl (.cons (.int .i64) (.one .bool))))) [.slice adxa_2 xa.2.2.1.length cpxa_2] xa.2.2.1) (fxa_3 : Is K (.sl (.cons (.int .i64) (.one .bool))) [.slice adxa_3 xa.2.2.2.length cpxa_3] xa.2.2.2) {r : Int} (h : fn_sig_Check xa = some r) :
    Tr Tryz.prog 90 #[.agg #[ii xa.1, .slice adxa_1 xa.2.1.length cpxa_1, .slice adxa_2 xa.2.2.1.length cpxa_2, .slice adxa_3 xa.2.2.2.length cpxa_3]] K [] (fun v K' L' => (∃ (i390 : Int), i390 = r ∧ ii i390 = v ∧ L' = []) ∧ K = K') := by
 refine Tr.k <| Tr.of Tryz.func90 rfl Tryz.ntmps90 rfl fun E F => ?_
 unfold fn_sig_Check at h
 refine cr <| jbx [ii xa.1, .slice adxa_1 xa.2.1.length cpxa_1, .slice adxa_2 xa.2.2.1.length cpxa_2, .slice adxa_3 xa.2.2.2.length cpxa_3] rfl rfl fun b391 => ja (ii 0) rfl <| J.nil <| CJ.seq <| CJ.seq ?_
 refine CJ.region <| jv _ (V.fad Tryz.underlying70 rfl nz3 rfl) <| jv (ii xa.1) (V.ld rfl (Ld.sc sc3 (Rd.cl 0 rfl rfl))) <| jv (.bool (decide (xa.1 < 0))) (V.lss rfl rfl) <| J.nil <| cc rfl h (fun hc392 h => ?_) fun hc392 h => ?_
 · refine cr <| ja (ii 7) rfl <| J.nil <| CJ.ret ?_
   obtain rfl := si h
   exact ⟨_, _, Res.one rfl rfl, ⟨7, rfl, rfl, rfl⟩, (Hp.le_refl _), fun w hs => (Sep.dropAt 0 rfl hs)⟩
 refine CJ.skip <| CJ.seq <| cr <| jv _ (V.fad Tryz.underlying70 rfl nz3 rfl) <| jv (ii xa.1) (V.ld rfl (Ld.sc sc3 (Rd.cl 0 rfl rfl))) <| jv (.bool (decide (16 < xa.1))) (V.gtr rfl rfl) ?_
 refine jm (.bool (decide (16 < xa.1))) rfl <| J.cut 5 <| jmeet [(20, .bool ((decide (16 < xa.1)) || (decide (16 < (((xa.2.1.length : Nat) : Int)))))), (1, .pointer (some ⟨b391, 0, none⟩))] ?_ ?_
 · rcases bt (decide (16 < xa.1)) with hc395 | hc395
   · refine J.skip rfl rfl rfl rfl hc395 <| J.skip rfl rfl rfl rfl hc395 <| J.skip rfl rfl rfl rfl hc395 <| J.skip rfl rfl rfl rfl hc395 <| jv (.bool true) (V.pickT rfl hc395 rfl) <| J.nil ?_
     exact ⟨rfl, ⟨(by simp only [hc395]; rfl), rfl, trivial⟩, rfl, rfl⟩
   refine J.run rfl rfl rfl hc395 <| jv _ (V.fad Tryz.underlying70 rfl nz22 rfl) <| J.run rfl rfl rfl hc395 <| jv (.slice adxa_1 xa.2.1.length cpxa_1) (V.ld rfl (Ld.sc sc22 (Rd.cl 0 rfl rfl))) <| J.run rfl rfl rfl hc395 <| jv (ii (((xa.2.1.length : Nat) : Int))) (V.len Tryz.underlying22 rfl) <| J.run rfl rfl rfl hc395 ?_
   refine jv (.bool (decide (16 < (((xa.2.1.length : Nat) : Int))))) (V.gtr rfl rfl) <| jv (.bool (decide (16 < (((xa.2.1.length : Nat) : Int))))) (V.pickF rfl hc395 rfl) <| J.nil ?_
   exact ⟨rfl, ⟨(by simp only [hc395]; rfl), rfl, trivial⟩, rfl, rfl⟩
 intro ρ
 refine jm (.bool ((decide (16 < xa.1)) || (decide (16 < (((xa.2.1.length : Nat) : Int)))))) rfl <| J.cut 5 <| jmeet [(26, .bool (((decide (16 < xa.1)) || (decide (16 < (((xa.2.1.length : Nat) : Int))))) || (decide (16 < (((xa.2.2.1.length : Nat) : Int)))))), (1, .pointer (some ⟨b391, 0, none⟩))] ?_ ?_
 · rcases bt ((decide (16 < xa.1)) || (decide (16 < (((xa.2.1.length : Nat) : Int))))) with hc398 | hc398
   · refine J.skip rfl rfl rfl rfl hc398 <| J.skip rfl rfl rfl rfl hc398 <| J.skip rfl rfl rfl rfl hc398 <| J.skip rfl rfl rfl rfl hc398 <| jv (.bool true) (V.pickT rfl hc398 rfl) <| J.nil ?_
     exact ⟨rfl, ⟨(by simp only [hc398]; rfl), rfl, trivial⟩, rfl, rfl⟩
   refine J.run rfl rfl rfl hc398 <| jv _ (V.fad Tryz.underlying70 rfl nz23 rfl) <| J.run rfl rfl rfl hc398 <| jv (.slice adxa_2 xa.2.2.1.length cpxa_2) (V.ld rfl (Ld.sc sc23 (Rd.cl 0 rfl rfl))) <| J.run rfl rfl rfl hc398 <| jv (ii (((xa.2.2.1.length : Nat) : Int))) (V.len Tryz.underlying23 rfl) <| J.run rfl rfl rfl hc398 ?_
   refine jv (.bool (decide (16 < (((xa.2.2.1.length : Nat) : Int))))) (V.gtr rfl rfl) <| jv (.bool (decide (16 < (((xa.2.2.1.length : Nat) : Int))))) (V.pickF rfl hc398 rfl) <| J.nil ?_
   exact ⟨rfl, ⟨(by simp only [hc398]; rfl), rfl, trivial⟩, rfl, rfl⟩
 intro ρ
 refine J.nil <| cc rfl h (fun hc399 h => ?_) fun hc399 h => ?_
 · refine cr <| ja (ii 6) rfl <| J.nil <| CJ.ret ?_
   obtain rfl := si h
   exact ⟨_, _, Res.one rfl rfl, ⟨6, rfl, rfl, rfl⟩, (Hp.le_refl _), fun w hs => (Sep.dropAt 0 rfl hs)⟩
 refine CJ.skip <| cr <| jv (.func (.func 108) #[] #[.pointer (some ⟨b391, 0, none⟩)]) (V.mkf rfl) <| ja (.func (.func 108) #[] #[.pointer (some ⟨b391, 0, none⟩)]) rfl <| J.nil <| CJ.seq ?_
 refine cr <| jv _ (V.fad Tryz.underlying70 rfl nz22 rfl) <| jv (.slice adxa_1 xa.2.1.length cpxa_1) (V.ld rfl (Ld.sc sc22 (Rd.cl 0 rfl rfl))) <| jv (ii (((xa.2.1.length : Nat) : Int))) (V.len Tryz.underlying22 rfl) <| jm (ii 0) rfl <| J.nil ?_
 obtain ⟨o509, ho510, h⟩ := ob h
 refine CJ.joinN (o := o509) (fun s ρ K' L' => () = s ∧ Fits [(1, .pointer (some ⟨b391, 0, none⟩))] ρ ∧ K = K' ∧ L' = Cl b391 70 [ii xa.1, .slice adxa_1 xa.2.1.length cpxa_1, .slice adxa_2 xa.2.2.1.length cpxa_2, .slice adxa_3 xa.2.2.2.length cpxa_3] :: F) ?_ ?_
 · refine CJ.block <| CJ.loop (fun s ρ K' L' => ∃ (i546 : Int), i546 = s ∧ Fits [(1, .pointer (some ⟨b391, 0, none⟩)), (3, .func (.func 108) #[] #[.pointer (some ⟨b391, 0, none⟩)]), (29, .slice adxa_1 xa.2.1.length cpxa_1), (30, ii (((xa.2.1.length : Nat) : Int))), (31, ii i546)] ρ ∧ K = K' ∧ L' = Cl b391 70 [ii xa.1, .slice adxa_1 xa.2.1.length cpxa_1, .slice adxa_2 xa.2.2.1.length cpxa_2, .slice adxa_3 xa.2.2.2.length cpxa_3] :: F) ho510 ⟨0, rfl, ⟨rfl, rfl, rfl, rfl, rfl, trivial⟩, rfl, rfl⟩ ?_
   rintro s ρ _ _ r585 ⟨i546, rfl, hf583, rfl, rfl⟩ h582
   obtain ⟨ρ, rfl⟩ := hf583.ex
   refine cr <| jv (.bool (decide (i546 < (((xa.2.1.length : Nat) : Int))))) (V.lss rfl rfl) <| J.nil <| CJ.seq <| cc rfl h582 (fun hc586 h582 => ?_) fun hc586 h582 => ?_
   · refine CJ.skip <| CJ.seq <| CJ.block <| CJ.seq <| CJ.region ?_
     obtain ⟨x587, hx588, h582⟩ := ob h582
     obtain ⟨p589, p590, p591⟩ := getI_some hx588
     obtain ⟨b592, o593, e594, a595⟩ := (fxa_1).at p590
     refine jv _ (V.iad Tryz.underlying22 sz83 rfl e594 rfl p589 p591) <| jv (.agg #[ii x587.1, ii x587.2]) (V.ld rfl (Ld.aggK (cs := [ii x587.1, ii x587.2]) Tryz.underlying83 sz83 rfl ⟨((a595).fst).int, (((a595).snd).one).int, trivial⟩ (Hp.le_refl _))) <| jal inf83 [ii 0, ii 0] rfl fun b596 => js [ii x587.1, ii x587.2] sz83 rfl rfl rfl rfl rfl rfl <| J.nil <| CJ.seq <| CJ.region ?_
     refine jm (.func (.func 108) #[] #[.pointer (some ⟨b391, 0, none⟩)]) rfl <| jv _ (V.fad Tryz.underlying83 rfl nz3 rfl) <| jv (ii x587.1) (V.ld rfl (Ld.sc sc3 (Rd.cl 0 rfl rfl))) ?_
     obtain ⟨r597, hr598, h582⟩ := ob h582
     refine J.front 1 rfl <| J.op rfl (A.call (L1 := [Cl b391 70 [ii xa.1, .slice adxa_1 xa.2.1.length cpxa_1, .slice adxa_2 xa.2.2.1.length cpxa_2, .slice adxa_3 xa.2.2.2.length cpxa_3]]) Tryz.call108 rfl (sig_Check_1_ip0_ikkk_ok fxa_1 fxa_2 fxa_3 hr598) rfl rfl) ?_
     rintro _ _ _ ⟨v600, _, rfl, ⟨⟨t599, rfl, rfl, rfl⟩, rfl⟩, _, rfl⟩
     refine jv (.bool (!t599)) (V.not rfl) <| jm (.bool (!t599)) rfl <| J.cut 6 ?_
     obtain ⟨t610, ht611, h582⟩ := ob h582
     refine jmeet [(46, .bool t610), (1, .pointer (some ⟨b391, 0, none⟩)), (3, .func (.func 108) #[] #[.pointer (some ⟨b391, 0, none⟩)]), (29, .slice adxa_1 xa.2.1.length cpxa_1), (30, ii (((xa.2.1.length : Nat) : Int))), (31, ii i546)] ?_ ?_
     · rcases bt (!t599) with hc612 | hc612
       · have ht611 := ct hc612 ht611
         refine J.skip rfl rfl rfl rfl hc612 <| J.skip rfl rfl rfl rfl hc612 <| J.skip rfl rfl rfl rfl hc612 <| J.skip rfl rfl rfl rfl hc612 <| J.skip rfl rfl rfl rfl hc612 <| jv (.bool true) (V.pickT rfl hc612 rfl) <| J.nil ?_
         obtain rfl := si ht611
         exact ⟨rfl, ⟨rfl, rfl, rfl, rfl, rfl, rfl, trivial⟩, rfl, rfl⟩
       have ht611 := cf hc612 ht611
       refine J.run rfl rfl rfl hc612 <| jm (.func (.func 108) #[] #[.pointer (some ⟨b391, 0, none⟩)]) rfl <| J.run rfl rfl rfl hc612 <| jv _ (V.fad Tryz.underlying83 rfl nz3 rfl) <| J.run rfl rfl rfl hc612 <| jv (ii x587.2) (V.ld rfl (Ld.sc sc3 (Rd.cl 1 rfl rfl))) <| J.run rfl rfl rfl hc612 ?_
       obtain ⟨r613, hr614, ht611⟩ := ob ht611
       refine J.op rfl (A.call (L1 := [Cl b391 70 [ii xa.1, .slice adxa_1 xa.2.1.length cpxa_1, .slice adxa_2 xa.2.2.1.length cpxa_2, .slice adxa_3 xa.2.2.2.length cpxa_3]]) Tryz.call108 rfl (sig_Check_1_ip0_ikkk_ok fxa_1 fxa_2 fxa_3 hr614) rfl rfl) ?_
       rintro _ _ _ ⟨v616, _, rfl, ⟨⟨t615, rfl, rfl, rfl⟩, rfl⟩, _, rfl⟩
       refine J.run rfl rfl rfl hc612 <| jv (.bool (!t615)) (V.not rfl) <| jv (.bool (!t615)) (V.pickF rfl hc612 rfl) <| J.nil ?_
       obtain rfl := si ht611
       exact ⟨rfl, ⟨rfl, rfl, rfl, rfl, rfl, rfl, trivial⟩, rfl, rfl⟩
     intro ρ
     refine J.nil <| cc rfl h582 (fun hc619 h582 => ?_) fun hc619 h582 => ?_
     · refine cr <| ja (ii 7) rfl <| J.nil <| CJ.ret ?_
       obtain rfl := si h582
       refine ⟨nofun, fun e => ?_⟩
       subst e
       refine .inr ⟨nofun, ?_⟩
       obtain rfl := si h
       exact ⟨_, _, Res.one rfl rfl, ⟨7, rfl, rfl, rfl⟩, (Hp.le_refl _), fun w hs => (Sep.dropAt 0 rfl (Sep.dropAt 0 rfl hs))⟩
     refine CJ.skip <| CJ.region <| jv (ii (IntKind.wrap .i64 (i546 + 1))) (V.add rfl rfl) <| jm (ii (IntKind.wrap .i64 (i546 + 1))) rfl <| J.dropAt 1 rfl <| J.nil ?_
     obtain rfl := si h582
     exact ⟨rfl, ⟨IntKind.wrap .i64 (i546 + 1), rfl, ⟨rfl, rfl, rfl, rfl, rfl, trivial⟩, rfl, rfl⟩⟩
   refine CJ.exit ?_
   obtain rfl := si h582
   refine ⟨nofun, fun e => ?_⟩
   subst e
   exact .inl ⟨rfl, _, rfl, ⟨rfl, ⟨rfl, trivial⟩, rfl, rfl⟩⟩
 rintro s ρ _ _ ho620 ⟨rfl, hf621, rfl, rfl⟩
 subst ho620
 obtain ⟨ρ, rfl⟩ := hf621.ex
 refine PJ.done <| CJ.seq <| cr <| jv _ (V.fad Tryz.underlying70 rfl nz23 rfl) <| jv (.slice adxa_2 xa.2.2.1.length cpxa_2) (V.ld rfl (Ld.sc sc23 (Rd.cl 0 rfl rfl))) <| jv (ii (((xa.2.2.1.length : Nat) : Int))) (V.len Tryz.underlying23 rfl) ?_
 refine jm (ii 0) rfl <| J.nil ?_
 obtain ⟨o696, ho697, h⟩ := ob h
 refine CJ.joinN (o := o696) (fun s ρ K' L' => () = s ∧ Fits [(1, .pointer (some ⟨b391, 0, none⟩))] ρ ∧ K = K' ∧ L' = Cl b391 70 [ii xa.1, .slice adxa_1 xa.2.1.length cpxa_1, .slice adxa_2 xa.2.2.1.length cpxa_2, .slice adxa_3 xa.2.2.2.length cpxa_3] :: F) ?_ ?_
 · refine CJ.block <| CJ.loop (fun s ρ K' L' => ∃ (i721 : Int), i721 = s ∧ Fits [(1, .pointer (some ⟨b391, 0, none⟩)), (49, .slice adxa_2 xa.2.2.1.length cpxa_2), (50, ii (((xa.2.2.1.length : Nat) : Int))), (51, ii i721)] ρ ∧ K = K' ∧ L' = Cl b391 70 [ii xa.1, .slice adxa_1 xa.2.1.length cpxa_1, .slice adxa_2 xa.2.2.1.length cpxa_2, .slice adxa_3 xa.2.2.2.length cpxa_3] :: F) ho697 ⟨0, rfl, ⟨rfl, rfl, rfl, rfl, trivial⟩, rfl, rfl⟩ ?_
   rintro s ρ _ _ r748 ⟨i721, rfl, hf746, rfl, rfl⟩ h745
   obtain ⟨ρ, rfl⟩ := hf746.ex
   refine cr <| jv (.bool (decide (i721 < (((xa.2.2.1.length : Nat) : Int))))) (V.lss rfl rfl) <| J.nil <| CJ.seq <| cc rfl h745 (fun hc749 h745 => ?_) fun hc749 h745 => ?_
   · refine CJ.skip <| CJ.seq <| CJ.block <| CJ.seq <| CJ.region ?_
     obtain ⟨x750, hx751, h745⟩ := ob h745
     obtain ⟨p752, p753, p754⟩ := getI_some hx751
     obtain ⟨b755, o756, e757, a758⟩ := (fxa_2).at p753
     refine jv _ (V.iad Tryz.underlying23 sz26 rfl e757 rfl p752 p754) ?_
     obtain ⟨ad759, cp760, c761, f762⟩ := ((a758).one).sl
     refine jv (.agg #[.slice ad759 x750.length cp760]) (V.ld rfl (Ld.aggK (cs := [.slice ad759 x750.length cp760]) Tryz.underlying26 sz26 rfl ⟨c761, trivial⟩ (Hp.le_refl _))) <| jal inf26 [nos] rfl fun b763 => js [.slice ad759 x750.length cp760] sz26 rfl rfl rfl rfl rfl rfl <| J.nil <| cr <| jv (.agg #[.slice ad759 x750.length cp760]) (V.ld rfl (Ld.agg (cs := [.slice ad759 x750.length cp760]) Tryz.underlying26 sz26 rfl (Rd.cls 0 0 rfl rfl))) ?_
     refine jv _ (V.fad Tryz.underlying70 rfl nz3 rfl) <| jv (ii xa.1) (V.ld rfl (Ld.sc sc3 (Rd.cl 1 rfl rfl))) ?_
     obtain ⟨r764, hr765, h745⟩ := ob h745
     refine J.op rfl (A.call (L1 := []) Tryz.call88 rfl (row_Check_ok f762 hr765) rfl rfl) ?_
     rintro _ _ _ ⟨v767, _, rfl, ⟨⟨i766, rfl, rfl, rfl⟩, rfl⟩, _, rfl⟩
     refine ja (ii i766) rfl <| J.nil <| cr <| jm (ii i766) rfl <| jv (.bool (!decide (i766 = 0))) (V.neq rfl rfl) <| J.nil ?_
     refine cc rfl h745 (fun hc770 h745 => ?_) fun hc770 h745 => ?_
     · refine cr <| jm (ii i766) rfl <| ja (ii i766) rfl <| J.nil <| CJ.ret ?_
       obtain rfl := si h745
       refine ⟨nofun, fun e => ?_⟩
       subst e
       refine .inr ⟨nofun, ?_⟩
       obtain rfl := si h
       exact ⟨_, _, Res.one rfl rfl, ⟨i766, rfl, rfl, rfl⟩, (Hp.le_refl _), fun w hs => (Sep.dropAt 0 rfl (Sep.dropAt 0 rfl hs))⟩
     refine CJ.skip <| CJ.region <| jv (ii (IntKind.wrap .i64 (i721 + 1))) (V.add rfl rfl) <| jm (ii (IntKind.wrap .i64 (i721 + 1))) rfl <| J.dropAt 0 rfl <| J.nil ?_
     obtain rfl := si h745
     exact ⟨rfl, ⟨IntKind.wrap .i64 (i721 + 1), rfl, ⟨rfl, rfl, rfl, rfl, trivial⟩, rfl, rfl⟩⟩
   refine CJ.exit ?_
   obtain rfl := si h745
   refine ⟨nofun, fun e => ?_⟩
   subst e
   exact .inl ⟨rfl, _, rfl, ⟨rfl, ⟨rfl, trivial⟩, rfl, rfl⟩⟩
 rintro s ρ _ _ ho771 ⟨rfl, hf772, rfl, rfl⟩
 subst ho771
 obtain ⟨ρ, rfl⟩ := hf772.ex
 refine PJ.done <| cr <| jv _ (V.fad Tryz.underlying70 rfl nz26 rfl) <| jv (.agg #[.slice adxa_3 xa.2.2.2.length cpxa_3]) (V.ld rfl (Ld.agg (cs := [.slice adxa_3 xa.2.2.2.length cpxa_3]) Tryz.underlying26 sz26 rfl (Rd.cls 0 3 rfl rfl))) <| jv _ (V.fad Tryz.underlying70 rfl nz3 rfl) <| jv (ii xa.1) (V.ld rfl (Ld.sc sc3 (Rd.cl 0 rfl rfl))) ?_
 obtain ⟨r774, hr775, h⟩ := ob h
 refine J.op rfl (A.call (L1 := []) Tryz.call88 rfl (row_Check_ok fxa_3 hr775) rfl rfl) ?_
 rintro _ _ _ ⟨v777, _, rfl, ⟨⟨i776, rfl, rfl, rfl⟩, rfl⟩, _, rfl⟩
 refine ja (ii i776) rfl <| J.nil <| CJ.ret ?_
 obtain rfl := si h
 exact ⟨_, _, Res.one rfl rfl, ⟨i776, rfl, rfl, rfl⟩, (Hp.le_refl _), fun w hs => (Sep.dropAt 0 rfl hs)⟩
noncomputable def fn_valid_sigs_az_l1 (xa : (Int × Int × (List (Int × Int)) × (List (List (Int × Bool))) × (List (Int × Bool)) × (List (Int × (List (Int × Int)) × (List (List (Int × Bool))) × (List (Int × Bool)))) × (List ((List (Int × Int × Int × Int × Bool)) × (Int × Int × Int × (List Int) × (List Int) × (List Int)))))) : Int → Option (Int ⊕ (Unit ⊕ (Int × Int × Int × Int))) := fun (i390 : Int) => cond (decide (i390 < (((xa.2.2.2.2.2.1.length : Nat) : Int)))) ((getI xa.2.2.2.2.2.1 i390).bind fun x432 => (fn_tick_Counter_Add_zii 1 1).bind fun _ => (fn_sig_Check (x432.1, x432.2.1, x432.2.2.1, x432.2.2.2)).bind fun i461 => cond (!decide (i461 = 0)) (some (.inr ((.inr ((i461, 4, i390, 0)))))) (some (.inl (IntKind.wrap .i64 (i390 + 1))))) (some (.inr ((.inl ()))))
noncomputable def fn_valid_sigs_az (xa : (Int × Int × (List (Int × Int)) × (List (List (Int × Bool))) × (List (Int × Bool)) × (List (Int × (List (Int × Int)) × (List (List (Int × Bool))) × (List (Int × Bool)))) × (List ((List (Int × Int × Int × Int × Bool)) × (Int × Int × Int × (List Int) × (List Int) × (List Int)))))) : Option (Int × Int × Int × Int) :=
  cond (decide (65536 < (((xa.2.2.2.2.2.1.length : Nat) : Int)))) (some ((6, 4, 0, 0))) ((loop (fn_valid_sigs_az_l1 xa) 0 : Option (Unit ⊕ (Int × Int × Int × Int))).bind fun o => match o with | .inr r => some r | .inl () => some ((0, 0, 0, 0)))
set_option maxRecDepth 100000 in
set_option maxHeartbeats 4000000 in
theorem valid_sigs_az_ok {K : Hp} {xa : (Int × Int × (List (Int × Int)) × (List (List (Int × Bool))) × (List (Int × Bool)) × (List (Int × (List (Int × Int)) × (List (List (Int × Bool))) × (List (Int × Bool)))) × (List ((List (Int × Int × Int × Int × Bool)) × (Int × Int × Int × (List Int) × (List Int) × (List Int)))))} {adxa_2 : Option Addr} {cpxa_2 : Nat} {adxa_3 : Option Addr} {cpxa_3 : Nat} {adxa_4 : Option Addr} {cpxa_4 : Nat} {adxa_5 : Option Addr} {cpxa_5 : Nat} {adxa_6 : Option Addr} {cpxa_6 : Nat} (fxa_2 : Is K (.sl (.cons (.int .i64) (.one (.int .i64)))) [.slice adxa_2 xa.2.2.1.length cpxa_2] xa.2.2.1) (fxa_3 : Is K (.sl (.one (.sl (.cons (.int .i64) (.one .bool))))) [.slice adxa_3 xa.2.2.2.1.length cpxa_3] xa.2.2.2.1) (fxa_4 : Is K (.sl (.cons (.int .i64) (.one .bool))) [.slice adxa_4 xa.2.2.2.2.1.length cpxa_4] xa.2.2.2.2.1) (fxa_5 : Is K (.sl (.cons (.int .i64) (.cons (.sl (.cons (.int .i64) (.one (.int .i64)))) (.cons (.sl (.one (.sl (.cons (.int .i64) (.one .bool))))) (.one (.one (.sl (.cons (.int .i64) (.one .bool))))))))) [.slice adxa_5 xa.2.2.2.2.2.1.length cpxa_5] xa.2.2.2.2.2.1) (fxa_6 : Is K (.sl (.cons (.sl (.cons (.int .i64) (.cons (.int .i64) (.cons (.int .i64) (.cons (.int .i64) (.one .bool)))))) (.one (.cons (.int .i64) (.cons (.int .i64) (.cons (.int .i64) (.cons (.sl (.int .i64)) (.cons (.sl (.int .i64)) (.one (.sl (.int .i64))))))))))) [.slice adxa_6 xa.2.2.2.2.2.2.length cpxa_6] xa.2.2.2.2.2.2) {r : (Int × Int × Int × Int)} (h : fn_valid_sigs_az xa = some r) :
    Tr Tryz.prog 73 #[.agg #[ii xa.1, ii xa.2.1, .slice adxa_2 xa.2.2.1.length cpxa_2, .slice adxa_3 xa.2.2.2.1.length cpxa_3, .slice adxa_4 xa.2.2.2.2.1.length cpxa_4, .slice adxa_5 xa.2.2.2.2.2.1.length cpxa_5, .slice adxa_6 xa.2.2.2.2.2.2.length cpxa_6], .pointer none] K [] (fun v K' L' => (∃ (i233 : Int) (i234 : Int) (i235 : Int) (i236 : Int), (i233, i234, i235, i236) = r ∧ .agg #[ii i233, ii i234, ii i235, ii i236] = v ∧ L' = []) ∧ K = K') := by
 refine Tr.k <| Tr.of Tryz.func73 rfl Tryz.ntmps73 rfl fun E F => ?_
 unfold fn_valid_sigs_az at h
 refine cr <| jbx [ii xa.1, ii xa.2.1, .slice adxa_2 xa.2.2.1.length cpxa_2, .slice adxa_3 xa.2.2.2.1.length cpxa_3, .slice adxa_4 xa.2.2.2.2.1.length cpxa_4, .slice adxa_5 xa.2.2.2.2.2.1.length cpxa_5, .slice adxa_6 xa.2.2.2.2.2.2.length cpxa_6] rfl rfl fun b237 => jal inf111 [ii 0, ii 0, ii 0, ii 0] rfl fun b238 => J.nil <| CJ.seq <| CJ.seq ?_
 refine CJ.region <| jv _ (V.fad Tryz.underlying30 rfl nz27 rfl) <| jv (.slice adxa_5 xa.2.2.2.2.2.1.length cpxa_5) (V.ld rfl (Ld.sc sc27 (Rd.cl 1 rfl rfl))) <| jv (ii (((xa.2.2.2.2.2.1.length : Nat) : Int))) (V.len Tryz.underlying27 rfl) <| jv (.bool (decide (65536 < (((xa.2.2.2.2.2.1.length : Nat) : Int))))) (V.gtr rfl rfl) <| J.nil <| cc rfl h (fun hc239 h => ?_) fun hc239 h => ?_
 · refine cr <| jv (.agg #[ii 6, ii 4, ii 0, ii 0]) (V.build inf111 places111 rfl rfl) <| js [ii 6, ii 4, ii 0, ii 0] sz111 rfl rfl rfl rfl rfl rfl <| J.nil <| CJ.ret ?_
   obtain rfl := si h
   exact ⟨_, _, Res.one rfl ⟨_, _, rfl, Ld.agg (cs := [ii 6, ii 4, ii 0, ii 0]) Tryz.underlying111 sz111 rfl (Rd.cls 0 0 rfl rfl)⟩, ⟨6, 4, 0, 0, rfl, rfl, rfl⟩, (Hp.le_refl _), fun w hs => (Sep.dropAt 0 rfl (Sep.dropAt 0 rfl hs))⟩
 refine CJ.skip <| CJ.seq <| cr <| jv _ (V.fad Tryz.underlying30 rfl nz27 rfl) <| jv (.slice adxa_5 xa.2.2.2.2.2.1.length cpxa_5) (V.ld rfl (Ld.sc sc27 (Rd.cl 1 rfl rfl))) <| jv (ii (((xa.2.2.2.2.2.1.length : Nat) : Int))) (V.len Tryz.underlying27 rfl) ?_
 refine jm (ii 0) rfl <| J.nil ?_
 obtain ⟨o352, ho353, h⟩ := ob h
 refine CJ.joinN (o := o352) (fun s ρ K' L' => () = s ∧ Fits [(4, .pointer (some ⟨b238, 0, none⟩))] ρ ∧ K = K' ∧ L' = Cl b238 111 [ii 0, ii 0, ii 0, ii 0] :: F) ?_ ?_
 · refine CJ.block <| CJ.dropAt 1 rfl <| CJ.loop (fun s ρ K' L' => ∃ (i390 : Int), i390 = s ∧ Fits [(1, .pointer none), (4, .pointer (some ⟨b238, 0, none⟩)), (14, .slice adxa_5 xa.2.2.2.2.2.1.length cpxa_5), (15, ii (((xa.2.2.2.2.2.1.length : Nat) : Int))), (16, ii i390)] ρ ∧ K = K' ∧ L' = Cl b238 111 [ii 0, ii 0, ii 0, ii 0] :: F) ho353 ⟨0, rfl, ⟨rfl, rfl, rfl, rfl, rfl, trivial⟩, rfl, rfl⟩ ?_
   rintro s ρ _ _ r430 ⟨i390, rfl, hf428, rfl, rfl⟩ h427
   obtain ⟨ρ, rfl⟩ := hf428.ex
   refine cr <| jv (.bool (decide (i390 < (((xa.2.2.2.2.2.1.length : Nat) : Int))))) (V.lss rfl rfl) <| J.nil <| CJ.seq <| cc rfl h427 (fun hc431 h427 => ?_) fun hc431 h427 => ?_
   · refine CJ.skip <| CJ.seq <| CJ.block <| cr <| jm (ii i390) rfl ?_
     obtain ⟨x432, hx433, h427⟩ := ob h427
     obtain ⟨p434, p435, p436⟩ := getI_some hx433
     obtain ⟨b437, o438, e439, a440⟩ := (fxa_5).at p435
     refine jv _ (V.iad Tryz.underlying27 sz70 rfl e439 rfl p434 p436) ?_
     obtain ⟨ad441, cp442, c443, f444⟩ := (((a440).snd).fst).sl
     obtain ⟨ad445, cp446, c447, f448⟩ := ((((a440).snd).snd).fst).sl
     obtain ⟨ad449, cp450, c451, f452⟩ := ((((((a440).snd).snd).snd).one).one).sl
     refine jv (.agg #[ii x432.1, .slice ad441 x432.2.1.length cp442, .slice ad445 x432.2.2.1.length cp446, .slice ad449 x432.2.2.2.length cp450]) (V.ld rfl (Ld.aggK (cs := [ii x432.1, .slice ad441 x432.2.1.length cp442, .slice ad445 x432.2.2.1.length cp446, .slice ad449 x432.2.2.2.length cp450]) Tryz.underlying70 sz70 rfl ⟨((a440).fst).int, c443, c447, c451, trivial⟩ (Hp.le_refl _))) <| jal inf70 [ii 0, nos, nos, nos] rfl fun b453 => ja (ii i390) rfl <| js [ii x432.1, .slice ad441 x432.2.1.length cp442, .slice ad445 x432.2.2.1.length cp446, .slice ad449 x432.2.2.2.length cp450] sz70 rfl rfl rfl rfl rfl rfl <| J.nil <| CJ.seq <| CJ.region ?_
     refine jm (.pointer none) rfl ?_
     obtain ⟨r454, hr455, h427⟩ := ob h427
     refine J.op rfl (A.call (L1 := []) Tryz.call24 rfl (tick_Counter_Add_zii_ok hr455) rfl rfl) ?_
     rintro _ _ _ ⟨v456, _, rfl, ⟨⟨rfl, rfl, rfl⟩, rfl⟩, _, rfl⟩
     refine J.nil <| cr <| jv (.agg #[ii x432.1, .slice ad441 x432.2.1.length cp442, .slice ad445 x432.2.2.1.length cp446, .slice ad449 x432.2.2.2.length cp450]) (V.ld rfl (Ld.agg (cs := [ii x432.1, .slice ad441 x432.2.1.length cp442, .slice ad445 x432.2.2.1.length cp446, .slice ad449 x432.2.2.2.length cp450]) Tryz.underlying70 sz70 rfl (Rd.cls 0 0 rfl rfl))) ?_
     obtain ⟨r459, hr460, h427⟩ := ob h427
     refine J.op rfl (A.call (L1 := []) Tryz.call90 rfl (sig_Check_ok f444 f448 f452 hr460) rfl rfl) ?_
     rintro _ _ _ ⟨v462, _, rfl, ⟨⟨i461, rfl, rfl, rfl⟩, rfl⟩, _, rfl⟩
     refine ja (ii i461) rfl <| J.nil <| cr <| jm (ii i461) rfl <| jv (.bool (!decide (i461 = 0))) (V.neq rfl rfl) <| J.nil ?_
     refine cc rfl h427 (fun hc465 h427 => ?_) fun hc465 h427 => ?_
     · refine cr <| jm (ii i461) rfl <| jm (ii i390) rfl <| jv (.agg #[ii i461, ii 4, ii i390, ii 0]) (V.build inf111 places111 rfl rfl) <| J.front 1 rfl <| js [ii i461, ii 4, ii i390, ii 0] sz111 rfl rfl rfl rfl rfl rfl ?_
       refine J.nil <| CJ.ret ?_
       obtain rfl := si h427
       refine ⟨nofun, fun e => ?_⟩
       subst e
       refine .inr ⟨nofun, ?_⟩
       obtain rfl := si h
       exact ⟨_, _, Res.one rfl ⟨_, _, rfl, Ld.agg (cs := [ii i461, ii 4, ii i390, ii 0]) Tryz.underlying111 sz111 rfl (Rd.cls 0 0 rfl rfl)⟩, ⟨i461, 4, i390, 0, rfl, rfl, rfl⟩, (Hp.le_refl _), fun w hs => (Sep.dropAt 0 rfl (Sep.dropAt 0 rfl hs))⟩
     refine CJ.skip <| CJ.region <| jv (ii (IntKind.wrap .i64 (i390 + 1))) (V.add rfl rfl) <| jm (ii (IntKind.wrap .i64 (i390 + 1))) rfl <| J.dropAt 0 rfl <| J.nil ?_
     obtain rfl := si h427
     exact ⟨rfl, ⟨IntKind.wrap .i64 (i390 + 1), rfl, ⟨rfl, rfl, rfl, rfl, rfl, trivial⟩, rfl, rfl⟩⟩
   refine CJ.exit ?_
   obtain rfl := si h427
   refine ⟨nofun, fun e => ?_⟩
   subst e
   exact .inl ⟨rfl, _, rfl, ⟨rfl, ⟨rfl, trivial⟩, rfl, rfl⟩⟩
 rintro s ρ _ _ ho466 ⟨rfl, hf467, rfl, rfl⟩
 subst ho466
 obtain ⟨ρ, rfl⟩ := hf467.ex
 refine PJ.done <| cr <| jv (.agg #[ii 0, ii 0, ii 0, ii 0]) (V.build inf111 places111 rfl rfl) <| js [ii 0, ii 0, ii 0, ii 0] sz111 rfl rfl rfl rfl rfl rfl <| J.nil <| CJ.ret ?_
 obtain rfl := si h
 exact ⟨_, _, Res.one rfl ⟨_, _, rfl, Ld.agg (cs := [ii 0, ii 0, ii 0, ii 0]) Tryz.underlying111 sz111 rfl (Rd.cls 0 0 rfl rfl)⟩, ⟨0, 0, 0, 0, rfl, rfl, rfl⟩, (Hp.le_refl _), fun w hs => (Sep.dropAt 0 rfl hs)⟩
noncomputable def fn_valid_blocks_az_l1 (xa : (Int × Int × (List (Int × Int)) × (List (List (Int × Bool))) × (List (Int × Bool)) × (List (Int × (List (Int × Int)) × (List (List (Int × Bool))) × (List (Int × Bool)))) × (List ((List (Int × Int × Int × Int × Bool)) × (Int × Int × Int × (List Int) × (List Int) × (List Int)))))) : (Int × Int) → Option ((Int × Int) ⊕ (Unit ⊕ (Int × Int × Int × Int))) := fun ((i382, i383) : (Int × Int)) => cond (decide (i383 < (((xa.2.2.2.2.2.2.length : Nat) : Int)))) ((getI xa.2.2.2.2.2.2 i383).bind fun x424 => (fn_tick_Counter_Add_zii 1 1).bind fun _ => cond (decide (65536 < (IntKind.wrap .i64 (i382 + (((x424.1.length : Nat) : Int)))))) (some (.inr ((.inr ((6, 5, i383, 0)))))) (some (.inl ((IntKind.wrap .i64 (i382 + (((x424.1.length : Nat) : Int))), IntKind.wrap .i64 (i383 + 1)))))) (some (.inr ((.inl ()))))
noncomputable def fn_valid_blocks_az (xa : (Int × Int × (List (Int × Int)) × (List (List (Int × Bool))) × (List (Int × Bool)) × (List (Int × (List (Int × Int)) × (List (List (Int × Bool))) × (List (Int × Bool)))) × (List ((List (Int × Int × Int × Int × Bool)) × (Int × Int × Int × (List Int) × (List Int) × (List Int)))))) : Option (Int × Int × Int × Int) :=
  cond (decide ((((xa.2.2.2.2.2.2.length : Nat) : Int)) = 0)) (some ((14, 5, 0, 0))) (cond (decide (65536 < (((xa.2.2.2.2.2.2.length : Nat) : Int)))) (some ((6, 5, 0, 0))) ((loop (fn_valid_blocks_az_l1 xa) (0, 0) : Option (Unit ⊕ (Int × Int × Int × Int))).bind fun o => match o with | .inr r => some r | .inl () => some ((0, 0, 0, 0))))
set_option maxRecDepth 100000 in
set_option maxHeartbeats 4000000 in
theorem valid_blocks_az_ok {K : Hp} {xa : (Int × Int × (List (Int × Int)) × (List (List (Int × Bool))) × (List (Int × Bool)) × (List (Int × (List (Int × Int)) × (List (List (Int × Bool))) × (List (Int × Bool)))) × (List ((List (Int × Int × Int × Int × Bool)) × (Int × Int × Int × (List Int) × (List Int) × (List Int)))))} {adxa_2 : Option Addr} {cpxa_2 : Nat} {adxa_3 : Option Addr} {cpxa_3 : Nat} {adxa_4 : Option Addr} {cpxa_4 : Nat} {adxa_5 : Option Addr} {cpxa_5 : Nat} {adxa_6 : Option Addr} {cpxa_6 : Nat} (fxa_2 : Is K (.sl (.cons (.int .i64) (.one (.int .i64)))) [.slice adxa_2 xa.2.2.1.length cpxa_2] xa.2.2.1) (fxa_3 : Is K (.sl (.one (.sl (.cons (.int .i64) (.one .bool))))) [.slice adxa_3 xa.2.2.2.1.length cpxa_3] xa.2.2.2.1) (fxa_4 : Is K (.sl (.cons (.int .i64) (.one .bool))) [.slice adxa_4 xa.2.2.2.2.1.length cpxa_4] xa.2.2.2.2.1) (fxa_5 : Is K (.sl (.cons (.int .i64) (.cons (.sl (.cons (.int .i64) (.one (.int .i64)))) (.cons (.sl (.one (.sl (.cons (.int .i64) (.one .bool))))) (.one (.one (.sl (.cons (.int .i64) (.one .bool))))))))) [.slice adxa_5 xa.2.2.2.2.2.1.length cpxa_5] xa.2.2.2.2.2.1) (fxa_6 : Is K (.sl (.cons (.sl (.cons (.int .i64) (.cons (.int .i64) (.cons (.int .i64) (.cons (.int .i64) (.one .bool)))))) (.one (.cons (.int .i64) (.cons (.int .i64) (.cons (.int .i64) (.cons (.sl (.int .i64)) (.cons (.sl (.int .i64)) (.one (.sl (.int .i64))))))))))) [.slice adxa_6 xa.2.2.2.2.2.2.length cpxa_6] xa.2.2.2.2.2.2) {r : (Int × Int × Int × Int)} (h : fn_valid_blocks_az xa = some r) :
    Tr Tryz.prog 74 #[.agg #[ii xa.1, ii xa.2.1, .slice adxa_2 xa.2.2.1.length cpxa_2, .slice adxa_3 xa.2.2.2.1.length cpxa_3, .slice adxa_4 xa.2.2.2.2.1.length cpxa_4, .slice adxa_5 xa.2.2.2.2.2.1.length cpxa_5, .slice adxa_6 xa.2.2.2.2.2.2.length cpxa_6], .pointer none] K [] (fun v K' L' => (∃ (i228 : Int) (i229 : Int) (i230 : Int) (i231 : Int), (i228, i229, i230, i231) = r ∧ .agg #[ii i228, ii i229, ii i230, ii i231] = v ∧ L' = []) ∧ K = K') := by
 refine Tr.k <| Tr.of Tryz.func74 rfl Tryz.ntmps74 rfl fun E F => ?_
 unfold fn_valid_blocks_az at h
 refine cr <| jbx [ii xa.1, ii xa.2.1, .slice adxa_2 xa.2.2.1.length cpxa_2, .slice adxa_3 xa.2.2.2.1.length cpxa_3, .slice adxa_4 xa.2.2.2.2.1.length cpxa_4, .slice adxa_5 xa.2.2.2.2.2.1.length cpxa_5, .slice adxa_6 xa.2.2.2.2.2.2.length cpxa_6] rfl rfl fun b232 => jal inf111 [ii 0, ii 0, ii 0, ii 0] rfl fun b233 => J.nil <| CJ.seq <| CJ.seq ?_
 refine CJ.region <| jv _ (V.fad Tryz.underlying30 rfl nz28 rfl) <| jv (.slice adxa_6 xa.2.2.2.2.2.2.length cpxa_6) (V.ld rfl (Ld.sc sc28 (Rd.cl 1 rfl rfl))) <| jv (ii (((xa.2.2.2.2.2.2.length : Nat) : Int))) (V.len Tryz.underlying28 rfl) <| jv (.bool (decide ((((xa.2.2.2.2.2.2.length : Nat) : Int)) = 0))) (V.eql rfl rfl) <| J.nil <| cc rfl h (fun hc234 h => ?_) fun hc234 h => ?_
 · refine cr <| jv (.agg #[ii 14, ii 5, ii 0, ii 0]) (V.build inf111 places111 rfl rfl) <| js [ii 14, ii 5, ii 0, ii 0] sz111 rfl rfl rfl rfl rfl rfl <| J.nil <| CJ.ret ?_
   obtain rfl := si h
   exact ⟨_, _, Res.one rfl ⟨_, _, rfl, Ld.agg (cs := [ii 14, ii 5, ii 0, ii 0]) Tryz.underlying111 sz111 rfl (Rd.cls 0 0 rfl rfl)⟩, ⟨14, 5, 0, 0, rfl, rfl, rfl⟩, (Hp.le_refl _), fun w hs => (Sep.dropAt 0 rfl (Sep.dropAt 0 rfl hs))⟩
 refine CJ.skip <| CJ.seq <| cr <| jv _ (V.fad Tryz.underlying30 rfl nz28 rfl) <| jv (.slice adxa_6 xa.2.2.2.2.2.2.length cpxa_6) (V.ld rfl (Ld.sc sc28 (Rd.cl 1 rfl rfl))) <| jv (ii (((xa.2.2.2.2.2.2.length : Nat) : Int))) (V.len Tryz.underlying28 rfl) ?_
 refine jv (.bool (decide (65536 < (((xa.2.2.2.2.2.2.length : Nat) : Int))))) (V.gtr rfl rfl) <| J.nil <| cc rfl h (fun hc235 h => ?_) fun hc235 h => ?_
 · refine cr <| jv (.agg #[ii 6, ii 5, ii 0, ii 0]) (V.build inf111 places111 rfl rfl) <| js [ii 6, ii 5, ii 0, ii 0] sz111 rfl rfl rfl rfl rfl rfl <| J.nil <| CJ.ret ?_
   obtain rfl := si h
   exact ⟨_, _, Res.one rfl ⟨_, _, rfl, Ld.agg (cs := [ii 6, ii 5, ii 0, ii 0]) Tryz.underlying111 sz111 rfl (Rd.cls 0 0 rfl rfl)⟩, ⟨6, 5, 0, 0, rfl, rfl, rfl⟩, (Hp.le_refl _), fun w hs => (Sep.dropAt 0 rfl (Sep.dropAt 0 rfl hs))⟩
 refine CJ.skip <| cr <| ja (ii 0) rfl <| J.nil <| CJ.seq <| CJ.seq ?_
 refine CJ.region <| jv _ (V.fad Tryz.underlying30 rfl nz28 rfl) <| jv (.slice adxa_6 xa.2.2.2.2.2.2.length cpxa_6) (V.ld rfl (Ld.sc sc28 (Rd.cl 1 rfl rfl))) <| jv (ii (((xa.2.2.2.2.2.2.length : Nat) : Int))) (V.len Tryz.underlying28 rfl) <| jm (ii 0) rfl <| J.nil ?_
 obtain ⟨o345, ho346, h⟩ := ob h
 refine CJ.joinN (o := o345) (fun s ρ K' L' => () = s ∧ Fits [(4, .pointer (some ⟨b233, 0, none⟩))] ρ ∧ K = K' ∧ L' = Cl b233 111 [ii 0, ii 0, ii 0, ii 0] :: F) ?_ ?_
 · refine CJ.block <| CJ.dropAt 1 rfl <| CJ.loop (fun s ρ K' L' => ∃ (i382 : Int) (i383 : Int), (i382, i383) = s ∧ Fits [(1, .pointer none), (4, .pointer (some ⟨b233, 0, none⟩)), (5, ii i382), (19, .slice adxa_6 xa.2.2.2.2.2.2.length cpxa_6), (20, ii (((xa.2.2.2.2.2.2.length : Nat) : Int))), (21, ii i383)] ρ ∧ K = K' ∧ L' = Cl b233 111 [ii 0, ii 0, ii 0, ii 0] :: F) ho346 ⟨0, 0, rfl, ⟨rfl, rfl, rfl, rfl, rfl, rfl, trivial⟩, rfl, rfl⟩ ?_
   rintro s ρ _ _ r422 ⟨i382, i383, rfl, hf420, rfl, rfl⟩ h419
   obtain ⟨ρ, rfl⟩ := hf420.ex
   refine cr <| jv (.bool (decide (i383 < (((xa.2.2.2.2.2.2.length : Nat) : Int))))) (V.lss rfl rfl) <| J.nil <| CJ.seq <| cc rfl h419 (fun hc423 h419 => ?_) fun hc423 h419 => ?_
   · refine CJ.skip <| CJ.seq <| CJ.block <| cr <| jm (ii i383) rfl ?_
     obtain ⟨x424, hx425, h419⟩ := ob h419
     obtain ⟨p426, p427, p428⟩ := getI_some hx425
     obtain ⟨b429, o430, e431, a432⟩ := (fxa_6).at p427
     refine jv _ (V.iad Tryz.underlying28 sz63 rfl e431 rfl p426 p428) ?_
     obtain ⟨ad433, cp434, c435, f436⟩ := ((a432).fst).sl
     obtain ⟨ad437, cp438, c439, f440⟩ := (((((((a432).snd).one).snd).snd).snd).fst).sl
     obtain ⟨ad441, cp442, c443, f444⟩ := ((((((((a432).snd).one).snd).snd).snd).snd).fst).sl
     obtain ⟨ad445, cp446, c447, f448⟩ := (((((((((a432).snd).one).snd).snd).snd).snd).snd).one).sl
     refine jv (.agg #[.slice ad433 x424.1.length cp434, ii x424.2.1, ii x424.2.2.1, ii x424.2.2.2.1, .slice ad437 x424.2.2.2.2.1.length cp438, .slice ad441 x424.2.2.2.2.2.1.length cp442, .slice ad445 x424.2.2.2.2.2.2.length cp446]) (V.ld rfl (Ld.aggK (cs := [.slice ad433 x424.1.length cp434, ii x424.2.1, ii x424.2.2.1, ii x424.2.2.2.1, .slice ad437 x424.2.2.2.2.1.length cp438, .slice ad441 x424.2.2.2.2.2.1.length cp442, .slice ad445 x424.2.2.2.2.2.2.length cp446]) Tryz.underlying63 sz63 rfl ⟨c435, ((((a432).snd).one).fst).int, (((((a432).snd).one).snd).fst).int, ((((((a432).snd).one).snd).snd).fst).int, c439, c443, c447, trivial⟩ (Hp.le_refl _))) <| jal inf63 [nos, ii 0, ii 0, ii 0, nos, nos, nos] rfl fun b449 => ja (ii i383) rfl <| js [.slice ad433 x424.1.length cp434, ii x424.2.1, ii x424.2.2.1, ii x424.2.2.2.1, .slice ad437 x424.2.2.2.2.1.length cp438, .slice ad441 x424.2.2.2.2.2.1.length cp442, .slice ad445 x424.2.2.2.2.2.2.length cp446] sz63 rfl rfl rfl rfl rfl rfl <| J.nil <| CJ.seq <| CJ.region ?_
     refine jm (.pointer none) rfl ?_
     obtain ⟨r450, hr451, h419⟩ := ob h419
     refine J.op rfl (A.call (L1 := []) Tryz.call24 rfl (tick_Counter_Add_zii_ok hr451) rfl rfl) ?_
     rintro _ _ _ ⟨v452, _, rfl, ⟨⟨rfl, rfl, rfl⟩, rfl⟩, _, rfl⟩
     refine J.nil <| cr <| jm (ii i382) rfl <| jv _ (V.fad Tryz.underlying63 rfl nz58 rfl) <| jv (.slice ad433 x424.1.length cp434) (V.ld rfl (Ld.sc sc58 (Rd.cl 0 rfl rfl))) <| jv (ii (((x424.1.length : Nat) : Int))) (V.len Tryz.underlying58 rfl) ?_
     refine jv (ii (IntKind.wrap .i64 (i382 + (((x424.1.length : Nat) : Int))))) (V.add rfl rfl) <| ja (ii (IntKind.wrap .i64 (i382 + (((x424.1.length : Nat) : Int))))) rfl <| J.nil <| cr <| jm (ii (IntKind.wrap .i64 (i382 + (((x424.1.length : Nat) : Int))))) rfl <| jv (.bool (decide (65536 < (IntKind.wrap .i64 (i382 + (((x424.1.length : Nat) : Int))))))) (V.gtr rfl rfl) ?_
     refine J.nil <| cc rfl h419 (fun hc455 h419 => ?_) fun hc455 h419 => ?_
     · refine cr <| jm (ii i383) rfl <| jv (.agg #[ii 6, ii 5, ii i383, ii 0]) (V.build inf111 places111 rfl rfl) <| J.front 1 rfl <| js [ii 6, ii 5, ii i383, ii 0] sz111 rfl rfl rfl rfl rfl rfl <| J.nil ?_
       refine CJ.ret ?_
       obtain rfl := si h419
       refine ⟨nofun, fun e => ?_⟩
       subst e
       refine .inr ⟨nofun, ?_⟩
       obtain rfl := si h
       exact ⟨_, _, Res.one rfl ⟨_, _, rfl, Ld.agg (cs := [ii 6, ii 5, ii i383, ii 0]) Tryz.underlying111 sz111 rfl (Rd.cls 0 0 rfl rfl)⟩, ⟨6, 5, i383, 0, rfl, rfl, rfl⟩, (Hp.le_refl _), fun w hs => (Sep.dropAt 0 rfl (Sep.dropAt 0 rfl hs))⟩
     refine CJ.skip <| CJ.region <| jv (ii (IntKind.wrap .i64 (i383 + 1))) (V.add rfl rfl) <| jm (ii (IntKind.wrap .i64 (i383 + 1))) rfl <| J.dropAt 0 rfl <| J.nil ?_
     obtain rfl := si h419
     exact ⟨rfl, ⟨IntKind.wrap .i64 (i382 + (((x424.1.length : Nat) : Int))), IntKind.wrap .i64 (i383 + 1), rfl, ⟨rfl, rfl, rfl, rfl, rfl, rfl, trivial⟩, rfl, rfl⟩⟩
   refine CJ.exit ?_
   obtain rfl := si h419
   refine ⟨nofun, fun e => ?_⟩
   subst e
   exact .inl ⟨rfl, _, rfl, ⟨rfl, ⟨rfl, trivial⟩, rfl, rfl⟩⟩
 rintro s ρ _ _ ho456 ⟨rfl, hf457, rfl, rfl⟩
 subst ho456
 obtain ⟨ρ, rfl⟩ := hf457.ex
 refine PJ.done <| cr <| jv (.agg #[ii 0, ii 0, ii 0, ii 0]) (V.build inf111 places111 rfl rfl) <| js [ii 0, ii 0, ii 0, ii 0] sz111 rfl rfl rfl rfl rfl rfl <| J.nil <| CJ.ret ?_
 obtain rfl := si h
 exact ⟨_, _, Res.one rfl ⟨_, _, rfl, Ld.agg (cs := [ii 0, ii 0, ii 0, ii 0]) Tryz.underlying111 sz111 rfl (Rd.cls 0 0 rfl rfl)⟩, ⟨0, 0, 0, 0, rfl, rfl, rfl⟩, (Hp.le_refl _), fun w hs => (Sep.dropAt 0 rfl hs)⟩

noncomputable def fn_stmt_fieldsOf (xa : Int) : Option (Bool × Bool × Bool × Bool) :=
  cond (decide (xa = 0)) (some ((false, false, false, true))) (cond (decide (xa = 1)) (some ((true, true, false, true))) ((cond (decide (xa = 2)) (some (decide (xa = 2))) (some (decide (xa = 3))) : Option Bool).bind fun t22 => cond (t22) (some ((true, true, true, true))) (cond (decide (xa = 4)) (some ((false, true, false, true))) (cond (decide (xa = 5)) (some ((true, false, false, true))) (some ((false, false, false, false)))))))
set_option maxRecDepth 100000 in
set_option maxHeartbeats 4000000 in
theorem stmt_fieldsOf_ok {K : Hp} {xa : Int}   {r : (Bool × Bool × Bool × Bool)} (h : fn_stmt_fieldsOf xa = some r) :
    Tr Tryz.prog 93 #[ii xa] K [] (fun v K' L' => (∃ (t14 : Bool) (t15 : Bool) (t16 : Bool) (t17 : Bool), (t14, t15, t16, t17) = r ∧ .tuple #[.agg #[.bool t14, .bool t15, .bool t16], .bool t17] = v ∧ L' = []) ∧ K = K') := by
 refine Tr.k <| Tr.of Tryz.func93 rfl Tryz.ntmps93 rfl fun E F => ?_
 unfold fn_stmt_fieldsOf at h
 refine cr <| jal inf129 [.bool false, .bool false, .bool false] rfl fun b18 => ja (.bool false) rfl <| J.nil <| CJ.seq <| CJ.seq ?_
 refine CJ.region <| jm (ii xa) rfl <| J.nil <| CJ.block <| cr <| jv (.bool (decide (xa = 0))) (V.eql rfl rfl) ?_
 refine ja (.bool (decide (xa = 0))) rfl <| J.nil <| cc rfl h (fun hc19 h => ?_) fun hc19 h => ?_
 · refine cr <| jv (.agg #[.bool false, .bool false, .bool false]) (V.build inf129 places129 rfl rfl) <| js [.bool false, .bool false, .bool false] sz129 rfl rfl rfl rfl rfl rfl <| ja (.bool true) rfl <| J.nil <| CJ.ret ?_
   obtain rfl := si h
   exact ⟨_, _, Res.two rfl ⟨_, _, rfl, Ld.agg (cs := [.bool false, .bool false, .bool false]) Tryz.underlying129 sz129 rfl (Rd.cls 0 0 rfl rfl)⟩ rfl, ⟨false, false, false, true, rfl, rfl, rfl⟩, (Hp.le_refl _), fun w hs => (Sep.dropAt 0 rfl hs)⟩
 refine cr <| jv (.bool (decide (xa = 1))) (V.eql rfl rfl) <| ja (.bool (decide (xa = 1))) rfl <| J.nil <| cc rfl h (fun hc20 h => ?_) fun hc20 h => ?_
 · refine cr <| jv (.agg #[.bool true, .bool true, .bool false]) (V.build inf129 places129 rfl rfl) <| js [.bool true, .bool true, .bool false] sz129 rfl rfl rfl rfl rfl rfl <| ja (.bool true) rfl <| J.nil <| CJ.ret ?_
   obtain rfl := si h
   exact ⟨_, _, Res.two rfl ⟨_, _, rfl, Ld.agg (cs := [.bool true, .bool true, .bool false]) Tryz.underlying129 sz129 rfl (Rd.cls 0 0 rfl rfl)⟩ rfl, ⟨true, true, false, true, rfl, rfl, rfl⟩, (Hp.le_refl _), fun w hs => (Sep.dropAt 0 rfl hs)⟩
 refine CJ.seq ?_
 obtain ⟨o23, ho24, h⟩ := ob h
 refine CJ.meetN (fun ρ K' L' => ∃ (t22 : Bool), t22 = o23 ∧ Fits [(2, .pointer (some ⟨b18, 0, none⟩)), (4, ii xa), (11, .bool t22)] ρ ∧ K = K' ∧ L' = Cl b18 129 [.bool false, .bool false, .bool false] :: F) ?_ ?_
 · refine cr <| jv (.bool (decide (xa = 2))) (V.eql rfl rfl) <| ja (.bool (decide (xa = 2))) rfl <| J.nil <| cc rfl ho24 (fun hc25 ho24 => ?_) fun hc25 ho24 => ?_
   · refine CJ.skip ?_
     obtain rfl := si ho24
     exact ⟨rfl, ⟨decide (xa = 2), rfl, ⟨rfl, rfl, rfl, trivial⟩, rfl, rfl⟩⟩
   refine CJ.region <| jv (.bool (decide (xa = 3))) (V.eql rfl rfl) <| ja (.bool (decide (xa = 3))) rfl <| J.nil ?_
   obtain rfl := si ho24
   exact ⟨rfl, ⟨decide (xa = 3), rfl, ⟨rfl, rfl, rfl, trivial⟩, rfl, rfl⟩⟩
 rintro ρ _ _ ⟨t22, rfl, hf26, rfl, rfl⟩
 obtain ⟨ρ, rfl⟩ := hf26.ex
 refine PJ.done <| cc rfl h (fun hc28 h => ?_) fun hc28 h => ?_
 · refine cr <| jv (.agg #[.bool true, .bool true, .bool true]) (V.build inf129 places129 rfl rfl) <| js [.bool true, .bool true, .bool true] sz129 rfl rfl rfl rfl rfl rfl <| ja (.bool true) rfl <| J.nil <| CJ.ret ?_
   obtain rfl := si h
   exact ⟨_, _, Res.two rfl ⟨_, _, rfl, Ld.agg (cs := [.bool true, .bool true, .bool true]) Tryz.underlying129 sz129 rfl (Rd.cls 0 0 rfl rfl)⟩ rfl, ⟨true, true, true, true, rfl, rfl, rfl⟩, (Hp.le_refl _), fun w hs => (Sep.dropAt 0 rfl hs)⟩
 refine cr <| jv (.bool (decide (xa = 4))) (V.eql rfl rfl) <| ja (.bool (decide (xa = 4))) rfl <| J.nil <| cc rfl h (fun hc29 h => ?_) fun hc29 h => ?_
 · refine cr <| jv (.agg #[.bool false, .bool true, .bool false]) (V.build inf129 places129 rfl rfl) <| js [.bool false, .bool true, .bool false] sz129 rfl rfl rfl rfl rfl rfl <| ja (.bool true) rfl <| J.nil <| CJ.ret ?_
   obtain rfl := si h
   exact ⟨_, _, Res.two rfl ⟨_, _, rfl, Ld.agg (cs := [.bool false, .bool true, .bool false]) Tryz.underlying129 sz129 rfl (Rd.cls 0 0 rfl rfl)⟩ rfl, ⟨false, true, false, true, rfl, rfl, rfl⟩, (Hp.le_refl _), fun w hs => (Sep.dropAt 0 rfl hs)⟩
 refine cr <| jv (.bool (decide (xa = 5))) (V.eql rfl rfl) <| ja (.bool (decide (xa = 5))) rfl <| J.nil <| cc rfl h (fun hc30 h => ?_) fun hc30 h => ?_
 · refine cr <| jv (.agg #[.bool true, .bool false, .bool false]) (V.build inf129 places129 rfl rfl) <| js [.bool true, .bool false, .bool false] sz129 rfl rfl rfl rfl rfl rfl <| ja (.bool true) rfl <| J.nil <| CJ.ret ?_
   obtain rfl := si h
   exact ⟨_, _, Res.two rfl ⟨_, _, rfl, Ld.agg (cs := [.bool true, .bool false, .bool false]) Tryz.underlying129 sz129 rfl (Rd.cls 0 0 rfl rfl)⟩ rfl, ⟨true, false, false, true, rfl, rfl, rfl⟩, (Hp.le_refl _), fun w hs => (Sep.dropAt 0 rfl hs)⟩
 refine CJ.skip <| cr <| jv (.agg #[.bool false, .bool false, .bool false]) (V.build inf129 places129 rfl rfl) <| js [.bool false, .bool false, .bool false] sz129 rfl rfl rfl rfl rfl rfl <| ja (.bool false) rfl <| J.nil ?_
 refine CJ.ret ?_
 obtain rfl := si h
 exact ⟨_, _, Res.two rfl ⟨_, _, rfl, Ld.agg (cs := [.bool false, .bool false, .bool false]) Tryz.underlying129 sz129 rfl (Rd.cls 0 0 rfl rfl)⟩ rfl, ⟨false, false, false, false, rfl, rfl, rfl⟩, (Hp.le_refl _), fun w hs => (Sep.dropAt 0 rfl hs)⟩

noncomputable def fn_stmt_own (xa : (Int × Int × Int × Int × Bool)) (xb : (Bool × Bool × Bool)) : Option (Int × Int × Int × Int × Bool) :=
  (cond (xb.1) (some (xa.2.1)) (some (0)) : Option Int).bind fun i30 => (cond (xb.2.1) (some (xa.2.2.1)) (some (0)) : Option Int).bind fun i37 => cond (xb.2.2) (some ((xa.1, i30, i37, xa.2.2.2.1, xa.2.2.2.2))) (some ((xa.1, i30, i37, 0, false)))
set_option maxRecDepth 100000 in
set_option maxHeartbeats 4000000 in
theorem stmt_own_ok {K : Hp} {xa : (Int × Int × Int × Int × Bool)} {xb : (Bool × Bool × Bool)}   {r : (Int × Int × Int × Int × Bool)} (h : fn_stmt_own xa xb = some r) :
    Tr Tryz.prog 94 #[.agg #[ii xa.1, ii xa.2.1, ii xa.2.2.1, ii xa.2.2.2.1, .bool xa.2.2.2.2], .agg #[.bool xb.1, .bool xb.2.1, .bool xb.2.2]] K [] (fun v K' L' => (∃ (i20 : Int) (i21 : Int) (i22 : Int) (i23 : Int) (t24 : Bool), (i20, i21, i22, i23, t24) = r ∧ .agg #[ii i20, ii i21, ii i22, ii i23, .bool t24] = v ∧ L' = []) ∧ K = K') := by
 refine Tr.k <| Tr.of Tryz.func94 rfl Tryz.ntmps94 rfl fun E F => ?_
 unfold fn_stmt_own at h
 refine cr <| jbx [ii xa.1, ii xa.2.1, ii xa.2.2.1, ii xa.2.2.2.1, .bool xa.2.2.2.2] rfl rfl fun b25 => jbx [.bool xb.1, .bool xb.2.1, .bool xb.2.2] rfl rfl fun b26 => jal inf65 [ii 0, ii 0, ii 0, ii 0, .bool false] rfl fun b27 => J.nil <| CJ.seq ?_
 refine CJ.region <| jv _ (V.fad Tryz.underlying65 rfl nz3 rfl) <| jv (ii xa.1) (V.ld rfl (Ld.sc sc3 (Rd.cl 2 rfl rfl))) <| jv (.agg #[ii xa.1, ii 0, ii 0, ii 0, .bool false]) (V.build inf65 places65 rfl rfl) <| jal inf65 [ii 0, ii 0, ii 0, ii 0, .bool false] rfl fun b28 => js [ii xa.1, ii 0, ii 0, ii 0, .bool false] sz65 rfl rfl rfl rfl rfl rfl <| J.nil ?_
 refine CJ.seq ?_
 obtain ⟨o31, ho32, h⟩ := ob h
 refine CJ.meetN (fun ρ K' L' => ∃ (i30 : Int), i30 = o31 ∧ Fits [(2, .pointer (some ⟨b25, 0, none⟩)), (3, .pointer (some ⟨b26, 0, none⟩)), (4, .pointer (some ⟨b27, 0, none⟩)), (5, .pointer (some ⟨b28, 0, none⟩))] ρ ∧ K = K' ∧ L' = Cl b25 65 [ii xa.1, ii xa.2.1, ii xa.2.2.1, ii xa.2.2.2.1, .bool xa.2.2.2.2] :: Cl b26 129 [.bool xb.1, .bool xb.2.1, .bool xb.2.2] :: Cl b27 65 [ii 0, ii 0, ii 0, ii 0, .bool false] :: Cl b28 65 [ii xa.1, ii i30, ii 0, ii 0, .bool false] :: F) ?_ ?_
 · refine cr <| jv _ (V.fad Tryz.underlying129 rfl nz4 rfl) <| jv (.bool xb.1) (V.ld rfl (Ld.sc sc4 (Rd.cl 2 rfl rfl))) <| J.nil <| cc rfl ho32 (fun hc33 ho32 => ?_) fun hc33 ho32 => ?_
   · refine CJ.region <| jv _ (V.fad Tryz.underlying65 rfl nz3 rfl) <| jv (ii xa.2.1) (V.ld rfl (Ld.sc sc3 (Rd.cl 3 rfl rfl))) <| jv _ (V.fad Tryz.underlying65 rfl nz3 rfl) <| js1 [ii xa.1, ii xa.2.1, ii 0, ii 0, .bool false] sz3 rfl rfl rfl rfl rfl rfl <| J.front 1 rfl <| J.front 2 rfl ?_
     refine J.front 3 rfl <| J.nil ?_
     obtain rfl := si ho32
     exact ⟨rfl, ⟨xa.2.1, rfl, ⟨rfl, rfl, rfl, rfl, trivial⟩, rfl, rfl⟩⟩
   refine CJ.front 1 rfl <| CJ.front 2 rfl <| CJ.front 3 rfl <| CJ.skip ?_
   obtain rfl := si ho32
   exact ⟨rfl, ⟨0, rfl, ⟨rfl, rfl, rfl, rfl, trivial⟩, rfl, rfl⟩⟩
 rintro ρ _ _ ⟨i30, rfl, hf34, rfl, rfl⟩
 obtain ⟨ρ, rfl⟩ := hf34.ex
 refine PJ.done <| CJ.seq ?_
 obtain ⟨o38, ho39, h⟩ := ob h
 refine CJ.meetN (fun ρ K' L' => ∃ (i37 : Int), i37 = o38 ∧ Fits [(2, .pointer (some ⟨b25, 0, none⟩)), (3, .pointer (some ⟨b26, 0, none⟩)), (4, .pointer (some ⟨b27, 0, none⟩)), (5, .pointer (some ⟨b28, 0, none⟩))] ρ ∧ K = K' ∧ L' = Cl b25 65 [ii xa.1, ii xa.2.1, ii xa.2.2.1, ii xa.2.2.2.1, .bool xa.2.2.2.2] :: Cl b26 129 [.bool xb.1, .bool xb.2.1, .bool xb.2.2] :: Cl b27 65 [ii 0, ii 0, ii 0, ii 0, .bool false] :: Cl b28 65 [ii xa.1, ii i30, ii i37, ii 0, .bool false] :: F) ?_ ?_
 · refine cr <| jv _ (V.fad Tryz.underlying129 rfl nz4 rfl) <| jv (.bool xb.2.1) (V.ld rfl (Ld.sc sc4 (Rd.cl 1 rfl rfl))) <| J.nil <| cc rfl ho39 (fun hc40 ho39 => ?_) fun hc40 ho39 => ?_
   · refine CJ.region <| jv _ (V.fad Tryz.underlying65 rfl nz3 rfl) <| jv (ii xa.2.2.1) (V.ld rfl (Ld.sc sc3 (Rd.cl 0 rfl rfl))) <| jv _ (V.fad Tryz.underlying65 rfl nz3 rfl) <| J.front 3 rfl <| js1 [ii xa.1, ii i30, ii xa.2.2.1, ii 0, .bool false] sz3 rfl rfl rfl rfl rfl rfl <| J.front 3 rfl ?_
     refine J.front 3 rfl <| J.front 3 rfl <| J.nil ?_
     obtain rfl := si ho39
     exact ⟨rfl, ⟨xa.2.2.1, rfl, ⟨rfl, rfl, rfl, rfl, trivial⟩, rfl, rfl⟩⟩
   refine CJ.skip ?_
   obtain rfl := si ho39
   exact ⟨rfl, ⟨0, rfl, ⟨rfl, rfl, rfl, rfl, trivial⟩, rfl, rfl⟩⟩
 rintro ρ _ _ ⟨i37, rfl, hf41, rfl, rfl⟩
 obtain ⟨ρ, rfl⟩ := hf41.ex
 refine PJ.done <| CJ.seq <| cr <| jv _ (V.fad Tryz.underlying129 rfl nz4 rfl) <| jv (.bool xb.2.2) (V.ld rfl (Ld.sc sc4 (Rd.cl 1 rfl rfl))) <| J.nil ?_
 refine cc rfl h (fun hc43 h => ?_) fun hc43 h => ?_
 · refine CJ.mix [Cl b25 65 [ii xa.1, ii xa.2.1, ii xa.2.2.1, ii xa.2.2.2.1, .bool xa.2.2.2.2], Cl b26 129 [.bool xb.1, .bool xb.2.1, .bool xb.2.2], Cl b27 65 [ii 0, ii 0, ii 0, ii 0, .bool false]] [([0, 1, 2, 3, 4], 5)] [6] [7] mixO (by decide +kernel) ⟨0, rfl, 0, rfl, 0, rfl, trivial⟩ rfl rfl rfl <| JM.cons <| qv _ (V.fad Tryz.underlying65 rfl nz3 rfl) <| qv (ii xa.2.2.2.1) (V.ld rfl (Ld.sc sc3 (Rd.cl 0 rfl rfl))) <| qv _ (V.fad Tryz.underlying65 rfl nz4 rfl) <| qv (.bool xa.2.2.2.2) (V.ld rfl (Ld.sc sc4 (Rd.cl 0 rfl rfl))) <| qv _ (V.fad Tryz.underlying65 rfl nz3 rfl) ?_
   refine JQ.nil <| JA.front 3 rfl <| JA.op rfl (A.store1 (v := ii xa.2.2.2.1) (cs' := [ii xa.1, ii i30, ii i37, ii xa.2.2.2.1, .bool false]) sz3 rfl rfl rfl rfl rfl rfl) ?_
   rintro _ _ _ ⟨rfl, rfl, rfl⟩
   refine ⟨fun w hs => Hold.sub (Hp.le_refl _) ⟨1, rfl, 1, rfl, 1, rfl, trivial⟩ hs, ?_⟩
   refine JM.nil <| qv _ (V.fad Tryz.underlying65 rfl nz4 rfl) <| JQ.nil <| js1 [ii xa.1, ii i30, ii i37, ii xa.2.2.2.1, .bool xa.2.2.2.2] sz4 rfl rfl rfl rfl rfl rfl <| J.nil <| CJ.seq <| CJ.region ?_
   refine jv (.agg #[ii xa.1, ii i30, ii i37, ii xa.2.2.2.1, .bool xa.2.2.2.2]) (V.ld rfl (Ld.agg (cs := [ii xa.1, ii i30, ii i37, ii xa.2.2.2.1, .bool xa.2.2.2.2]) Tryz.underlying65 sz65 rfl (Rd.cls 0 0 rfl rfl))) <| J.front 3 rfl <| js [ii xa.1, ii i30, ii i37, ii xa.2.2.2.1, .bool xa.2.2.2.2] sz65 rfl rfl rfl rfl rfl rfl <| J.nil <| CJ.ret ?_
   obtain rfl := si h
   exact ⟨_, _, Res.one rfl ⟨_, _, rfl, Ld.agg (cs := [ii xa.1, ii i30, ii i37, ii xa.2.2.2.1, .bool xa.2.2.2.2]) Tryz.underlying65 sz65 rfl (Rd.cls 0 0 rfl rfl)⟩, ⟨xa.1, i30, i37, xa.2.2.2.1, xa.2.2.2.2, rfl, rfl, rfl⟩, (Hp.le_refl _), fun w hs => (Sep.dropAt 0 rfl (Sep.dropAt 0 rfl (Sep.dropAt 0 rfl (Sep.dropAt 0 rfl hs))))⟩
 refine CJ.skip <| cr <| jv (.agg #[ii xa.1, ii i30, ii i37, ii 0, .bool false]) (V.ld rfl (Ld.agg (cs := [ii xa.1, ii i30, ii i37, ii 0, .bool false]) Tryz.underlying65 sz65 rfl (Rd.cls 3 0 rfl rfl))) <| J.front 2 rfl <| js [ii xa.1, ii i30, ii i37, ii 0, .bool false] sz65 rfl rfl rfl rfl rfl rfl <| J.nil ?_
 refine CJ.ret ?_
 obtain rfl := si h
 exact ⟨_, _, Res.one rfl ⟨_, _, rfl, Ld.agg (cs := [ii xa.1, ii i30, ii i37, ii 0, .bool false]) Tryz.underlying65 sz65 rfl (Rd.cls 0 0 rfl rfl)⟩, ⟨xa.1, i30, i37, 0, false, rfl, rfl, rfl⟩, (Hp.le_refl _), fun w hs => (Sep.dropAt 0 rfl (Sep.dropAt 0 rfl (Sep.dropAt 0 rfl (Sep.dropAt 0 rfl hs))))⟩

noncomputable def fn_stmt_form (xa : (Int × Int × Int × Int × Bool)) : Option (Bool × Bool × Bool × Int) :=
  (fn_stmt_fieldsOf xa.1).bind fun (t45, t46, t47, t48) => cond (!t48) (some ((false, false, false, 3))) ((fn_stmt_own (xa.1, xa.2.1, xa.2.2.1, xa.2.2.2.1, xa.2.2.2.2) (t45, t46, t47)).bind fun (i67, i68, i69, i70, t71) => cond (!((decide (xa.1 = i67)) && ((decide (xa.2.1 = i68)) && ((decide (xa.2.2.1 = i69)) && ((decide (xa.2.2.2.1 = i70)) && (xa.2.2.2.2 == t71)))))) (some ((false, false, false, 3))) (some ((t45, t46, t47, 0))))
set_option maxRecDepth 100000 in
set_option maxHeartbeats 4000000 in
theorem stmt_form_ok {K : Hp} {xa : (Int × Int × Int × Int × Bool)}   {r : (Bool × Bool × Bool × Int)} (h : fn_stmt_form xa = some r) :
    Tr Tryz.prog 76 #[.agg #[ii xa.1, ii xa.2.1, ii xa.2.2.1, ii xa.2.2.2.1, .bool xa.2.2.2.2]] K [] (fun v K' L' => (∃ (t37 : Bool) (t38 : Bool) (t39 : Bool) (i40 : Int), (t37, t38, t39, i40) = r ∧ .tuple #[.agg #[.bool t37, .bool t38, .bool t39], ii i40] = v ∧ L' = []) ∧ K = K') := by
 refine Tr.k <| Tr.of Tryz.func76 rfl Tryz.ntmps76 rfl fun E F => ?_
 unfold fn_stmt_form at h
 refine cr <| jbx [ii xa.1, ii xa.2.1, ii xa.2.2.1, ii xa.2.2.2.1, .bool xa.2.2.2.2] rfl rfl fun b41 => jal inf129 [.bool false, .bool false, .bool false] rfl fun b42 => ja (ii 0) rfl <| J.nil <| CJ.seq ?_
 refine CJ.region <| jv _ (V.fad Tryz.underlying65 rfl nz3 rfl) <| jv (ii xa.1) (V.ld rfl (Ld.sc sc3 (Rd.cl 1 rfl rfl))) ?_
 obtain ⟨r43, hr44, h⟩ := ob h
 refine J.op rfl (A.call (L1 := []) Tryz.call93 rfl (stmt_fieldsOf_ok hr44) rfl rfl) ?_
 rintro _ _ _ ⟨v49, _, rfl, ⟨⟨t45, t46, t47, t48, rfl, rfl, rfl⟩, rfl⟩, _, rfl⟩
 refine jm (.tuple #[.agg #[.bool t45, .bool t46, .bool t47], .bool t48]) rfl <| jx (.agg #[.bool t45, .bool t46, .bool t47]) rfl rfl <| jx (.bool t48) rfl rfl <| jal inf129 [.bool false, .bool false, .bool false] rfl fun b52 => js [.bool t45, .bool t46, .bool t47] sz129 rfl rfl rfl rfl rfl rfl <| ja (.bool t48) rfl <| J.nil ?_
 refine CJ.seq <| CJ.seq <| CJ.mix [Cl b52 129 [.bool t45, .bool t46, .bool t47], Cl b42 129 [.bool false, .bool false, .bool false], Cl b41 65 [ii xa.1, ii xa.2.1, ii xa.2.2.1, ii xa.2.2.2.1, .bool xa.2.2.2.2]] [([0, 1, 2, 3, 4, 5], 6)] [7, 8] [] mixO (by decide +kernel) ⟨0, rfl, 0, rfl, 0, rfl, trivial⟩ rfl rfl rfl <| JM.cons <| qm (.bool t48) rfl <| qv (.bool (!t48)) (V.not rfl) <| qm (.bool (!t48)) rfl ?_
 rcases bt (!t48) with hc64 | hc64
 · have h := ct hc64 h
   refine JQ.skip rfl rfl rfl rfl hc64 <| JQ.skip rfl rfl rfl rfl hc64 <| JQ.skip rfl rfl rfl rfl hc64 <| JQ.nil <| JA.skip rfl rfl rfl rfl hc64 <| JM.nil <| JQ.skip rfl rfl rfl rfl hc64 ?_
   refine qv (.bool true) (V.pickT rfl hc64 rfl) <| JQ.nil <| J.nil <| CJ.condK (b := true) rfl rfl <| cr <| jv (.agg #[.bool false, .bool false, .bool false]) (V.build inf129 places129 rfl rfl) ?_
   refine J.front 1 rfl <| js [.bool false, .bool false, .bool false] sz129 rfl rfl rfl rfl rfl rfl <| ja (ii 3) rfl <| J.nil <| CJ.ret ?_
   obtain rfl := si h
   exact ⟨_, _, Res.two rfl ⟨_, _, rfl, Ld.agg (cs := [.bool false, .bool false, .bool false]) Tryz.underlying129 sz129 rfl (Rd.cls 0 0 rfl rfl)⟩ rfl, ⟨false, false, false, 3, rfl, rfl, rfl⟩, (Hp.le_refl _), fun w hs => (Sep.dropAt 0 rfl (Sep.dropAt 0 rfl (Sep.dropAt 0 rfl hs)))⟩
 have h := cf hc64 h
 refine JQ.run rfl rfl rfl hc64 <| qv (.agg #[ii xa.1, ii xa.2.1, ii xa.2.2.1, ii xa.2.2.2.1, .bool xa.2.2.2.2]) (V.ld rfl (Ld.agg (cs := [ii xa.1, ii xa.2.1, ii xa.2.2.1, ii xa.2.2.2.1, .bool xa.2.2.2.2]) Tryz.underlying65 sz65 rfl (Rd.cls 2 0 rfl rfl))) <| JQ.run rfl rfl rfl hc64 <| qv (.agg #[ii xa.1, ii xa.2.1, ii xa.2.2.1, ii xa.2.2.2.1, .bool xa.2.2.2.2]) (V.ld rfl (Ld.agg (cs := [ii xa.1, ii xa.2.1, ii xa.2.2.1, ii xa.2.2.2.1, .bool xa.2.2.2.2]) Tryz.underlying65 sz65 rfl (Rd.cls 2 0 rfl rfl))) <| JQ.run rfl rfl rfl hc64 <| qv (.agg #[.bool t45, .bool t46, .bool t47]) (V.ld rfl (Ld.agg (cs := [.bool t45, .bool t46, .bool t47]) Tryz.underlying129 sz129 rfl (Rd.cls 0 0 rfl rfl))) <| JQ.nil ?_
 refine JA.run rfl rfl rfl hc64 ?_
 obtain ⟨r65, hr66, h⟩ := ob h
 refine JA.op rfl (A.call (L1 := []) Tryz.call94 rfl (stmt_own_ok hr66) rfl rfl) ?_
 rintro _ _ _ ⟨v72, _, rfl, ⟨⟨i67, i68, i69, i70, t71, rfl, rfl, rfl⟩, rfl⟩, _, rfl⟩
 refine ⟨fun w hs => Hold.sub (Hp.le_refl _) ⟨0, rfl, 0, rfl, 0, rfl, trivial⟩ hs, ?_⟩
 refine JM.nil <| JQ.run rfl rfl rfl hc64 <| qv (.bool (!((decide (xa.1 = i67)) && ((decide (xa.2.1 = i68)) && ((decide (xa.2.2.1 = i69)) && ((decide (xa.2.2.2.1 = i70)) && (xa.2.2.2.2 == t71))))))) (V.nest eqg65 (EqIn.st (d := 9999) rfl Tryz.underlying65 sih65 (EqFs.cons (by decide) (Ld0.sc sc3 rfl) (Ld0.sc sc3 rfl) (EqIn.int (d := 9998) rfl Tryz.underlying3) (EqFs.cons (by decide) (Ld0.sc sc3 rfl) (Ld0.sc sc3 rfl) (EqIn.int (d := 9998) rfl Tryz.underlying3) (EqFs.cons (by decide) (Ld0.sc sc3 rfl) (Ld0.sc sc3 rfl) (EqIn.int (d := 9998) rfl Tryz.underlying3) (EqFs.cons (by decide) (Ld0.sc sc3 rfl) (Ld0.sc sc3 rfl) (EqIn.int (d := 9998) rfl Tryz.underlying3) (EqFs.last (by decide) (Ld0.sc sc4 rfl) (Ld0.sc sc4 rfl) (EqIn.bool (d := 9998) rfl Tryz.underlying4))))))) rfl rfl) <| qv (.bool (!((decide (xa.1 = i67)) && ((decide (xa.2.1 = i68)) && ((decide (xa.2.2.1 = i69)) && ((decide (xa.2.2.2.1 = i70)) && (xa.2.2.2.2 == t71))))))) (V.pickF rfl hc64 rfl) <| JQ.nil <| J.nil <| cc rfl h (fun hc75 h => ?_) fun hc75 h => ?_
 · refine cr <| jv (.agg #[.bool false, .bool false, .bool false]) (V.build inf129 places129 rfl rfl) <| J.front 1 rfl <| js [.bool false, .bool false, .bool false] sz129 rfl rfl rfl rfl rfl rfl <| ja (ii 3) rfl <| J.nil ?_
   refine CJ.ret ?_
   obtain rfl := si h
   exact ⟨_, _, Res.two rfl ⟨_, _, rfl, Ld.agg (cs := [.bool false, .bool false, .bool false]) Tryz.underlying129 sz129 rfl (Rd.cls 0 0 rfl rfl)⟩ rfl, ⟨false, false, false, 3, rfl, rfl, rfl⟩, (Hp.le_refl _), fun w hs => (Sep.dropAt 0 rfl (Sep.dropAt 0 rfl (Sep.dropAt 0 rfl hs)))⟩
 refine CJ.skip <| cr <| jv (.agg #[.bool t45, .bool t46, .bool t47]) (V.ld rfl (Ld.agg (cs := [.bool t45, .bool t46, .bool t47]) Tryz.underlying129 sz129 rfl (Rd.cls 0 0 rfl rfl))) <| J.front 1 rfl <| js [.bool t45, .bool t46, .bool t47] sz129 rfl rfl rfl rfl rfl rfl <| ja (ii 0) rfl ?_
 refine J.nil <| CJ.ret ?_
 obtain rfl := si h
 exact ⟨_, _, Res.two rfl ⟨_, _, rfl, Ld.agg (cs := [.bool t45, .bool t46, .bool t47]) Tryz.underlying129 sz129 rfl (Rd.cls 0 0 rfl rfl)⟩ rfl, ⟨t45, t46, t47, 0, rfl, rfl, rfl⟩, (Hp.le_refl _), fun w hs => (Sep.dropAt 0 rfl (Sep.dropAt 0 rfl (Sep.dropAt 0 rfl hs)))⟩

noncomputable def fn_stmt_Needs_1_ip0_k (xa : Int) (qa0 : (List (List (Int × Bool)))) : Option Bool :=
  some ((decide (0 ≤ xa)) && (decide (xa < (((qa0.length : Nat) : Int)))))
set_option maxRecDepth 100000 in
set_option maxHeartbeats 4000000 in
theorem stmt_Needs_1_ip0_k_ok {K : Hp} {xa : Int} {qa0 : (List (List (Int × Bool)))} {pba : Nat} {adqa0 : Option Addr} {cpqa0 : Nat} (fqa0 : Is K (.sl (.one (.sl (.cons (.int .i64) (.one .bool))))) [.slice adqa0 qa0.length cpqa0] qa0) {r : Bool} (h : fn_stmt_Needs_1_ip0_k xa qa0 = some r) :
    Tr Tryz.prog 77 #[ii xa, .pointer (some ⟨pba, 0, none⟩)] K [Cl pba 23 [.slice adqa0 qa0.length cpqa0]] (fun v K' L' => (∃ (t4 : Bool), t4 = r ∧ .bool t4 = v ∧ L' = [Cl pba 23 [.slice adqa0 qa0.length cpqa0]]) ∧ K = K') := by
 refine Tr.k <| Tr.of Tryz.func77 rfl Tryz.ntmps77 rfl fun E F => ?_
 unfold fn_stmt_Needs_1_ip0_k at h
 refine cr <| ja (.bool false) rfl <| J.nil <| cr <| jm (ii xa) rfl ?_
 refine jv (.bool (decide (0 ≤ xa))) (V.geq rfl rfl) <| jm (.bool (decide (0 ≤ xa))) rfl <| J.cut 5 <| jmeet [(11, .bool ((decide (0 ≤ xa)) && (decide (xa < (((qa0.length : Nat) : Int))))))] ?_ ?_
 · rcases bt (decide (0 ≤ xa)) with hc7 | hc7
   · refine J.run rfl rfl rfl hc7 <| jm (ii xa) rfl <| J.run rfl rfl rfl hc7 <| jv (.slice adqa0 qa0.length cpqa0) (V.ld rfl (Ld.sc sc23 (Rd.cl 0 rfl rfl))) <| J.run rfl rfl rfl hc7 <| jv (ii (((qa0.length : Nat) : Int))) (V.len Tryz.underlying23 rfl) <| J.run rfl rfl rfl hc7 ?_
     refine jv (.bool (decide (xa < (((qa0.length : Nat) : Int))))) (V.lss rfl rfl) <| jv (.bool (decide (xa < (((qa0.length : Nat) : Int))))) (V.pickT rfl hc7 rfl) <| J.nil ?_
     exact ⟨rfl, ⟨(by simp only [hc7]; rfl), trivial⟩, rfl, rfl⟩
   refine J.skip rfl rfl rfl rfl hc7 <| J.skip rfl rfl rfl rfl hc7 <| J.skip rfl rfl rfl rfl hc7 <| J.skip rfl rfl rfl rfl hc7 <| jv (.bool false) (V.pickF rfl hc7 rfl) <| J.nil ?_
   exact ⟨rfl, ⟨(by simp only [hc7]; rfl), trivial⟩, rfl, rfl⟩
 intro ρ
 refine ja (.bool ((decide (0 ≤ xa)) && (decide (xa < (((qa0.length : Nat) : Int)))))) rfl <| J.nil <| CJ.ret ?_
 obtain rfl := si h
 exact ⟨_, _, Res.one rfl rfl, ⟨(decide (0 ≤ xa)) && (decide (xa < (((qa0.length : Nat) : Int)))), rfl, rfl, rfl⟩, (Hp.le_refl _), fun w hs => hs⟩
noncomputable def fn_relate_related_l1 (xa : (List (Int × Bool))) (xb : (List (Int × Bool))) (xc : Int) (xd : Int) : ((List (Int × Int × Int × Int × Bool)) × Int) → Option (((List (Int × Int × Int × Int × Bool)) × Int) ⊕ (List (Int × Int × Int × Int × Bool))) := fun ((l1175, i1180) : ((List (Int × Int × Int × Int × Bool)) × Int)) => cond (decide (i1180 < (((xa.length : Nat) : Int)))) ((getI xa i1180).bind fun x1321 => (getI xb i1180).bind fun x1330 => (app l1175 (([(x1321.1, x1330.1, xc, IntKind.wrap .i64 (xd + i1180), false)] : List (Int × Int × Int × Int × Bool)))).bind fun z1342 => (getI xb i1180).bind fun x1348 => cond (x1348.2) ((getI xb i1180).bind fun x1379 => (getI xa i1180).bind fun x1388 => (app z1342 (([(x1379.1, x1388.1, xc, IntKind.wrap .i64 (xd + i1180), true)] : List (Int × Int × Int × Int × Bool)))).bind fun z1400 => some (.inl ((z1400, IntKind.wrap .i64 (i1180 + 1))))) (some (.inl ((z1342, IntKind.wrap .i64 (i1180 + 1)))))) (some (.inr (l1175)))
noncomputable def fn_relate_related (xa : (List (Int × Bool))) (xb : (List (Int × Bool))) (xc : Int) (xd : Int) : Option ((List (Int × Int × Int × Int × Bool))) :=
  (loop (fn_relate_related_l1 xa xb xc xd) ([], 0) : Option ((List (Int × Int × Int × Int × Bool)))).bind fun l1053 => some (l1053)
set_option maxRecDepth 100000 in
set_option maxHeartbeats 4000000 in
theorem relate_related_ok {K : Hp} {xa : (List (Int × Bool))} {xb : (List (Int × Bool))} {xc : Int} {xd : Int} {adxa_0 : Option Addr} {cpxa_0 : Nat} {adxb_0 : Option Addr} {cpxb_0 : Nat} (fxa_0 : Is K (.sl (.cons (.int .i64) (.one .bool))) [.slice adxa_0 xa.length cpxa_0] xa) (fxb_0 : Is K (.sl (.cons (.int .i64) (.one .bool))) [.slice adxb_0 xb.length cpxb_0] xb) {r : (List (Int × Int × Int × Int × Bool))} (h : fn_relate_related xa xb xc xd = some r) :
    Tr Tryz.prog 95 #[.slice adxa_0 xa.length cpxa_0, .slice adxb_0 xb.length cpxb_0, ii xc, ii xd] K [] (fun v K' L' => (∃ (l702 : (List (Int × Int × Int × Int × Bool))) (ad703 : Option Addr) (cp704 : Nat), l702 = r ∧ .slice ad703 l702.length cp704 = v ∧ L' = [Row Hp.nil 103 (.cons (.int .i64) (.cons (.int .i64) (.cons (.int .i64) (.cons (.int .i64) (.one .bool))))) (.slice ad703 l702.length cp704) l702]) ∧ K = K') := by
 refine Tr.k <| Tr.of Tryz.func95 rfl Tryz.ntmps95 rfl fun E F => ?_
 unfold fn_relate_related at h
 refine cr <| ja (nos) rfl <| J.nil <| cr <| ja (nos) rfl ?_
 refine J.nil <| CJ.seq <| cr <| jm (.slice adxa_0 xa.length cpxa_0) rfl <| jv (ii (((xa.length : Nat) : Int))) (V.len Tryz.underlying24 rfl) <| jm (ii 0) rfl ?_
 refine J.nil ?_
 obtain ⟨o1058, ho1059, h⟩ := ob h
 refine CJ.meetN (fun ρ K' L' => ∃ (l1053 : (List (Int × Int × Int × Int × Bool))) (ad1054 : Option Addr) (cp1055 : Nat), l1053 = o1058 ∧ Fits [(9, .slice ad1054 l1053.length cp1055)] ρ ∧ K = K' ∧ L' = Row Hp.nil 103 (.cons (.int .i64) (.cons (.int .i64) (.cons (.int .i64) (.cons (.int .i64) (.one .bool))))) (.slice ad1054 l1053.length cp1055) l1053 :: F) ?_ ?_
 · refine CJ.block <| CJ.by (fun w hs => Sep.rowNil (e := 103) (t := (.cons (.int .i64) (.cons (.int .i64) (.cons (.int .i64) (.cons (.int .i64) (.one .bool)))))) hs) <| CJ.loop (fun s ρ K' L' => ∃ (l1175 : (List (Int × Int × Int × Int × Bool))) (i1180 : Int) (ad1176 : Option Addr) (cp1177 : Nat), (l1175, i1180) = s ∧ Fits [(0, .slice adxa_0 xa.length cpxa_0), (1, .slice adxb_0 xb.length cpxb_0), (2, ii xc), (3, ii xd), (9, .slice ad1176 l1175.length cp1177), (12, ii (((xa.length : Nat) : Int))), (13, ii i1180)] ρ ∧ K = K' ∧ L' = Row Hp.nil 103 (.cons (.int .i64) (.cons (.int .i64) (.cons (.int .i64) (.cons (.int .i64) (.one .bool))))) (.slice ad1176 l1175.length cp1177) l1175 :: F) ho1059 ⟨[], 0, none, 0, rfl, ⟨rfl, rfl, rfl, rfl, rfl, rfl, rfl, trivial⟩, rfl, rfl⟩ ?_
   rintro s ρ _ _ r1298 ⟨l1175, i1180, ad1176, cp1177, rfl, hf1296, rfl, rfl⟩ h1294
   obtain ⟨ρ, rfl⟩ := hf1296.ex
   refine CJ.wit Row.hn fun hn1179 => cr <| jv (.bool (decide (i1180 < (((xa.length : Nat) : Int))))) (V.lss rfl rfl) <| J.nil <| CJ.seq <| cc rfl h1294 (fun hc1299 h1294 => ?_) fun hc1299 h1294 => ?_
   · refine CJ.skip <| CJ.seq <| CJ.block <| cr <| jm (ii i1180) rfl <| ja (ii i1180) rfl ?_
     refine J.nil <| CJ.seq <| CJ.mix [Row Hp.nil 103 (.cons (.int .i64) (.cons (.int .i64) (.cons (.int .i64) (.cons (.int .i64) (.one .bool))))) (.slice ad1176 l1175.length cp1177) l1175] [([0, 1, 2, 3, 4, 5, 6, 7, 8, 9, 10, 11, 12, 13, 14, 15], 16)] [] [17, 18] mixO (by decide +kernel) ⟨0, rfl, trivial⟩ rfl rfl rfl <| JM.cons <| qm (.slice ad1176 l1175.length cp1177) rfl <| qm (.slice adxa_0 xa.length cpxa_0) rfl <| qm (ii i1180) rfl ?_
     obtain ⟨x1321, hx1322, h1294⟩ := ob h1294
     obtain ⟨p1323, p1324, p1325⟩ := getI_some hx1322
     obtain ⟨b1326, o1327, e1328, a1329⟩ := (fxa_0).at p1324
     refine qv _ (V.iad Tryz.underlying24 sz72 rfl e1328 rfl p1323 p1325) <| qv _ (V.fad Tryz.underlying72 rfl nz3 rfl) <| qv (ii x1321.1) (V.ld rfl (Ld.sc sc3 (Rd.k ((a1329).fst).int (Hp.le_refl _)))) <| qm (.slice adxb_0 xb.length cpxb_0) rfl <| qm (ii i1180) rfl ?_
     obtain ⟨x1330, hx1331, h1294⟩ := ob h1294
     obtain ⟨p1332, p1333, p1334⟩ := getI_some hx1331
     obtain ⟨b1335, o1336, e1337, a1338⟩ := (fxb_0).at p1333
     refine qv _ (V.iad Tryz.underlying24 sz72 rfl e1337 rfl p1332 p1334) <| qv _ (V.fad Tryz.underlying72 rfl nz3 rfl) <| qv (ii x1330.1) (V.ld rfl (Ld.sc sc3 (Rd.k ((a1338).fst).int (Hp.le_refl _)))) <| qm (ii xc) rfl <| qm (ii xd) rfl <| qm (ii i1180) rfl <| qv (ii (IntKind.wrap .i64 (xd + i1180))) (V.add rfl rfl) ?_
     refine qv (.agg #[ii x1321.1, ii x1330.1, ii xc, ii (IntKind.wrap .i64 (xd + i1180)), .bool false]) (V.build inf103 places103 rfl rfl) <| JQ.nil ?_
     refine JA.op rfl (A.lit (K0 := Hp.nil) (ty := (.cons (.int .i64) (.cons (.int .i64) (.cons (.int .i64) (.cons (.int .i64) (.one .bool)))))) (xs := ([(x1321.1, x1330.1, xc, IntKind.wrap .i64 (xd + i1180), false)] : List (Int × Int × Int × Int × Bool))) Tryz.underlying101 inf103 rfl (by decide) rfl rfl rfl ⟨_, _, rfl, ⟨_, _, rfl, rfl, rfl, ⟨_, _, rfl, rfl, rfl, ⟨_, _, rfl, rfl, rfl, ⟨_, _, rfl, rfl, rfl, rfl⟩⟩⟩⟩, rfl⟩ rfl (by decide)) ?_
     rintro _ _ _ ⟨b1339, rfl, rfl, rfl⟩
     have hn1340 : ([(x1321.1, x1330.1, xc, IntKind.wrap .i64 (xd + i1180), false)] : List (Int × Int × Int × Int × Bool)) ≠ [] → ∃ g, (some ⟨b1339, 0, none⟩ : Option Addr) = some ⟨g, 0, none⟩ := fun _ => ⟨b1339, rfl⟩
     refine ⟨fun w hs => Hold.sub (Hp.le_refl _) ⟨1, rfl, trivial⟩ hs, ?_⟩
     refine JM.nil <| JQ.nil ?_
     obtain ⟨z1342, hz1343, h1294⟩ := ob h1294
     refine J.front 1 rfl <| J.op rfl (A.appR (Kr := Hp.nil) Tryz.underlying101 inf103 rfl rfl (by decide) (by decide) rfl rfl (Els.flat rfl) (Els.flat rfl) hz1343) ?_
     rintro _ _ _ ⟨v1344, rfl, rfl, rfl⟩
     refine J.wit Row.form ?_
     rintro ⟨ad1345, cp1346, rfl, _, _, hn1347⟩
     refine ja (.slice ad1345 z1342.length cp1346) rfl <| J.nil <| cr <| jm (.slice adxb_0 xb.length cpxb_0) rfl <| jm (ii i1180) rfl ?_
     obtain ⟨x1348, hx1349, h1294⟩ := ob h1294
     obtain ⟨p1350, p1351, p1352⟩ := getI_some hx1349
     obtain ⟨b1353, o1354, e1355, a1356⟩ := (fxb_0).at p1351
     refine jv _ (V.iad Tryz.underlying24 sz72 rfl e1355 rfl p1350 p1352) <| jv _ (V.fad Tryz.underlying72 rfl nz4 rfl) <| jv (.bool x1348.2) (V.ld rfl (Ld.sc sc4 (Rd.k (((a1356).snd).one).bool (Hp.le_refl _)))) <| J.nil <| cc rfl h1294 (fun hc1357 h1294 => ?_) fun hc1357 h1294 => ?_
     · refine CJ.mix [Row Hp.nil 103 (.cons (.int .i64) (.cons (.int .i64) (.cons (.int .i64) (.cons (.int .i64) (.one .bool))))) (.slice ad1345 z1342.length cp1346) z1342] [([0, 1, 2, 3, 4, 5, 6, 7, 8, 9, 10, 11, 12, 13, 14, 15], 16)] [] [17, 18] mixO (by decide +kernel) ⟨0, rfl, trivial⟩ rfl rfl rfl <| JM.cons <| qm (.slice ad1345 z1342.length cp1346) rfl <| qm (.slice adxb_0 xb.length cpxb_0) rfl <| qm (ii i1180) rfl ?_
       obtain ⟨x1379, hx1380, h1294⟩ := ob h1294
       obtain ⟨p1381, p1382, p1383⟩ := getI_some hx1380
       obtain ⟨b1384, o1385, e1386, a1387⟩ := (fxb_0).at p1382
       refine qv _ (V.iad Tryz.underlying24 sz72 rfl e1386 rfl p1381 p1383) <| qv _ (V.fad Tryz.underlying72 rfl nz3 rfl) <| qv (ii x1379.1) (V.ld rfl (Ld.sc sc3 (Rd.k ((a1387).fst).int (Hp.le_refl _)))) <| qm (.slice adxa_0 xa.length cpxa_0) rfl <| qm (ii i1180) rfl ?_
       obtain ⟨x1388, hx1389, h1294⟩ := ob h1294
       obtain ⟨p1390, p1391, p1392⟩ := getI_some hx1389
       obtain ⟨b1393, o1394, e1395, a1396⟩ := (fxa_0).at p1391
       refine qv _ (V.iad Tryz.underlying24 sz72 rfl e1395 rfl p1390 p1392) <| qv _ (V.fad Tryz.underlying72 rfl nz3 rfl) <| qv (ii x1388.1) (V.ld rfl (Ld.sc sc3 (Rd.k ((a1396).fst).int (Hp.le_refl _)))) <| qm (ii xc) rfl <| qm (ii xd) rfl <| qm (ii i1180) rfl <| qv (ii (IntKind.wrap .i64 (xd + i1180))) (V.add rfl rfl) ?_
       refine qv (.agg #[ii x1379.1, ii x1388.1, ii xc, ii (IntKind.wrap .i64 (xd + i1180)), .bool true]) (V.build inf103 places103 rfl rfl) <| JQ.nil ?_
       refine JA.op rfl (A.lit (K0 := Hp.nil) (ty := (.cons (.int .i64) (.cons (.int .i64) (.cons (.int .i64) (.cons (.int .i64) (.one .bool)))))) (xs := ([(x1379.1, x1388.1, xc, IntKind.wrap .i64 (xd + i1180), true)] : List (Int × Int × Int × Int × Bool))) Tryz.underlying101 inf103 rfl (by decide) rfl rfl rfl ⟨_, _, rfl, ⟨_, _, rfl, rfl, rfl, ⟨_, _, rfl, rfl, rfl, ⟨_, _, rfl, rfl, rfl, ⟨_, _, rfl, rfl, rfl, rfl⟩⟩⟩⟩, rfl⟩ rfl (by decide)) ?_
       rintro _ _ _ ⟨b1397, rfl, rfl, rfl⟩
       have hn1398 : ([(x1379.1, x1388.1, xc, IntKind.wrap .i64 (xd + i1180), true)] : List (Int × Int × Int × Int × Bool)) ≠ [] → ∃ g, (some ⟨b1397, 0, none⟩ : Option Addr) = some ⟨g, 0, none⟩ := fun _ => ⟨b1397, rfl⟩
       refine ⟨fun w hs => Hold.sub (Hp.le_refl _) ⟨1, rfl, trivial⟩ hs, ?_⟩
       refine JM.nil <| JQ.nil ?_
       obtain ⟨z1400, hz1401, h1294⟩ := ob h1294
       refine J.front 1 rfl <| J.op rfl (A.appR (Kr := Hp.nil) Tryz.underlying101 inf103 rfl rfl (by decide) (by decide) rfl rfl (Els.flat rfl) (Els.flat rfl) hz1401) ?_
       rintro _ _ _ ⟨v1402, rfl, rfl, rfl⟩
       refine J.wit Row.form ?_
       rintro ⟨ad1403, cp1404, rfl, _, _, hn1405⟩
       refine ja (.slice ad1403 z1400.length cp1404) rfl <| J.nil <| CJ.region <| jv (ii (IntKind.wrap .i64 (i1180 + 1))) (V.add rfl rfl) <| jm (ii (IntKind.wrap .i64 (i1180 + 1))) rfl <| J.nil ?_
       obtain rfl := si h1294
       exact ⟨rfl, ⟨z1400, IntKind.wrap .i64 (i1180 + 1), ad1403, cp1404, rfl, ⟨rfl, rfl, rfl, rfl, rfl, rfl, rfl, trivial⟩, rfl, rfl⟩⟩
     refine CJ.skip <| CJ.region <| jv (ii (IntKind.wrap .i64 (i1180 + 1))) (V.add rfl rfl) <| jm (ii (IntKind.wrap .i64 (i1180 + 1))) rfl <| J.nil ?_
     obtain rfl := si h1294
     exact ⟨rfl, ⟨z1342, IntKind.wrap .i64 (i1180 + 1), ad1345, cp1346, rfl, ⟨rfl, rfl, rfl, rfl, rfl, rfl, rfl, trivial⟩, rfl, rfl⟩⟩
   refine CJ.exit ?_
   obtain rfl := si h1294
   refine ⟨nofun, fun e => ?_⟩
   subst e
   exact ⟨rfl, ⟨l1175, ad1176, cp1177, rfl, ⟨rfl, trivial⟩, rfl, rfl⟩⟩
 rintro ρ _ _ ⟨l1053, ad1054, cp1055, rfl, hf1406, rfl, rfl⟩
 obtain ⟨ρ, rfl⟩ := hf1406.ex
 refine PJ.wit Row.hn fun hn1057 => PJ.done <| cr <| jm (.slice ad1054 l1053.length cp1055) rfl <| ja (.slice ad1054 l1053.length cp1055) rfl <| J.nil ?_
 refine CJ.ret ?_
 obtain rfl := si h
 exact ⟨_, _, Res.one rfl rfl, ⟨l1053, ad1054, cp1055, rfl, rfl, rfl⟩, (Hp.le_refl _), fun w hs => hs⟩

noncomputable def fn_relate_Flow (xa : (List (Int × Bool))) (xb : (List (Int × Bool))) (xc : Int) (xd : Int) : Option (((List (Int × Int × Int × Int × Bool)) × Int)) :=
  (fn_row_Shape xa xb).bind fun t30 => cond (!t30) (some (([], 8))) ((fn_relate_related xa xb xc xd).bind fun l38 => some ((l38, 0)))
set_option maxRecDepth 100000 in
set_option maxHeartbeats 4000000 in
theorem relate_Flow_ok {K : Hp} {xa : (List (Int × Bool))} {xb : (List (Int × Bool))} {xc : Int} {xd : Int} {adxa_0 : Option Addr} {cpxa_0 : Nat} {adxb_0 : Option Addr} {cpxb_0 : Nat} (fxa_0 : Is K (.sl (.cons (.int .i64) (.one .bool))) [.slice adxa_0 xa.length cpxa_0] xa) (fxb_0 : Is K (.sl (.cons (.int .i64) (.one .bool))) [.slice adxb_0 xb.length cpxb_0] xb) {r : ((List (Int × Int × Int × Int × Bool)) × Int)} (h : fn_relate_Flow xa xb xc xd = some r) :
    Tr Tryz.prog 78 #[.agg #[.slice adxa_0 xa.length cpxa_0], .agg #[.slice adxb_0 xb.length cpxb_0], ii xc, ii xd] K [] (fun v K' L' => (∃ (l20 : (List (Int × Int × Int × Int × Bool))) (i25 : Int) (ad21 : Option Addr) (cp22 : Nat), (l20, i25) = r ∧ .tuple #[.slice ad21 l20.length cp22, ii i25] = v ∧ L' = [Row Hp.nil 103 (.cons (.int .i64) (.cons (.int .i64) (.cons (.int .i64) (.cons (.int .i64) (.one .bool))))) (.slice ad21 l20.length cp22) l20]) ∧ K = K') := by
 refine Tr.k <| Tr.of Tryz.func78 rfl Tryz.ntmps78 rfl fun E F => ?_
 unfold fn_relate_Flow at h
 refine cr <| jbx [.slice adxa_0 xa.length cpxa_0] rfl rfl fun b26 => jbx [.slice adxb_0 xb.length cpxb_0] rfl rfl fun b27 => ja (nos) rfl <| ja (ii 0) rfl <| J.nil ?_
 refine CJ.seq <| cr <| jv (.agg #[.slice adxa_0 xa.length cpxa_0]) (V.ld rfl (Ld.agg (cs := [.slice adxa_0 xa.length cpxa_0]) Tryz.underlying26 sz26 rfl (Rd.cls 1 0 rfl rfl))) <| jv (.agg #[.slice adxb_0 xb.length cpxb_0]) (V.ld rfl (Ld.agg (cs := [.slice adxb_0 xb.length cpxb_0]) Tryz.underlying26 sz26 rfl (Rd.cls 0 0 rfl rfl))) ?_
 obtain ⟨r28, hr29, h⟩ := ob h
 refine J.op rfl (A.call (L1 := []) Tryz.call89 rfl (row_Shape_ok fxa_0 fxb_0 hr29) rfl rfl) ?_
 rintro _ _ _ ⟨v31, _, rfl, ⟨⟨t30, rfl, rfl, rfl⟩, rfl⟩, _, rfl⟩
 refine jv (.bool (!t30)) (V.not rfl) <| J.nil <| cc rfl h (fun hc34 h => ?_) fun hc34 h => ?_
 · refine cr <| ja (nos) rfl <| ja (ii 8) rfl <| J.nil <| CJ.by (fun w hs => Sep.rowNil (e := 103) (t := (.cons (.int .i64) (.cons (.int .i64) (.cons (.int .i64) (.cons (.int .i64) (.one .bool)))))) hs) <| CJ.ret ?_
   obtain rfl := si h
   exact ⟨_, _, Res.two rfl rfl rfl, ⟨[], 8, none, 0, rfl, rfl, rfl⟩, (Hp.le_refl _), fun w hs => (Sep.dropAt 1 rfl (Sep.dropAt 1 rfl hs))⟩
 refine CJ.skip <| cr <| jv _ (V.fad Tryz.underlying26 rfl nz24 rfl) <| jv (.slice adxa_0 xa.length cpxa_0) (V.ld rfl (Ld.sc sc24 (Rd.cl 1 rfl rfl))) <| jv _ (V.fad Tryz.underlying26 rfl nz24 rfl) <| jv (.slice adxb_0 xb.length cpxb_0) (V.ld rfl (Ld.sc sc24 (Rd.cl 0 rfl rfl))) ?_
 refine jm (ii xc) rfl <| jm (ii xd) rfl ?_
 obtain ⟨r36, hr37, h⟩ := ob h
 refine J.op rfl (A.call (L1 := []) Tryz.call95 rfl (relate_related_ok fxa_0 fxb_0 hr37) rfl rfl) ?_
 rintro _ _ _ ⟨v42, _, rfl, ⟨⟨l38, ad39, cp40, rfl, rfl, rfl⟩, rfl⟩, _, rfl⟩
 refine J.wit Row.hn fun hn41 => ja (.slice ad39 l38.length cp40) rfl <| ja (ii 0) rfl <| J.nil <| CJ.ret ?_
 obtain rfl := si h
 exact ⟨_, _, Res.two rfl rfl rfl, ⟨l38, 0, ad39, cp40, rfl, rfl, rfl⟩, (Hp.le_refl _), fun w hs => (Sep.dropAt 1 rfl (Sep.dropAt 1 rfl hs))⟩
noncomputable def fn_row_Ref_l1 (xa : (List (Int × Bool))) (xc : Bool) : ((List (Int × Bool)) × Int) → Option (((List (Int × Bool)) × Int) ⊕ (List (Int × Bool))) := fun ((l334, i339) : ((List (Int × Bool)) × Int)) => cond (decide (i339 < (((xa.length : Nat) : Int)))) ((getI xa i339).bind fun x374 => (app l334 (([(x374.1, x374.2 || xc)] : List (Int × Bool)))).bind fun z390 => some (.inl ((z390, IntKind.wrap .i64 (i339 + 1))))) (some (.inr (l334)))
noncomputable def fn_row_Ref (xa : (List (Int × Bool))) (xb : Int) (xc : Bool) : Option ((List (Int × Bool))) :=
  (loop (fn_row_Ref_l1 xa xc) ((([(xb, false)] : List (Int × Bool)), 0)) : Option ((List (Int × Bool)))).bind fun l298 => some (l298)
set_option maxRecDepth 100000 in
set_option maxHeartbeats 4000000 in
theorem row_Ref_ok {K : Hp} {xa : (List (Int × Bool))} {xb : Int} {xc : Bool} {adxa_0 : Option Addr} {cpxa_0 : Nat} (fxa_0 : Is K (.sl (.cons (.int .i64) (.one .bool))) [.slice adxa_0 xa.length cpxa_0] xa) {r : (List (Int × Bool))} (h : fn_row_Ref xa xb xc = some r) :
    Tr Tryz.prog 96 #[.agg #[.slice adxa_0 xa.length cpxa_0], ii xb, .bool xc] K [] (fun v K' L' => (∃ (l197 : (List (Int × Bool))) (ad198 : Option Addr) (cp199 : Nat), l197 = r ∧ .agg #[.slice ad198 l197.length cp199] = v ∧ L' = [Row Hp.nil 72 (.cons (.int .i64) (.one .bool)) (.slice ad198 l197.length cp199) l197]) ∧ K = K') := by
 refine Tr.k <| Tr.of Tryz.func96 rfl Tryz.ntmps96 rfl fun E F => ?_
 unfold fn_row_Ref at h
 refine cr <| jbx [.slice adxa_0 xa.length cpxa_0] rfl rfl fun b202 => jal inf26 [nos] rfl fun b203 => J.nil <| CJ.seq <| CJ.region ?_
 refine jm (ii xb) rfl <| jv (.agg #[ii xb, .bool false]) (V.build inf72 places72 rfl rfl) ?_
 refine J.op rfl (A.lit (K0 := Hp.nil) (ty := (.cons (.int .i64) (.one .bool))) (xs := ([(xb, false)] : List (Int × Bool))) Tryz.underlying24 inf72 rfl (by decide) rfl rfl rfl ⟨_, _, rfl, ⟨_, _, rfl, rfl, rfl, rfl⟩, rfl⟩ rfl (by decide)) ?_
 rintro _ _ _ ⟨b204, rfl, rfl, rfl⟩
 have hn205 : ([(xb, false)] : List (Int × Bool)) ≠ [] → ∃ g, (some ⟨b204, 0, none⟩ : Option Addr) = some ⟨g, 0, none⟩ := fun _ => ⟨b204, rfl⟩
 refine ja (.slice (some ⟨b204, 0, none⟩) ((([(xb, false)] : List (Int × Bool))).length) 1) rfl <| J.nil <| CJ.seq <| cr <| jv _ (V.fad Tryz.underlying26 rfl nz24 rfl) <| jv (.slice adxa_0 xa.length cpxa_0) (V.ld rfl (Ld.sc sc24 (Rd.cl 2 rfl rfl))) ?_
 refine jv (ii (((xa.length : Nat) : Int))) (V.len Tryz.underlying24 rfl) <| jm (ii 0) rfl <| J.nil ?_
 obtain ⟨o303, ho304, h⟩ := ob h
 refine CJ.meetN (fun ρ K' L' => ∃ (l298 : (List (Int × Bool))) (ad299 : Option Addr) (cp300 : Nat), l298 = o303 ∧ Fits [(6, .pointer (some ⟨b203, 0, none⟩)), (7, .slice ad299 l298.length cp300)] ρ ∧ K = K' ∧ L' = Cl b203 26 [nos] :: Row Hp.nil 72 (.cons (.int .i64) (.one .bool)) (.slice ad299 l298.length cp300) l298 :: F) ?_ ?_
 · refine CJ.block <| CJ.dropAt 2 rfl <| CJ.front 1 rfl <| CJ.loop (fun s ρ K' L' => ∃ (l334 : (List (Int × Bool))) (i339 : Int) (ad335 : Option Addr) (cp336 : Nat), (l334, i339) = s ∧ Fits [(2, .bool xc), (6, .pointer (some ⟨b203, 0, none⟩)), (7, .slice ad335 l334.length cp336), (14, .slice adxa_0 xa.length cpxa_0), (15, ii (((xa.length : Nat) : Int))), (16, ii i339)] ρ ∧ K = K' ∧ L' = Cl b203 26 [nos] :: Row Hp.nil 72 (.cons (.int .i64) (.one .bool)) (.slice ad335 l334.length cp336) l334 :: F) ho304 ⟨([(xb, false)] : List (Int × Bool)), 0, (some ⟨b204, 0, none⟩), 1, rfl, ⟨rfl, rfl, rfl, rfl, rfl, rfl, trivial⟩, rfl, rfl⟩ ?_
   rintro s ρ _ _ r372 ⟨l334, i339, ad335, cp336, rfl, hf370, rfl, rfl⟩ h369
   obtain ⟨ρ, rfl⟩ := hf370.ex
   refine CJ.front 1 rfl <| CJ.wit Row.hn fun hn338 => cr <| jv (.bool (decide (i339 < (((xa.length : Nat) : Int))))) (V.lss rfl rfl) <| J.nil <| CJ.seq ?_
   refine cc rfl h369 (fun hc373 h369 => ?_) fun hc373 h369 => ?_
   · refine CJ.skip <| CJ.seq <| CJ.block <| CJ.seq <| CJ.region ?_
     obtain ⟨x374, hx375, h369⟩ := ob h369
     obtain ⟨p376, p377, p378⟩ := getI_some hx375
     obtain ⟨b379, o380, e381, a382⟩ := (fxa_0).at p377
     refine jv _ (V.iad Tryz.underlying24 sz72 rfl e381 rfl p376 p378) <| jv (.agg #[ii x374.1, .bool x374.2]) (V.ld rfl (Ld.aggK (cs := [ii x374.1, .bool x374.2]) Tryz.underlying72 sz72 rfl ⟨((a382).fst).int, (((a382).snd).one).bool, trivial⟩ (Hp.le_refl _))) <| jal inf72 [ii 0, .bool false] rfl fun b383 => js [ii x374.1, .bool x374.2] sz72 rfl rfl rfl rfl rfl rfl <| J.nil <| CJ.region <| jm (.slice ad335 l334.length cp336) rfl ?_
     refine jv _ (V.fad Tryz.underlying72 rfl nz3 rfl) <| jv (ii x374.1) (V.ld rfl (Ld.sc sc3 (Rd.cl 0 rfl rfl))) <| jv _ (V.fad Tryz.underlying72 rfl nz4 rfl) <| jv (.bool x374.2) (V.ld rfl (Ld.sc sc4 (Rd.cl 0 rfl rfl))) <| jm (.bool x374.2) rfl <| J.cut 2 <| jmeet [(27, .bool (x374.2 || xc)), (2, .bool xc), (6, .pointer (some ⟨b203, 0, none⟩)), (14, .slice adxa_0 xa.length cpxa_0), (15, ii (((xa.length : Nat) : Int))), (16, ii i339), (20, .slice ad335 l334.length cp336), (22, ii x374.1)] ?_ ?_
     · rcases bt (x374.2) with hc386 | hc386
       · refine J.skip rfl rfl rfl rfl hc386 <| jv (.bool true) (V.pickT rfl hc386 rfl) <| J.nil ?_
         exact ⟨rfl, ⟨(by simp only [hc386]; rfl), rfl, rfl, rfl, rfl, rfl, rfl, rfl, trivial⟩, rfl, rfl⟩
       refine J.run rfl rfl rfl hc386 <| jm (.bool xc) rfl <| jv (.bool xc) (V.pickF rfl hc386 rfl) <| J.nil ?_
       exact ⟨rfl, ⟨(by simp only [hc386]; rfl), rfl, rfl, rfl, rfl, rfl, rfl, rfl, trivial⟩, rfl, rfl⟩
     intro ρ
     refine jv (.agg #[ii x374.1, .bool (x374.2 || xc)]) (V.build inf72 places72 rfl rfl) ?_
     refine J.op rfl (A.lit (K0 := Hp.nil) (ty := (.cons (.int .i64) (.one .bool))) (xs := ([(x374.1, x374.2 || xc)] : List (Int × Bool))) Tryz.underlying24 inf72 rfl (by decide) rfl rfl rfl ⟨_, _, rfl, ⟨_, _, rfl, rfl, rfl, rfl⟩, rfl⟩ rfl (by decide)) ?_
     rintro _ _ _ ⟨b387, rfl, rfl, rfl⟩
     have hn388 : ([(x374.1, x374.2 || xc)] : List (Int × Bool)) ≠ [] → ∃ g, (some ⟨b387, 0, none⟩ : Option Addr) = some ⟨g, 0, none⟩ := fun _ => ⟨b387, rfl⟩
     obtain ⟨z390, hz391, h369⟩ := ob h369
     refine J.front 2 rfl <| J.op rfl (A.appR (Kr := Hp.nil) Tryz.underlying24 inf72 rfl rfl (by decide) (by decide) rfl rfl (Els.flat rfl) (Els.flat rfl) hz391) ?_
     rintro _ _ _ ⟨v392, rfl, rfl, rfl⟩
     refine J.wit Row.form ?_
     rintro ⟨ad393, cp394, rfl, _, _, hn395⟩
     refine ja (.slice ad393 z390.length cp394) rfl <| J.nil <| CJ.region <| jv (ii (IntKind.wrap .i64 (i339 + 1))) (V.add rfl rfl) <| jm (ii (IntKind.wrap .i64 (i339 + 1))) rfl <| J.dropAt 1 rfl <| J.front 1 rfl ?_
     refine J.nil ?_
     obtain rfl := si h369
     exact ⟨rfl, ⟨z390, IntKind.wrap .i64 (i339 + 1), ad393, cp394, rfl, ⟨rfl, rfl, rfl, rfl, rfl, rfl, trivial⟩, rfl, rfl⟩⟩
   refine CJ.front 1 rfl <| CJ.exit ?_
   obtain rfl := si h369
   refine ⟨nofun, fun e => ?_⟩
   subst e
   exact ⟨rfl, ⟨l334, ad335, cp336, rfl, ⟨rfl, rfl, trivial⟩, rfl, rfl⟩⟩
 rintro ρ _ _ ⟨l298, ad299, cp300, rfl, hf396, rfl, rfl⟩
 obtain ⟨ρ, rfl⟩ := hf396.ex
 refine PJ.front 1 rfl <| PJ.wit Row.hn fun hn302 => PJ.done <| cr <| jm (.slice ad299 l298.length cp300) rfl <| jv (.agg #[.slice ad299 l298.length cp300]) (V.build inf26 places26 rfl rfl) ?_
 refine J.front 1 rfl <| js [.slice ad299 l298.length cp300] sz26 rfl rfl rfl rfl rfl rfl <| J.nil <| CJ.ret ?_
 obtain rfl := si h
 exact ⟨_, _, Res.one rfl ⟨_, _, rfl, Ld.agg (cs := [.slice ad299 l298.length cp300]) Tryz.underlying26 sz26 rfl (Rd.cls 0 0 rfl rfl)⟩, ⟨l298, ad299, cp300, rfl, rfl, rfl⟩, (Hp.le_refl _), fun w hs => (Sep.dropAt 0 rfl hs)⟩

noncomputable def fn_relate_Loan (xa : (List (Int × Bool))) (xb : (List (Int × Bool))) (xc : Int) (xd : Bool) : Option (((List (Int × Int × Int × Int × Bool)) × Int)) :=
  (fn_row_Ref xa xc xd).bind fun l121 => (fn_row_Shape xb l121).bind fun t134 => cond (!t134) (some (([], 8))) ((getI xb 0).bind fun x140 => (subL xb 1 (((xb.length : Nat) : Int))).bind fun y168 => (fn_relate_related xa y168 1 1).bind fun l176 => (app (([(xc, x140.1, 2, 0, false)] : List (Int × Int × Int × Int × Bool))) l176).bind fun z184 => some ((z184, 0)))
set_option maxRecDepth 100000 in
set_option maxHeartbeats 4000000 in
theorem relate_Loan_ok {K : Hp} {xa : (List (Int × Bool))} {xb : (List (Int × Bool))} {xc : Int} {xd : Bool} {adxa_0 : Option Addr} {cpxa_0 : Nat} {adxb_0 : Option Addr} {cpxb_0 : Nat} (fxa_0 : Is K (.sl (.cons (.int .i64) (.one .bool))) [.slice adxa_0 xa.length cpxa_0] xa) (fxb_0 : Is K (.sl (.cons (.int .i64) (.one .bool))) [.slice adxb_0 xb.length cpxb_0] xb) {r : ((List (Int × Int × Int × Int × Bool)) × Int)} (h : fn_relate_Loan xa xb xc xd = some r) :
    Tr Tryz.prog 79 #[.agg #[.slice adxa_0 xa.length cpxa_0], .agg #[.slice adxb_0 xb.length cpxb_0], ii xc, .bool xd] K [] (fun v K' L' => (∃ (l92 : (List (Int × Int × Int × Int × Bool))) (i97 : Int) (ad93 : Option Addr) (cp94 : Nat), (l92, i97) = r ∧ .tuple #[.slice ad93 l92.length cp94, ii i97] = v ∧ L' = [Row Hp.nil 103 (.cons (.int .i64) (.cons (.int .i64) (.cons (.int .i64) (.cons (.int .i64) (.one .bool))))) (.slice ad93 l92.length cp94) l92]) ∧ K = K') := by
 refine Tr.k <| Tr.of Tryz.func79 rfl Tryz.ntmps79 rfl fun E F => ?_
 unfold fn_relate_Loan at h
 refine cr <| jbx [.slice adxa_0 xa.length cpxa_0] rfl rfl fun b98 => jbx [.slice adxb_0 xb.length cpxb_0] rfl rfl fun b99 => ja (nos) rfl <| ja (ii 0) rfl <| J.nil ?_
 refine CJ.seq <| CJ.seq <| CJ.mix [Cl b99 26 [.slice adxb_0 xb.length cpxb_0], Cl b98 26 [.slice adxa_0 xa.length cpxa_0]] [([0, 1, 2, 3], 4), ([], 5)] [6] [] mixO (by decide +kernel) ⟨0, rfl, 0, rfl, trivial⟩ rfl rfl rfl <| JM.cons <| qv (.agg #[.slice adxb_0 xb.length cpxb_0]) (V.ld rfl (Ld.agg (cs := [.slice adxb_0 xb.length cpxb_0]) Tryz.underlying26 sz26 rfl (Rd.cls 0 0 rfl rfl))) <| qv (.agg #[.slice adxa_0 xa.length cpxa_0]) (V.ld rfl (Ld.agg (cs := [.slice adxa_0 xa.length cpxa_0]) Tryz.underlying26 sz26 rfl (Rd.cls 1 0 rfl rfl))) <| qm (ii xc) rfl ?_
 refine qm (.bool xd) rfl <| JQ.nil ?_
 obtain ⟨r119, hr120, h⟩ := ob h
 refine JA.op rfl (A.call (L1 := []) Tryz.call96 rfl (row_Ref_ok fxa_0 hr120) rfl rfl) ?_
 rintro _ _ _ ⟨v125, _, rfl, ⟨⟨l121, ad122, cp123, rfl, rfl, rfl⟩, rfl⟩, _, rfl⟩
 refine ⟨fun w hs => Hold.sub (Hp.le_refl _) ⟨1, rfl, 1, rfl, trivial⟩ hs, ?_⟩
 refine JM.wit Row.hn fun hn124 => JM.cons <| JQ.nil ?_
 obtain ⟨r129, hr130, h⟩ := ob h
 refine JA.op rfl (A.call (L1 := [Row Hp.nil 72 (.cons (.int .i64) (.one .bool)) (.slice ad122 l121.length cp123) l121]) Tryz.call89 rfl (Tr.lend (Hp.nil_le _) (by decide) (fun K131 hK132 f133 => row_Shape_ok (fxb_0.mono hK132) f133 hr130)) rfl rfl) ?_
 rintro _ _ _ ⟨v135, _, rfl, ⟨⟨_, ⟨t134, rfl, rfl, rfl⟩, rfl⟩, rfl⟩, _, rfl⟩
 refine ⟨fun w hs => Hold.sub (Hp.le_refl _) ⟨1, rfl, 1, rfl, trivial⟩ hs, ?_⟩
 refine JM.nil <| qv (.bool (!t134)) (V.not rfl) <| JQ.nil <| J.nil <| cc rfl h (fun hc138 h => ?_) fun hc138 h => ?_
 · refine cr <| ja (nos) rfl <| ja (ii 8) rfl <| J.nil <| CJ.by (fun w hs => Sep.rowNil (e := 103) (t := (.cons (.int .i64) (.cons (.int .i64) (.cons (.int .i64) (.cons (.int .i64) (.one .bool)))))) hs) <| CJ.ret ?_
   obtain rfl := si h
   exact ⟨_, _, Res.two rfl rfl rfl, ⟨[], 8, none, 0, rfl, rfl, rfl⟩, (Hp.le_refl _), fun w hs => (Sep.dropAt 1 rfl (Sep.dropAt 1 rfl (Sep.dropAt 1 rfl hs)))⟩
 refine CJ.skip <| cr <| jm (ii xc) rfl <| jv _ (V.fad Tryz.underlying26 rfl nz24 rfl) <| jv (.slice adxb_0 xb.length cpxb_0) (V.ld rfl (Ld.sc sc24 (Rd.cl 1 rfl rfl))) ?_
 obtain ⟨x140, hx141, h⟩ := ob h
 obtain ⟨p142, p143, p144⟩ := getI_some hx141
 obtain ⟨b145, o146, e147, a148⟩ := (fxb_0).at p143
 refine jv _ (V.iad Tryz.underlying24 sz72 rfl e147 rfl p142 p144) <| jv _ (V.fad Tryz.underlying72 rfl nz3 rfl) <| jv (ii x140.1) (V.ld rfl (Ld.sc sc3 (Rd.k ((a148).fst).int (Hp.le_refl _)))) <| jv (.agg #[ii xc, ii x140.1, ii 2, ii 0, .bool false]) (V.build inf103 places103 rfl rfl) ?_
 refine J.op rfl (A.lit (K0 := Hp.nil) (ty := (.cons (.int .i64) (.cons (.int .i64) (.cons (.int .i64) (.cons (.int .i64) (.one .bool)))))) (xs := ([(xc, x140.1, 2, 0, false)] : List (Int × Int × Int × Int × Bool))) Tryz.underlying101 inf103 rfl (by decide) rfl rfl rfl ⟨_, _, rfl, ⟨_, _, rfl, rfl, rfl, ⟨_, _, rfl, rfl, rfl, ⟨_, _, rfl, rfl, rfl, ⟨_, _, rfl, rfl, rfl, rfl⟩⟩⟩⟩, rfl⟩ rfl (by decide)) ?_
 rintro _ _ _ ⟨b149, rfl, rfl, rfl⟩
 have hn150 : ([(xc, x140.1, 2, 0, false)] : List (Int × Int × Int × Int × Bool)) ≠ [] → ∃ g, (some ⟨b149, 0, none⟩ : Option Addr) = some ⟨g, 0, none⟩ := fun _ => ⟨b149, rfl⟩
 refine ja (.slice (some ⟨b149, 0, none⟩) ((([(xc, x140.1, 2, 0, false)] : List (Int × Int × Int × Int × Bool))).length) 1) rfl <| J.nil <| CJ.seq <| CJ.mix [Row Hp.nil 103 (.cons (.int .i64) (.cons (.int .i64) (.cons (.int .i64) (.cons (.int .i64) (.one .bool))))) (.slice (some ⟨b149, 0, none⟩) ((([(xc, x140.1, 2, 0, false)] : List (Int × Int × Int × Int × Bool))).length) 1) (([(xc, x140.1, 2, 0, false)] : List (Int × Int × Int × Int × Bool))), Row Hp.nil 72 (.cons (.int .i64) (.one .bool)) (.slice ad122 l121.length cp123) l121, Cl b99 26 [.slice adxb_0 xb.length cpxb_0], Cl b98 26 [.slice adxa_0 xa.length cpxa_0]] [([0, 1, 2, 3, 4, 5], 6)] [] [7, 8, 9] mixO (by decide +kernel) ⟨0, rfl, 0, rfl, 0, rfl, 0, rfl, trivial⟩ rfl rfl rfl <| JM.cons <| qm (.slice (some ⟨b149, 0, none⟩) ((([(xc, x140.1, 2, 0, false)] : List (Int × Int × Int × Int × Bool))).length) 1) rfl <| qv _ (V.fad Tryz.underlying26 rfl nz24 rfl) ?_
 refine qv (.slice adxa_0 xa.length cpxa_0) (V.ld rfl (Ld.sc sc24 (Rd.cl 3 rfl rfl))) <| qv _ (V.fad Tryz.underlying26 rfl nz24 rfl) <| qv (.slice adxb_0 xb.length cpxb_0) (V.ld rfl (Ld.sc sc24 (Rd.cl 2 rfl rfl))) ?_
 obtain ⟨y168, hy169, h⟩ := ob h
 obtain ⟨ad170, cp171, hv172, f173⟩ := V.subI (tp := (.cons (.int .i64) (.one .bool))) Tryz.underlying24 sz72 fxb_0 hy169
 refine qv (.slice ad170 y168.length cp171) (hv172 rfl (fun _ h => by cases h; exact ⟨_, rfl⟩) nofun nofun (fun _ => rfl)) <| JQ.nil ?_
 obtain ⟨r174, hr175, h⟩ := ob h
 refine JA.op rfl (A.call (L1 := []) Tryz.call95 rfl (relate_related_ok fxa_0 f173 hr175) rfl rfl) ?_
 rintro _ _ _ ⟨v180, _, rfl, ⟨⟨l176, ad177, cp178, rfl, rfl, rfl⟩, rfl⟩, _, rfl⟩
 refine ⟨fun w hs => Hold.sub (Hp.le_refl _) ⟨1, rfl, 1, rfl, 1, rfl, 1, rfl, trivial⟩ hs, ?_⟩
 refine JM.wit Row.hn fun hn179 => JM.nil <| JQ.nil ?_
 obtain ⟨z184, hz185, h⟩ := ob h
 refine J.front 1 rfl <| J.op rfl (A.appR (Kr := Hp.nil) Tryz.underlying101 inf103 rfl rfl (by decide) (by decide) rfl rfl (Els.flat rfl) (Els.flat rfl) hz185) ?_
 rintro _ _ _ ⟨v186, rfl, rfl, rfl⟩
 refine J.wit Row.form ?_
 rintro ⟨ad187, cp188, rfl, _, _, hn189⟩
 refine ja (.slice ad187 z184.length cp188) rfl <| ja (ii 0) rfl <| J.nil <| CJ.ret ?_
 obtain rfl := si h
 exact ⟨_, _, Res.two rfl rfl rfl, ⟨z184, 0, ad187, cp188, rfl, rfl, rfl⟩, (Hp.le_refl _), fun w hs => (Sep.dropAt 1 rfl (Sep.dropAt 1 rfl (Sep.dropAt 1 rfl hs)))⟩

noncomputable def fn_relate_mayBorrowAgain_1 (xa : (Int × Bool)) : Option Bool :=
  some (!xa.2)
set_option maxRecDepth 100000 in
set_option maxHeartbeats 4000000 in
theorem relate_mayBorrowAgain_1_ok {K : Hp} {xa : (Int × Bool)}   {r : Bool} (h : fn_relate_mayBorrowAgain_1 xa = some r) :
    Tr Tryz.prog 110 #[.agg #[ii xa.1, .bool xa.2]] K [] (fun v K' L' => (∃ (t2 : Bool), t2 = r ∧ .bool t2 = v ∧ L' = []) ∧ K = K') := by
 refine Tr.k <| Tr.of Tryz.func110 rfl Tryz.ntmps110 rfl fun E F => ?_
 unfold fn_relate_mayBorrowAgain_1 at h
 refine cr <| jbx [ii xa.1, .bool xa.2] rfl rfl fun b3 => ja (.bool false) rfl <| J.nil <| CJ.seq <| CJ.region ?_
 refine jv _ (V.fad Tryz.underlying72 rfl nz4 rfl) <| jv (.bool xa.2) (V.ld rfl (Ld.sc sc4 (Rd.cl 0 rfl rfl))) <| jv (.bool (!xa.2)) (V.not rfl) <| ja (.bool (!xa.2)) rfl <| J.nil <| CJ.ret ?_
 obtain rfl := si h
 exact ⟨_, _, Res.one rfl rfl, ⟨!xa.2, rfl, rfl, rfl⟩, (Hp.le_refl _), fun w hs => (Sep.dropAt 0 rfl hs)⟩
end Go.Proofs.YtelekeapfgfknaaGreat
