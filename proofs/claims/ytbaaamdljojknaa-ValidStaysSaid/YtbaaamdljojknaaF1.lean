/- What Go functions answer: generated. -/
import Derived.Test.YtbaaamdljojknaaSh
import Derived.Test.YtbaaamdljojknaaRows
import Derived.Test.YtbaaamdljojknaaAr
import Derived.Test.YtbaaamdljojknaaDp
import Derived.Test.YtbaaamdljojknaaFl
namespace Go.Proofs.Ytbaaamdljojknaa
open Go.RowKit
set_option linter.unusedVariables false
set_option linter.unnecessarySimpa false
set_option linter.unusedSimpArgs false
set_option maxRecDepth 20000
theorem sz30 : (Try.prog.info? 30).map (·.size) = some 7 := by kernel_rfl
theorem nz22 : Try.prog.cellsOf 22 ≠ 0 := by decide +kernel
theorem sc22 : scalar Try.prog 22 = true := by kernel_rfl
theorem nz23 : Try.prog.cellsOf 23 ≠ 0 := by decide +kernel
theorem sc23 : scalar Try.prog 23 = true := by kernel_rfl
theorem nz27 : Try.prog.cellsOf 27 ≠ 0 := by decide +kernel
theorem sc27 : scalar Try.prog 27 = true := by kernel_rfl
theorem nz28 : Try.prog.cellsOf 28 ≠ 0 := by decide +kernel
theorem sc28 : scalar Try.prog 28 = true := by kernel_rfl
theorem nz26 : Try.prog.cellsOf 26 ≠ 0 := by decide +kernel
theorem sz26 : (Try.prog.info? 26).map (·.size) = some 1 := by kernel_rfl
theorem nz24 : Try.prog.cellsOf 24 ≠ 0 := by decide +kernel
theorem sc24 : scalar Try.prog 24 = true := by kernel_rfl
theorem sz62 : (Try.prog.info? 62).map (·.size) = some 4 := by kernel_rfl
theorem sz56 : (Try.prog.info? 56).map (·.size) = some 7 := by kernel_rfl
theorem nz54 : Try.prog.cellsOf 54 ≠ 0 := by decide +kernel
theorem sz54 : (Try.prog.info? 54).map (·.size) = some 6 := by kernel_rfl
theorem inf54 : Inf Try.prog 54 (.agg #[.int .i64 0, .int .i64 0, .int .i64 0, .slice none 0 0, .slice none 0 0, .slice none 0 0]) 6 96 := by unfold Inf; kernel_rfl
theorem nz51 : Try.prog.cellsOf 51 ≠ 0 := by decide +kernel
theorem sc51 : scalar Try.prog 51 = true := by kernel_rfl
theorem nz52 : Try.prog.cellsOf 52 ≠ 0 := by decide +kernel
theorem sc52 : scalar Try.prog 52 = true := by kernel_rfl
theorem inf33 : Inf Try.prog 33 (.agg #[.int .i64 0, .int .i64 0, .int .i64 0, .int .i64 0]) 4 32 := by unfold Inf; kernel_rfl
theorem nz3 : Try.prog.cellsOf 3 ≠ 0 := by decide +kernel
theorem sc3 : scalar Try.prog 3 = true := by kernel_rfl
theorem places33 : Places Try.prog 33 [(0, 1), (1, 1), (2, 1), (3, 1)] := ⟨_, Try.underlying33, by kernel_rfl⟩
theorem sz33 : (Try.prog.info? 33).map (·.size) = some 4 := by kernel_rfl
theorem sz50 : (Try.prog.info? 50).map (·.size) = some 2 := by kernel_rfl
theorem inf50 : Inf Try.prog 50 (.agg #[.int .i64 0, .int .i64 0]) 2 16 := by unfold Inf; kernel_rfl
theorem nz31 : Try.prog.cellsOf 31 ≠ 0 := by decide +kernel
theorem sc31 : scalar Try.prog 31 = true := by kernel_rfl
theorem sz86 : (Try.prog.info? 86).map (·.size) = some 2 := by kernel_rfl
theorem mixO : Try.prog.follows .mixedOrders = true := by kernel_rfl
theorem nz4 : Try.prog.cellsOf 4 ≠ 0 := by decide +kernel
theorem sc4 : scalar Try.prog 4 = true := by kernel_rfl
theorem inf79 : Inf Try.prog 79 (.agg #[.int .i64 0, .int .i64 0, .slice none 0 0, .slice none 0 0, .slice none 0 0]) 5 88 := by unfold Inf; kernel_rfl
theorem places79 : Places Try.prog 79 [(0, 1), (1, 1), (2, 1), (3, 1), (4, 1)] := ⟨_, Try.underlying79, by kernel_rfl⟩
theorem sz79 : (Try.prog.info? 79).map (·.size) = some 5 := by kernel_rfl
theorem sz76 : (Try.prog.info? 76).map (·.size) = some 5 := by kernel_rfl
theorem inf111 : Inf Try.prog 111 (.agg #[.int .i64 0, .int .i64 0, .int .i64 0, .int .i64 0, .bool false]) 5 40 := by unfold Inf; kernel_rfl
theorem places111 : Places Try.prog 111 [(0, 1), (1, 1), (2, 1), (3, 1), (4, 1)] := ⟨_, Try.underlying111, by kernel_rfl⟩
theorem inf26 : Inf Try.prog 26 (.agg #[.slice none 0 0]) 1 24 := by unfold Inf; kernel_rfl
theorem inf86 : Inf Try.prog 86 (.agg #[.int .i64 0, .bool false]) 2 16 := by unfold Inf; kernel_rfl
theorem places86 : Places Try.prog 86 [(0, 1), (1, 1)] := ⟨_, Try.underlying86, by kernel_rfl⟩
theorem places26 : Places Try.prog 26 [(0, 1)] := ⟨_, Try.underlying26, by kernel_rfl⟩
theorem sz3 : (Try.prog.info? 3).map (·.size) = some 1 := by kernel_rfl
theorem inf3 : Inf Try.prog 3 (.int .i64 0) 1 8 := by unfold Inf; kernel_rfl
theorem inf39 : Inf Try.prog 39 (.agg #[.int .i64 0, .int .i64 0, .int .i64 0, .int .i64 0]) 4 32 := by unfold Inf; kernel_rfl
theorem inf40 : Inf Try.prog 40 .nilFunc 1 8 := by unfold Inf; kernel_rfl
theorem sz40 : (Try.prog.info? 40).map (·.size) = some 1 := by kernel_rfl
theorem sc40 : scalar Try.prog 40 = true := by kernel_rfl
theorem places39 : Places Try.prog 39 [(0, 1), (1, 1), (2, 1), (3, 1)] := ⟨_, Try.underlying39, by kernel_rfl⟩
theorem sz39 : (Try.prog.info? 39).map (·.size) = some 4 := by kernel_rfl
theorem sz31 : (Try.prog.info? 31).map (·.size) = some 1 := by kernel_rfl
theorem inf62 : Inf Try.prog 62 (.agg #[.int .i64 0, .slice none 0 0, .slice none 0 0, .slice none 0 0]) 4 80 := by unfold Inf; kernel_rfl
theorem inf56 : Inf Try.prog 56 (.agg #[.slice none 0 0, .int .i64 0, .int .i64 0, .int .i64 0, .slice none 0 0, .slice none 0 0, .slice none 0 0]) 7 120 := by unfold Inf; kernel_rfl
theorem inf74 : Inf Try.prog 74 (.agg #[.int .i64 0, .int .i64 0, .slice none 0 0, .slice none 0 0, .slice none 0 0]) 5 88 := by unfold Inf; kernel_rfl
theorem places74 : Places Try.prog 74 [(0, 1), (1, 1), (2, 1), (3, 1), (4, 1)] := ⟨_, Try.underlying74, by kernel_rfl⟩
theorem sz74 : (Try.prog.info? 74).map (·.size) = some 5 := by kernel_rfl
theorem inf76 : Inf Try.prog 76 (.agg #[.int .i64 0, .int .i64 0, .int .i64 0, .int .i64 0, .bool false]) 5 40 := by unfold Inf; kernel_rfl
theorem inf101 : Inf Try.prog 101 (.agg #[.bool false, .bool false, .bool false]) 3 3 := by unfold Inf; kernel_rfl
theorem places101 : Places Try.prog 101 [(0, 1), (1, 1), (2, 1)] := ⟨_, Try.underlying101, by kernel_rfl⟩
theorem sz101 : (Try.prog.info? 101).map (·.size) = some 3 := by kernel_rfl
theorem places76 : Places Try.prog 76 [(0, 1), (1, 1), (2, 1), (3, 1), (4, 1)] := ⟨_, Try.underlying76, by kernel_rfl⟩
theorem sz4 : (Try.prog.info? 4).map (·.size) = some 1 := by kernel_rfl
theorem sih76 : Try.prog.stoodInHeld 76 = false := by kernel_rfl
theorem eqg76 : Try.prog.eqGuardType Try.prog.depth 76 = false := by kernel_rfl
theorem inf119 : Inf Try.prog 119 (.agg #[.int .i64 0, .int .i64 0, .int .i64 0, .int .i64 0, .bool false]) 5 40 := by unfold Inf; kernel_rfl
theorem places119 : Places Try.prog 119 [(0, 1), (1, 1), (2, 1), (3, 1), (4, 1)] := ⟨_, Try.underlying119, by kernel_rfl⟩
theorem inf30 : Inf Try.prog 30 (.agg #[.int .i64 0, .int .i64 0, .slice none 0 0, .slice none 0 0, .slice none 0 0, .slice none 0 0, .slice none 0 0]) 7 136 := by unfold Inf; kernel_rfl
theorem places30 : Places Try.prog 30 [(0, 1), (1, 1), (2, 1), (3, 1), (4, 1), (5, 1), (6, 1)] := ⟨_, Try.underlying30, by kernel_rfl⟩
theorem places54 : Places Try.prog 54 [(0, 1), (1, 1), (2, 1), (3, 1), (4, 1), (5, 1)] := ⟨_, Try.underlying54, by kernel_rfl⟩
theorem places56 : Places Try.prog 56 [(0, 1), (1, 6)] := ⟨_, Try.underlying56, by kernel_rfl⟩
theorem inf66 : Inf Try.prog 66 (.agg #[.string ⟨[].toArray⟩, .string ⟨[].toArray⟩, .string ⟨[].toArray⟩, .string ⟨[].toArray⟩, .string ⟨[].toArray⟩, .string ⟨[].toArray⟩, .string ⟨[].toArray⟩, .string ⟨[].toArray⟩]) 8 128 := by unfold Inf; kernel_rfl
theorem sz9 : (Try.prog.info? 9).map (·.size) = some 1 := by kernel_rfl
theorem sz66 : (Try.prog.info? 66).map (·.size) = some 8 := by kernel_rfl
theorem inf68 : Inf Try.prog 68 (.agg #[.string ⟨[].toArray⟩, .string ⟨[].toArray⟩, .string ⟨[].toArray⟩, .string ⟨[].toArray⟩, .string ⟨[].toArray⟩, .string ⟨[].toArray⟩, .string ⟨[].toArray⟩, .string ⟨[].toArray⟩, .string ⟨[].toArray⟩, .string ⟨[].toArray⟩, .string ⟨[].toArray⟩, .string ⟨[].toArray⟩, .string ⟨[].toArray⟩, .string ⟨[].toArray⟩, .string ⟨[].toArray⟩, .string ⟨[].toArray⟩]) 16 256 := by unfold Inf; kernel_rfl
theorem sz68 : (Try.prog.info? 68).map (·.size) = some 16 := by kernel_rfl
theorem sc9 : scalar Try.prog 9 = true := by kernel_rfl
theorem sz22 : (Try.prog.info? 22).map (·.size) = some 1 := by kernel_rfl
theorem sz28 : (Try.prog.info? 28).map (·.size) = some 1 := by kernel_rfl
theorem sz51 : (Try.prog.info? 51).map (·.size) = some 1 := by kernel_rfl

noncomputable def fn_ref15_Few (xa : (List (Int × Bool))) (xb : Int) : Option Bool :=
  some (decide ((((xa.length : Nat) : Int)) ≤ xb))
set_option maxRecDepth 100000 in
set_option maxHeartbeats 4000000 in
theorem ref15_Few_ok {K : Hp} {xa : (List (Int × Bool))} {xb : Int} {adxa_0 : Option Addr} {cpxa_0 : Nat} (fxa_0 : Is K (.sl (.cons (.int .i64) (.one .bool))) [.slice adxa_0 xa.length cpxa_0] xa) {r : Bool} (h : fn_ref15_Few xa xb = some r) :
    Tr Try.prog 17 #[.agg #[.slice adxa_0 xa.length cpxa_0], ii xb] K [] (fun v K' L' => (∃ (t2 : Bool), t2 = r ∧ .bool t2 = v ∧ L' = []) ∧ K = K') := by
 refine Tr.k <| Tr.of Try.func17 rfl Try.ntmps17 rfl fun E F => ?_
 unfold fn_ref15_Few at h
 refine cr <| jbx [.slice adxa_0 xa.length cpxa_0] rfl rfl fun b3 => ja (.bool false) rfl <| J.nil <| CJ.seq <| CJ.region ?_
 refine jv _ (V.fad Try.underlying26 rfl nz24 rfl) <| jv (.slice adxa_0 xa.length cpxa_0) (V.ld rfl (Ld.sc sc24 (Rd.cl 0 rfl rfl))) <| jv (ii (((xa.length : Nat) : Int))) (V.len Try.underlying24 rfl) <| jm (ii xb) rfl <| jv (.bool (decide ((((xa.length : Nat) : Int)) ≤ xb))) (V.leq rfl rfl) <| ja (.bool (decide ((((xa.length : Nat) : Int)) ≤ xb))) rfl <| J.nil ?_
 refine CJ.ret ?_
 obtain rfl := si h
 exact ⟨_, _, Res.one rfl rfl, ⟨decide ((((xa.length : Nat) : Int)) ≤ xb), rfl, rfl, rfl⟩, (Hp.le_refl _), fun w hs => (Sep.dropAt 0 rfl hs)⟩
noncomputable def fn_ref17_Few_l1 (xa : (Int × (List (Int × Int)) × (List (List (Int × Bool))) × (List (Int × Bool)))) : Int → Option (Int ⊕ (Unit ⊕ Bool)) := fun (i283 : Int) => cond (decide (i283 < (((xa.2.2.1.length : Nat) : Int)))) ((getI xa.2.2.1 i283).bind fun x311 => (fn_ref15_Few x311 20).bind fun t326 => cond (!t326) (some (.inr ((.inr (false))))) (some (.inl (IntKind.wrap .i64 (i283 + 1))))) (some (.inr ((.inl ()))))
noncomputable def fn_ref17_Few (xa : (Int × (List (Int × Int)) × (List (List (Int × Bool))) × (List (Int × Bool)))) : Option Bool :=
  (cond ((decide (20 < (((xa.2.1.length : Nat) : Int)))) || (decide (20 < (((xa.2.2.1.length : Nat) : Int))))) (some (true)) ((fn_ref15_Few xa.2.2.2 20).bind fun t184 => some (!t184))).bind fun t179 => cond (t179) (some (false)) ((loop (fn_ref17_Few_l1 xa) 0 : Option (Unit ⊕ Bool)).bind fun o => match o with | .inr r => some r | .inl () => some (true))
set_option maxRecDepth 100000 in
set_option maxHeartbeats 4000000 in
theorem ref17_Few_ok {K : Hp} {xa : (Int × (List (Int × Int)) × (List (List (Int × Bool))) × (List (Int × Bool)))} {adxa_1 : Option Addr} {cpxa_1 : Nat} {adxa_2 : Option Addr} {cpxa_2 : Nat} {adxa_3 : Option Addr} {cpxa_3 : Nat} (fxa_1 : Is K (.sl (.cons (.int .i64) (.one (.int .i64)))) [.slice adxa_1 xa.2.1.length cpxa_1] xa.2.1) (fxa_2 : Is K (.sl (.one (.sl (.cons (.int .i64) (.one .bool))))) [.slice adxa_2 xa.2.2.1.length cpxa_2] xa.2.2.1) (fxa_3 : Is K (.sl (.cons (.int .i64) (.one .bool))) [.slice adxa_3 xa.2.2.2.length cpxa_3] xa.2.2.2) {r : Bool} (h : fn_ref17_Few xa = some r) :
    Tr Try.prog 18 #[.agg #[ii xa.1, .slice adxa_1 xa.2.1.length cpxa_1, .slice adxa_2 xa.2.2.1.length cpxa_2, .slice adxa_3 xa.2.2.2.length cpxa_3]] K [] (fun v K' L' => (∃ (t167 : Bool), t167 = r ∧ .bool t167 = v ∧ L' = []) ∧ K = K') := by
 refine Tr.k <| Tr.of Try.func18 rfl Try.ntmps18 rfl fun E F => ?_
 unfold fn_ref17_Few at h
 refine cr <| jbx [ii xa.1, .slice adxa_1 xa.2.1.length cpxa_1, .slice adxa_2 xa.2.2.1.length cpxa_2, .slice adxa_3 xa.2.2.2.length cpxa_3] rfl rfl fun b168 => ja (.bool false) rfl <| J.nil <| CJ.seq <| CJ.seq ?_
 refine CJ.region <| jv _ (V.fad Try.underlying62 rfl nz22 rfl) <| jv (.slice adxa_1 xa.2.1.length cpxa_1) (V.ld rfl (Ld.sc sc22 (Rd.cl 0 rfl rfl))) <| jv (ii (((xa.2.1.length : Nat) : Int))) (V.len Try.underlying22 rfl) <| jv (.bool (decide (20 < (((xa.2.1.length : Nat) : Int))))) (V.gtr rfl rfl) <| jm (.bool (decide (20 < (((xa.2.1.length : Nat) : Int))))) rfl <| J.cut 5 ?_
 refine jmeet [(13, .bool ((decide (20 < (((xa.2.1.length : Nat) : Int)))) || (decide (20 < (((xa.2.2.1.length : Nat) : Int)))))), (1, .pointer (some ⟨b168, 0, none⟩))] ?_ ?_
 · rcases bt (decide (20 < (((xa.2.1.length : Nat) : Int)))) with hc171 | hc171
   · refine J.skip rfl rfl rfl rfl hc171 <| J.skip rfl rfl rfl rfl hc171 <| J.skip rfl rfl rfl rfl hc171 <| J.skip rfl rfl rfl rfl hc171 <| jv (.bool true) (V.pickT rfl hc171 rfl) <| J.nil ?_
     exact ⟨rfl, ⟨(by simp only [hc171]; rfl), rfl, trivial⟩, rfl, rfl⟩
   refine J.run rfl rfl rfl hc171 <| jv _ (V.fad Try.underlying62 rfl nz23 rfl) <| J.run rfl rfl rfl hc171 <| jv (.slice adxa_2 xa.2.2.1.length cpxa_2) (V.ld rfl (Ld.sc sc23 (Rd.cl 0 rfl rfl))) <| J.run rfl rfl rfl hc171 <| jv (ii (((xa.2.2.1.length : Nat) : Int))) (V.len Try.underlying23 rfl) <| J.run rfl rfl rfl hc171 ?_
   refine jv (.bool (decide (20 < (((xa.2.2.1.length : Nat) : Int))))) (V.gtr rfl rfl) <| jv (.bool (decide (20 < (((xa.2.2.1.length : Nat) : Int))))) (V.pickF rfl hc171 rfl) <| J.nil ?_
   exact ⟨rfl, ⟨(by simp only [hc171]; rfl), rfl, trivial⟩, rfl, rfl⟩
 intro ρ
 refine jm (.bool ((decide (20 < (((xa.2.1.length : Nat) : Int)))) || (decide (20 < (((xa.2.2.1.length : Nat) : Int)))))) rfl <| J.cut 5 ?_
 obtain ⟨t179, ht180, h⟩ := ob h
 refine jmeet [(19, .bool t179), (1, .pointer (some ⟨b168, 0, none⟩))] ?_ ?_
 · rcases bt ((decide (20 < (((xa.2.1.length : Nat) : Int)))) || (decide (20 < (((xa.2.2.1.length : Nat) : Int))))) with hc181 | hc181
   · have ht180 := ct hc181 ht180
     refine J.skip rfl rfl rfl rfl hc181 <| J.skip rfl rfl rfl rfl hc181 <| J.skip rfl rfl rfl rfl hc181 <| J.skip rfl rfl rfl rfl hc181 <| jv (.bool true) (V.pickT rfl hc181 rfl) <| J.nil ?_
     obtain rfl := si ht180
     exact ⟨rfl, ⟨rfl, rfl, trivial⟩, rfl, rfl⟩
   have ht180 := cf hc181 ht180
   refine J.run rfl rfl rfl hc181 <| jv _ (V.fad Try.underlying62 rfl nz26 rfl) <| J.run rfl rfl rfl hc181 <| jv (.agg #[.slice adxa_3 xa.2.2.2.length cpxa_3]) (V.ld rfl (Ld.agg (cs := [.slice adxa_3 xa.2.2.2.length cpxa_3]) Try.underlying26 sz26 rfl (Rd.cls 0 3 rfl rfl))) <| J.run rfl rfl rfl hc181 ?_
   obtain ⟨r182, hr183, ht180⟩ := ob ht180
   refine J.op rfl (A.call (L1 := []) Try.call17 rfl (ref15_Few_ok fxa_3 hr183) rfl rfl) ?_
   rintro _ _ _ ⟨v185, _, rfl, ⟨⟨t184, rfl, rfl, rfl⟩, rfl⟩, _, rfl⟩
   refine J.run rfl rfl rfl hc181 <| jv (.bool (!t184)) (V.not rfl) <| jv (.bool (!t184)) (V.pickF rfl hc181 rfl) <| J.nil ?_
   obtain rfl := si ht180
   exact ⟨rfl, ⟨rfl, rfl, trivial⟩, rfl, rfl⟩
 intro ρ
 refine J.nil <| cc rfl h (fun hc188 h => ?_) fun hc188 h => ?_
 · refine cr <| ja (.bool false) rfl <| J.nil <| CJ.ret ?_
   obtain rfl := si h
   exact ⟨_, _, Res.one rfl rfl, ⟨false, rfl, rfl, rfl⟩, (Hp.le_refl _), fun w hs => (Sep.dropAt 0 rfl hs)⟩
 refine CJ.skip <| CJ.seq <| cr <| ja (ii 0) rfl <| J.nil ?_
 obtain ⟨o259, ho260, h⟩ := ob h
 refine CJ.joinN (o := o259) (fun s ρ K' L' => () = s ∧ Fits [] ρ ∧ K = K' ∧ F = L') ?_ ?_
 · refine CJ.block <| CJ.loop (fun s ρ K' L' => ∃ (i283 : Int), i283 = s ∧ Fits [(1, .pointer (some ⟨b168, 0, none⟩)), (3, ii i283)] ρ ∧ K = K' ∧ L' = Cl b168 62 [ii xa.1, .slice adxa_1 xa.2.1.length cpxa_1, .slice adxa_2 xa.2.2.1.length cpxa_2, .slice adxa_3 xa.2.2.2.length cpxa_3] :: F) ho260 ⟨0, rfl, ⟨rfl, rfl, trivial⟩, rfl, rfl⟩ ?_
   rintro s ρ _ _ r309 ⟨i283, rfl, hf307, rfl, rfl⟩ h306
   obtain ⟨ρ, rfl⟩ := hf307.ex
   refine CJ.seq <| cr <| jm (ii i283) rfl <| jv _ (V.fad Try.underlying62 rfl nz23 rfl) <| jv (.slice adxa_2 xa.2.2.1.length cpxa_2) (V.ld rfl (Ld.sc sc23 (Rd.cl 0 rfl rfl))) <| jv (ii (((xa.2.2.1.length : Nat) : Int))) (V.len Try.underlying23 rfl) ?_
   refine jv (.bool (decide (i283 < (((xa.2.2.1.length : Nat) : Int))))) (V.lss rfl rfl) <| J.nil <| cc rfl h306 (fun hc310 h306 => ?_) fun hc310 h306 => ?_
   · refine CJ.skip <| CJ.seq <| CJ.block <| cr <| jv _ (V.fad Try.underlying62 rfl nz23 rfl) <| jv (.slice adxa_2 xa.2.2.1.length cpxa_2) (V.ld rfl (Ld.sc sc23 (Rd.cl 0 rfl rfl))) ?_
     refine jm (ii i283) rfl ?_
     obtain ⟨x311, hx312, h306⟩ := ob h306
     obtain ⟨p313, p314, p315⟩ := getI_some hx312
     obtain ⟨b316, o317, e318, a319⟩ := (fxa_2).at p314
     refine jv _ (V.iad Try.underlying23 sz26 rfl e318 rfl p313 p315) ?_
     obtain ⟨ad320, cp321, c322, f323⟩ := ((a319).one).sl
     refine jv (.agg #[.slice ad320 x311.length cp321]) (V.ld rfl (Ld.aggK (cs := [.slice ad320 x311.length cp321]) Try.underlying26 sz26 rfl ⟨c322, trivial⟩ (Hp.le_refl _))) ?_
     obtain ⟨r324, hr325, h306⟩ := ob h306
     refine J.op rfl (A.call (L1 := []) Try.call17 rfl (ref15_Few_ok f323 hr325) rfl rfl) ?_
     rintro _ _ _ ⟨v327, _, rfl, ⟨⟨t326, rfl, rfl, rfl⟩, rfl⟩, _, rfl⟩
     refine jv (.bool (!t326)) (V.not rfl) <| J.nil <| cc rfl h306 (fun hc330 h306 => ?_) fun hc330 h306 => ?_
     · refine cr <| ja (.bool false) rfl <| J.nil <| CJ.ret ?_
       obtain rfl := si h306
       refine ⟨nofun, fun e => ?_⟩
       subst e
       refine .inr ⟨nofun, ?_⟩
       obtain rfl := si h
       exact ⟨_, _, Res.one rfl rfl, ⟨false, rfl, rfl, rfl⟩, (Hp.le_refl _), fun w hs => (Sep.dropAt 0 rfl hs)⟩
     refine CJ.skip <| CJ.region <| jm (ii i283) rfl <| jv (ii (IntKind.wrap .i64 (i283 + 1))) (V.add rfl rfl) <| ja (ii (IntKind.wrap .i64 (i283 + 1))) rfl <| J.nil ?_
     obtain rfl := si h306
     exact ⟨rfl, ⟨IntKind.wrap .i64 (i283 + 1), rfl, ⟨rfl, rfl, trivial⟩, rfl, rfl⟩⟩
   refine CJ.dropAt 0 rfl <| CJ.exit ?_
   obtain rfl := si h306
   refine ⟨nofun, fun e => ?_⟩
   subst e
   exact .inl ⟨rfl, _, rfl, ⟨rfl, trivial, rfl, rfl⟩⟩
 rintro s ρ _ _ ho331 ⟨rfl, hf332, rfl, rfl⟩
 subst ho331
 obtain ⟨ρ, rfl⟩ := hf332.ex
 refine PJ.done <| cr <| ja (.bool true) rfl <| J.nil <| CJ.ret ?_
 obtain rfl := si h
 exact ⟨_, _, Res.one rfl rfl, ⟨true, rfl, rfl, rfl⟩, (Hp.le_refl _), fun w hs => hs⟩
noncomputable def fn_ref20_Small_l1 (xa : (Int × Int × (List (Int × Int)) × (List (List (Int × Bool))) × (List (Int × Bool)) × (List (Int × (List (Int × Int)) × (List (List (Int × Bool))) × (List (Int × Bool)))) × (List ((List (Int × Int × Int × Int × Bool)) × (Int × Int × Int × (List Int) × (List Int) × (List Int)))))) : Int → Option (Int ⊕ (Unit ⊕ Bool)) := fun (i773 : Int) => cond (decide (i773 < (((xa.2.2.2.1.length : Nat) : Int)))) ((getI xa.2.2.2.1 i773).bind fun x801 => (fn_ref15_Few x801 20).bind fun t816 => cond (!t816) (some (.inr ((.inr (false))))) (some (.inl (IntKind.wrap .i64 (i773 + 1))))) (some (.inr ((.inl ()))))
noncomputable def fn_ref20_Small_l2 (xa : (Int × Int × (List (Int × Int)) × (List (List (Int × Bool))) × (List (Int × Bool)) × (List (Int × (List (Int × Int)) × (List (List (Int × Bool))) × (List (Int × Bool)))) × (List ((List (Int × Int × Int × Int × Bool)) × (Int × Int × Int × (List Int) × (List Int) × (List Int)))))) : Int → Option (Int ⊕ (Unit ⊕ Bool)) := fun (i950 : Int) => cond (decide (i950 < (((xa.2.2.2.2.2.1.length : Nat) : Int)))) ((getI xa.2.2.2.2.2.1 i950).bind fun x986 => (fn_ref17_Few (x986.1, x986.2.1, x986.2.2.1, x986.2.2.2)).bind fun t1009 => cond (!t1009) (some (.inr ((.inr (false))))) (some (.inl (IntKind.wrap .i64 (i950 + 1))))) (some (.inr ((.inl ()))))
noncomputable def fn_ref20_Small_l3 (xa : (Int × Int × (List (Int × Int)) × (List (List (Int × Bool))) × (List (Int × Bool)) × (List (Int × (List (Int × Int)) × (List (List (Int × Bool))) × (List (Int × Bool)))) × (List ((List (Int × Int × Int × Int × Bool)) × (Int × Int × Int × (List Int) × (List Int) × (List Int)))))) : (Int × Int) → Option ((Int × Int) ⊕ (Int ⊕ Bool)) := fun ((i1204, i1205) : (Int × Int)) => cond (decide (i1205 < (((xa.2.2.2.2.2.2.length : Nat) : Int)))) ((getI xa.2.2.2.2.2.2 i1205).bind fun x1256 => (getI xa.2.2.2.2.2.2 i1205).bind fun x1278 => cond (((decide (20 < (((x1256.2.2.2.2.1.length : Nat) : Int)))) || (decide (20 < (((x1256.2.2.2.2.2.1.length : Nat) : Int))))) || (decide (20 < (((x1256.2.2.2.2.2.2.length : Nat) : Int))))) (some (.inr ((.inr (false))))) (some (.inl ((IntKind.wrap .i64 (i1204 + (((x1278.1.length : Nat) : Int))), IntKind.wrap .i64 (i1205 + 1)))))) (some (.inr (.inl i1204)))
noncomputable def fn_ref20_Small (xa : (Int × Int × (List (Int × Int)) × (List (List (Int × Bool))) × (List (Int × Bool)) × (List (Int × (List (Int × Int)) × (List (List (Int × Bool))) × (List (Int × Bool)))) × (List ((List (Int × Int × Int × Int × Bool)) × (Int × Int × Int × (List Int) × (List Int) × (List Int)))))) : Option Bool :=
  (cond ((((decide (20 < (((xa.2.2.1.length : Nat) : Int)))) || (decide (10 < (((xa.2.2.2.1.length : Nat) : Int))))) || (decide (4 < (((xa.2.2.2.2.2.1.length : Nat) : Int))))) || (decide (8 < (((xa.2.2.2.2.2.2.length : Nat) : Int))))) (some (true)) ((fn_ref15_Few xa.2.2.2.2.1 20).bind fun t674 => some (!t674))).bind fun t669 => cond (t669) (some (false)) ((loop (fn_ref20_Small_l1 xa) 0 : Option (Unit ⊕ Bool)).bind fun o => match o with | .inr r => some r | .inl () => (loop (fn_ref20_Small_l2 xa) 0 : Option (Unit ⊕ Bool)).bind fun o => match o with | .inr r => some r | .inl () => (loop (fn_ref20_Small_l3 xa) (0, 0) : Option (Int ⊕ Bool)).bind fun o => match o with | .inr r => some r | .inl i1156 => some (decide (i1156 ≤ 24)))
set_option maxRecDepth 100000 in
set_option maxHeartbeats 4000000 in
theorem ref20_Small_ok {K : Hp} {xa : (Int × Int × (List (Int × Int)) × (List (List (Int × Bool))) × (List (Int × Bool)) × (List (Int × (List (Int × Int)) × (List (List (Int × Bool))) × (List (Int × Bool)))) × (List ((List (Int × Int × Int × Int × Bool)) × (Int × Int × Int × (List Int) × (List Int) × (List Int)))))} {adxa_2 : Option Addr} {cpxa_2 : Nat} {adxa_3 : Option Addr} {cpxa_3 : Nat} {adxa_4 : Option Addr} {cpxa_4 : Nat} {adxa_5 : Option Addr} {cpxa_5 : Nat} {adxa_6 : Option Addr} {cpxa_6 : Nat} (fxa_2 : Is K (.sl (.cons (.int .i64) (.one (.int .i64)))) [.slice adxa_2 xa.2.2.1.length cpxa_2] xa.2.2.1) (fxa_3 : Is K (.sl (.one (.sl (.cons (.int .i64) (.one .bool))))) [.slice adxa_3 xa.2.2.2.1.length cpxa_3] xa.2.2.2.1) (fxa_4 : Is K (.sl (.cons (.int .i64) (.one .bool))) [.slice adxa_4 xa.2.2.2.2.1.length cpxa_4] xa.2.2.2.2.1) (fxa_5 : Is K (.sl (.cons (.int .i64) (.cons (.sl (.cons (.int .i64) (.one (.int .i64)))) (.cons (.sl (.one (.sl (.cons (.int .i64) (.one .bool))))) (.one (.one (.sl (.cons (.int .i64) (.one .bool))))))))) [.slice adxa_5 xa.2.2.2.2.2.1.length cpxa_5] xa.2.2.2.2.2.1) (fxa_6 : Is K (.sl (.cons (.sl (.cons (.int .i64) (.cons (.int .i64) (.cons (.int .i64) (.cons (.int .i64) (.one .bool)))))) (.one (.cons (.int .i64) (.cons (.int .i64) (.cons (.int .i64) (.cons (.sl (.int .i64)) (.cons (.sl (.int .i64)) (.one (.sl (.int .i64))))))))))) [.slice adxa_6 xa.2.2.2.2.2.2.length cpxa_6] xa.2.2.2.2.2.2) {r : Bool} (h : fn_ref20_Small xa = some r) :
    Tr Try.prog 6 #[.agg #[ii xa.1, ii xa.2.1, .slice adxa_2 xa.2.2.1.length cpxa_2, .slice adxa_3 xa.2.2.2.1.length cpxa_3, .slice adxa_4 xa.2.2.2.2.1.length cpxa_4, .slice adxa_5 xa.2.2.2.2.2.1.length cpxa_5, .slice adxa_6 xa.2.2.2.2.2.2.length cpxa_6]] K [] (fun v K' L' => (∃ (t651 : Bool), t651 = r ∧ .bool t651 = v ∧ L' = []) ∧ K = K') := by
 refine Tr.k <| Tr.of Try.func6 rfl Try.ntmps6 rfl fun E F => ?_
 unfold fn_ref20_Small at h
 refine cr <| jbx [ii xa.1, ii xa.2.1, .slice adxa_2 xa.2.2.1.length cpxa_2, .slice adxa_3 xa.2.2.2.1.length cpxa_3, .slice adxa_4 xa.2.2.2.2.1.length cpxa_4, .slice adxa_5 xa.2.2.2.2.2.1.length cpxa_5, .slice adxa_6 xa.2.2.2.2.2.2.length cpxa_6] rfl rfl fun b652 => ja (.bool false) rfl <| J.nil <| CJ.seq <| CJ.seq ?_
 refine CJ.region <| jv _ (V.fad Try.underlying30 rfl nz22 rfl) <| jv (.slice adxa_2 xa.2.2.1.length cpxa_2) (V.ld rfl (Ld.sc sc22 (Rd.cl 0 rfl rfl))) <| jv (ii (((xa.2.2.1.length : Nat) : Int))) (V.len Try.underlying22 rfl) <| jv (.bool (decide (20 < (((xa.2.2.1.length : Nat) : Int))))) (V.gtr rfl rfl) <| jm (.bool (decide (20 < (((xa.2.2.1.length : Nat) : Int))))) rfl <| J.cut 5 ?_
 refine jmeet [(17, .bool ((decide (20 < (((xa.2.2.1.length : Nat) : Int)))) || (decide (10 < (((xa.2.2.2.1.length : Nat) : Int)))))), (1, .pointer (some ⟨b652, 0, none⟩))] ?_ ?_
 · rcases bt (decide (20 < (((xa.2.2.1.length : Nat) : Int)))) with hc655 | hc655
   · refine J.skip rfl rfl rfl rfl hc655 <| J.skip rfl rfl rfl rfl hc655 <| J.skip rfl rfl rfl rfl hc655 <| J.skip rfl rfl rfl rfl hc655 <| jv (.bool true) (V.pickT rfl hc655 rfl) <| J.nil ?_
     exact ⟨rfl, ⟨(by simp only [hc655]; rfl), rfl, trivial⟩, rfl, rfl⟩
   refine J.run rfl rfl rfl hc655 <| jv _ (V.fad Try.underlying30 rfl nz23 rfl) <| J.run rfl rfl rfl hc655 <| jv (.slice adxa_3 xa.2.2.2.1.length cpxa_3) (V.ld rfl (Ld.sc sc23 (Rd.cl 0 rfl rfl))) <| J.run rfl rfl rfl hc655 <| jv (ii (((xa.2.2.2.1.length : Nat) : Int))) (V.len Try.underlying23 rfl) <| J.run rfl rfl rfl hc655 ?_
   refine jv (.bool (decide (10 < (((xa.2.2.2.1.length : Nat) : Int))))) (V.gtr rfl rfl) <| jv (.bool (decide (10 < (((xa.2.2.2.1.length : Nat) : Int))))) (V.pickF rfl hc655 rfl) <| J.nil ?_
   exact ⟨rfl, ⟨(by simp only [hc655]; rfl), rfl, trivial⟩, rfl, rfl⟩
 intro ρ
 refine jm (.bool ((decide (20 < (((xa.2.2.1.length : Nat) : Int)))) || (decide (10 < (((xa.2.2.2.1.length : Nat) : Int)))))) rfl <| J.cut 5 <| jmeet [(23, .bool (((decide (20 < (((xa.2.2.1.length : Nat) : Int)))) || (decide (10 < (((xa.2.2.2.1.length : Nat) : Int))))) || (decide (4 < (((xa.2.2.2.2.2.1.length : Nat) : Int)))))), (1, .pointer (some ⟨b652, 0, none⟩))] ?_ ?_
 · rcases bt ((decide (20 < (((xa.2.2.1.length : Nat) : Int)))) || (decide (10 < (((xa.2.2.2.1.length : Nat) : Int))))) with hc658 | hc658
   · refine J.skip rfl rfl rfl rfl hc658 <| J.skip rfl rfl rfl rfl hc658 <| J.skip rfl rfl rfl rfl hc658 <| J.skip rfl rfl rfl rfl hc658 <| jv (.bool true) (V.pickT rfl hc658 rfl) <| J.nil ?_
     exact ⟨rfl, ⟨(by simp only [hc658]; rfl), rfl, trivial⟩, rfl, rfl⟩
   refine J.run rfl rfl rfl hc658 <| jv _ (V.fad Try.underlying30 rfl nz27 rfl) <| J.run rfl rfl rfl hc658 <| jv (.slice adxa_5 xa.2.2.2.2.2.1.length cpxa_5) (V.ld rfl (Ld.sc sc27 (Rd.cl 0 rfl rfl))) <| J.run rfl rfl rfl hc658 <| jv (ii (((xa.2.2.2.2.2.1.length : Nat) : Int))) (V.len Try.underlying27 rfl) <| J.run rfl rfl rfl hc658 ?_
   refine jv (.bool (decide (4 < (((xa.2.2.2.2.2.1.length : Nat) : Int))))) (V.gtr rfl rfl) <| jv (.bool (decide (4 < (((xa.2.2.2.2.2.1.length : Nat) : Int))))) (V.pickF rfl hc658 rfl) <| J.nil ?_
   exact ⟨rfl, ⟨(by simp only [hc658]; rfl), rfl, trivial⟩, rfl, rfl⟩
 intro ρ
 refine jm (.bool (((decide (20 < (((xa.2.2.1.length : Nat) : Int)))) || (decide (10 < (((xa.2.2.2.1.length : Nat) : Int))))) || (decide (4 < (((xa.2.2.2.2.2.1.length : Nat) : Int)))))) rfl <| J.cut 5 <| jmeet [(29, .bool ((((decide (20 < (((xa.2.2.1.length : Nat) : Int)))) || (decide (10 < (((xa.2.2.2.1.length : Nat) : Int))))) || (decide (4 < (((xa.2.2.2.2.2.1.length : Nat) : Int))))) || (decide (8 < (((xa.2.2.2.2.2.2.length : Nat) : Int)))))), (1, .pointer (some ⟨b652, 0, none⟩))] ?_ ?_
 · rcases bt (((decide (20 < (((xa.2.2.1.length : Nat) : Int)))) || (decide (10 < (((xa.2.2.2.1.length : Nat) : Int))))) || (decide (4 < (((xa.2.2.2.2.2.1.length : Nat) : Int))))) with hc661 | hc661
   · refine J.skip rfl rfl rfl rfl hc661 <| J.skip rfl rfl rfl rfl hc661 <| J.skip rfl rfl rfl rfl hc661 <| J.skip rfl rfl rfl rfl hc661 <| jv (.bool true) (V.pickT rfl hc661 rfl) <| J.nil ?_
     exact ⟨rfl, ⟨(by simp only [hc661]; rfl), rfl, trivial⟩, rfl, rfl⟩
   refine J.run rfl rfl rfl hc661 <| jv _ (V.fad Try.underlying30 rfl nz28 rfl) <| J.run rfl rfl rfl hc661 <| jv (.slice adxa_6 xa.2.2.2.2.2.2.length cpxa_6) (V.ld rfl (Ld.sc sc28 (Rd.cl 0 rfl rfl))) <| J.run rfl rfl rfl hc661 <| jv (ii (((xa.2.2.2.2.2.2.length : Nat) : Int))) (V.len Try.underlying28 rfl) <| J.run rfl rfl rfl hc661 ?_
   refine jv (.bool (decide (8 < (((xa.2.2.2.2.2.2.length : Nat) : Int))))) (V.gtr rfl rfl) <| jv (.bool (decide (8 < (((xa.2.2.2.2.2.2.length : Nat) : Int))))) (V.pickF rfl hc661 rfl) <| J.nil ?_
   exact ⟨rfl, ⟨(by simp only [hc661]; rfl), rfl, trivial⟩, rfl, rfl⟩
 intro ρ
 refine jm (.bool ((((decide (20 < (((xa.2.2.1.length : Nat) : Int)))) || (decide (10 < (((xa.2.2.2.1.length : Nat) : Int))))) || (decide (4 < (((xa.2.2.2.2.2.1.length : Nat) : Int))))) || (decide (8 < (((xa.2.2.2.2.2.2.length : Nat) : Int)))))) rfl <| J.cut 5 ?_
 obtain ⟨t669, ht670, h⟩ := ob h
 refine jmeet [(35, .bool t669), (1, .pointer (some ⟨b652, 0, none⟩))] ?_ ?_
 · rcases bt ((((decide (20 < (((xa.2.2.1.length : Nat) : Int)))) || (decide (10 < (((xa.2.2.2.1.length : Nat) : Int))))) || (decide (4 < (((xa.2.2.2.2.2.1.length : Nat) : Int))))) || (decide (8 < (((xa.2.2.2.2.2.2.length : Nat) : Int))))) with hc671 | hc671
   · have ht670 := ct hc671 ht670
     refine J.skip rfl rfl rfl rfl hc671 <| J.skip rfl rfl rfl rfl hc671 <| J.skip rfl rfl rfl rfl hc671 <| J.skip rfl rfl rfl rfl hc671 <| jv (.bool true) (V.pickT rfl hc671 rfl) <| J.nil ?_
     obtain rfl := si ht670
     exact ⟨rfl, ⟨rfl, rfl, trivial⟩, rfl, rfl⟩
   have ht670 := cf hc671 ht670
   refine J.run rfl rfl rfl hc671 <| jv _ (V.fad Try.underlying30 rfl nz26 rfl) <| J.run rfl rfl rfl hc671 <| jv (.agg #[.slice adxa_4 xa.2.2.2.2.1.length cpxa_4]) (V.ld rfl (Ld.agg (cs := [.slice adxa_4 xa.2.2.2.2.1.length cpxa_4]) Try.underlying26 sz26 rfl (Rd.cls 0 4 rfl rfl))) <| J.run rfl rfl rfl hc671 ?_
   obtain ⟨r672, hr673, ht670⟩ := ob ht670
   refine J.op rfl (A.call (L1 := []) Try.call17 rfl (ref15_Few_ok fxa_4 hr673) rfl rfl) ?_
   rintro _ _ _ ⟨v675, _, rfl, ⟨⟨t674, rfl, rfl, rfl⟩, rfl⟩, _, rfl⟩
   refine J.run rfl rfl rfl hc671 <| jv (.bool (!t674)) (V.not rfl) <| jv (.bool (!t674)) (V.pickF rfl hc671 rfl) <| J.nil ?_
   obtain rfl := si ht670
   exact ⟨rfl, ⟨rfl, rfl, trivial⟩, rfl, rfl⟩
 intro ρ
 refine J.nil <| cc rfl h (fun hc678 h => ?_) fun hc678 h => ?_
 · refine cr <| ja (.bool false) rfl <| J.nil <| CJ.ret ?_
   obtain rfl := si h
   exact ⟨_, _, Res.one rfl rfl, ⟨false, rfl, rfl, rfl⟩, (Hp.le_refl _), fun w hs => (Sep.dropAt 0 rfl hs)⟩
 refine CJ.skip <| CJ.seq <| cr <| ja (ii 0) rfl <| J.nil ?_
 obtain ⟨o749, ho750, h⟩ := ob h
 refine CJ.joinN (o := o749) (fun s ρ K' L' => () = s ∧ Fits [(1, .pointer (some ⟨b652, 0, none⟩))] ρ ∧ K = K' ∧ L' = Cl b652 30 [ii xa.1, ii xa.2.1, .slice adxa_2 xa.2.2.1.length cpxa_2, .slice adxa_3 xa.2.2.2.1.length cpxa_3, .slice adxa_4 xa.2.2.2.2.1.length cpxa_4, .slice adxa_5 xa.2.2.2.2.2.1.length cpxa_5, .slice adxa_6 xa.2.2.2.2.2.2.length cpxa_6] :: F) ?_ ?_
 · refine CJ.block <| CJ.loop (fun s ρ K' L' => ∃ (i773 : Int), i773 = s ∧ Fits [(1, .pointer (some ⟨b652, 0, none⟩)), (3, ii i773)] ρ ∧ K = K' ∧ L' = Cl b652 30 [ii xa.1, ii xa.2.1, .slice adxa_2 xa.2.2.1.length cpxa_2, .slice adxa_3 xa.2.2.2.1.length cpxa_3, .slice adxa_4 xa.2.2.2.2.1.length cpxa_4, .slice adxa_5 xa.2.2.2.2.2.1.length cpxa_5, .slice adxa_6 xa.2.2.2.2.2.2.length cpxa_6] :: F) ho750 ⟨0, rfl, ⟨rfl, rfl, trivial⟩, rfl, rfl⟩ ?_
   rintro s ρ _ _ r799 ⟨i773, rfl, hf797, rfl, rfl⟩ h796
   obtain ⟨ρ, rfl⟩ := hf797.ex
   refine CJ.seq <| cr <| jm (ii i773) rfl <| jv _ (V.fad Try.underlying30 rfl nz23 rfl) <| jv (.slice adxa_3 xa.2.2.2.1.length cpxa_3) (V.ld rfl (Ld.sc sc23 (Rd.cl 0 rfl rfl))) <| jv (ii (((xa.2.2.2.1.length : Nat) : Int))) (V.len Try.underlying23 rfl) ?_
   refine jv (.bool (decide (i773 < (((xa.2.2.2.1.length : Nat) : Int))))) (V.lss rfl rfl) <| J.nil <| cc rfl h796 (fun hc800 h796 => ?_) fun hc800 h796 => ?_
   · refine CJ.skip <| CJ.seq <| CJ.block <| cr <| jv _ (V.fad Try.underlying30 rfl nz23 rfl) <| jv (.slice adxa_3 xa.2.2.2.1.length cpxa_3) (V.ld rfl (Ld.sc sc23 (Rd.cl 0 rfl rfl))) ?_
     refine jm (ii i773) rfl ?_
     obtain ⟨x801, hx802, h796⟩ := ob h796
     obtain ⟨p803, p804, p805⟩ := getI_some hx802
     obtain ⟨b806, o807, e808, a809⟩ := (fxa_3).at p804
     refine jv _ (V.iad Try.underlying23 sz26 rfl e808 rfl p803 p805) ?_
     obtain ⟨ad810, cp811, c812, f813⟩ := ((a809).one).sl
     refine jv (.agg #[.slice ad810 x801.length cp811]) (V.ld rfl (Ld.aggK (cs := [.slice ad810 x801.length cp811]) Try.underlying26 sz26 rfl ⟨c812, trivial⟩ (Hp.le_refl _))) ?_
     obtain ⟨r814, hr815, h796⟩ := ob h796
     refine J.op rfl (A.call (L1 := []) Try.call17 rfl (ref15_Few_ok f813 hr815) rfl rfl) ?_
     rintro _ _ _ ⟨v817, _, rfl, ⟨⟨t816, rfl, rfl, rfl⟩, rfl⟩, _, rfl⟩
     refine jv (.bool (!t816)) (V.not rfl) <| J.nil <| cc rfl h796 (fun hc820 h796 => ?_) fun hc820 h796 => ?_
     · refine cr <| ja (.bool false) rfl <| J.nil <| CJ.ret ?_
       obtain rfl := si h796
       refine ⟨nofun, fun e => ?_⟩
       subst e
       refine .inr ⟨nofun, ?_⟩
       obtain rfl := si h
       exact ⟨_, _, Res.one rfl rfl, ⟨false, rfl, rfl, rfl⟩, (Hp.le_refl _), fun w hs => (Sep.dropAt 0 rfl hs)⟩
     refine CJ.skip <| CJ.region <| jm (ii i773) rfl <| jv (ii (IntKind.wrap .i64 (i773 + 1))) (V.add rfl rfl) <| ja (ii (IntKind.wrap .i64 (i773 + 1))) rfl <| J.nil ?_
     obtain rfl := si h796
     exact ⟨rfl, ⟨IntKind.wrap .i64 (i773 + 1), rfl, ⟨rfl, rfl, trivial⟩, rfl, rfl⟩⟩
   refine CJ.exit ?_
   obtain rfl := si h796
   refine ⟨nofun, fun e => ?_⟩
   subst e
   exact .inl ⟨rfl, _, rfl, ⟨rfl, ⟨rfl, trivial⟩, rfl, rfl⟩⟩
 rintro s ρ _ _ ho821 ⟨rfl, hf822, rfl, rfl⟩
 subst ho821
 obtain ⟨ρ, rfl⟩ := hf822.ex
 refine PJ.done <| CJ.seq <| cr <| ja (ii 0) rfl <| J.nil ?_
 obtain ⟨o918, ho919, h⟩ := ob h
 refine CJ.joinN (o := o918) (fun s ρ K' L' => () = s ∧ Fits [(1, .pointer (some ⟨b652, 0, none⟩))] ρ ∧ K = K' ∧ L' = Cl b652 30 [ii xa.1, ii xa.2.1, .slice adxa_2 xa.2.2.1.length cpxa_2, .slice adxa_3 xa.2.2.2.1.length cpxa_3, .slice adxa_4 xa.2.2.2.2.1.length cpxa_4, .slice adxa_5 xa.2.2.2.2.2.1.length cpxa_5, .slice adxa_6 xa.2.2.2.2.2.2.length cpxa_6] :: F) ?_ ?_
 · refine CJ.block <| CJ.loop (fun s ρ K' L' => ∃ (i950 : Int), i950 = s ∧ Fits [(1, .pointer (some ⟨b652, 0, none⟩)), (4, ii i950)] ρ ∧ K = K' ∧ L' = Cl b652 30 [ii xa.1, ii xa.2.1, .slice adxa_2 xa.2.2.1.length cpxa_2, .slice adxa_3 xa.2.2.2.1.length cpxa_3, .slice adxa_4 xa.2.2.2.2.1.length cpxa_4, .slice adxa_5 xa.2.2.2.2.2.1.length cpxa_5, .slice adxa_6 xa.2.2.2.2.2.2.length cpxa_6] :: F) ho919 ⟨0, rfl, ⟨rfl, rfl, trivial⟩, rfl, rfl⟩ ?_
   rintro s ρ _ _ r984 ⟨i950, rfl, hf982, rfl, rfl⟩ h981
   obtain ⟨ρ, rfl⟩ := hf982.ex
   refine CJ.seq <| cr <| jm (ii i950) rfl <| jv _ (V.fad Try.underlying30 rfl nz27 rfl) <| jv (.slice adxa_5 xa.2.2.2.2.2.1.length cpxa_5) (V.ld rfl (Ld.sc sc27 (Rd.cl 0 rfl rfl))) <| jv (ii (((xa.2.2.2.2.2.1.length : Nat) : Int))) (V.len Try.underlying27 rfl) ?_
   refine jv (.bool (decide (i950 < (((xa.2.2.2.2.2.1.length : Nat) : Int))))) (V.lss rfl rfl) <| J.nil <| cc rfl h981 (fun hc985 h981 => ?_) fun hc985 h981 => ?_
   · refine CJ.skip <| CJ.seq <| CJ.block <| cr <| jv _ (V.fad Try.underlying30 rfl nz27 rfl) <| jv (.slice adxa_5 xa.2.2.2.2.2.1.length cpxa_5) (V.ld rfl (Ld.sc sc27 (Rd.cl 0 rfl rfl))) ?_
     refine jm (ii i950) rfl ?_
     obtain ⟨x986, hx987, h981⟩ := ob h981
     obtain ⟨p988, p989, p990⟩ := getI_some hx987
     obtain ⟨b991, o992, e993, a994⟩ := (fxa_5).at p989
     refine jv _ (V.iad Try.underlying27 sz62 rfl e993 rfl p988 p990) ?_
     obtain ⟨ad995, cp996, c997, f998⟩ := (((a994).snd).fst).sl
     obtain ⟨ad999, cp1000, c1001, f1002⟩ := ((((a994).snd).snd).fst).sl
     obtain ⟨ad1003, cp1004, c1005, f1006⟩ := ((((((a994).snd).snd).snd).one).one).sl
     refine jv (.agg #[ii x986.1, .slice ad995 x986.2.1.length cp996, .slice ad999 x986.2.2.1.length cp1000, .slice ad1003 x986.2.2.2.length cp1004]) (V.ld rfl (Ld.aggK (cs := [ii x986.1, .slice ad995 x986.2.1.length cp996, .slice ad999 x986.2.2.1.length cp1000, .slice ad1003 x986.2.2.2.length cp1004]) Try.underlying62 sz62 rfl ⟨((a994).fst).int, c997, c1001, c1005, trivial⟩ (Hp.le_refl _))) ?_
     obtain ⟨r1007, hr1008, h981⟩ := ob h981
     refine J.op rfl (A.call (L1 := []) Try.call18 rfl (ref17_Few_ok f998 f1002 f1006 hr1008) rfl rfl) ?_
     rintro _ _ _ ⟨v1010, _, rfl, ⟨⟨t1009, rfl, rfl, rfl⟩, rfl⟩, _, rfl⟩
     refine jv (.bool (!t1009)) (V.not rfl) <| J.nil <| cc rfl h981 (fun hc1013 h981 => ?_) fun hc1013 h981 => ?_
     · refine cr <| ja (.bool false) rfl <| J.nil <| CJ.ret ?_
       obtain rfl := si h981
       refine ⟨nofun, fun e => ?_⟩
       subst e
       refine .inr ⟨nofun, ?_⟩
       obtain rfl := si h
       exact ⟨_, _, Res.one rfl rfl, ⟨false, rfl, rfl, rfl⟩, (Hp.le_refl _), fun w hs => (Sep.dropAt 0 rfl hs)⟩
     refine CJ.skip <| CJ.region <| jm (ii i950) rfl <| jv (ii (IntKind.wrap .i64 (i950 + 1))) (V.add rfl rfl) <| ja (ii (IntKind.wrap .i64 (i950 + 1))) rfl <| J.nil ?_
     obtain rfl := si h981
     exact ⟨rfl, ⟨IntKind.wrap .i64 (i950 + 1), rfl, ⟨rfl, rfl, trivial⟩, rfl, rfl⟩⟩
   refine CJ.exit ?_
   obtain rfl := si h981
   refine ⟨nofun, fun e => ?_⟩
   subst e
   exact .inl ⟨rfl, _, rfl, ⟨rfl, ⟨rfl, trivial⟩, rfl, rfl⟩⟩
 rintro s ρ _ _ ho1014 ⟨rfl, hf1015, rfl, rfl⟩
 subst ho1014
 obtain ⟨ρ, rfl⟩ := hf1015.ex
 refine PJ.done <| cr <| ja (ii 0) rfl <| J.nil <| CJ.seq <| CJ.seq ?_
 refine CJ.region <| ja (ii 0) rfl <| J.nil ?_
 obtain ⟨o1157, ho1158, h⟩ := ob h
 refine CJ.joinN (o := o1157) (fun s ρ K' L' => ∃ (i1156 : Int), i1156 = s ∧ Fits [(5, ii i1156)] ρ ∧ K = K' ∧ F = L') ?_ ?_
 · refine CJ.block <| CJ.loop (fun s ρ K' L' => ∃ (i1204 : Int) (i1205 : Int), (i1204, i1205) = s ∧ Fits [(1, .pointer (some ⟨b652, 0, none⟩)), (5, ii i1204), (6, ii i1205)] ρ ∧ K = K' ∧ L' = Cl b652 30 [ii xa.1, ii xa.2.1, .slice adxa_2 xa.2.2.1.length cpxa_2, .slice adxa_3 xa.2.2.2.1.length cpxa_3, .slice adxa_4 xa.2.2.2.2.1.length cpxa_4, .slice adxa_5 xa.2.2.2.2.2.1.length cpxa_5, .slice adxa_6 xa.2.2.2.2.2.2.length cpxa_6] :: F) ho1158 ⟨0, 0, rfl, ⟨rfl, rfl, rfl, trivial⟩, rfl, rfl⟩ ?_
   rintro s ρ _ _ r1254 ⟨i1204, i1205, rfl, hf1252, rfl, rfl⟩ h1251
   obtain ⟨ρ, rfl⟩ := hf1252.ex
   refine CJ.seq <| cr <| jm (ii i1205) rfl <| jv _ (V.fad Try.underlying30 rfl nz28 rfl) <| jv (.slice adxa_6 xa.2.2.2.2.2.2.length cpxa_6) (V.ld rfl (Ld.sc sc28 (Rd.cl 0 rfl rfl))) <| jv (ii (((xa.2.2.2.2.2.2.length : Nat) : Int))) (V.len Try.underlying28 rfl) ?_
   refine jv (.bool (decide (i1205 < (((xa.2.2.2.2.2.2.length : Nat) : Int))))) (V.lss rfl rfl) <| J.nil <| cc rfl h1251 (fun hc1255 h1251 => ?_) fun hc1255 h1251 => ?_
   · refine CJ.skip <| CJ.seq <| CJ.block <| cr <| jv _ (V.fad Try.underlying30 rfl nz28 rfl) <| jv (.slice adxa_6 xa.2.2.2.2.2.2.length cpxa_6) (V.ld rfl (Ld.sc sc28 (Rd.cl 0 rfl rfl))) ?_
     refine jm (ii i1205) rfl ?_
     obtain ⟨x1256, hx1257, h1251⟩ := ob h1251
     obtain ⟨p1258, p1259, p1260⟩ := getI_some hx1257
     obtain ⟨b1261, o1262, e1263, a1264⟩ := (fxa_6).at p1259
     refine jv _ (V.iad Try.underlying28 sz56 rfl e1263 rfl p1258 p1260) <| jv _ (V.fad Try.underlying56 rfl nz54 rfl) ?_
     obtain ⟨ad1265, cp1266, c1267, f1268⟩ := (((((((a1264).snd).one).snd).snd).snd).fst).sl
     obtain ⟨ad1269, cp1270, c1271, f1272⟩ := ((((((((a1264).snd).one).snd).snd).snd).snd).fst).sl
     obtain ⟨ad1273, cp1274, c1275, f1276⟩ := (((((((((a1264).snd).one).snd).snd).snd).snd).snd).one).sl
     refine jv (.agg #[ii x1256.2.1, ii x1256.2.2.1, ii x1256.2.2.2.1, .slice ad1265 x1256.2.2.2.2.1.length cp1266, .slice ad1269 x1256.2.2.2.2.2.1.length cp1270, .slice ad1273 x1256.2.2.2.2.2.2.length cp1274]) (V.ld rfl (Ld.aggK (cs := [ii x1256.2.1, ii x1256.2.2.1, ii x1256.2.2.2.1, .slice ad1265 x1256.2.2.2.2.1.length cp1266, .slice ad1269 x1256.2.2.2.2.2.1.length cp1270, .slice ad1273 x1256.2.2.2.2.2.2.length cp1274]) Try.underlying54 sz54 rfl ⟨((((a1264).snd).one).fst).int, (((((a1264).snd).one).snd).fst).int, ((((((a1264).snd).one).snd).snd).fst).int, c1267, c1271, c1275, trivial⟩ (Hp.le_refl _))) <| jal inf54 [ii 0, ii 0, ii 0, nos, nos, nos] rfl fun b1277 => js [ii x1256.2.1, ii x1256.2.2.1, ii x1256.2.2.2.1, .slice ad1265 x1256.2.2.2.2.1.length cp1266, .slice ad1269 x1256.2.2.2.2.2.1.length cp1270, .slice ad1273 x1256.2.2.2.2.2.2.length cp1274] sz54 rfl rfl rfl rfl rfl rfl <| J.nil <| cr <| jm (ii i1204) rfl ?_
     refine jv _ (V.fad Try.underlying30 rfl nz28 rfl) <| jv (.slice adxa_6 xa.2.2.2.2.2.2.length cpxa_6) (V.ld rfl (Ld.sc sc28 (Rd.cl 1 rfl rfl))) <| jm (ii i1205) rfl ?_
     obtain ⟨x1278, hx1279, h1251⟩ := ob h1251
     obtain ⟨p1280, p1281, p1282⟩ := getI_some hx1279
     obtain ⟨b1283, o1284, e1285, a1286⟩ := (fxa_6).at p1281
     refine jv _ (V.iad Try.underlying28 sz56 rfl e1285 rfl p1280 p1282) <| jv _ (V.fad Try.underlying56 rfl nz51 rfl) ?_
     obtain ⟨ad1287, cp1288, c1289, f1290⟩ := ((a1286).fst).sl
     refine jv (.slice ad1287 x1278.1.length cp1288) (V.ld rfl (Ld.sc sc51 (Rd.k c1289 (Hp.le_refl _)))) <| jv (ii (((x1278.1.length : Nat) : Int))) (V.len Try.underlying51 rfl) <| jv (ii (IntKind.wrap .i64 (i1204 + (((x1278.1.length : Nat) : Int))))) (V.add rfl rfl) <| ja (ii (IntKind.wrap .i64 (i1204 + (((x1278.1.length : Nat) : Int))))) rfl <| J.nil <| CJ.seq <| CJ.region ?_
     refine jv _ (V.fad Try.underlying54 rfl nz52 rfl) <| jv (.slice ad1265 x1256.2.2.2.2.1.length cp1266) (V.ld rfl (Ld.sc sc52 (Rd.cl 0 rfl rfl))) <| jv (ii (((x1256.2.2.2.2.1.length : Nat) : Int))) (V.len Try.underlying52 rfl) <| jv (.bool (decide (20 < (((x1256.2.2.2.2.1.length : Nat) : Int))))) (V.gtr rfl rfl) <| jm (.bool (decide (20 < (((x1256.2.2.2.2.1.length : Nat) : Int))))) rfl <| J.cut 5 <| jmeet [(95, .bool ((decide (20 < (((x1256.2.2.2.2.1.length : Nat) : Int)))) || (decide (20 < (((x1256.2.2.2.2.2.1.length : Nat) : Int)))))), (1, .pointer (some ⟨b652, 0, none⟩)), (5, ii (IntKind.wrap .i64 (i1204 + (((x1278.1.length : Nat) : Int))))), (6, ii i1205), (7, .pointer (some ⟨b1277, 0, none⟩))] ?_ ?_
     · rcases bt (decide (20 < (((x1256.2.2.2.2.1.length : Nat) : Int)))) with hc1293 | hc1293
       · refine J.skip rfl rfl rfl rfl hc1293 <| J.skip rfl rfl rfl rfl hc1293 <| J.skip rfl rfl rfl rfl hc1293 <| J.skip rfl rfl rfl rfl hc1293 <| jv (.bool true) (V.pickT rfl hc1293 rfl) <| J.nil ?_
         exact ⟨rfl, ⟨(by simp only [hc1293]; rfl), rfl, rfl, rfl, rfl, trivial⟩, rfl, rfl⟩
       refine J.run rfl rfl rfl hc1293 <| jv _ (V.fad Try.underlying54 rfl nz52 rfl) <| J.run rfl rfl rfl hc1293 <| jv (.slice ad1269 x1256.2.2.2.2.2.1.length cp1270) (V.ld rfl (Ld.sc sc52 (Rd.cl 0 rfl rfl))) <| J.run rfl rfl rfl hc1293 <| jv (ii (((x1256.2.2.2.2.2.1.length : Nat) : Int))) (V.len Try.underlying52 rfl) <| J.run rfl rfl rfl hc1293 ?_
       refine jv (.bool (decide (20 < (((x1256.2.2.2.2.2.1.length : Nat) : Int))))) (V.gtr rfl rfl) <| jv (.bool (decide (20 < (((x1256.2.2.2.2.2.1.length : Nat) : Int))))) (V.pickF rfl hc1293 rfl) <| J.nil ?_
       exact ⟨rfl, ⟨(by simp only [hc1293]; rfl), rfl, rfl, rfl, rfl, trivial⟩, rfl, rfl⟩
     intro ρ
     refine jm (.bool ((decide (20 < (((x1256.2.2.2.2.1.length : Nat) : Int)))) || (decide (20 < (((x1256.2.2.2.2.2.1.length : Nat) : Int)))))) rfl <| J.cut 5 <| jmeet [(101, .bool (((decide (20 < (((x1256.2.2.2.2.1.length : Nat) : Int)))) || (decide (20 < (((x1256.2.2.2.2.2.1.length : Nat) : Int))))) || (decide (20 < (((x1256.2.2.2.2.2.2.length : Nat) : Int)))))), (1, .pointer (some ⟨b652, 0, none⟩)), (5, ii (IntKind.wrap .i64 (i1204 + (((x1278.1.length : Nat) : Int))))), (6, ii i1205)] ?_ ?_
     · rcases bt ((decide (20 < (((x1256.2.2.2.2.1.length : Nat) : Int)))) || (decide (20 < (((x1256.2.2.2.2.2.1.length : Nat) : Int))))) with hc1296 | hc1296
       · refine J.skip rfl rfl rfl rfl hc1296 <| J.skip rfl rfl rfl rfl hc1296 <| J.skip rfl rfl rfl rfl hc1296 <| J.skip rfl rfl rfl rfl hc1296 <| jv (.bool true) (V.pickT rfl hc1296 rfl) <| J.nil ?_
         exact ⟨rfl, ⟨(by simp only [hc1296]; rfl), rfl, rfl, rfl, trivial⟩, rfl, rfl⟩
       refine J.run rfl rfl rfl hc1296 <| jv _ (V.fad Try.underlying54 rfl nz52 rfl) <| J.run rfl rfl rfl hc1296 <| jv (.slice ad1273 x1256.2.2.2.2.2.2.length cp1274) (V.ld rfl (Ld.sc sc52 (Rd.cl 0 rfl rfl))) <| J.run rfl rfl rfl hc1296 <| jv (ii (((x1256.2.2.2.2.2.2.length : Nat) : Int))) (V.len Try.underlying52 rfl) <| J.run rfl rfl rfl hc1296 ?_
       refine jv (.bool (decide (20 < (((x1256.2.2.2.2.2.2.length : Nat) : Int))))) (V.gtr rfl rfl) <| jv (.bool (decide (20 < (((x1256.2.2.2.2.2.2.length : Nat) : Int))))) (V.pickF rfl hc1296 rfl) <| J.nil ?_
       exact ⟨rfl, ⟨(by simp only [hc1296]; rfl), rfl, rfl, rfl, trivial⟩, rfl, rfl⟩
     intro ρ
     refine J.nil <| cc rfl h1251 (fun hc1297 h1251 => ?_) fun hc1297 h1251 => ?_
     · refine cr <| ja (.bool false) rfl <| J.nil <| CJ.ret ?_
       obtain rfl := si h1251
       refine ⟨nofun, fun e => ?_⟩
       subst e
       refine .inr ⟨nofun, ?_⟩
       obtain rfl := si h
       exact ⟨_, _, Res.one rfl rfl, ⟨false, rfl, rfl, rfl⟩, (Hp.le_refl _), fun w hs => (Sep.dropAt 0 rfl (Sep.dropAt 0 rfl hs))⟩
     refine CJ.skip <| CJ.region <| jm (ii i1205) rfl <| jv (ii (IntKind.wrap .i64 (i1205 + 1))) (V.add rfl rfl) <| ja (ii (IntKind.wrap .i64 (i1205 + 1))) rfl <| J.dropAt 0 rfl <| J.nil ?_
     obtain rfl := si h1251
     exact ⟨rfl, ⟨IntKind.wrap .i64 (i1204 + (((x1278.1.length : Nat) : Int))), IntKind.wrap .i64 (i1205 + 1), rfl, ⟨rfl, rfl, rfl, trivial⟩, rfl, rfl⟩⟩
   refine CJ.dropAt 0 rfl <| CJ.exit ?_
   obtain rfl := si h1251
   refine ⟨nofun, fun e => ?_⟩
   subst e
   exact .inl ⟨rfl, _, rfl, ⟨i1204, rfl, ⟨rfl, trivial⟩, rfl, rfl⟩⟩
 rintro s ρ _ _ ho1298 ⟨i1156, rfl, hf1299, rfl, rfl⟩
 subst ho1298
 obtain ⟨ρ, rfl⟩ := hf1299.ex
 refine PJ.done <| cr <| jm (ii i1156) rfl <| jv (.bool (decide (i1156 ≤ 24))) (V.leq rfl rfl) <| ja (.bool (decide (i1156 ≤ 24))) rfl <| J.nil ?_
 refine CJ.ret ?_
 obtain rfl := si h
 exact ⟨_, _, Res.one rfl rfl, ⟨decide (i1156 ≤ 24), rfl, rfl, rfl⟩, (Hp.le_refl _), fun w hs => hs⟩
noncomputable def fn_ref21_head_l1 (xa : (Int × Int × (List (Int × Int)) × (List (List (Int × Bool))) × (List (Int × Bool)) × (List (Int × (List (Int × Int)) × (List (List (Int × Bool))) × (List (Int × Bool)))) × (List ((List (Int × Int × Int × Int × Bool)) × (Int × Int × Int × (List Int) × (List Int) × (List Int)))))) : Int → Option (Int ⊕ (Unit ⊕ (Int × Int × Int × Int))) := fun (i260 : Int) => cond (decide (i260 < (((xa.2.2.1.length : Nat) : Int)))) ((getI xa.2.2.1 i260).bind fun x288 => cond ((((decide (x288.1 < 0)) || (decide (xa.1 ≤ x288.1))) || (decide (x288.2 < 0))) || (decide (xa.1 ≤ x288.2))) (some (.inr ((.inr ((7, 1, i260, 0)))))) (some (.inl (IntKind.wrap .i64 (i260 + 1))))) (some (.inr ((.inl ()))))
noncomputable def fn_ref21_head (xa : (Int × Int × (List (Int × Int)) × (List (List (Int × Bool))) × (List (Int × Bool)) × (List (Int × (List (Int × Int)) × (List (List (Int × Bool))) × (List (Int × Bool)))) × (List ((List (Int × Int × Int × Int × Bool)) × (Int × Int × Int × (List Int) × (List Int) × (List Int)))))) : Option (Int × Int × Int × Int) :=
  cond ((decide (xa.1 < 1)) || (decide (xa.2.1 < xa.1))) (some ((7, 0, 0, 0))) (cond (decide (65536 < xa.2.1)) (some ((6, 0, 0, 0))) (cond (decide (65536 < (((xa.2.2.1.length : Nat) : Int)))) (some ((6, 1, 0, 0))) ((loop (fn_ref21_head_l1 xa) 0 : Option (Unit ⊕ (Int × Int × Int × Int))).bind fun o => match o with | .inr r => some r | .inl () => some ((0, 0, 0, 0)))))
set_option maxRecDepth 100000 in
set_option maxHeartbeats 4000000 in
theorem ref21_head_ok {K : Hp} {xa : (Int × Int × (List (Int × Int)) × (List (List (Int × Bool))) × (List (Int × Bool)) × (List (Int × (List (Int × Int)) × (List (List (Int × Bool))) × (List (Int × Bool)))) × (List ((List (Int × Int × Int × Int × Bool)) × (Int × Int × Int × (List Int) × (List Int) × (List Int)))))} {adxa_2 : Option Addr} {cpxa_2 : Nat} {adxa_3 : Option Addr} {cpxa_3 : Nat} {adxa_4 : Option Addr} {cpxa_4 : Nat} {adxa_5 : Option Addr} {cpxa_5 : Nat} {adxa_6 : Option Addr} {cpxa_6 : Nat} (fxa_2 : Is K (.sl (.cons (.int .i64) (.one (.int .i64)))) [.slice adxa_2 xa.2.2.1.length cpxa_2] xa.2.2.1) (fxa_3 : Is K (.sl (.one (.sl (.cons (.int .i64) (.one .bool))))) [.slice adxa_3 xa.2.2.2.1.length cpxa_3] xa.2.2.2.1) (fxa_4 : Is K (.sl (.cons (.int .i64) (.one .bool))) [.slice adxa_4 xa.2.2.2.2.1.length cpxa_4] xa.2.2.2.2.1) (fxa_5 : Is K (.sl (.cons (.int .i64) (.cons (.sl (.cons (.int .i64) (.one (.int .i64)))) (.cons (.sl (.one (.sl (.cons (.int .i64) (.one .bool))))) (.one (.one (.sl (.cons (.int .i64) (.one .bool))))))))) [.slice adxa_5 xa.2.2.2.2.2.1.length cpxa_5] xa.2.2.2.2.2.1) (fxa_6 : Is K (.sl (.cons (.sl (.cons (.int .i64) (.cons (.int .i64) (.cons (.int .i64) (.cons (.int .i64) (.one .bool)))))) (.one (.cons (.int .i64) (.cons (.int .i64) (.cons (.int .i64) (.cons (.sl (.int .i64)) (.cons (.sl (.int .i64)) (.one (.sl (.int .i64))))))))))) [.slice adxa_6 xa.2.2.2.2.2.2.length cpxa_6] xa.2.2.2.2.2.2) {r : (Int × Int × Int × Int)} (h : fn_ref21_head xa = some r) :
    Tr Try.prog 27 #[.agg #[ii xa.1, ii xa.2.1, .slice adxa_2 xa.2.2.1.length cpxa_2, .slice adxa_3 xa.2.2.2.1.length cpxa_3, .slice adxa_4 xa.2.2.2.2.1.length cpxa_4, .slice adxa_5 xa.2.2.2.2.2.1.length cpxa_5, .slice adxa_6 xa.2.2.2.2.2.2.length cpxa_6]] K [] (fun v K' L' => (∃ (i154 : Int) (i155 : Int) (i156 : Int) (i157 : Int), (i154, i155, i156, i157) = r ∧ .agg #[ii i154, ii i155, ii i156, ii i157] = v ∧ L' = []) ∧ K = K') := by
 refine Tr.k <| Tr.of Try.func27 rfl Try.ntmps27 rfl fun E F => ?_
 unfold fn_ref21_head at h
 refine cr <| jbx [ii xa.1, ii xa.2.1, .slice adxa_2 xa.2.2.1.length cpxa_2, .slice adxa_3 xa.2.2.2.1.length cpxa_3, .slice adxa_4 xa.2.2.2.2.1.length cpxa_4, .slice adxa_5 xa.2.2.2.2.2.1.length cpxa_5, .slice adxa_6 xa.2.2.2.2.2.2.length cpxa_6] rfl rfl fun b158 => jal inf33 [ii 0, ii 0, ii 0, ii 0] rfl fun b159 => J.nil <| CJ.seq <| CJ.seq ?_
 refine CJ.region <| jv _ (V.fad Try.underlying30 rfl nz3 rfl) <| jv (ii xa.1) (V.ld rfl (Ld.sc sc3 (Rd.cl 1 rfl rfl))) <| jv (.bool (decide (xa.1 < 1))) (V.lss rfl rfl) <| jm (.bool (decide (xa.1 < 1))) rfl <| J.cut 6 <| jmeet [(14, .bool ((decide (xa.1 < 1)) || (decide (xa.2.1 < xa.1)))), (1, .pointer (some ⟨b158, 0, none⟩)), (2, .pointer (some ⟨b159, 0, none⟩))] ?_ ?_
 · rcases bt (decide (xa.1 < 1)) with hc162 | hc162
   · refine J.skip rfl rfl rfl rfl hc162 <| J.skip rfl rfl rfl rfl hc162 <| J.skip rfl rfl rfl rfl hc162 <| J.skip rfl rfl rfl rfl hc162 <| J.skip rfl rfl rfl rfl hc162 <| jv (.bool true) (V.pickT rfl hc162 rfl) <| J.nil ?_
     exact ⟨rfl, ⟨(by simp only [hc162]; rfl), rfl, rfl, trivial⟩, rfl, rfl⟩
   refine J.run rfl rfl rfl hc162 <| jv _ (V.fad Try.underlying30 rfl nz3 rfl) <| J.run rfl rfl rfl hc162 <| jv (ii xa.2.1) (V.ld rfl (Ld.sc sc3 (Rd.cl 1 rfl rfl))) <| J.run rfl rfl rfl hc162 <| jv _ (V.fad Try.underlying30 rfl nz3 rfl) <| J.run rfl rfl rfl hc162 ?_
   refine jv (ii xa.1) (V.ld rfl (Ld.sc sc3 (Rd.cl 1 rfl rfl))) <| J.run rfl rfl rfl hc162 <| jv (.bool (decide (xa.2.1 < xa.1))) (V.lss rfl rfl) <| jv (.bool (decide (xa.2.1 < xa.1))) (V.pickF rfl hc162 rfl) <| J.nil ?_
   exact ⟨rfl, ⟨(by simp only [hc162]; rfl), rfl, rfl, trivial⟩, rfl, rfl⟩
 intro ρ
 refine J.nil <| cc rfl h (fun hc163 h => ?_) fun hc163 h => ?_
 · refine cr <| jv (.agg #[ii 7, ii 0, ii 0, ii 0]) (V.build inf33 places33 rfl rfl) <| js [ii 7, ii 0, ii 0, ii 0] sz33 rfl rfl rfl rfl rfl rfl <| J.nil <| CJ.ret ?_
   obtain rfl := si h
   exact ⟨_, _, Res.one rfl ⟨_, _, rfl, Ld.agg (cs := [ii 7, ii 0, ii 0, ii 0]) Try.underlying33 sz33 rfl (Rd.cls 0 0 rfl rfl)⟩, ⟨7, 0, 0, 0, rfl, rfl, rfl⟩, (Hp.le_refl _), fun w hs => (Sep.dropAt 0 rfl (Sep.dropAt 0 rfl hs))⟩
 refine CJ.skip <| CJ.seq <| cr <| jv _ (V.fad Try.underlying30 rfl nz3 rfl) <| jv (ii xa.2.1) (V.ld rfl (Ld.sc sc3 (Rd.cl 1 rfl rfl))) <| jv (.bool (decide (65536 < xa.2.1))) (V.gtr rfl rfl) ?_
 refine J.nil <| cc rfl h (fun hc164 h => ?_) fun hc164 h => ?_
 · refine cr <| jv (.agg #[ii 6, ii 0, ii 0, ii 0]) (V.build inf33 places33 rfl rfl) <| js [ii 6, ii 0, ii 0, ii 0] sz33 rfl rfl rfl rfl rfl rfl <| J.nil <| CJ.ret ?_
   obtain rfl := si h
   exact ⟨_, _, Res.one rfl ⟨_, _, rfl, Ld.agg (cs := [ii 6, ii 0, ii 0, ii 0]) Try.underlying33 sz33 rfl (Rd.cls 0 0 rfl rfl)⟩, ⟨6, 0, 0, 0, rfl, rfl, rfl⟩, (Hp.le_refl _), fun w hs => (Sep.dropAt 0 rfl (Sep.dropAt 0 rfl hs))⟩
 refine CJ.skip <| CJ.seq <| cr <| jv _ (V.fad Try.underlying30 rfl nz22 rfl) <| jv (.slice adxa_2 xa.2.2.1.length cpxa_2) (V.ld rfl (Ld.sc sc22 (Rd.cl 1 rfl rfl))) <| jv (ii (((xa.2.2.1.length : Nat) : Int))) (V.len Try.underlying22 rfl) ?_
 refine jv (.bool (decide (65536 < (((xa.2.2.1.length : Nat) : Int))))) (V.gtr rfl rfl) <| J.nil <| cc rfl h (fun hc165 h => ?_) fun hc165 h => ?_
 · refine cr <| jv (.agg #[ii 6, ii 1, ii 0, ii 0]) (V.build inf33 places33 rfl rfl) <| js [ii 6, ii 1, ii 0, ii 0] sz33 rfl rfl rfl rfl rfl rfl <| J.nil <| CJ.ret ?_
   obtain rfl := si h
   exact ⟨_, _, Res.one rfl ⟨_, _, rfl, Ld.agg (cs := [ii 6, ii 1, ii 0, ii 0]) Try.underlying33 sz33 rfl (Rd.cls 0 0 rfl rfl)⟩, ⟨6, 1, 0, 0, rfl, rfl, rfl⟩, (Hp.le_refl _), fun w hs => (Sep.dropAt 0 rfl (Sep.dropAt 0 rfl hs))⟩
 refine CJ.skip <| CJ.seq <| cr <| ja (ii 0) rfl <| J.nil ?_
 obtain ⟨o236, ho237, h⟩ := ob h
 refine CJ.joinN (o := o236) (fun s ρ K' L' => () = s ∧ Fits [(2, .pointer (some ⟨b159, 0, none⟩))] ρ ∧ K = K' ∧ L' = Cl b159 33 [ii 0, ii 0, ii 0, ii 0] :: F) ?_ ?_
 · refine CJ.block <| CJ.front 1 rfl <| CJ.loop (fun s ρ K' L' => ∃ (i260 : Int), i260 = s ∧ Fits [(1, .pointer (some ⟨b158, 0, none⟩)), (2, .pointer (some ⟨b159, 0, none⟩)), (3, ii i260)] ρ ∧ K = K' ∧ L' = Cl b158 30 [ii xa.1, ii xa.2.1, .slice adxa_2 xa.2.2.1.length cpxa_2, .slice adxa_3 xa.2.2.2.1.length cpxa_3, .slice adxa_4 xa.2.2.2.2.1.length cpxa_4, .slice adxa_5 xa.2.2.2.2.2.1.length cpxa_5, .slice adxa_6 xa.2.2.2.2.2.2.length cpxa_6] :: Cl b159 33 [ii 0, ii 0, ii 0, ii 0] :: F) ho237 ⟨0, rfl, ⟨rfl, rfl, rfl, trivial⟩, rfl, rfl⟩ ?_
   rintro s ρ _ _ r286 ⟨i260, rfl, hf284, rfl, rfl⟩ h283
   obtain ⟨ρ, rfl⟩ := hf284.ex
   refine CJ.seq <| cr <| jm (ii i260) rfl <| jv _ (V.fad Try.underlying30 rfl nz22 rfl) <| jv (.slice adxa_2 xa.2.2.1.length cpxa_2) (V.ld rfl (Ld.sc sc22 (Rd.cl 0 rfl rfl))) <| jv (ii (((xa.2.2.1.length : Nat) : Int))) (V.len Try.underlying22 rfl) ?_
   refine jv (.bool (decide (i260 < (((xa.2.2.1.length : Nat) : Int))))) (V.lss rfl rfl) <| J.nil <| cc rfl h283 (fun hc287 h283 => ?_) fun hc287 h283 => ?_
   · refine CJ.skip <| CJ.seq <| CJ.block <| cr <| jv _ (V.fad Try.underlying30 rfl nz22 rfl) <| jv (.slice adxa_2 xa.2.2.1.length cpxa_2) (V.ld rfl (Ld.sc sc22 (Rd.cl 0 rfl rfl))) ?_
     refine jm (ii i260) rfl ?_
     obtain ⟨x288, hx289, h283⟩ := ob h283
     obtain ⟨p290, p291, p292⟩ := getI_some hx289
     obtain ⟨b293, o294, e295, a296⟩ := (fxa_2).at p291
     refine jv _ (V.iad Try.underlying22 sz50 rfl e295 rfl p290 p292) <| jv (.agg #[ii x288.1, ii x288.2]) (V.ld rfl (Ld.aggK (cs := [ii x288.1, ii x288.2]) Try.underlying50 sz50 rfl ⟨((a296).fst).int, (((a296).snd).one).int, trivial⟩ (Hp.le_refl _))) <| jal inf50 [ii 0, ii 0] rfl fun b297 => js [ii x288.1, ii x288.2] sz50 rfl rfl rfl rfl rfl rfl <| J.nil <| CJ.seq <| CJ.region ?_
     refine jv _ (V.fad Try.underlying50 rfl nz3 rfl) <| jv (ii x288.1) (V.ld rfl (Ld.sc sc3 (Rd.cl 0 rfl rfl))) <| jv (.bool (decide (x288.1 < 0))) (V.lss rfl rfl) <| jm (.bool (decide (x288.1 < 0))) rfl <| J.cut 6 <| jmeet [(46, .bool ((decide (x288.1 < 0)) || (decide (xa.1 ≤ x288.1)))), (1, .pointer (some ⟨b158, 0, none⟩)), (2, .pointer (some ⟨b159, 0, none⟩)), (3, ii i260), (4, .pointer (some ⟨b297, 0, none⟩))] ?_ ?_
     · rcases bt (decide (x288.1 < 0)) with hc300 | hc300
       · refine J.skip rfl rfl rfl rfl hc300 <| J.skip rfl rfl rfl rfl hc300 <| J.skip rfl rfl rfl rfl hc300 <| J.skip rfl rfl rfl rfl hc300 <| J.skip rfl rfl rfl rfl hc300 <| jv (.bool true) (V.pickT rfl hc300 rfl) <| J.nil ?_
         exact ⟨rfl, ⟨(by simp only [hc300]; rfl), rfl, rfl, rfl, rfl, trivial⟩, rfl, rfl⟩
       refine J.run rfl rfl rfl hc300 <| jv _ (V.fad Try.underlying50 rfl nz3 rfl) <| J.run rfl rfl rfl hc300 <| jv (ii x288.1) (V.ld rfl (Ld.sc sc3 (Rd.cl 0 rfl rfl))) <| J.run rfl rfl rfl hc300 <| jv _ (V.fad Try.underlying30 rfl nz3 rfl) <| J.run rfl rfl rfl hc300 ?_
       refine jv (ii xa.1) (V.ld rfl (Ld.sc sc3 (Rd.cl 1 rfl rfl))) <| J.run rfl rfl rfl hc300 <| jv (.bool (decide (xa.1 ≤ x288.1))) (V.geq rfl rfl) <| jv (.bool (decide (xa.1 ≤ x288.1))) (V.pickF rfl hc300 rfl) <| J.nil ?_
       exact ⟨rfl, ⟨(by simp only [hc300]; rfl), rfl, rfl, rfl, rfl, trivial⟩, rfl, rfl⟩
     intro ρ
     refine jm (.bool ((decide (x288.1 < 0)) || (decide (xa.1 ≤ x288.1)))) rfl <| J.cut 4 <| jmeet [(51, .bool (((decide (x288.1 < 0)) || (decide (xa.1 ≤ x288.1))) || (decide (x288.2 < 0)))), (1, .pointer (some ⟨b158, 0, none⟩)), (2, .pointer (some ⟨b159, 0, none⟩)), (3, ii i260), (4, .pointer (some ⟨b297, 0, none⟩))] ?_ ?_
     · rcases bt ((decide (x288.1 < 0)) || (decide (xa.1 ≤ x288.1))) with hc303 | hc303
       · refine J.skip rfl rfl rfl rfl hc303 <| J.skip rfl rfl rfl rfl hc303 <| J.skip rfl rfl rfl rfl hc303 <| jv (.bool true) (V.pickT rfl hc303 rfl) <| J.nil ?_
         exact ⟨rfl, ⟨(by simp only [hc303]; rfl), rfl, rfl, rfl, rfl, trivial⟩, rfl, rfl⟩
       refine J.run rfl rfl rfl hc303 <| jv _ (V.fad Try.underlying50 rfl nz3 rfl) <| J.run rfl rfl rfl hc303 <| jv (ii x288.2) (V.ld rfl (Ld.sc sc3 (Rd.cl 0 rfl rfl))) <| J.run rfl rfl rfl hc303 <| jv (.bool (decide (x288.2 < 0))) (V.lss rfl rfl) <| jv (.bool (decide (x288.2 < 0))) (V.pickF rfl hc303 rfl) ?_
       refine J.nil ?_
       exact ⟨rfl, ⟨(by simp only [hc303]; rfl), rfl, rfl, rfl, rfl, trivial⟩, rfl, rfl⟩
     intro ρ
     refine jm (.bool (((decide (x288.1 < 0)) || (decide (xa.1 ≤ x288.1))) || (decide (x288.2 < 0)))) rfl <| J.cut 6 <| jmeet [(58, .bool ((((decide (x288.1 < 0)) || (decide (xa.1 ≤ x288.1))) || (decide (x288.2 < 0))) || (decide (xa.1 ≤ x288.2)))), (1, .pointer (some ⟨b158, 0, none⟩)), (2, .pointer (some ⟨b159, 0, none⟩)), (3, ii i260)] ?_ ?_
     · rcases bt (((decide (x288.1 < 0)) || (decide (xa.1 ≤ x288.1))) || (decide (x288.2 < 0))) with hc306 | hc306
       · refine J.skip rfl rfl rfl rfl hc306 <| J.skip rfl rfl rfl rfl hc306 <| J.skip rfl rfl rfl rfl hc306 <| J.skip rfl rfl rfl rfl hc306 <| J.skip rfl rfl rfl rfl hc306 <| jv (.bool true) (V.pickT rfl hc306 rfl) <| J.nil ?_
         exact ⟨rfl, ⟨(by simp only [hc306]; rfl), rfl, rfl, rfl, trivial⟩, rfl, rfl⟩
       refine J.run rfl rfl rfl hc306 <| jv _ (V.fad Try.underlying50 rfl nz3 rfl) <| J.run rfl rfl rfl hc306 <| jv (ii x288.2) (V.ld rfl (Ld.sc sc3 (Rd.cl 0 rfl rfl))) <| J.run rfl rfl rfl hc306 <| jv _ (V.fad Try.underlying30 rfl nz3 rfl) <| J.run rfl rfl rfl hc306 ?_
       refine jv (ii xa.1) (V.ld rfl (Ld.sc sc3 (Rd.cl 1 rfl rfl))) <| J.run rfl rfl rfl hc306 <| jv (.bool (decide (xa.1 ≤ x288.2))) (V.geq rfl rfl) <| jv (.bool (decide (xa.1 ≤ x288.2))) (V.pickF rfl hc306 rfl) <| J.nil ?_
       exact ⟨rfl, ⟨(by simp only [hc306]; rfl), rfl, rfl, rfl, trivial⟩, rfl, rfl⟩
     intro ρ
     refine J.nil <| cc rfl h283 (fun hc307 h283 => ?_) fun hc307 h283 => ?_
     · refine cr <| jm (ii i260) rfl <| jv (.agg #[ii 7, ii 1, ii i260, ii 0]) (V.build inf33 places33 rfl rfl) <| J.front 2 rfl <| js [ii 7, ii 1, ii i260, ii 0] sz33 rfl rfl rfl rfl rfl rfl <| J.nil ?_
       refine CJ.ret ?_
       obtain rfl := si h283
       refine ⟨nofun, fun e => ?_⟩
       subst e
       refine .inr ⟨nofun, ?_⟩
       obtain rfl := si h
       exact ⟨_, _, Res.one rfl ⟨_, _, rfl, Ld.agg (cs := [ii 7, ii 1, ii i260, ii 0]) Try.underlying33 sz33 rfl (Rd.cls 0 0 rfl rfl)⟩, ⟨7, 1, i260, 0, rfl, rfl, rfl⟩, (Hp.le_refl _), fun w hs => (Sep.dropAt 0 rfl (Sep.dropAt 0 rfl (Sep.dropAt 0 rfl hs)))⟩
     refine CJ.skip <| CJ.region <| jm (ii i260) rfl <| jv (ii (IntKind.wrap .i64 (i260 + 1))) (V.add rfl rfl) <| ja (ii (IntKind.wrap .i64 (i260 + 1))) rfl <| J.dropAt 0 rfl <| J.nil ?_
     obtain rfl := si h283
     exact ⟨rfl, ⟨IntKind.wrap .i64 (i260 + 1), rfl, ⟨rfl, rfl, rfl, trivial⟩, rfl, rfl⟩⟩
   refine CJ.dropAt 0 rfl <| CJ.exit ?_
   obtain rfl := si h283
   refine ⟨nofun, fun e => ?_⟩
   subst e
   exact .inl ⟨rfl, _, rfl, ⟨rfl, ⟨rfl, trivial⟩, rfl, rfl⟩⟩
 rintro s ρ _ _ ho308 ⟨rfl, hf309, rfl, rfl⟩
 subst ho308
 obtain ⟨ρ, rfl⟩ := hf309.ex
 refine PJ.done <| cr <| jv (.agg #[ii 0, ii 0, ii 0, ii 0]) (V.build inf33 places33 rfl rfl) <| js [ii 0, ii 0, ii 0, ii 0] sz33 rfl rfl rfl rfl rfl rfl <| J.nil <| CJ.ret ?_
 obtain rfl := si h
 exact ⟨_, _, Res.one rfl ⟨_, _, rfl, Ld.agg (cs := [ii 0, ii 0, ii 0, ii 0]) Try.underlying33 sz33 rfl (Rd.cls 0 0 rfl rfl)⟩, ⟨0, 0, 0, 0, rfl, rfl, rfl⟩, (Hp.le_refl _), fun w hs => (Sep.dropAt 0 rfl hs)⟩
noncomputable def fn_ref15_Check_l1 (xa : (List (Int × Bool))) (xb : Int) : Int → Option (Int ⊕ (Unit ⊕ Int)) := fun (i365 : Int) => cond (decide (i365 < (((xa.length : Nat) : Int)))) ((getI xa i365).bind fun x405 => (cond (decide (x405.1 < 0)) (some (true)) ((getI xa i365).bind fun x427 => some (decide (xb ≤ x427.1)))).bind fun t424 => cond (t424) (some (.inr ((.inr (7))))) (some (.inl (IntKind.wrap .i64 (i365 + 1))))) (some (.inr ((.inl ()))))
noncomputable def fn_ref15_Check (xa : (List (Int × Bool))) (xb : Int) : Option Int :=
  cond (decide (16 < (((xa.length : Nat) : Int)))) (some (6)) ((loop (fn_ref15_Check_l1 xa xb) 0 : Option (Unit ⊕ Int)).bind fun o => match o with | .inr r => some r | .inl () => some (0))
set_option maxRecDepth 100000 in
set_option maxHeartbeats 4000000 in
theorem ref15_Check_ok {K : Hp} {xa : (List (Int × Bool))} {xb : Int} {adxa_0 : Option Addr} {cpxa_0 : Nat} (fxa_0 : Is K (.sl (.cons (.int .i64) (.one .bool))) [.slice adxa_0 xa.length cpxa_0] xa) {r : Int} (h : fn_ref15_Check xa xb = some r) :
    Tr Try.prog 38 #[.agg #[.slice adxa_0 xa.length cpxa_0], ii xb] K [] (fun v K' L' => (∃ (i220 : Int), i220 = r ∧ ii i220 = v ∧ L' = []) ∧ K = K') := by
 refine Tr.k <| Tr.of Try.func38 rfl Try.ntmps38 rfl fun E F => ?_
 unfold fn_ref15_Check at h
 refine cr <| jbx [.slice adxa_0 xa.length cpxa_0] rfl rfl fun b221 => ja (ii 0) rfl <| J.nil <| CJ.seq <| CJ.seq ?_
 refine CJ.region <| jv _ (V.fad Try.underlying26 rfl nz24 rfl) <| jv (.slice adxa_0 xa.length cpxa_0) (V.ld rfl (Ld.sc sc24 (Rd.cl 0 rfl rfl))) <| jv (ii (((xa.length : Nat) : Int))) (V.len Try.underlying24 rfl) <| jv (.bool (decide (16 < (((xa.length : Nat) : Int))))) (V.gtr rfl rfl) <| J.nil <| cc rfl h (fun hc222 h => ?_) fun hc222 h => ?_
 · refine cr <| ja (ii 6) rfl <| J.nil <| CJ.ret ?_
   obtain rfl := si h
   exact ⟨_, _, Res.one rfl rfl, ⟨6, rfl, rfl, rfl⟩, (Hp.le_refl _), fun w hs => (Sep.dropAt 0 rfl hs)⟩
 refine CJ.skip <| CJ.seq <| cr <| ja (ii 0) rfl <| J.nil ?_
 obtain ⟨o329, ho330, h⟩ := ob h
 refine CJ.joinN (o := o329) (fun s ρ K' L' => () = s ∧ Fits [] ρ ∧ K = K' ∧ F = L') ?_ ?_
 · refine CJ.block <| CJ.loop (fun s ρ K' L' => ∃ (i365 : Int), i365 = s ∧ Fits [(1, ii xb), (2, .pointer (some ⟨b221, 0, none⟩)), (5, ii i365)] ρ ∧ K = K' ∧ L' = Cl b221 26 [.slice adxa_0 xa.length cpxa_0] :: F) ho330 ⟨0, rfl, ⟨rfl, rfl, rfl, trivial⟩, rfl, rfl⟩ ?_
   rintro s ρ _ _ r403 ⟨i365, rfl, hf401, rfl, rfl⟩ h400
   obtain ⟨ρ, rfl⟩ := hf401.ex
   refine CJ.seq <| cr <| jm (ii i365) rfl <| jv _ (V.fad Try.underlying26 rfl nz24 rfl) <| jv (.slice adxa_0 xa.length cpxa_0) (V.ld rfl (Ld.sc sc24 (Rd.cl 0 rfl rfl))) <| jv (ii (((xa.length : Nat) : Int))) (V.len Try.underlying24 rfl) ?_
   refine jv (.bool (decide (i365 < (((xa.length : Nat) : Int))))) (V.lss rfl rfl) <| J.nil <| cc rfl h400 (fun hc404 h400 => ?_) fun hc404 h400 => ?_
   · refine CJ.skip <| CJ.seq <| CJ.block <| cr <| jv _ (V.fad Try.underlying26 rfl nz24 rfl) <| jv (.slice adxa_0 xa.length cpxa_0) (V.ld rfl (Ld.sc sc24 (Rd.cl 0 rfl rfl))) ?_
     refine jm (ii i365) rfl ?_
     obtain ⟨x405, hx406, h400⟩ := ob h400
     obtain ⟨p407, p408, p409⟩ := getI_some hx406
     obtain ⟨b410, o411, e412, a413⟩ := (fxa_0).at p408
     refine jv _ (V.iad Try.underlying24 sz86 rfl e412 rfl p407 p409) <| jv _ (V.fad Try.underlying86 rfl nz3 rfl) <| jv (ii x405.1) (V.ld rfl (Ld.sc sc3 (Rd.k ((a413).fst).int (Hp.le_refl _)))) <| jv (.bool (decide (x405.1 < 0))) (V.lss rfl rfl) <| jm (.bool (decide (x405.1 < 0))) rfl <| J.cut 9 ?_
     obtain ⟨t424, ht425, h400⟩ := ob h400
     refine jmeet [(33, .bool t424), (1, ii xb), (2, .pointer (some ⟨b221, 0, none⟩)), (5, ii i365)] ?_ ?_
     · rcases bt (decide (x405.1 < 0)) with hc426 | hc426
       · have ht425 := ct hc426 ht425
         refine J.skip rfl rfl rfl rfl hc426 <| J.skip rfl rfl rfl rfl hc426 <| J.skip rfl rfl rfl rfl hc426 <| J.skip rfl rfl rfl rfl hc426 <| J.skip rfl rfl rfl rfl hc426 <| J.skip rfl rfl rfl rfl hc426 <| J.skip rfl rfl rfl rfl hc426 ?_
         refine J.skip rfl rfl rfl rfl hc426 <| jv (.bool true) (V.pickT rfl hc426 rfl) <| J.nil ?_
         obtain rfl := si ht425
         exact ⟨rfl, ⟨rfl, rfl, rfl, rfl, trivial⟩, rfl, rfl⟩
       have ht425 := cf hc426 ht425
       refine J.run rfl rfl rfl hc426 <| jv _ (V.fad Try.underlying26 rfl nz24 rfl) <| J.run rfl rfl rfl hc426 <| jv (.slice adxa_0 xa.length cpxa_0) (V.ld rfl (Ld.sc sc24 (Rd.cl 0 rfl rfl))) <| J.run rfl rfl rfl hc426 <| jm (ii i365) rfl <| J.run rfl rfl rfl hc426 ?_
       obtain ⟨x427, hx428, ht425⟩ := ob ht425
       obtain ⟨p429, p430, p431⟩ := getI_some hx428
       obtain ⟨b432, o433, e434, a435⟩ := (fxa_0).at p430
       refine jv _ (V.iad Try.underlying24 sz86 rfl e434 rfl p429 p431) <| J.run rfl rfl rfl hc426 <| jv _ (V.fad Try.underlying86 rfl nz3 rfl) <| J.run rfl rfl rfl hc426 <| jv (ii x427.1) (V.ld rfl (Ld.sc sc3 (Rd.k ((a435).fst).int (Hp.le_refl _)))) <| J.run rfl rfl rfl hc426 <| jm (ii xb) rfl ?_
       refine J.run rfl rfl rfl hc426 <| jv (.bool (decide (xb ≤ x427.1))) (V.geq rfl rfl) <| jv (.bool (decide (xb ≤ x427.1))) (V.pickF rfl hc426 rfl) <| J.nil ?_
       obtain rfl := si ht425
       exact ⟨rfl, ⟨rfl, rfl, rfl, rfl, trivial⟩, rfl, rfl⟩
     intro ρ
     refine J.nil <| cc rfl h400 (fun hc436 h400 => ?_) fun hc436 h400 => ?_
     · refine cr <| ja (ii 7) rfl <| J.nil <| CJ.ret ?_
       obtain rfl := si h400
       refine ⟨nofun, fun e => ?_⟩
       subst e
       refine .inr ⟨nofun, ?_⟩
       obtain rfl := si h
       exact ⟨_, _, Res.one rfl rfl, ⟨7, rfl, rfl, rfl⟩, (Hp.le_refl _), fun w hs => (Sep.dropAt 0 rfl hs)⟩
     refine CJ.skip <| CJ.region <| jm (ii i365) rfl <| jv (ii (IntKind.wrap .i64 (i365 + 1))) (V.add rfl rfl) <| ja (ii (IntKind.wrap .i64 (i365 + 1))) rfl <| J.nil ?_
     obtain rfl := si h400
     exact ⟨rfl, ⟨IntKind.wrap .i64 (i365 + 1), rfl, ⟨rfl, rfl, rfl, trivial⟩, rfl, rfl⟩⟩
   refine CJ.dropAt 0 rfl <| CJ.exit ?_
   obtain rfl := si h400
   refine ⟨nofun, fun e => ?_⟩
   subst e
   exact .inl ⟨rfl, _, rfl, ⟨rfl, trivial, rfl, rfl⟩⟩
 rintro s ρ _ _ ho437 ⟨rfl, hf438, rfl, rfl⟩
 subst ho437
 obtain ⟨ρ, rfl⟩ := hf438.ex
 refine PJ.done <| cr <| ja (ii 0) rfl <| J.nil <| CJ.ret ?_
 obtain rfl := si h
 exact ⟨_, _, Res.one rfl rfl, ⟨0, rfl, rfl, rfl⟩, (Hp.le_refl _), fun w hs => hs⟩
noncomputable def fn_ref15_Shape_l1 (xa : (List (Int × Bool))) (xb : (List (Int × Bool))) : Int → Option (Int ⊕ (Unit ⊕ Bool)) := fun (i417 : Int) => cond (decide (i417 < (((xa.length : Nat) : Int)))) ((getI xa i417).bind fun x480 => (getI xb i417).bind fun x489 => cond (!(x480.2 == x489.2)) (some (.inr ((.inr (false))))) (some (.inl (IntKind.wrap .i64 (i417 + 1))))) (some (.inr ((.inl ()))))
noncomputable def fn_ref15_Shape (xa : (List (Int × Bool))) (xb : (List (Int × Bool))) : Option Bool :=
  cond (!decide ((((xa.length : Nat) : Int)) = (((xb.length : Nat) : Int)))) (some (false)) ((loop (fn_ref15_Shape_l1 xa xb) 0 : Option (Unit ⊕ Bool)).bind fun o => match o with | .inr r => some r | .inl () => some (true))
set_option maxRecDepth 100000 in
set_option maxHeartbeats 4000000 in
theorem ref15_Shape_ok {K : Hp} {xa : (List (Int × Bool))} {xb : (List (Int × Bool))} {adxa_0 : Option Addr} {cpxa_0 : Nat} {adxb_0 : Option Addr} {cpxb_0 : Nat} (fxa_0 : Is K (.sl (.cons (.int .i64) (.one .bool))) [.slice adxa_0 xa.length cpxa_0] xa) (fxb_0 : Is K (.sl (.cons (.int .i64) (.one .bool))) [.slice adxb_0 xb.length cpxb_0] xb) {r : Bool} (h : fn_ref15_Shape xa xb = some r) :
    Tr Try.prog 39 #[.agg #[.slice adxa_0 xa.length cpxa_0], .agg #[.slice adxb_0 xb.length cpxb_0]] K [] (fun v K' L' => (∃ (t251 : Bool), t251 = r ∧ .bool t251 = v ∧ L' = []) ∧ K = K') := by
 refine Tr.k <| Tr.of Try.func39 rfl Try.ntmps39 rfl fun E F => ?_
 unfold fn_ref15_Shape at h
 refine cr <| jbx [.slice adxa_0 xa.length cpxa_0] rfl rfl fun b252 => jbx [.slice adxb_0 xb.length cpxb_0] rfl rfl fun b253 => ja (.bool false) rfl <| J.nil <| CJ.seq ?_
 refine cr <| jv _ (V.fad Try.underlying26 rfl nz24 rfl) <| jv (.slice adxa_0 xa.length cpxa_0) (V.ld rfl (Ld.sc sc24 (Rd.cl 1 rfl rfl))) <| jv (ii (((xa.length : Nat) : Int))) (V.len Try.underlying24 rfl) <| jv _ (V.fad Try.underlying26 rfl nz24 rfl) <| jv (.slice adxb_0 xb.length cpxb_0) (V.ld rfl (Ld.sc sc24 (Rd.cl 0 rfl rfl))) ?_
 refine jv (ii (((xb.length : Nat) : Int))) (V.len Try.underlying24 rfl) <| jv (.bool (!decide ((((xa.length : Nat) : Int)) = (((xb.length : Nat) : Int))))) (V.neq rfl rfl) <| J.nil <| cc rfl h (fun hc254 h => ?_) fun hc254 h => ?_
 · refine cr <| ja (.bool false) rfl <| J.nil <| CJ.ret ?_
   obtain rfl := si h
   exact ⟨_, _, Res.one rfl rfl, ⟨false, rfl, rfl, rfl⟩, (Hp.le_refl _), fun w hs => (Sep.dropAt 0 rfl (Sep.dropAt 0 rfl hs))⟩
 refine CJ.skip <| CJ.seq <| cr <| ja (ii 0) rfl <| J.nil ?_
 obtain ⟨o376, ho377, h⟩ := ob h
 refine CJ.joinN (o := o376) (fun s ρ K' L' => () = s ∧ Fits [] ρ ∧ K = K' ∧ F = L') ?_ ?_
 · refine CJ.block <| CJ.front 1 rfl <| CJ.loop (fun s ρ K' L' => ∃ (i417 : Int), i417 = s ∧ Fits [(2, .pointer (some ⟨b252, 0, none⟩)), (3, .pointer (some ⟨b253, 0, none⟩)), (5, ii i417)] ρ ∧ K = K' ∧ L' = Cl b252 26 [.slice adxa_0 xa.length cpxa_0] :: Cl b253 26 [.slice adxb_0 xb.length cpxb_0] :: F) ho377 ⟨0, rfl, ⟨rfl, rfl, rfl, trivial⟩, rfl, rfl⟩ ?_
   rintro s ρ _ _ r460 ⟨i417, rfl, hf458, rfl, rfl⟩ h457
   obtain ⟨ρ, rfl⟩ := hf458.ex
   refine CJ.seq <| cr <| jm (ii i417) rfl <| jv _ (V.fad Try.underlying26 rfl nz24 rfl) <| jv (.slice adxa_0 xa.length cpxa_0) (V.ld rfl (Ld.sc sc24 (Rd.cl 0 rfl rfl))) <| jv (ii (((xa.length : Nat) : Int))) (V.len Try.underlying24 rfl) ?_
   refine jv (.bool (decide (i417 < (((xa.length : Nat) : Int))))) (V.lss rfl rfl) <| J.nil <| cc rfl h457 (fun hc461 h457 => ?_) fun hc461 h457 => ?_
   · refine CJ.skip <| CJ.seq <| CJ.block <| CJ.seq <| CJ.mix [Cl b252 26 [.slice adxa_0 xa.length cpxa_0], Cl b253 26 [.slice adxb_0 xb.length cpxb_0]] [] [0, 1, 2, 3, 4, 5, 6, 7, 8, 9, 10, 11, 12] [] mixO (by decide +kernel) ⟨0, rfl, 0, rfl, trivial⟩ rfl rfl rfl <| JM.nil <| qv _ (V.fad Try.underlying26 rfl nz24 rfl) ?_
     refine qv (.slice adxa_0 xa.length cpxa_0) (V.ld rfl (Ld.sc sc24 (Rd.cl 0 rfl rfl))) <| qm (ii i417) rfl ?_
     obtain ⟨x480, hx481, h457⟩ := ob h457
     obtain ⟨p482, p483, p484⟩ := getI_some hx481
     obtain ⟨b485, o486, e487, a488⟩ := (fxa_0).at p483
     refine qv _ (V.iad Try.underlying24 sz86 rfl e487 rfl p482 p484) <| qv _ (V.fad Try.underlying86 rfl nz4 rfl) <| qv (.bool x480.2) (V.ld rfl (Ld.sc sc4 (Rd.k (((a488).snd).one).bool (Hp.le_refl _)))) <| qv _ (V.fad Try.underlying26 rfl nz24 rfl) <| qv (.slice adxb_0 xb.length cpxb_0) (V.ld rfl (Ld.sc sc24 (Rd.cl 1 rfl rfl))) <| qm (ii i417) rfl ?_
     obtain ⟨x489, hx490, h457⟩ := ob h457
     obtain ⟨p491, p492, p493⟩ := getI_some hx490
     obtain ⟨b494, o495, e496, a497⟩ := (fxb_0).at p492
     refine qv _ (V.iad Try.underlying24 sz86 rfl e496 rfl p491 p493) <| qv _ (V.fad Try.underlying86 rfl nz4 rfl) <| qv (.bool x489.2) (V.ld rfl (Ld.sc sc4 (Rd.k (((a497).snd).one).bool (Hp.le_refl _)))) <| qv (.bool (!(x480.2 == x489.2))) (V.neb Try.underlying4 rfl rfl) <| JQ.nil <| J.nil <| cc rfl h457 (fun hc498 h457 => ?_) fun hc498 h457 => ?_
     · refine cr <| ja (.bool false) rfl <| J.nil <| CJ.ret ?_
       obtain rfl := si h457
       refine ⟨nofun, fun e => ?_⟩
       subst e
       refine .inr ⟨nofun, ?_⟩
       obtain rfl := si h
       exact ⟨_, _, Res.one rfl rfl, ⟨false, rfl, rfl, rfl⟩, (Hp.le_refl _), fun w hs => (Sep.dropAt 0 rfl (Sep.dropAt 0 rfl hs))⟩
     refine CJ.skip <| CJ.region <| jm (ii i417) rfl <| jv (ii (IntKind.wrap .i64 (i417 + 1))) (V.add rfl rfl) <| ja (ii (IntKind.wrap .i64 (i417 + 1))) rfl <| J.nil ?_
     obtain rfl := si h457
     exact ⟨rfl, ⟨IntKind.wrap .i64 (i417 + 1), rfl, ⟨rfl, rfl, rfl, trivial⟩, rfl, rfl⟩⟩
   refine CJ.dropAt 0 rfl <| CJ.dropAt 0 rfl <| CJ.exit ?_
   obtain rfl := si h457
   refine ⟨nofun, fun e => ?_⟩
   subst e
   exact .inl ⟨rfl, _, rfl, ⟨rfl, trivial, rfl, rfl⟩⟩
 rintro s ρ _ _ ho499 ⟨rfl, hf500, rfl, rfl⟩
 subst ho499
 obtain ⟨ρ, rfl⟩ := hf500.ex
 refine PJ.done <| cr <| ja (.bool true) rfl <| J.nil <| CJ.ret ?_
 obtain rfl := si h
 exact ⟨_, _, Res.one rfl rfl, ⟨true, rfl, rfl, rfl⟩, (Hp.le_refl _), fun w hs => hs⟩
noncomputable def fn_ref17_Check_l1 (xa : (Int × (List (Int × Int)) × (List (List (Int × Bool))) × (List (Int × Bool)))) : Int → Option (Int ⊕ (Unit ⊕ Int)) := fun (i525 : Int) => cond (decide (i525 < (((xa.2.1.length : Nat) : Int)))) ((getI xa.2.1 i525).bind fun x553 => cond ((((decide (x553.1 < 0)) || (decide (xa.1 ≤ x553.1))) || (decide (x553.2 < 0))) || (decide (xa.1 ≤ x553.2))) (some (.inr ((.inr (7))))) (some (.inl (IntKind.wrap .i64 (i525 + 1))))) (some (.inr ((.inl ()))))
noncomputable def fn_ref17_Check_l2 (xa : (Int × (List (Int × Int)) × (List (List (Int × Bool))) × (List (Int × Bool)))) : Int → Option (Int ⊕ (Unit ⊕ Int)) := fun (i746 : Int) => cond (decide (i746 < (((xa.2.2.1.length : Nat) : Int)))) ((getI xa.2.2.1 i746).bind fun x812 => (fn_ref15_Check x812 xa.1).bind fun i827 => cond (!decide (i827 = 0)) (some (.inr ((.inr (i827))))) (some (.inl (IntKind.wrap .i64 (i746 + 1))))) (some (.inr ((.inl ()))))
noncomputable def fn_ref17_Check (xa : (Int × (List (Int × Int)) × (List (List (Int × Bool))) × (List (Int × Bool)))) : Option Int :=
  cond (decide (xa.1 < 0)) (some (7)) (cond (((decide (16 < xa.1)) || (decide (16 < (((xa.2.1.length : Nat) : Int))))) || (decide (16 < (((xa.2.2.1.length : Nat) : Int))))) (some (6)) ((loop (fn_ref17_Check_l1 xa) 0 : Option (Unit ⊕ Int)).bind fun o => match o with | .inr r => some r | .inl () => (loop (fn_ref17_Check_l2 xa) 0 : Option (Unit ⊕ Int)).bind fun o => match o with | .inr r => some r | .inl () => (fn_ref15_Check xa.2.2.2 xa.1).bind fun i837 => some (i837)))
set_option maxRecDepth 100000 in
set_option maxHeartbeats 4000000 in
theorem ref17_Check_ok {K : Hp} {xa : (Int × (List (Int × Int)) × (List (List (Int × Bool))) × (List (Int × Bool)))} {adxa_1 : Option Addr} {cpxa_1 : Nat} {adxa_2 : Option Addr} {cpxa_2 : Nat} {adxa_3 : Option Addr} {cpxa_3 : Nat} (fxa_1 : Is K (.sl (.cons (.int .i64) (.one (.int .i64)))) [.slice adxa_1 xa.2.1.length cpxa_1] xa.2.1) (fxa_2 : Is K (.sl (.one (.sl (.cons (.int .i64) (.one .bool))))) [.slice adxa_2 xa.2.2.1.length cpxa_2] xa.2.2.1) (fxa_3 : Is K (.sl (.cons (.int .i64) (.one .bool))) [.slice adxa_3 xa.2.2.2.length cpxa_3] xa.2.2.2) {r : Int} (h : fn_ref17_Check xa = some r) :
    Tr Try.prog 40 #[.agg #[ii xa.1, .slice adxa_1 xa.2.1.length cpxa_1, .slice adxa_2 xa.2.2.1.length cpxa_2, .slice adxa_3 xa.2.2.2.length cpxa_3]] K [] (fun v K' L' => (∃ (i421 : Int), i421 = r ∧ ii i421 = v ∧ L' = []) ∧ K = K') := by
 refine Tr.k <| Tr.of Try.func40 rfl Try.ntmps40 rfl fun E F => ?_
 unfold fn_ref17_Check at h
 refine cr <| jbx [ii xa.1, .slice adxa_1 xa.2.1.length cpxa_1, .slice adxa_2 xa.2.2.1.length cpxa_2, .slice adxa_3 xa.2.2.2.length cpxa_3] rfl rfl fun b422 => ja (ii 0) rfl <| J.nil <| CJ.seq <| CJ.seq ?_
 refine CJ.region <| jv _ (V.fad Try.underlying62 rfl nz3 rfl) <| jv (ii xa.1) (V.ld rfl (Ld.sc sc3 (Rd.cl 0 rfl rfl))) <| jv (.bool (decide (xa.1 < 0))) (V.lss rfl rfl) <| J.nil <| cc rfl h (fun hc423 h => ?_) fun hc423 h => ?_
 · refine cr <| ja (ii 7) rfl <| J.nil <| CJ.ret ?_
   obtain rfl := si h
   exact ⟨_, _, Res.one rfl rfl, ⟨7, rfl, rfl, rfl⟩, (Hp.le_refl _), fun w hs => (Sep.dropAt 0 rfl hs)⟩
 refine CJ.skip <| CJ.seq <| cr <| jv _ (V.fad Try.underlying62 rfl nz3 rfl) <| jv (ii xa.1) (V.ld rfl (Ld.sc sc3 (Rd.cl 0 rfl rfl))) <| jv (.bool (decide (16 < xa.1))) (V.gtr rfl rfl) ?_
 refine jm (.bool (decide (16 < xa.1))) rfl <| J.cut 5 <| jmeet [(18, .bool ((decide (16 < xa.1)) || (decide (16 < (((xa.2.1.length : Nat) : Int)))))), (1, .pointer (some ⟨b422, 0, none⟩))] ?_ ?_
 · rcases bt (decide (16 < xa.1)) with hc426 | hc426
   · refine J.skip rfl rfl rfl rfl hc426 <| J.skip rfl rfl rfl rfl hc426 <| J.skip rfl rfl rfl rfl hc426 <| J.skip rfl rfl rfl rfl hc426 <| jv (.bool true) (V.pickT rfl hc426 rfl) <| J.nil ?_
     exact ⟨rfl, ⟨(by simp only [hc426]; rfl), rfl, trivial⟩, rfl, rfl⟩
   refine J.run rfl rfl rfl hc426 <| jv _ (V.fad Try.underlying62 rfl nz22 rfl) <| J.run rfl rfl rfl hc426 <| jv (.slice adxa_1 xa.2.1.length cpxa_1) (V.ld rfl (Ld.sc sc22 (Rd.cl 0 rfl rfl))) <| J.run rfl rfl rfl hc426 <| jv (ii (((xa.2.1.length : Nat) : Int))) (V.len Try.underlying22 rfl) <| J.run rfl rfl rfl hc426 ?_
   refine jv (.bool (decide (16 < (((xa.2.1.length : Nat) : Int))))) (V.gtr rfl rfl) <| jv (.bool (decide (16 < (((xa.2.1.length : Nat) : Int))))) (V.pickF rfl hc426 rfl) <| J.nil ?_
   exact ⟨rfl, ⟨(by simp only [hc426]; rfl), rfl, trivial⟩, rfl, rfl⟩
 intro ρ
 refine jm (.bool ((decide (16 < xa.1)) || (decide (16 < (((xa.2.1.length : Nat) : Int)))))) rfl <| J.cut 5 <| jmeet [(24, .bool (((decide (16 < xa.1)) || (decide (16 < (((xa.2.1.length : Nat) : Int))))) || (decide (16 < (((xa.2.2.1.length : Nat) : Int)))))), (1, .pointer (some ⟨b422, 0, none⟩))] ?_ ?_
 · rcases bt ((decide (16 < xa.1)) || (decide (16 < (((xa.2.1.length : Nat) : Int))))) with hc429 | hc429
   · refine J.skip rfl rfl rfl rfl hc429 <| J.skip rfl rfl rfl rfl hc429 <| J.skip rfl rfl rfl rfl hc429 <| J.skip rfl rfl rfl rfl hc429 <| jv (.bool true) (V.pickT rfl hc429 rfl) <| J.nil ?_
     exact ⟨rfl, ⟨(by simp only [hc429]; rfl), rfl, trivial⟩, rfl, rfl⟩
   refine J.run rfl rfl rfl hc429 <| jv _ (V.fad Try.underlying62 rfl nz23 rfl) <| J.run rfl rfl rfl hc429 <| jv (.slice adxa_2 xa.2.2.1.length cpxa_2) (V.ld rfl (Ld.sc sc23 (Rd.cl 0 rfl rfl))) <| J.run rfl rfl rfl hc429 <| jv (ii (((xa.2.2.1.length : Nat) : Int))) (V.len Try.underlying23 rfl) <| J.run rfl rfl rfl hc429 ?_
   refine jv (.bool (decide (16 < (((xa.2.2.1.length : Nat) : Int))))) (V.gtr rfl rfl) <| jv (.bool (decide (16 < (((xa.2.2.1.length : Nat) : Int))))) (V.pickF rfl hc429 rfl) <| J.nil ?_
   exact ⟨rfl, ⟨(by simp only [hc429]; rfl), rfl, trivial⟩, rfl, rfl⟩
 intro ρ
 refine J.nil <| cc rfl h (fun hc430 h => ?_) fun hc430 h => ?_
 · refine cr <| ja (ii 6) rfl <| J.nil <| CJ.ret ?_
   obtain rfl := si h
   exact ⟨_, _, Res.one rfl rfl, ⟨6, rfl, rfl, rfl⟩, (Hp.le_refl _), fun w hs => (Sep.dropAt 0 rfl hs)⟩
 refine CJ.skip <| CJ.seq <| cr <| ja (ii 0) rfl <| J.nil ?_
 obtain ⟨o501, ho502, h⟩ := ob h
 refine CJ.joinN (o := o501) (fun s ρ K' L' => () = s ∧ Fits [(1, .pointer (some ⟨b422, 0, none⟩))] ρ ∧ K = K' ∧ L' = Cl b422 62 [ii xa.1, .slice adxa_1 xa.2.1.length cpxa_1, .slice adxa_2 xa.2.2.1.length cpxa_2, .slice adxa_3 xa.2.2.2.length cpxa_3] :: F) ?_ ?_
 · refine CJ.block <| CJ.loop (fun s ρ K' L' => ∃ (i525 : Int), i525 = s ∧ Fits [(1, .pointer (some ⟨b422, 0, none⟩)), (3, ii i525)] ρ ∧ K = K' ∧ L' = Cl b422 62 [ii xa.1, .slice adxa_1 xa.2.1.length cpxa_1, .slice adxa_2 xa.2.2.1.length cpxa_2, .slice adxa_3 xa.2.2.2.length cpxa_3] :: F) ho502 ⟨0, rfl, ⟨rfl, rfl, trivial⟩, rfl, rfl⟩ ?_
   rintro s ρ _ _ r551 ⟨i525, rfl, hf549, rfl, rfl⟩ h548
   obtain ⟨ρ, rfl⟩ := hf549.ex
   refine CJ.seq <| cr <| jm (ii i525) rfl <| jv _ (V.fad Try.underlying62 rfl nz22 rfl) <| jv (.slice adxa_1 xa.2.1.length cpxa_1) (V.ld rfl (Ld.sc sc22 (Rd.cl 0 rfl rfl))) <| jv (ii (((xa.2.1.length : Nat) : Int))) (V.len Try.underlying22 rfl) ?_
   refine jv (.bool (decide (i525 < (((xa.2.1.length : Nat) : Int))))) (V.lss rfl rfl) <| J.nil <| cc rfl h548 (fun hc552 h548 => ?_) fun hc552 h548 => ?_
   · refine CJ.skip <| CJ.seq <| CJ.block <| cr <| jv _ (V.fad Try.underlying62 rfl nz22 rfl) <| jv (.slice adxa_1 xa.2.1.length cpxa_1) (V.ld rfl (Ld.sc sc22 (Rd.cl 0 rfl rfl))) ?_
     refine jm (ii i525) rfl ?_
     obtain ⟨x553, hx554, h548⟩ := ob h548
     obtain ⟨p555, p556, p557⟩ := getI_some hx554
     obtain ⟨b558, o559, e560, a561⟩ := (fxa_1).at p556
     refine jv _ (V.iad Try.underlying22 sz50 rfl e560 rfl p555 p557) <| jv (.agg #[ii x553.1, ii x553.2]) (V.ld rfl (Ld.aggK (cs := [ii x553.1, ii x553.2]) Try.underlying50 sz50 rfl ⟨((a561).fst).int, (((a561).snd).one).int, trivial⟩ (Hp.le_refl _))) <| jal inf50 [ii 0, ii 0] rfl fun b562 => js [ii x553.1, ii x553.2] sz50 rfl rfl rfl rfl rfl rfl <| J.nil <| CJ.seq <| CJ.region ?_
     refine jv _ (V.fad Try.underlying50 rfl nz3 rfl) <| jv (ii x553.1) (V.ld rfl (Ld.sc sc3 (Rd.cl 0 rfl rfl))) <| jv (.bool (decide (x553.1 < 0))) (V.lss rfl rfl) <| jm (.bool (decide (x553.1 < 0))) rfl <| J.cut 6 <| jmeet [(46, .bool ((decide (x553.1 < 0)) || (decide (xa.1 ≤ x553.1)))), (1, .pointer (some ⟨b422, 0, none⟩)), (3, ii i525), (4, .pointer (some ⟨b562, 0, none⟩))] ?_ ?_
     · rcases bt (decide (x553.1 < 0)) with hc565 | hc565
       · refine J.skip rfl rfl rfl rfl hc565 <| J.skip rfl rfl rfl rfl hc565 <| J.skip rfl rfl rfl rfl hc565 <| J.skip rfl rfl rfl rfl hc565 <| J.skip rfl rfl rfl rfl hc565 <| jv (.bool true) (V.pickT rfl hc565 rfl) <| J.nil ?_
         exact ⟨rfl, ⟨(by simp only [hc565]; rfl), rfl, rfl, rfl, trivial⟩, rfl, rfl⟩
       refine J.run rfl rfl rfl hc565 <| jv _ (V.fad Try.underlying50 rfl nz3 rfl) <| J.run rfl rfl rfl hc565 <| jv (ii x553.1) (V.ld rfl (Ld.sc sc3 (Rd.cl 0 rfl rfl))) <| J.run rfl rfl rfl hc565 <| jv _ (V.fad Try.underlying62 rfl nz3 rfl) <| J.run rfl rfl rfl hc565 ?_
       refine jv (ii xa.1) (V.ld rfl (Ld.sc sc3 (Rd.cl 1 rfl rfl))) <| J.run rfl rfl rfl hc565 <| jv (.bool (decide (xa.1 ≤ x553.1))) (V.geq rfl rfl) <| jv (.bool (decide (xa.1 ≤ x553.1))) (V.pickF rfl hc565 rfl) <| J.nil ?_
       exact ⟨rfl, ⟨(by simp only [hc565]; rfl), rfl, rfl, rfl, trivial⟩, rfl, rfl⟩
     intro ρ
     refine jm (.bool ((decide (x553.1 < 0)) || (decide (xa.1 ≤ x553.1)))) rfl <| J.cut 4 <| jmeet [(51, .bool (((decide (x553.1 < 0)) || (decide (xa.1 ≤ x553.1))) || (decide (x553.2 < 0)))), (1, .pointer (some ⟨b422, 0, none⟩)), (3, ii i525), (4, .pointer (some ⟨b562, 0, none⟩))] ?_ ?_
     · rcases bt ((decide (x553.1 < 0)) || (decide (xa.1 ≤ x553.1))) with hc568 | hc568
       · refine J.skip rfl rfl rfl rfl hc568 <| J.skip rfl rfl rfl rfl hc568 <| J.skip rfl rfl rfl rfl hc568 <| jv (.bool true) (V.pickT rfl hc568 rfl) <| J.nil ?_
         exact ⟨rfl, ⟨(by simp only [hc568]; rfl), rfl, rfl, rfl, trivial⟩, rfl, rfl⟩
       refine J.run rfl rfl rfl hc568 <| jv _ (V.fad Try.underlying50 rfl nz3 rfl) <| J.run rfl rfl rfl hc568 <| jv (ii x553.2) (V.ld rfl (Ld.sc sc3 (Rd.cl 0 rfl rfl))) <| J.run rfl rfl rfl hc568 <| jv (.bool (decide (x553.2 < 0))) (V.lss rfl rfl) <| jv (.bool (decide (x553.2 < 0))) (V.pickF rfl hc568 rfl) ?_
       refine J.nil ?_
       exact ⟨rfl, ⟨(by simp only [hc568]; rfl), rfl, rfl, rfl, trivial⟩, rfl, rfl⟩
     intro ρ
     refine jm (.bool (((decide (x553.1 < 0)) || (decide (xa.1 ≤ x553.1))) || (decide (x553.2 < 0)))) rfl <| J.cut 6 <| jmeet [(58, .bool ((((decide (x553.1 < 0)) || (decide (xa.1 ≤ x553.1))) || (decide (x553.2 < 0))) || (decide (xa.1 ≤ x553.2)))), (1, .pointer (some ⟨b422, 0, none⟩)), (3, ii i525)] ?_ ?_
     · rcases bt (((decide (x553.1 < 0)) || (decide (xa.1 ≤ x553.1))) || (decide (x553.2 < 0))) with hc571 | hc571
       · refine J.skip rfl rfl rfl rfl hc571 <| J.skip rfl rfl rfl rfl hc571 <| J.skip rfl rfl rfl rfl hc571 <| J.skip rfl rfl rfl rfl hc571 <| J.skip rfl rfl rfl rfl hc571 <| jv (.bool true) (V.pickT rfl hc571 rfl) <| J.nil ?_
         exact ⟨rfl, ⟨(by simp only [hc571]; rfl), rfl, rfl, trivial⟩, rfl, rfl⟩
       refine J.run rfl rfl rfl hc571 <| jv _ (V.fad Try.underlying50 rfl nz3 rfl) <| J.run rfl rfl rfl hc571 <| jv (ii x553.2) (V.ld rfl (Ld.sc sc3 (Rd.cl 0 rfl rfl))) <| J.run rfl rfl rfl hc571 <| jv _ (V.fad Try.underlying62 rfl nz3 rfl) <| J.run rfl rfl rfl hc571 ?_
       refine jv (ii xa.1) (V.ld rfl (Ld.sc sc3 (Rd.cl 1 rfl rfl))) <| J.run rfl rfl rfl hc571 <| jv (.bool (decide (xa.1 ≤ x553.2))) (V.geq rfl rfl) <| jv (.bool (decide (xa.1 ≤ x553.2))) (V.pickF rfl hc571 rfl) <| J.nil ?_
       exact ⟨rfl, ⟨(by simp only [hc571]; rfl), rfl, rfl, trivial⟩, rfl, rfl⟩
     intro ρ
     refine J.nil <| cc rfl h548 (fun hc572 h548 => ?_) fun hc572 h548 => ?_
     · refine cr <| ja (ii 7) rfl <| J.nil <| CJ.ret ?_
       obtain rfl := si h548
       refine ⟨nofun, fun e => ?_⟩
       subst e
       refine .inr ⟨nofun, ?_⟩
       obtain rfl := si h
       exact ⟨_, _, Res.one rfl rfl, ⟨7, rfl, rfl, rfl⟩, (Hp.le_refl _), fun w hs => (Sep.dropAt 0 rfl (Sep.dropAt 0 rfl hs))⟩
     refine CJ.skip <| CJ.region <| jm (ii i525) rfl <| jv (ii (IntKind.wrap .i64 (i525 + 1))) (V.add rfl rfl) <| ja (ii (IntKind.wrap .i64 (i525 + 1))) rfl <| J.dropAt 0 rfl <| J.nil ?_
     obtain rfl := si h548
     exact ⟨rfl, ⟨IntKind.wrap .i64 (i525 + 1), rfl, ⟨rfl, rfl, trivial⟩, rfl, rfl⟩⟩
   refine CJ.exit ?_
   obtain rfl := si h548
   refine ⟨nofun, fun e => ?_⟩
   subst e
   exact .inl ⟨rfl, _, rfl, ⟨rfl, ⟨rfl, trivial⟩, rfl, rfl⟩⟩
 rintro s ρ _ _ ho573 ⟨rfl, hf574, rfl, rfl⟩
 subst ho573
 obtain ⟨ρ, rfl⟩ := hf574.ex
 refine PJ.done <| CJ.seq <| cr <| ja (ii 0) rfl <| J.nil ?_
 obtain ⟨o703, ho704, h⟩ := ob h
 refine CJ.joinN (o := o703) (fun s ρ K' L' => () = s ∧ Fits [(1, .pointer (some ⟨b422, 0, none⟩))] ρ ∧ K = K' ∧ L' = Cl b422 62 [ii xa.1, .slice adxa_1 xa.2.1.length cpxa_1, .slice adxa_2 xa.2.2.1.length cpxa_2, .slice adxa_3 xa.2.2.2.length cpxa_3] :: F) ?_ ?_
 · refine CJ.block <| CJ.loop (fun s ρ K' L' => ∃ (i746 : Int), i746 = s ∧ Fits [(1, .pointer (some ⟨b422, 0, none⟩)), (5, ii i746)] ρ ∧ K = K' ∧ L' = Cl b422 62 [ii xa.1, .slice adxa_1 xa.2.1.length cpxa_1, .slice adxa_2 xa.2.2.1.length cpxa_2, .slice adxa_3 xa.2.2.2.length cpxa_3] :: F) ho704 ⟨0, rfl, ⟨rfl, rfl, trivial⟩, rfl, rfl⟩ ?_
   rintro s ρ _ _ r791 ⟨i746, rfl, hf789, rfl, rfl⟩ h788
   obtain ⟨ρ, rfl⟩ := hf789.ex
   refine CJ.seq <| cr <| jm (ii i746) rfl <| jv _ (V.fad Try.underlying62 rfl nz23 rfl) <| jv (.slice adxa_2 xa.2.2.1.length cpxa_2) (V.ld rfl (Ld.sc sc23 (Rd.cl 0 rfl rfl))) <| jv (ii (((xa.2.2.1.length : Nat) : Int))) (V.len Try.underlying23 rfl) ?_
   refine jv (.bool (decide (i746 < (((xa.2.2.1.length : Nat) : Int))))) (V.lss rfl rfl) <| J.nil <| cc rfl h788 (fun hc792 h788 => ?_) fun hc792 h788 => ?_
   · refine CJ.skip <| CJ.seq <| CJ.block <| CJ.seq <| CJ.mix [Cl b422 62 [ii xa.1, .slice adxa_1 xa.2.1.length cpxa_1, .slice adxa_2 xa.2.2.1.length cpxa_2, .slice adxa_3 xa.2.2.2.length cpxa_3]] [([0, 1, 2, 3, 4, 5, 6], 7)] [8] [] mixO (by decide +kernel) ⟨0, rfl, trivial⟩ rfl rfl rfl <| JM.cons <| qv _ (V.fad Try.underlying62 rfl nz23 rfl) ?_
     refine qv (.slice adxa_2 xa.2.2.1.length cpxa_2) (V.ld rfl (Ld.sc sc23 (Rd.cl 0 rfl rfl))) <| qm (ii i746) rfl ?_
     obtain ⟨x812, hx813, h788⟩ := ob h788
     obtain ⟨p814, p815, p816⟩ := getI_some hx813
     obtain ⟨b817, o818, e819, a820⟩ := (fxa_2).at p815
     refine qv _ (V.iad Try.underlying23 sz26 rfl e819 rfl p814 p816) ?_
     obtain ⟨ad821, cp822, c823, f824⟩ := ((a820).one).sl
     refine qv (.agg #[.slice ad821 x812.length cp822]) (V.ld rfl (Ld.aggK (cs := [.slice ad821 x812.length cp822]) Try.underlying26 sz26 rfl ⟨c823, trivial⟩ (Hp.le_refl _))) <| qv _ (V.fad Try.underlying62 rfl nz3 rfl) <| qv (ii xa.1) (V.ld rfl (Ld.sc sc3 (Rd.cl 0 rfl rfl))) <| JQ.nil ?_
     obtain ⟨r825, hr826, h788⟩ := ob h788
     refine JA.op rfl (A.call (L1 := []) Try.call38 rfl (ref15_Check_ok f824 hr826) rfl rfl) ?_
     rintro _ _ _ ⟨v828, _, rfl, ⟨⟨i827, rfl, rfl, rfl⟩, rfl⟩, _, rfl⟩
     refine ⟨fun w hs => Hold.sub (Hp.le_refl _) ⟨0, rfl, trivial⟩ hs, ?_⟩
     refine JM.nil <| qa (ii i827) rfl <| JQ.nil <| J.nil <| cr <| jm (ii i827) rfl ?_
     refine jv (.bool (!decide (i827 = 0))) (V.neq rfl rfl) <| J.nil <| cc rfl h788 (fun hc831 h788 => ?_) fun hc831 h788 => ?_
     · refine cr <| jm (ii i827) rfl <| ja (ii i827) rfl <| J.nil <| CJ.ret ?_
       obtain rfl := si h788
       refine ⟨nofun, fun e => ?_⟩
       subst e
       refine .inr ⟨nofun, ?_⟩
       obtain rfl := si h
       exact ⟨_, _, Res.one rfl rfl, ⟨i827, rfl, rfl, rfl⟩, (Hp.le_refl _), fun w hs => (Sep.dropAt 0 rfl hs)⟩
     refine CJ.skip <| CJ.region <| jm (ii i746) rfl <| jv (ii (IntKind.wrap .i64 (i746 + 1))) (V.add rfl rfl) <| ja (ii (IntKind.wrap .i64 (i746 + 1))) rfl <| J.nil ?_
     obtain rfl := si h788
     exact ⟨rfl, ⟨IntKind.wrap .i64 (i746 + 1), rfl, ⟨rfl, rfl, trivial⟩, rfl, rfl⟩⟩
   refine CJ.exit ?_
   obtain rfl := si h788
   refine ⟨nofun, fun e => ?_⟩
   subst e
   exact .inl ⟨rfl, _, rfl, ⟨rfl, ⟨rfl, trivial⟩, rfl, rfl⟩⟩
 rintro s ρ _ _ ho832 ⟨rfl, hf833, rfl, rfl⟩
 subst ho832
 obtain ⟨ρ, rfl⟩ := hf833.ex
 refine PJ.done <| cr <| jv _ (V.fad Try.underlying62 rfl nz26 rfl) <| jv (.agg #[.slice adxa_3 xa.2.2.2.length cpxa_3]) (V.ld rfl (Ld.agg (cs := [.slice adxa_3 xa.2.2.2.length cpxa_3]) Try.underlying26 sz26 rfl (Rd.cls 0 3 rfl rfl))) <| jv _ (V.fad Try.underlying62 rfl nz3 rfl) <| jv (ii xa.1) (V.ld rfl (Ld.sc sc3 (Rd.cl 0 rfl rfl))) ?_
 obtain ⟨r835, hr836, h⟩ := ob h
 refine J.op rfl (A.call (L1 := []) Try.call38 rfl (ref15_Check_ok fxa_3 hr836) rfl rfl) ?_
 rintro _ _ _ ⟨v838, _, rfl, ⟨⟨i837, rfl, rfl, rfl⟩, rfl⟩, _, rfl⟩
 refine ja (ii i837) rfl <| J.nil <| CJ.ret ?_
 obtain rfl := si h
 exact ⟨_, _, Res.one rfl rfl, ⟨i837, rfl, rfl, rfl⟩, (Hp.le_refl _), fun w hs => (Sep.dropAt 0 rfl hs)⟩
noncomputable def fn_ref21_types_l1 (xa : (Int × Int × (List (Int × Int)) × (List (List (Int × Bool))) × (List (Int × Bool)) × (List (Int × (List (Int × Int)) × (List (List (Int × Bool))) × (List (Int × Bool)))) × (List ((List (Int × Int × Int × Int × Bool)) × (Int × Int × Int × (List Int) × (List Int) × (List Int)))))) : Int → Option (Int ⊕ (Unit ⊕ (Int × Int × Int × Int))) := fun (i682 : Int) => cond (decide (i682 < (((xa.2.2.2.1.length : Nat) : Int)))) ((getI xa.2.2.2.1 i682).bind fun x748 => (fn_ref15_Check x748 xa.2.1).bind fun i763 => cond (!decide (i763 = 0)) (some (.inr ((.inr ((i763, 2, i682, 0)))))) (some (.inl (IntKind.wrap .i64 (i682 + 1))))) (some (.inr ((.inl ()))))
noncomputable def fn_ref21_types_l2 (xa : (Int × Int × (List (Int × Int)) × (List (List (Int × Bool))) × (List (Int × Bool)) × (List (Int × (List (Int × Int)) × (List (List (Int × Bool))) × (List (Int × Bool)))) × (List ((List (Int × Int × Int × Int × Bool)) × (Int × Int × Int × (List Int) × (List Int) × (List Int)))))) : Int → Option (Int ⊕ (Unit ⊕ (Int × Int × Int × Int))) := fun (i944 : Int) => cond (decide (i944 < (((xa.2.2.2.2.2.1.length : Nat) : Int)))) ((getI xa.2.2.2.2.2.1 i944).bind fun x980 => (fn_ref17_Check (x980.1, x980.2.1, x980.2.2.1, x980.2.2.2)).bind fun i1003 => cond (!decide (i1003 = 0)) (some (.inr ((.inr ((i1003, 4, i944, 0)))))) (some (.inl (IntKind.wrap .i64 (i944 + 1))))) (some (.inr ((.inl ()))))
noncomputable def fn_ref21_types (xa : (Int × Int × (List (Int × Int)) × (List (List (Int × Bool))) × (List (Int × Bool)) × (List (Int × (List (Int × Int)) × (List (List (Int × Bool))) × (List (Int × Bool)))) × (List ((List (Int × Int × Int × Int × Bool)) × (Int × Int × Int × (List Int) × (List Int) × (List Int)))))) : Option (Int × Int × Int × Int) :=
  cond (decide ((((xa.2.2.2.1.length : Nat) : Int)) = 0)) (some ((14, 2, 0, 0))) (cond (decide (65536 < (((xa.2.2.2.1.length : Nat) : Int)))) (some ((6, 2, 0, 0))) ((loop (fn_ref21_types_l1 xa) 0 : Option (Unit ⊕ (Int × Int × Int × Int))).bind fun o => match o with | .inr r => some r | .inl () => (fn_ref15_Check xa.2.2.2.2.1 xa.1).bind fun i773 => cond (!decide (i773 = 0)) (some ((i773, 3, 0, 0))) ((getI xa.2.2.2.1 0).bind fun x797 => (fn_ref15_Shape x797 xa.2.2.2.2.1).bind fun t812 => cond (!t812) (some ((8, 3, 0, 0))) (cond (decide (65536 < (((xa.2.2.2.2.2.1.length : Nat) : Int)))) (some ((6, 4, 0, 0))) ((loop (fn_ref21_types_l2 xa) 0 : Option (Unit ⊕ (Int × Int × Int × Int))).bind fun o => match o with | .inr r => some r | .inl () => some ((0, 0, 0, 0)))))))
set_option maxRecDepth 100000 in
set_option maxHeartbeats 4000000 in
theorem ref21_types_ok {K : Hp} {xa : (Int × Int × (List (Int × Int)) × (List (List (Int × Bool))) × (List (Int × Bool)) × (List (Int × (List (Int × Int)) × (List (List (Int × Bool))) × (List (Int × Bool)))) × (List ((List (Int × Int × Int × Int × Bool)) × (Int × Int × Int × (List Int) × (List Int) × (List Int)))))} {adxa_2 : Option Addr} {cpxa_2 : Nat} {adxa_3 : Option Addr} {cpxa_3 : Nat} {adxa_4 : Option Addr} {cpxa_4 : Nat} {adxa_5 : Option Addr} {cpxa_5 : Nat} {adxa_6 : Option Addr} {cpxa_6 : Nat} (fxa_2 : Is K (.sl (.cons (.int .i64) (.one (.int .i64)))) [.slice adxa_2 xa.2.2.1.length cpxa_2] xa.2.2.1) (fxa_3 : Is K (.sl (.one (.sl (.cons (.int .i64) (.one .bool))))) [.slice adxa_3 xa.2.2.2.1.length cpxa_3] xa.2.2.2.1) (fxa_4 : Is K (.sl (.cons (.int .i64) (.one .bool))) [.slice adxa_4 xa.2.2.2.2.1.length cpxa_4] xa.2.2.2.2.1) (fxa_5 : Is K (.sl (.cons (.int .i64) (.cons (.sl (.cons (.int .i64) (.one (.int .i64)))) (.cons (.sl (.one (.sl (.cons (.int .i64) (.one .bool))))) (.one (.one (.sl (.cons (.int .i64) (.one .bool))))))))) [.slice adxa_5 xa.2.2.2.2.2.1.length cpxa_5] xa.2.2.2.2.2.1) (fxa_6 : Is K (.sl (.cons (.sl (.cons (.int .i64) (.cons (.int .i64) (.cons (.int .i64) (.cons (.int .i64) (.one .bool)))))) (.one (.cons (.int .i64) (.cons (.int .i64) (.cons (.int .i64) (.cons (.sl (.int .i64)) (.cons (.sl (.int .i64)) (.one (.sl (.int .i64))))))))))) [.slice adxa_6 xa.2.2.2.2.2.2.length cpxa_6] xa.2.2.2.2.2.2) {r : (Int × Int × Int × Int)} (h : fn_ref21_types xa = some r) :
    Tr Try.prog 28 #[.agg #[ii xa.1, ii xa.2.1, .slice adxa_2 xa.2.2.1.length cpxa_2, .slice adxa_3 xa.2.2.2.1.length cpxa_3, .slice adxa_4 xa.2.2.2.2.1.length cpxa_4, .slice adxa_5 xa.2.2.2.2.2.1.length cpxa_5, .slice adxa_6 xa.2.2.2.2.2.2.length cpxa_6]] K [] (fun v K' L' => (∃ (i504 : Int) (i505 : Int) (i506 : Int) (i507 : Int), (i504, i505, i506, i507) = r ∧ .agg #[ii i504, ii i505, ii i506, ii i507] = v ∧ L' = []) ∧ K = K') := by
 refine Tr.k <| Tr.of Try.func28 rfl Try.ntmps28 rfl fun E F => ?_
 unfold fn_ref21_types at h
 refine cr <| jbx [ii xa.1, ii xa.2.1, .slice adxa_2 xa.2.2.1.length cpxa_2, .slice adxa_3 xa.2.2.2.1.length cpxa_3, .slice adxa_4 xa.2.2.2.2.1.length cpxa_4, .slice adxa_5 xa.2.2.2.2.2.1.length cpxa_5, .slice adxa_6 xa.2.2.2.2.2.2.length cpxa_6] rfl rfl fun b508 => jal inf33 [ii 0, ii 0, ii 0, ii 0] rfl fun b509 => J.nil <| CJ.seq <| CJ.seq ?_
 refine CJ.region <| jv _ (V.fad Try.underlying30 rfl nz23 rfl) <| jv (.slice adxa_3 xa.2.2.2.1.length cpxa_3) (V.ld rfl (Ld.sc sc23 (Rd.cl 1 rfl rfl))) <| jv (ii (((xa.2.2.2.1.length : Nat) : Int))) (V.len Try.underlying23 rfl) <| jv (.bool (decide ((((xa.2.2.2.1.length : Nat) : Int)) = 0))) (V.eql rfl rfl) <| J.nil <| cc rfl h (fun hc510 h => ?_) fun hc510 h => ?_
 · refine cr <| jv (.agg #[ii 14, ii 2, ii 0, ii 0]) (V.build inf33 places33 rfl rfl) <| js [ii 14, ii 2, ii 0, ii 0] sz33 rfl rfl rfl rfl rfl rfl <| J.nil <| CJ.ret ?_
   obtain rfl := si h
   exact ⟨_, _, Res.one rfl ⟨_, _, rfl, Ld.agg (cs := [ii 14, ii 2, ii 0, ii 0]) Try.underlying33 sz33 rfl (Rd.cls 0 0 rfl rfl)⟩, ⟨14, 2, 0, 0, rfl, rfl, rfl⟩, (Hp.le_refl _), fun w hs => (Sep.dropAt 0 rfl (Sep.dropAt 0 rfl hs))⟩
 refine CJ.skip <| CJ.seq <| cr <| jv _ (V.fad Try.underlying30 rfl nz23 rfl) <| jv (.slice adxa_3 xa.2.2.2.1.length cpxa_3) (V.ld rfl (Ld.sc sc23 (Rd.cl 1 rfl rfl))) <| jv (ii (((xa.2.2.2.1.length : Nat) : Int))) (V.len Try.underlying23 rfl) ?_
 refine jv (.bool (decide (65536 < (((xa.2.2.2.1.length : Nat) : Int))))) (V.gtr rfl rfl) <| J.nil <| cc rfl h (fun hc511 h => ?_) fun hc511 h => ?_
 · refine cr <| jv (.agg #[ii 6, ii 2, ii 0, ii 0]) (V.build inf33 places33 rfl rfl) <| js [ii 6, ii 2, ii 0, ii 0] sz33 rfl rfl rfl rfl rfl rfl <| J.nil <| CJ.ret ?_
   obtain rfl := si h
   exact ⟨_, _, Res.one rfl ⟨_, _, rfl, Ld.agg (cs := [ii 6, ii 2, ii 0, ii 0]) Try.underlying33 sz33 rfl (Rd.cls 0 0 rfl rfl)⟩, ⟨6, 2, 0, 0, rfl, rfl, rfl⟩, (Hp.le_refl _), fun w hs => (Sep.dropAt 0 rfl (Sep.dropAt 0 rfl hs))⟩
 refine CJ.skip <| CJ.seq <| cr <| ja (ii 0) rfl <| J.nil ?_
 obtain ⟨o639, ho640, h⟩ := ob h
 refine CJ.joinN (o := o639) (fun s ρ K' L' => () = s ∧ Fits [(1, .pointer (some ⟨b508, 0, none⟩)), (2, .pointer (some ⟨b509, 0, none⟩))] ρ ∧ K = K' ∧ L' = Cl b508 30 [ii xa.1, ii xa.2.1, .slice adxa_2 xa.2.2.1.length cpxa_2, .slice adxa_3 xa.2.2.2.1.length cpxa_3, .slice adxa_4 xa.2.2.2.2.1.length cpxa_4, .slice adxa_5 xa.2.2.2.2.2.1.length cpxa_5, .slice adxa_6 xa.2.2.2.2.2.2.length cpxa_6] :: Cl b509 33 [ii 0, ii 0, ii 0, ii 0] :: F) ?_ ?_
 · refine CJ.block <| CJ.front 1 rfl <| CJ.loop (fun s ρ K' L' => ∃ (i682 : Int), i682 = s ∧ Fits [(1, .pointer (some ⟨b508, 0, none⟩)), (2, .pointer (some ⟨b509, 0, none⟩)), (3, ii i682)] ρ ∧ K = K' ∧ L' = Cl b508 30 [ii xa.1, ii xa.2.1, .slice adxa_2 xa.2.2.1.length cpxa_2, .slice adxa_3 xa.2.2.2.1.length cpxa_3, .slice adxa_4 xa.2.2.2.2.1.length cpxa_4, .slice adxa_5 xa.2.2.2.2.2.1.length cpxa_5, .slice adxa_6 xa.2.2.2.2.2.2.length cpxa_6] :: Cl b509 33 [ii 0, ii 0, ii 0, ii 0] :: F) ho640 ⟨0, rfl, ⟨rfl, rfl, rfl, trivial⟩, rfl, rfl⟩ ?_
   rintro s ρ _ _ r727 ⟨i682, rfl, hf725, rfl, rfl⟩ h724
   obtain ⟨ρ, rfl⟩ := hf725.ex
   refine CJ.seq <| cr <| jm (ii i682) rfl <| jv _ (V.fad Try.underlying30 rfl nz23 rfl) <| jv (.slice adxa_3 xa.2.2.2.1.length cpxa_3) (V.ld rfl (Ld.sc sc23 (Rd.cl 0 rfl rfl))) <| jv (ii (((xa.2.2.2.1.length : Nat) : Int))) (V.len Try.underlying23 rfl) ?_
   refine jv (.bool (decide (i682 < (((xa.2.2.2.1.length : Nat) : Int))))) (V.lss rfl rfl) <| J.nil <| cc rfl h724 (fun hc728 h724 => ?_) fun hc728 h724 => ?_
   · refine CJ.skip <| CJ.seq <| CJ.block <| CJ.seq <| CJ.mix [Cl b508 30 [ii xa.1, ii xa.2.1, .slice adxa_2 xa.2.2.1.length cpxa_2, .slice adxa_3 xa.2.2.2.1.length cpxa_3, .slice adxa_4 xa.2.2.2.2.1.length cpxa_4, .slice adxa_5 xa.2.2.2.2.2.1.length cpxa_5, .slice adxa_6 xa.2.2.2.2.2.2.length cpxa_6], Cl b509 33 [ii 0, ii 0, ii 0, ii 0]] [([0, 1, 2, 3, 4, 5, 6], 7)] [8] [] mixO (by decide +kernel) ⟨0, rfl, 0, rfl, trivial⟩ rfl rfl rfl <| JM.cons <| qv _ (V.fad Try.underlying30 rfl nz23 rfl) ?_
     refine qv (.slice adxa_3 xa.2.2.2.1.length cpxa_3) (V.ld rfl (Ld.sc sc23 (Rd.cl 0 rfl rfl))) <| qm (ii i682) rfl ?_
     obtain ⟨x748, hx749, h724⟩ := ob h724
     obtain ⟨p750, p751, p752⟩ := getI_some hx749
     obtain ⟨b753, o754, e755, a756⟩ := (fxa_3).at p751
     refine qv _ (V.iad Try.underlying23 sz26 rfl e755 rfl p750 p752) ?_
     obtain ⟨ad757, cp758, c759, f760⟩ := ((a756).one).sl
     refine qv (.agg #[.slice ad757 x748.length cp758]) (V.ld rfl (Ld.aggK (cs := [.slice ad757 x748.length cp758]) Try.underlying26 sz26 rfl ⟨c759, trivial⟩ (Hp.le_refl _))) <| qv _ (V.fad Try.underlying30 rfl nz3 rfl) <| qv (ii xa.2.1) (V.ld rfl (Ld.sc sc3 (Rd.cl 0 rfl rfl))) <| JQ.nil ?_
     obtain ⟨r761, hr762, h724⟩ := ob h724
     refine JA.op rfl (A.call (L1 := []) Try.call38 rfl (ref15_Check_ok f760 hr762) rfl rfl) ?_
     rintro _ _ _ ⟨v764, _, rfl, ⟨⟨i763, rfl, rfl, rfl⟩, rfl⟩, _, rfl⟩
     refine ⟨fun w hs => Hold.sub (Hp.le_refl _) ⟨0, rfl, 0, rfl, trivial⟩ hs, ?_⟩
     refine JM.nil <| qa (ii i763) rfl <| JQ.nil <| J.nil <| cr <| jm (ii i763) rfl ?_
     refine jv (.bool (!decide (i763 = 0))) (V.neq rfl rfl) <| J.nil <| cc rfl h724 (fun hc767 h724 => ?_) fun hc767 h724 => ?_
     · refine cr <| jm (ii i763) rfl <| jm (ii i682) rfl <| jv (.agg #[ii i763, ii 2, ii i682, ii 0]) (V.build inf33 places33 rfl rfl) <| J.front 1 rfl <| js [ii i763, ii 2, ii i682, ii 0] sz33 rfl rfl rfl rfl rfl rfl ?_
       refine J.nil <| CJ.ret ?_
       obtain rfl := si h724
       refine ⟨nofun, fun e => ?_⟩
       subst e
       refine .inr ⟨nofun, ?_⟩
       obtain rfl := si h
       exact ⟨_, _, Res.one rfl ⟨_, _, rfl, Ld.agg (cs := [ii i763, ii 2, ii i682, ii 0]) Try.underlying33 sz33 rfl (Rd.cls 0 0 rfl rfl)⟩, ⟨i763, 2, i682, 0, rfl, rfl, rfl⟩, (Hp.le_refl _), fun w hs => (Sep.dropAt 0 rfl (Sep.dropAt 0 rfl hs))⟩
     refine CJ.skip <| CJ.region <| jm (ii i682) rfl <| jv (ii (IntKind.wrap .i64 (i682 + 1))) (V.add rfl rfl) <| ja (ii (IntKind.wrap .i64 (i682 + 1))) rfl <| J.nil ?_
     obtain rfl := si h724
     exact ⟨rfl, ⟨IntKind.wrap .i64 (i682 + 1), rfl, ⟨rfl, rfl, rfl, trivial⟩, rfl, rfl⟩⟩
   refine CJ.exit ?_
   obtain rfl := si h724
   refine ⟨nofun, fun e => ?_⟩
   subst e
   exact .inl ⟨rfl, _, rfl, ⟨rfl, ⟨rfl, rfl, trivial⟩, rfl, rfl⟩⟩
 rintro s ρ _ _ ho768 ⟨rfl, hf769, rfl, rfl⟩
 subst ho768
 obtain ⟨ρ, rfl⟩ := hf769.ex
 refine PJ.done <| cr <| jv _ (V.fad Try.underlying30 rfl nz26 rfl) <| jv (.agg #[.slice adxa_4 xa.2.2.2.2.1.length cpxa_4]) (V.ld rfl (Ld.agg (cs := [.slice adxa_4 xa.2.2.2.2.1.length cpxa_4]) Try.underlying26 sz26 rfl (Rd.cls 0 4 rfl rfl))) <| jv _ (V.fad Try.underlying30 rfl nz3 rfl) <| jv (ii xa.1) (V.ld rfl (Ld.sc sc3 (Rd.cl 0 rfl rfl))) ?_
 obtain ⟨r771, hr772, h⟩ := ob h
 refine J.op rfl (A.call (L1 := []) Try.call38 rfl (ref15_Check_ok fxa_4 hr772) rfl rfl) ?_
 rintro _ _ _ ⟨v774, _, rfl, ⟨⟨i773, rfl, rfl, rfl⟩, rfl⟩, _, rfl⟩
 refine ja (ii i773) rfl <| J.nil <| CJ.seq <| cr <| jm (ii i773) rfl <| jv (.bool (!decide (i773 = 0))) (V.neq rfl rfl) ?_
 refine J.nil <| cc rfl h (fun hc777 h => ?_) fun hc777 h => ?_
 · refine cr <| jm (ii i773) rfl <| jv (.agg #[ii i773, ii 3, ii 0, ii 0]) (V.build inf33 places33 rfl rfl) <| J.front 1 rfl <| js [ii i773, ii 3, ii 0, ii 0] sz33 rfl rfl rfl rfl rfl rfl <| J.nil ?_
   refine CJ.ret ?_
   obtain rfl := si h
   exact ⟨_, _, Res.one rfl ⟨_, _, rfl, Ld.agg (cs := [ii i773, ii 3, ii 0, ii 0]) Try.underlying33 sz33 rfl (Rd.cls 0 0 rfl rfl)⟩, ⟨i773, 3, 0, 0, rfl, rfl, rfl⟩, (Hp.le_refl _), fun w hs => (Sep.dropAt 0 rfl (Sep.dropAt 0 rfl hs))⟩
 refine CJ.skip <| CJ.seq <| CJ.seq <| CJ.mix [Cl b508 30 [ii xa.1, ii xa.2.1, .slice adxa_2 xa.2.2.1.length cpxa_2, .slice adxa_3 xa.2.2.2.1.length cpxa_3, .slice adxa_4 xa.2.2.2.2.1.length cpxa_4, .slice adxa_5 xa.2.2.2.2.2.1.length cpxa_5, .slice adxa_6 xa.2.2.2.2.2.2.length cpxa_6], Cl b509 33 [ii 0, ii 0, ii 0, ii 0]] [([0, 1, 2, 3, 4, 5], 6)] [7] [] mixO (by decide +kernel) ⟨0, rfl, 0, rfl, trivial⟩ rfl rfl rfl <| JM.cons <| qv _ (V.fad Try.underlying30 rfl nz23 rfl) <| qv (.slice adxa_3 xa.2.2.2.1.length cpxa_3) (V.ld rfl (Ld.sc sc23 (Rd.cl 0 rfl rfl))) ?_
 obtain ⟨x797, hx798, h⟩ := ob h
 obtain ⟨p799, p800, p801⟩ := getI_some hx798
 obtain ⟨b802, o803, e804, a805⟩ := (fxa_3).at p800
 refine qv _ (V.iad Try.underlying23 sz26 rfl e804 rfl p799 p801) ?_
 obtain ⟨ad806, cp807, c808, f809⟩ := ((a805).one).sl
 refine qv (.agg #[.slice ad806 x797.length cp807]) (V.ld rfl (Ld.aggK (cs := [.slice ad806 x797.length cp807]) Try.underlying26 sz26 rfl ⟨c808, trivial⟩ (Hp.le_refl _))) <| qv _ (V.fad Try.underlying30 rfl nz26 rfl) <| qv (.agg #[.slice adxa_4 xa.2.2.2.2.1.length cpxa_4]) (V.ld rfl (Ld.agg (cs := [.slice adxa_4 xa.2.2.2.2.1.length cpxa_4]) Try.underlying26 sz26 rfl (Rd.cls 0 4 rfl rfl))) <| JQ.nil ?_
 obtain ⟨r810, hr811, h⟩ := ob h
 refine JA.op rfl (A.call (L1 := []) Try.call39 rfl (ref15_Shape_ok f809 fxa_4 hr811) rfl rfl) ?_
 rintro _ _ _ ⟨v813, _, rfl, ⟨⟨t812, rfl, rfl, rfl⟩, rfl⟩, _, rfl⟩
 refine ⟨fun w hs => Hold.sub (Hp.le_refl _) ⟨0, rfl, 0, rfl, trivial⟩ hs, ?_⟩
 refine JM.nil <| qv (.bool (!t812)) (V.not rfl) <| JQ.nil <| J.nil <| cc rfl h (fun hc816 h => ?_) fun hc816 h => ?_
 · refine cr <| jv (.agg #[ii 8, ii 3, ii 0, ii 0]) (V.build inf33 places33 rfl rfl) <| J.front 1 rfl <| js [ii 8, ii 3, ii 0, ii 0] sz33 rfl rfl rfl rfl rfl rfl <| J.nil <| CJ.ret ?_
   obtain rfl := si h
   exact ⟨_, _, Res.one rfl ⟨_, _, rfl, Ld.agg (cs := [ii 8, ii 3, ii 0, ii 0]) Try.underlying33 sz33 rfl (Rd.cls 0 0 rfl rfl)⟩, ⟨8, 3, 0, 0, rfl, rfl, rfl⟩, (Hp.le_refl _), fun w hs => (Sep.dropAt 0 rfl (Sep.dropAt 0 rfl hs))⟩
 refine CJ.skip <| CJ.seq <| cr <| jv _ (V.fad Try.underlying30 rfl nz27 rfl) <| jv (.slice adxa_5 xa.2.2.2.2.2.1.length cpxa_5) (V.ld rfl (Ld.sc sc27 (Rd.cl 0 rfl rfl))) <| jv (ii (((xa.2.2.2.2.2.1.length : Nat) : Int))) (V.len Try.underlying27 rfl) ?_
 refine jv (.bool (decide (65536 < (((xa.2.2.2.2.2.1.length : Nat) : Int))))) (V.gtr rfl rfl) <| J.nil <| cc rfl h (fun hc817 h => ?_) fun hc817 h => ?_
 · refine cr <| jv (.agg #[ii 6, ii 4, ii 0, ii 0]) (V.build inf33 places33 rfl rfl) <| J.front 1 rfl <| js [ii 6, ii 4, ii 0, ii 0] sz33 rfl rfl rfl rfl rfl rfl <| J.nil <| CJ.ret ?_
   obtain rfl := si h
   exact ⟨_, _, Res.one rfl ⟨_, _, rfl, Ld.agg (cs := [ii 6, ii 4, ii 0, ii 0]) Try.underlying33 sz33 rfl (Rd.cls 0 0 rfl rfl)⟩, ⟨6, 4, 0, 0, rfl, rfl, rfl⟩, (Hp.le_refl _), fun w hs => (Sep.dropAt 0 rfl (Sep.dropAt 0 rfl hs))⟩
 refine CJ.skip <| CJ.seq <| cr <| ja (ii 0) rfl <| J.nil ?_
 obtain ⟨o912, ho913, h⟩ := ob h
 refine CJ.joinN (o := o912) (fun s ρ K' L' => () = s ∧ Fits [(2, .pointer (some ⟨b509, 0, none⟩))] ρ ∧ K = K' ∧ L' = Cl b509 33 [ii 0, ii 0, ii 0, ii 0] :: F) ?_ ?_
 · refine CJ.block <| CJ.loop (fun s ρ K' L' => ∃ (i944 : Int), i944 = s ∧ Fits [(1, .pointer (some ⟨b508, 0, none⟩)), (2, .pointer (some ⟨b509, 0, none⟩)), (6, ii i944)] ρ ∧ K = K' ∧ L' = Cl b508 30 [ii xa.1, ii xa.2.1, .slice adxa_2 xa.2.2.1.length cpxa_2, .slice adxa_3 xa.2.2.2.1.length cpxa_3, .slice adxa_4 xa.2.2.2.2.1.length cpxa_4, .slice adxa_5 xa.2.2.2.2.2.1.length cpxa_5, .slice adxa_6 xa.2.2.2.2.2.2.length cpxa_6] :: Cl b509 33 [ii 0, ii 0, ii 0, ii 0] :: F) ho913 ⟨0, rfl, ⟨rfl, rfl, rfl, trivial⟩, rfl, rfl⟩ ?_
   rintro s ρ _ _ r978 ⟨i944, rfl, hf976, rfl, rfl⟩ h975
   obtain ⟨ρ, rfl⟩ := hf976.ex
   refine CJ.seq <| cr <| jm (ii i944) rfl <| jv _ (V.fad Try.underlying30 rfl nz27 rfl) <| jv (.slice adxa_5 xa.2.2.2.2.2.1.length cpxa_5) (V.ld rfl (Ld.sc sc27 (Rd.cl 0 rfl rfl))) <| jv (ii (((xa.2.2.2.2.2.1.length : Nat) : Int))) (V.len Try.underlying27 rfl) ?_
   refine jv (.bool (decide (i944 < (((xa.2.2.2.2.2.1.length : Nat) : Int))))) (V.lss rfl rfl) <| J.nil <| cc rfl h975 (fun hc979 h975 => ?_) fun hc979 h975 => ?_
   · refine CJ.skip <| CJ.seq <| CJ.block <| cr <| jv _ (V.fad Try.underlying30 rfl nz27 rfl) <| jv (.slice adxa_5 xa.2.2.2.2.2.1.length cpxa_5) (V.ld rfl (Ld.sc sc27 (Rd.cl 0 rfl rfl))) ?_
     refine jm (ii i944) rfl ?_
     obtain ⟨x980, hx981, h975⟩ := ob h975
     obtain ⟨p982, p983, p984⟩ := getI_some hx981
     obtain ⟨b985, o986, e987, a988⟩ := (fxa_5).at p983
     refine jv _ (V.iad Try.underlying27 sz62 rfl e987 rfl p982 p984) ?_
     obtain ⟨ad989, cp990, c991, f992⟩ := (((a988).snd).fst).sl
     obtain ⟨ad993, cp994, c995, f996⟩ := ((((a988).snd).snd).fst).sl
     obtain ⟨ad997, cp998, c999, f1000⟩ := ((((((a988).snd).snd).snd).one).one).sl
     refine jv (.agg #[ii x980.1, .slice ad989 x980.2.1.length cp990, .slice ad993 x980.2.2.1.length cp994, .slice ad997 x980.2.2.2.length cp998]) (V.ld rfl (Ld.aggK (cs := [ii x980.1, .slice ad989 x980.2.1.length cp990, .slice ad993 x980.2.2.1.length cp994, .slice ad997 x980.2.2.2.length cp998]) Try.underlying62 sz62 rfl ⟨((a988).fst).int, c991, c995, c999, trivial⟩ (Hp.le_refl _))) ?_
     obtain ⟨r1001, hr1002, h975⟩ := ob h975
     refine J.op rfl (A.call (L1 := []) Try.call40 rfl (ref17_Check_ok f992 f996 f1000 hr1002) rfl rfl) ?_
     rintro _ _ _ ⟨v1004, _, rfl, ⟨⟨i1003, rfl, rfl, rfl⟩, rfl⟩, _, rfl⟩
     refine ja (ii i1003) rfl <| J.nil <| cr <| jm (ii i1003) rfl <| jv (.bool (!decide (i1003 = 0))) (V.neq rfl rfl) <| J.nil ?_
     refine cc rfl h975 (fun hc1007 h975 => ?_) fun hc1007 h975 => ?_
     · refine cr <| jm (ii i1003) rfl <| jm (ii i944) rfl <| jv (.agg #[ii i1003, ii 4, ii i944, ii 0]) (V.build inf33 places33 rfl rfl) <| J.front 1 rfl <| js [ii i1003, ii 4, ii i944, ii 0] sz33 rfl rfl rfl rfl rfl rfl ?_
       refine J.nil <| CJ.ret ?_
       obtain rfl := si h975
       refine ⟨nofun, fun e => ?_⟩
       subst e
       refine .inr ⟨nofun, ?_⟩
       obtain rfl := si h
       exact ⟨_, _, Res.one rfl ⟨_, _, rfl, Ld.agg (cs := [ii i1003, ii 4, ii i944, ii 0]) Try.underlying33 sz33 rfl (Rd.cls 0 0 rfl rfl)⟩, ⟨i1003, 4, i944, 0, rfl, rfl, rfl⟩, (Hp.le_refl _), fun w hs => (Sep.dropAt 0 rfl (Sep.dropAt 0 rfl hs))⟩
     refine CJ.skip <| CJ.region <| jm (ii i944) rfl <| jv (ii (IntKind.wrap .i64 (i944 + 1))) (V.add rfl rfl) <| ja (ii (IntKind.wrap .i64 (i944 + 1))) rfl <| J.nil ?_
     obtain rfl := si h975
     exact ⟨rfl, ⟨IntKind.wrap .i64 (i944 + 1), rfl, ⟨rfl, rfl, rfl, trivial⟩, rfl, rfl⟩⟩
   refine CJ.dropAt 0 rfl <| CJ.exit ?_
   obtain rfl := si h975
   refine ⟨nofun, fun e => ?_⟩
   subst e
   exact .inl ⟨rfl, _, rfl, ⟨rfl, ⟨rfl, trivial⟩, rfl, rfl⟩⟩
 rintro s ρ _ _ ho1008 ⟨rfl, hf1009, rfl, rfl⟩
 subst ho1008
 obtain ⟨ρ, rfl⟩ := hf1009.ex
 refine PJ.done <| cr <| jv (.agg #[ii 0, ii 0, ii 0, ii 0]) (V.build inf33 places33 rfl rfl) <| js [ii 0, ii 0, ii 0, ii 0] sz33 rfl rfl rfl rfl rfl rfl <| J.nil <| CJ.ret ?_
 obtain rfl := si h
 exact ⟨_, _, Res.one rfl ⟨_, _, rfl, Ld.agg (cs := [ii 0, ii 0, ii 0, ii 0]) Try.underlying33 sz33 rfl (Rd.cls 0 0 rfl rfl)⟩, ⟨0, 0, 0, 0, rfl, rfl, rfl⟩, (Hp.le_refl _), fun w hs => (Sep.dropAt 0 rfl hs)⟩

noncomputable def fn_ref18_Dst (xa : Int) : Option Bool :=
  some ((((decide (xa = 1)) || (decide (xa = 2))) || (decide (xa = 3))) || (decide (xa = 5)))
set_option maxRecDepth 100000 in
set_option maxHeartbeats 4000000 in
theorem ref18_Dst_ok {K : Hp} {xa : Int}   {r : Bool} (h : fn_ref18_Dst xa = some r) :
    Tr Try.prog 50 #[ii xa] K [] (fun v K' L' => (∃ (t10 : Bool), t10 = r ∧ .bool t10 = v ∧ L' = []) ∧ K = K') := by
 refine Tr.k <| Tr.of Try.func50 rfl Try.ntmps50 rfl fun E F => ?_
 unfold fn_ref18_Dst at h
 refine cr <| ja (.bool false) rfl <| J.nil <| cr <| jm (ii xa) rfl ?_
 refine jv (.bool (decide (xa = 1))) (V.eql rfl rfl) <| jm (.bool (decide (xa = 1))) rfl <| J.cut 3 <| jmeet [(8, .bool ((decide (xa = 1)) || (decide (xa = 2)))), (0, ii xa)] ?_ ?_
 · rcases bt (decide (xa = 1)) with hc13 | hc13
   · refine J.skip rfl rfl rfl rfl hc13 <| J.skip rfl rfl rfl rfl hc13 <| jv (.bool true) (V.pickT rfl hc13 rfl) <| J.nil ?_
     exact ⟨rfl, ⟨(by simp only [hc13]; rfl), rfl, trivial⟩, rfl, rfl⟩
   refine J.run rfl rfl rfl hc13 <| jm (ii xa) rfl <| J.run rfl rfl rfl hc13 <| jv (.bool (decide (xa = 2))) (V.eql rfl rfl) <| jv (.bool (decide (xa = 2))) (V.pickF rfl hc13 rfl) <| J.nil ?_
   exact ⟨rfl, ⟨(by simp only [hc13]; rfl), rfl, trivial⟩, rfl, rfl⟩
 intro ρ
 refine jm (.bool ((decide (xa = 1)) || (decide (xa = 2)))) rfl <| J.cut 3 <| jmeet [(12, .bool (((decide (xa = 1)) || (decide (xa = 2))) || (decide (xa = 3)))), (0, ii xa)] ?_ ?_
 · rcases bt ((decide (xa = 1)) || (decide (xa = 2))) with hc16 | hc16
   · refine J.skip rfl rfl rfl rfl hc16 <| J.skip rfl rfl rfl rfl hc16 <| jv (.bool true) (V.pickT rfl hc16 rfl) <| J.nil ?_
     exact ⟨rfl, ⟨(by simp only [hc16]; rfl), rfl, trivial⟩, rfl, rfl⟩
   refine J.run rfl rfl rfl hc16 <| jm (ii xa) rfl <| J.run rfl rfl rfl hc16 <| jv (.bool (decide (xa = 3))) (V.eql rfl rfl) <| jv (.bool (decide (xa = 3))) (V.pickF rfl hc16 rfl) <| J.nil ?_
   exact ⟨rfl, ⟨(by simp only [hc16]; rfl), rfl, trivial⟩, rfl, rfl⟩
 intro ρ
 refine jm (.bool (((decide (xa = 1)) || (decide (xa = 2))) || (decide (xa = 3)))) rfl <| J.cut 3 <| jmeet [(16, .bool ((((decide (xa = 1)) || (decide (xa = 2))) || (decide (xa = 3))) || (decide (xa = 5))))] ?_ ?_
 · rcases bt (((decide (xa = 1)) || (decide (xa = 2))) || (decide (xa = 3))) with hc19 | hc19
   · refine J.skip rfl rfl rfl rfl hc19 <| J.skip rfl rfl rfl rfl hc19 <| jv (.bool true) (V.pickT rfl hc19 rfl) <| J.nil ?_
     exact ⟨rfl, ⟨(by simp only [hc19]; rfl), trivial⟩, rfl, rfl⟩
   refine J.run rfl rfl rfl hc19 <| jm (ii xa) rfl <| J.run rfl rfl rfl hc19 <| jv (.bool (decide (xa = 5))) (V.eql rfl rfl) <| jv (.bool (decide (xa = 5))) (V.pickF rfl hc19 rfl) <| J.nil ?_
   exact ⟨rfl, ⟨(by simp only [hc19]; rfl), trivial⟩, rfl, rfl⟩
 intro ρ
 refine ja (.bool ((((decide (xa = 1)) || (decide (xa = 2))) || (decide (xa = 3))) || (decide (xa = 5)))) rfl <| J.nil <| CJ.ret ?_
 obtain rfl := si h
 exact ⟨_, _, Res.one rfl rfl, ⟨(((decide (xa = 1)) || (decide (xa = 2))) || (decide (xa = 3))) || (decide (xa = 5)), rfl, rfl, rfl⟩, (Hp.le_refl _), fun w hs => hs⟩

noncomputable def fn_ref18_Src (xa : Int) : Option Bool :=
  some ((decide (1 ≤ xa)) && (decide (xa ≤ 4)))
set_option maxRecDepth 100000 in
set_option maxHeartbeats 4000000 in
theorem ref18_Src_ok {K : Hp} {xa : Int}   {r : Bool} (h : fn_ref18_Src xa = some r) :
    Tr Try.prog 51 #[ii xa] K [] (fun v K' L' => (∃ (t4 : Bool), t4 = r ∧ .bool t4 = v ∧ L' = []) ∧ K = K') := by
 refine Tr.k <| Tr.of Try.func51 rfl Try.ntmps51 rfl fun E F => ?_
 unfold fn_ref18_Src at h
 refine cr <| ja (.bool false) rfl <| J.nil <| cr <| jm (ii xa) rfl ?_
 refine jv (.bool (decide (1 ≤ xa))) (V.geq rfl rfl) <| jm (.bool (decide (1 ≤ xa))) rfl <| J.cut 3 <| jmeet [(8, .bool ((decide (1 ≤ xa)) && (decide (xa ≤ 4))))] ?_ ?_
 · rcases bt (decide (1 ≤ xa)) with hc7 | hc7
   · refine J.run rfl rfl rfl hc7 <| jm (ii xa) rfl <| J.run rfl rfl rfl hc7 <| jv (.bool (decide (xa ≤ 4))) (V.leq rfl rfl) <| jv (.bool (decide (xa ≤ 4))) (V.pickT rfl hc7 rfl) <| J.nil ?_
     exact ⟨rfl, ⟨(by simp only [hc7]; rfl), trivial⟩, rfl, rfl⟩
   refine J.skip rfl rfl rfl rfl hc7 <| J.skip rfl rfl rfl rfl hc7 <| jv (.bool false) (V.pickF rfl hc7 rfl) <| J.nil ?_
   exact ⟨rfl, ⟨(by simp only [hc7]; rfl), trivial⟩, rfl, rfl⟩
 intro ρ
 refine ja (.bool ((decide (1 ≤ xa)) && (decide (xa ≤ 4)))) rfl <| J.nil <| CJ.ret ?_
 obtain rfl := si h
 exact ⟨_, _, Res.one rfl rfl, ⟨(decide (1 ≤ xa)) && (decide (xa ≤ 4)), rfl, rfl, rfl⟩, (Hp.le_refl _), fun w hs => hs⟩

noncomputable def fn_ref18_Region (xa : Int) : Option Bool :=
  some ((decide (xa = 2)) || (decide (xa = 3)))
set_option maxRecDepth 100000 in
set_option maxHeartbeats 4000000 in
theorem ref18_Region_ok {K : Hp} {xa : Int}   {r : Bool} (h : fn_ref18_Region xa = some r) :
    Tr Try.prog 52 #[ii xa] K [] (fun v K' L' => (∃ (t4 : Bool), t4 = r ∧ .bool t4 = v ∧ L' = []) ∧ K = K') := by
 refine Tr.k <| Tr.of Try.func52 rfl Try.ntmps52 rfl fun E F => ?_
 unfold fn_ref18_Region at h
 refine cr <| ja (.bool false) rfl <| J.nil <| cr <| jm (ii xa) rfl ?_
 refine jv (.bool (decide (xa = 2))) (V.eql rfl rfl) <| jm (.bool (decide (xa = 2))) rfl <| J.cut 3 <| jmeet [(8, .bool ((decide (xa = 2)) || (decide (xa = 3))))] ?_ ?_
 · rcases bt (decide (xa = 2)) with hc7 | hc7
   · refine J.skip rfl rfl rfl rfl hc7 <| J.skip rfl rfl rfl rfl hc7 <| jv (.bool true) (V.pickT rfl hc7 rfl) <| J.nil ?_
     exact ⟨rfl, ⟨(by simp only [hc7]; rfl), trivial⟩, rfl, rfl⟩
   refine J.run rfl rfl rfl hc7 <| jm (ii xa) rfl <| J.run rfl rfl rfl hc7 <| jv (.bool (decide (xa = 3))) (V.eql rfl rfl) <| jv (.bool (decide (xa = 3))) (V.pickF rfl hc7 rfl) <| J.nil ?_
   exact ⟨rfl, ⟨(by simp only [hc7]; rfl), trivial⟩, rfl, rfl⟩
 intro ρ
 refine ja (.bool ((decide (xa = 2)) || (decide (xa = 3)))) rfl <| J.nil <| CJ.ret ?_
 obtain rfl := si h
 exact ⟨_, _, Res.one rfl rfl, ⟨(decide (xa = 2)) || (decide (xa = 3)), rfl, rfl, rfl⟩, (Hp.le_refl _), fun w hs => hs⟩

noncomputable def fn_ref18_Form (xa : (Int × Int × Int × Int × Bool)) : Option Bool :=
  (cond ((decide (0 ≤ xa.1)) && (decide (xa.1 ≤ 5))) ((fn_ref18_Dst xa.1).bind fun t103 => some (t103 || (decide (xa.2.1 = 0)))) (some (false))).bind fun t98 => (cond (t98) ((fn_ref18_Src xa.1).bind fun t125 => some (t125 || (decide (xa.2.2.1 = 0)))) (some (false))).bind fun t120 => (cond (t120) ((fn_ref18_Region xa.1).bind fun t153 => some (t153 || ((decide (xa.2.2.2.1 = 0)) && (!xa.2.2.2.2)))) (some (false))).bind fun t148 => some (t148)
set_option maxRecDepth 100000 in
set_option maxHeartbeats 4000000 in
theorem ref18_Form_ok {K : Hp} {xa : (Int × Int × Int × Int × Bool)}   {r : Bool} (h : fn_ref18_Form xa = some r) :
    Tr Try.prog 49 #[.agg #[ii xa.1, ii xa.2.1, ii xa.2.2.1, ii xa.2.2.2.1, .bool xa.2.2.2.2]] K [] (fun v K' L' => (∃ (t83 : Bool), t83 = r ∧ .bool t83 = v ∧ L' = []) ∧ K = K') := by
 refine Tr.k <| Tr.of Try.func49 rfl Try.ntmps49 rfl fun E F => ?_
 unfold fn_ref18_Form at h
 refine cr <| jbx [ii xa.1, ii xa.2.1, ii xa.2.2.1, ii xa.2.2.2.1, .bool xa.2.2.2.2] rfl rfl fun b84 => ja (.bool false) rfl <| J.nil <| CJ.seq <| CJ.region ?_
 refine jv _ (V.fad Try.underlying76 rfl nz3 rfl) <| jv (ii xa.1) (V.ld rfl (Ld.sc sc3 (Rd.cl 0 rfl rfl))) <| jv (.bool (decide (0 ≤ xa.1))) (V.geq rfl rfl) <| jm (.bool (decide (0 ≤ xa.1))) rfl <| J.cut 4 <| jmeet [(10, .bool ((decide (0 ≤ xa.1)) && (decide (xa.1 ≤ 5)))), (1, .pointer (some ⟨b84, 0, none⟩))] ?_ ?_
 · rcases bt (decide (0 ≤ xa.1)) with hc87 | hc87
   · refine J.run rfl rfl rfl hc87 <| jv _ (V.fad Try.underlying76 rfl nz3 rfl) <| J.run rfl rfl rfl hc87 <| jv (ii xa.1) (V.ld rfl (Ld.sc sc3 (Rd.cl 0 rfl rfl))) <| J.run rfl rfl rfl hc87 <| jv (.bool (decide (xa.1 ≤ 5))) (V.leq rfl rfl) <| jv (.bool (decide (xa.1 ≤ 5))) (V.pickT rfl hc87 rfl) ?_
     refine J.nil ?_
     exact ⟨rfl, ⟨(by simp only [hc87]; rfl), rfl, trivial⟩, rfl, rfl⟩
   refine J.skip rfl rfl rfl rfl hc87 <| J.skip rfl rfl rfl rfl hc87 <| J.skip rfl rfl rfl rfl hc87 <| jv (.bool false) (V.pickF rfl hc87 rfl) <| J.nil ?_
   exact ⟨rfl, ⟨(by simp only [hc87]; rfl), rfl, trivial⟩, rfl, rfl⟩
 intro ρ
 refine jm (.bool ((decide (0 ≤ xa.1)) && (decide (xa.1 ≤ 5)))) rfl <| J.cut 9 ?_
 obtain ⟨t98, ht99, h⟩ := ob h
 refine jmeet [(20, .bool t98), (1, .pointer (some ⟨b84, 0, none⟩))] ?_ ?_
 · rcases bt ((decide (0 ≤ xa.1)) && (decide (xa.1 ≤ 5))) with hc100 | hc100
   · have ht99 := ct hc100 ht99
     refine J.run rfl rfl rfl hc100 <| jv _ (V.fad Try.underlying76 rfl nz3 rfl) <| J.run rfl rfl rfl hc100 <| jv (ii xa.1) (V.ld rfl (Ld.sc sc3 (Rd.cl 0 rfl rfl))) <| J.run rfl rfl rfl hc100 ?_
     obtain ⟨r101, hr102, ht99⟩ := ob ht99
     refine J.op rfl (A.call (L1 := []) Try.call50 rfl (ref18_Dst_ok hr102) rfl rfl) ?_
     rintro _ _ _ ⟨v104, _, rfl, ⟨⟨t103, rfl, rfl, rfl⟩, rfl⟩, _, rfl⟩
     refine J.run rfl rfl rfl hc100 <| jm (.bool t103) rfl <| J.cut 4 <| jmeet [(19, .bool (t103 || (decide (xa.2.1 = 0)))), (1, .pointer (some ⟨b84, 0, none⟩)), (11, .bool ((decide (0 ≤ xa.1)) && (decide (xa.1 ≤ 5))))] ?_ ?_
     · rcases bt (t103) with hc109 | hc109
       · refine J.skip rfl rfl rfl rfl hc109 <| J.skip rfl rfl rfl rfl hc109 <| J.skip rfl rfl rfl rfl hc109 <| J.run rfl rfl rfl hc100 <| jv (.bool true) (V.pickT rfl hc109 rfl) <| J.nil ?_
         exact ⟨rfl, ⟨(by simp only [hc109]; rfl), rfl, rfl, trivial⟩, rfl, rfl⟩
       refine J.run rfl rfl rfl hc109 <| jv _ (V.fad Try.underlying76 rfl nz3 rfl) <| J.run rfl rfl rfl hc109 <| jv (ii xa.2.1) (V.ld rfl (Ld.sc sc3 (Rd.cl 0 rfl rfl))) <| J.run rfl rfl rfl hc109 <| jv (.bool (decide (xa.2.1 = 0))) (V.eql rfl rfl) <| J.run rfl rfl rfl hc100 ?_
       refine jv (.bool (decide (xa.2.1 = 0))) (V.pickF rfl hc109 rfl) <| J.nil ?_
       exact ⟨rfl, ⟨(by simp only [hc109]; rfl), rfl, rfl, trivial⟩, rfl, rfl⟩
     intro ρ
     refine jv (.bool (t103 || (decide (xa.2.1 = 0)))) (V.pickT rfl hc100 rfl) <| J.nil ?_
     obtain rfl := si ht99
     exact ⟨rfl, ⟨rfl, rfl, trivial⟩, rfl, rfl⟩
   have ht99 := cf hc100 ht99
   refine J.skip rfl rfl rfl rfl hc100 <| J.skip rfl rfl rfl rfl hc100 <| J.skip rfl rfl rfl rfl hc100 <| J.skip rfl rfl rfl rfl hc100 <| J.skipu rfl rfl rfl rfl <| J.skipu rfl rfl rfl rfl <| J.skipu rfl rfl rfl rfl ?_
   refine J.skip rfl rfl rfl rfl hc100 <| jv (.bool false) (V.pickF rfl hc100 rfl) <| J.nil ?_
   obtain rfl := si ht99
   exact ⟨rfl, ⟨rfl, rfl, trivial⟩, rfl, rfl⟩
 intro ρ
 refine jm (.bool t98) rfl <| J.cut 9 ?_
 obtain ⟨t120, ht121, h⟩ := ob h
 refine jmeet [(30, .bool t120), (1, .pointer (some ⟨b84, 0, none⟩))] ?_ ?_
 · rcases bt (t98) with hc122 | hc122
   · have ht121 := ct hc122 ht121
     refine J.run rfl rfl rfl hc122 <| jv _ (V.fad Try.underlying76 rfl nz3 rfl) <| J.run rfl rfl rfl hc122 <| jv (ii xa.1) (V.ld rfl (Ld.sc sc3 (Rd.cl 0 rfl rfl))) <| J.run rfl rfl rfl hc122 ?_
     obtain ⟨r123, hr124, ht121⟩ := ob ht121
     refine J.op rfl (A.call (L1 := []) Try.call51 rfl (ref18_Src_ok hr124) rfl rfl) ?_
     rintro _ _ _ ⟨v126, _, rfl, ⟨⟨t125, rfl, rfl, rfl⟩, rfl⟩, _, rfl⟩
     refine J.run rfl rfl rfl hc122 <| jm (.bool t125) rfl <| J.cut 4 <| jmeet [(29, .bool (t125 || (decide (xa.2.2.1 = 0)))), (1, .pointer (some ⟨b84, 0, none⟩)), (21, .bool t98)] ?_ ?_
     · rcases bt (t125) with hc131 | hc131
       · refine J.skip rfl rfl rfl rfl hc131 <| J.skip rfl rfl rfl rfl hc131 <| J.skip rfl rfl rfl rfl hc131 <| J.run rfl rfl rfl hc122 <| jv (.bool true) (V.pickT rfl hc131 rfl) <| J.nil ?_
         exact ⟨rfl, ⟨(by simp only [hc131]; rfl), rfl, rfl, trivial⟩, rfl, rfl⟩
       refine J.run rfl rfl rfl hc131 <| jv _ (V.fad Try.underlying76 rfl nz3 rfl) <| J.run rfl rfl rfl hc131 <| jv (ii xa.2.2.1) (V.ld rfl (Ld.sc sc3 (Rd.cl 0 rfl rfl))) <| J.run rfl rfl rfl hc131 <| jv (.bool (decide (xa.2.2.1 = 0))) (V.eql rfl rfl) <| J.run rfl rfl rfl hc122 ?_
       refine jv (.bool (decide (xa.2.2.1 = 0))) (V.pickF rfl hc131 rfl) <| J.nil ?_
       exact ⟨rfl, ⟨(by simp only [hc131]; rfl), rfl, rfl, trivial⟩, rfl, rfl⟩
     intro ρ
     refine jv (.bool (t125 || (decide (xa.2.2.1 = 0)))) (V.pickT rfl hc122 rfl) <| J.nil ?_
     obtain rfl := si ht121
     exact ⟨rfl, ⟨rfl, rfl, trivial⟩, rfl, rfl⟩
   have ht121 := cf hc122 ht121
   refine J.skip rfl rfl rfl rfl hc122 <| J.skip rfl rfl rfl rfl hc122 <| J.skip rfl rfl rfl rfl hc122 <| J.skip rfl rfl rfl rfl hc122 <| J.skipu rfl rfl rfl rfl <| J.skipu rfl rfl rfl rfl <| J.skipu rfl rfl rfl rfl ?_
   refine J.skip rfl rfl rfl rfl hc122 <| jv (.bool false) (V.pickF rfl hc122 rfl) <| J.nil ?_
   obtain rfl := si ht121
   exact ⟨rfl, ⟨rfl, rfl, trivial⟩, rfl, rfl⟩
 intro ρ
 refine jm (.bool t120) rfl <| J.cut 14 ?_
 obtain ⟨t148, ht149, h⟩ := ob h
 refine jmeet [(45, .bool t148)] ?_ ?_
 · rcases bt (t120) with hc150 | hc150
   · have ht149 := ct hc150 ht149
     refine J.run rfl rfl rfl hc150 <| jv _ (V.fad Try.underlying76 rfl nz3 rfl) <| J.run rfl rfl rfl hc150 <| jv (ii xa.1) (V.ld rfl (Ld.sc sc3 (Rd.cl 0 rfl rfl))) <| J.run rfl rfl rfl hc150 ?_
     obtain ⟨r151, hr152, ht149⟩ := ob ht149
     refine J.op rfl (A.call (L1 := []) Try.call52 rfl (ref18_Region_ok hr152) rfl rfl) ?_
     rintro _ _ _ ⟨v154, _, rfl, ⟨⟨t153, rfl, rfl, rfl⟩, rfl⟩, _, rfl⟩
     refine J.run rfl rfl rfl hc150 <| jm (.bool t153) rfl <| J.cut 9 <| jmeet [(44, .bool (t153 || ((decide (xa.2.2.2.1 = 0)) && (!xa.2.2.2.2)))), (31, .bool t120)] ?_ ?_
     · rcases bt (t153) with hc162 | hc162
       · refine J.skip rfl rfl rfl rfl hc162 <| J.skip rfl rfl rfl rfl hc162 <| J.skip rfl rfl rfl rfl hc162 <| J.skip rfl rfl rfl rfl hc162 <| J.skipu rfl rfl rfl rfl <| J.skipu rfl rfl rfl rfl <| J.skipu rfl rfl rfl rfl ?_
         refine J.skip rfl rfl rfl rfl hc162 <| J.run rfl rfl rfl hc150 <| jv (.bool true) (V.pickT rfl hc162 rfl) <| J.nil ?_
         exact ⟨rfl, ⟨(by simp only [hc162]; rfl), rfl, trivial⟩, rfl, rfl⟩
       refine J.run rfl rfl rfl hc162 <| jv _ (V.fad Try.underlying76 rfl nz3 rfl) <| J.run rfl rfl rfl hc162 <| jv (ii xa.2.2.2.1) (V.ld rfl (Ld.sc sc3 (Rd.cl 0 rfl rfl))) <| J.run rfl rfl rfl hc162 <| jv (.bool (decide (xa.2.2.2.1 = 0))) (V.eql rfl rfl) <| J.run rfl rfl rfl hc162 ?_
       refine jm (.bool (decide (xa.2.2.2.1 = 0))) rfl <| J.cut 4 <| jmeet [(43, .bool ((decide (xa.2.2.2.1 = 0)) && (!xa.2.2.2.2))), (31, .bool t120), (35, .bool t153)] ?_ ?_
       · rcases bt (decide (xa.2.2.2.1 = 0)) with hc165 | hc165
         · refine J.run rfl rfl rfl hc165 <| jv _ (V.fad Try.underlying76 rfl nz4 rfl) <| J.run rfl rfl rfl hc165 <| jv (.bool xa.2.2.2.2) (V.ld rfl (Ld.sc sc4 (Rd.cl 0 rfl rfl))) <| J.run rfl rfl rfl hc165 <| jv (.bool (!xa.2.2.2.2)) (V.not rfl) <| J.run rfl rfl rfl hc162 ?_
           refine jv (.bool (!xa.2.2.2.2)) (V.pickT rfl hc165 rfl) <| J.nil ?_
           exact ⟨rfl, ⟨(by simp only [hc165]; rfl), rfl, rfl, trivial⟩, rfl, rfl⟩
         refine J.skip rfl rfl rfl rfl hc165 <| J.skip rfl rfl rfl rfl hc165 <| J.skip rfl rfl rfl rfl hc165 <| J.run rfl rfl rfl hc162 <| jv (.bool false) (V.pickF rfl hc165 rfl) <| J.nil ?_
         exact ⟨rfl, ⟨(by simp only [hc165]; rfl), rfl, rfl, trivial⟩, rfl, rfl⟩
       intro ρ
       refine J.run rfl rfl rfl hc150 <| jv (.bool ((decide (xa.2.2.2.1 = 0)) && (!xa.2.2.2.2))) (V.pickF rfl hc162 rfl) <| J.nil ?_
       exact ⟨rfl, ⟨(by simp only [hc162]; rfl), rfl, trivial⟩, rfl, rfl⟩
     intro ρ
     refine jv (.bool (t153 || ((decide (xa.2.2.2.1 = 0)) && (!xa.2.2.2.2)))) (V.pickT rfl hc150 rfl) <| J.nil ?_
     obtain rfl := si ht149
     exact ⟨rfl, ⟨rfl, trivial⟩, rfl, rfl⟩
   have ht149 := cf hc150 ht149
   refine J.skip rfl rfl rfl rfl hc150 <| J.skip rfl rfl rfl rfl hc150 <| J.skip rfl rfl rfl rfl hc150 <| J.skip rfl rfl rfl rfl hc150 <| J.skipu rfl rfl rfl rfl <| J.skipu rfl rfl rfl rfl <| J.skipu rfl rfl rfl rfl ?_
   refine J.skipu rfl rfl rfl rfl <| J.skipu rfl rfl rfl rfl <| J.skipu rfl rfl rfl rfl <| J.skipu rfl rfl rfl rfl <| J.skipu rfl rfl rfl rfl <| J.skip rfl rfl rfl rfl hc150 <| jv (.bool false) (V.pickF rfl hc150 rfl) ?_
   refine J.nil ?_
   obtain rfl := si ht149
   exact ⟨rfl, ⟨rfl, trivial⟩, rfl, rfl⟩
 intro ρ
 refine ja (.bool t148) rfl <| J.nil <| CJ.ret ?_
 obtain rfl := si h
 exact ⟨_, _, Res.one rfl rfl, ⟨t148, rfl, rfl, rfl⟩, (Hp.le_refl _), fun w hs => (Sep.dropAt 0 rfl hs)⟩
noncomputable def fn_ref16_slots_rkkii_l1 (xb : (List (Int × Bool))) (xc : (List (Int × Bool))) (xd : Int) (xe : Int) : ((List (Int × Int × Int × Int × Bool)) × Int) → Option (((List (Int × Int × Int × Int × Bool)) × Int) ⊕ (List (Int × Int × Int × Int × Bool))) := fun ((l1164, i1169) : ((List (Int × Int × Int × Int × Bool)) × Int)) => cond (decide (i1169 < (((xb.length : Nat) : Int)))) ((getI xb i1169).bind fun x1309 => (getI xc i1169).bind fun x1318 => (app l1164 (([(x1309.1, x1318.1, xd, IntKind.wrap .i64 (xe + i1169), false)] : List (Int × Int × Int × Int × Bool)))).bind fun z1330 => (getI xc i1169).bind fun x1336 => cond (x1336.2) ((getI xc i1169).bind fun x1367 => (getI xb i1169).bind fun x1376 => (app z1330 (([(x1367.1, x1376.1, xd, IntKind.wrap .i64 (xe + i1169), true)] : List (Int × Int × Int × Int × Bool)))).bind fun z1388 => some (.inl ((z1388, IntKind.wrap .i64 (i1169 + 1))))) (some (.inl ((z1330, IntKind.wrap .i64 (i1169 + 1)))))) (some (.inr (l1164)))
noncomputable def fn_ref16_slots_rkkii (xb : (List (Int × Bool))) (xc : (List (Int × Bool))) (xd : Int) (xe : Int) (qxa : (List (Int × Int × Int × Int × Bool))) : Option ((List (Int × Int × Int × Int × Bool))) :=
  (loop (fn_ref16_slots_rkkii_l1 xb xc xd xe) (qxa, 0) : Option ((List (Int × Int × Int × Int × Bool)))).bind fun l1044 => some (l1044)
set_option maxRecDepth 100000 in
set_option maxHeartbeats 4000000 in
theorem ref16_slots_rkkii_ok {K : Hp} {xb : (List (Int × Bool))} {xc : (List (Int × Bool))} {xd : Int} {xe : Int} {qxa : (List (Int × Int × Int × Int × Bool))} {adxb_0 : Option Addr} {cpxb_0 : Nat} {adxc_0 : Option Addr} {cpxc_0 : Nat} {adqxa : Option Addr} {cpqxa : Nat} (fxb_0 : Is K (.sl (.cons (.int .i64) (.one .bool))) [.slice adxb_0 xb.length cpxb_0] xb) (fxc_0 : Is K (.sl (.cons (.int .i64) (.one .bool))) [.slice adxc_0 xc.length cpxc_0] xc) {r : (List (Int × Int × Int × Int × Bool))} (h : fn_ref16_slots_rkkii xb xc xd xe qxa = some r) :
    Tr Try.prog 69 #[.slice adqxa qxa.length cpqxa, .slice adxb_0 xb.length cpxb_0, .slice adxc_0 xc.length cpxc_0, ii xd, ii xe] K [Row Hp.nil 111 (.cons (.int .i64) (.cons (.int .i64) (.cons (.int .i64) (.cons (.int .i64) (.one .bool))))) (.slice adqxa qxa.length cpqxa) qxa] (fun v K' L' => (∃ (l696 : (List (Int × Int × Int × Int × Bool))) (ad697 : Option Addr) (cp698 : Nat), l696 = r ∧ .slice ad697 l696.length cp698 = v ∧ L' = [Row Hp.nil 111 (.cons (.int .i64) (.cons (.int .i64) (.cons (.int .i64) (.cons (.int .i64) (.one .bool))))) (.slice ad697 l696.length cp698) l696]) ∧ K = K') := by
 refine Tr.k <| Tr.of Try.func69 rfl Try.ntmps69 rfl fun E F => ?_
 unfold fn_ref16_slots_rkkii at h
 refine CJ.wit Row.hn fun hnqxa => cr <| ja (nos) rfl <| J.nil <| CJ.seq <| CJ.seq ?_
 refine CJ.region <| ja (ii 0) rfl <| J.nil ?_
 obtain ⟨o1049, ho1050, h⟩ := ob h
 refine CJ.meetN (fun ρ K' L' => ∃ (l1044 : (List (Int × Int × Int × Int × Bool))) (ad1045 : Option Addr) (cp1046 : Nat), l1044 = o1049 ∧ Fits [(0, .slice ad1045 l1044.length cp1046)] ρ ∧ K = K' ∧ L' = Row Hp.nil 111 (.cons (.int .i64) (.cons (.int .i64) (.cons (.int .i64) (.cons (.int .i64) (.one .bool))))) (.slice ad1045 l1044.length cp1046) l1044 :: F) ?_ ?_
 · refine CJ.block <| CJ.loop (fun s ρ K' L' => ∃ (l1164 : (List (Int × Int × Int × Int × Bool))) (i1169 : Int) (ad1165 : Option Addr) (cp1166 : Nat), (l1164, i1169) = s ∧ Fits [(0, .slice ad1165 l1164.length cp1166), (1, .slice adxb_0 xb.length cpxb_0), (2, .slice adxc_0 xc.length cpxc_0), (3, ii xd), (4, ii xe), (11, ii i1169)] ρ ∧ K = K' ∧ L' = Row Hp.nil 111 (.cons (.int .i64) (.cons (.int .i64) (.cons (.int .i64) (.cons (.int .i64) (.one .bool))))) (.slice ad1165 l1164.length cp1166) l1164 :: F) ho1050 ⟨qxa, 0, adqxa, cpqxa, rfl, ⟨rfl, rfl, rfl, rfl, rfl, rfl, trivial⟩, rfl, rfl⟩ ?_
   rintro s ρ _ _ r1286 ⟨l1164, i1169, ad1165, cp1166, rfl, hf1284, rfl, rfl⟩ h1283
   obtain ⟨ρ, rfl⟩ := hf1284.ex
   refine CJ.wit Row.hn fun hn1168 => CJ.seq <| cr <| jm (ii i1169) rfl <| jm (.slice adxb_0 xb.length cpxb_0) rfl <| jv (ii (((xb.length : Nat) : Int))) (V.len Try.underlying24 rfl) ?_
   refine jv (.bool (decide (i1169 < (((xb.length : Nat) : Int))))) (V.lss rfl rfl) <| J.nil <| cc rfl h1283 (fun hc1287 h1283 => ?_) fun hc1287 h1283 => ?_
   · refine CJ.skip <| CJ.seq <| CJ.block <| CJ.seq <| CJ.mix [Row Hp.nil 111 (.cons (.int .i64) (.cons (.int .i64) (.cons (.int .i64) (.cons (.int .i64) (.one .bool))))) (.slice ad1165 l1164.length cp1166) l1164] [([0, 1, 2, 3, 4, 5, 6, 7, 8, 9, 10, 11, 12, 13, 14, 15], 16)] [] [17, 18] mixO (by decide +kernel) ⟨0, rfl, trivial⟩ rfl rfl rfl <| JM.cons <| qm (.slice ad1165 l1164.length cp1166) rfl ?_
     refine qm (.slice adxb_0 xb.length cpxb_0) rfl <| qm (ii i1169) rfl ?_
     obtain ⟨x1309, hx1310, h1283⟩ := ob h1283
     obtain ⟨p1311, p1312, p1313⟩ := getI_some hx1310
     obtain ⟨b1314, o1315, e1316, a1317⟩ := (fxb_0).at p1312
     refine qv _ (V.iad Try.underlying24 sz86 rfl e1316 rfl p1311 p1313) <| qv _ (V.fad Try.underlying86 rfl nz3 rfl) <| qv (ii x1309.1) (V.ld rfl (Ld.sc sc3 (Rd.k ((a1317).fst).int (Hp.le_refl _)))) <| qm (.slice adxc_0 xc.length cpxc_0) rfl <| qm (ii i1169) rfl ?_
     obtain ⟨x1318, hx1319, h1283⟩ := ob h1283
     obtain ⟨p1320, p1321, p1322⟩ := getI_some hx1319
     obtain ⟨b1323, o1324, e1325, a1326⟩ := (fxc_0).at p1321
     refine qv _ (V.iad Try.underlying24 sz86 rfl e1325 rfl p1320 p1322) <| qv _ (V.fad Try.underlying86 rfl nz3 rfl) <| qv (ii x1318.1) (V.ld rfl (Ld.sc sc3 (Rd.k ((a1326).fst).int (Hp.le_refl _)))) <| qm (ii xd) rfl <| qm (ii xe) rfl <| qm (ii i1169) rfl <| qv (ii (IntKind.wrap .i64 (xe + i1169))) (V.add rfl rfl) ?_
     refine qv (.agg #[ii x1309.1, ii x1318.1, ii xd, ii (IntKind.wrap .i64 (xe + i1169)), .bool false]) (V.build inf111 places111 rfl rfl) <| JQ.nil ?_
     refine JA.op rfl (A.lit (K0 := Hp.nil) (ty := (.cons (.int .i64) (.cons (.int .i64) (.cons (.int .i64) (.cons (.int .i64) (.one .bool)))))) (xs := ([(x1309.1, x1318.1, xd, IntKind.wrap .i64 (xe + i1169), false)] : List (Int × Int × Int × Int × Bool))) Try.underlying80 inf111 rfl (by decide) rfl rfl rfl ⟨_, _, rfl, ⟨_, _, rfl, rfl, rfl, ⟨_, _, rfl, rfl, rfl, ⟨_, _, rfl, rfl, rfl, ⟨_, _, rfl, rfl, rfl, rfl⟩⟩⟩⟩, rfl⟩ rfl (by decide)) ?_
     rintro _ _ _ ⟨b1327, rfl, rfl, rfl⟩
     have hn1328 : ([(x1309.1, x1318.1, xd, IntKind.wrap .i64 (xe + i1169), false)] : List (Int × Int × Int × Int × Bool)) ≠ [] → ∃ g, (some ⟨b1327, 0, none⟩ : Option Addr) = some ⟨g, 0, none⟩ := fun _ => ⟨b1327, rfl⟩
     refine ⟨fun w hs => Hold.sub (Hp.le_refl _) ⟨1, rfl, trivial⟩ hs, ?_⟩
     refine JM.nil <| JQ.nil ?_
     obtain ⟨z1330, hz1331, h1283⟩ := ob h1283
     refine J.front 1 rfl <| J.op rfl (A.appR (Kr := Hp.nil) Try.underlying80 inf111 rfl rfl (by decide) (by decide) rfl rfl (Els.flat rfl) (Els.flat rfl) hz1331) ?_
     rintro _ _ _ ⟨v1332, rfl, rfl, rfl⟩
     refine J.wit Row.form ?_
     rintro ⟨ad1333, cp1334, rfl, _, _, hn1335⟩
     refine ja (.slice ad1333 z1330.length cp1334) rfl <| J.nil <| cr <| jm (.slice adxc_0 xc.length cpxc_0) rfl <| jm (ii i1169) rfl ?_
     obtain ⟨x1336, hx1337, h1283⟩ := ob h1283
     obtain ⟨p1338, p1339, p1340⟩ := getI_some hx1337
     obtain ⟨b1341, o1342, e1343, a1344⟩ := (fxc_0).at p1339
     refine jv _ (V.iad Try.underlying24 sz86 rfl e1343 rfl p1338 p1340) <| jv _ (V.fad Try.underlying86 rfl nz4 rfl) <| jv (.bool x1336.2) (V.ld rfl (Ld.sc sc4 (Rd.k (((a1344).snd).one).bool (Hp.le_refl _)))) <| J.nil <| cc rfl h1283 (fun hc1345 h1283 => ?_) fun hc1345 h1283 => ?_
     · refine CJ.mix [Row Hp.nil 111 (.cons (.int .i64) (.cons (.int .i64) (.cons (.int .i64) (.cons (.int .i64) (.one .bool))))) (.slice ad1333 z1330.length cp1334) z1330] [([0, 1, 2, 3, 4, 5, 6, 7, 8, 9, 10, 11, 12, 13, 14, 15], 16)] [] [17, 18] mixO (by decide +kernel) ⟨0, rfl, trivial⟩ rfl rfl rfl <| JM.cons <| qm (.slice ad1333 z1330.length cp1334) rfl <| qm (.slice adxc_0 xc.length cpxc_0) rfl <| qm (ii i1169) rfl ?_
       obtain ⟨x1367, hx1368, h1283⟩ := ob h1283
       obtain ⟨p1369, p1370, p1371⟩ := getI_some hx1368
       obtain ⟨b1372, o1373, e1374, a1375⟩ := (fxc_0).at p1370
       refine qv _ (V.iad Try.underlying24 sz86 rfl e1374 rfl p1369 p1371) <| qv _ (V.fad Try.underlying86 rfl nz3 rfl) <| qv (ii x1367.1) (V.ld rfl (Ld.sc sc3 (Rd.k ((a1375).fst).int (Hp.le_refl _)))) <| qm (.slice adxb_0 xb.length cpxb_0) rfl <| qm (ii i1169) rfl ?_
       obtain ⟨x1376, hx1377, h1283⟩ := ob h1283
       obtain ⟨p1378, p1379, p1380⟩ := getI_some hx1377
       obtain ⟨b1381, o1382, e1383, a1384⟩ := (fxb_0).at p1379
       refine qv _ (V.iad Try.underlying24 sz86 rfl e1383 rfl p1378 p1380) <| qv _ (V.fad Try.underlying86 rfl nz3 rfl) <| qv (ii x1376.1) (V.ld rfl (Ld.sc sc3 (Rd.k ((a1384).fst).int (Hp.le_refl _)))) <| qm (ii xd) rfl <| qm (ii xe) rfl <| qm (ii i1169) rfl <| qv (ii (IntKind.wrap .i64 (xe + i1169))) (V.add rfl rfl) ?_
       refine qv (.agg #[ii x1367.1, ii x1376.1, ii xd, ii (IntKind.wrap .i64 (xe + i1169)), .bool true]) (V.build inf111 places111 rfl rfl) <| JQ.nil ?_
       refine JA.op rfl (A.lit (K0 := Hp.nil) (ty := (.cons (.int .i64) (.cons (.int .i64) (.cons (.int .i64) (.cons (.int .i64) (.one .bool)))))) (xs := ([(x1367.1, x1376.1, xd, IntKind.wrap .i64 (xe + i1169), true)] : List (Int × Int × Int × Int × Bool))) Try.underlying80 inf111 rfl (by decide) rfl rfl rfl ⟨_, _, rfl, ⟨_, _, rfl, rfl, rfl, ⟨_, _, rfl, rfl, rfl, ⟨_, _, rfl, rfl, rfl, ⟨_, _, rfl, rfl, rfl, rfl⟩⟩⟩⟩, rfl⟩ rfl (by decide)) ?_
       rintro _ _ _ ⟨b1385, rfl, rfl, rfl⟩
       have hn1386 : ([(x1367.1, x1376.1, xd, IntKind.wrap .i64 (xe + i1169), true)] : List (Int × Int × Int × Int × Bool)) ≠ [] → ∃ g, (some ⟨b1385, 0, none⟩ : Option Addr) = some ⟨g, 0, none⟩ := fun _ => ⟨b1385, rfl⟩
       refine ⟨fun w hs => Hold.sub (Hp.le_refl _) ⟨1, rfl, trivial⟩ hs, ?_⟩
       refine JM.nil <| JQ.nil ?_
       obtain ⟨z1388, hz1389, h1283⟩ := ob h1283
       refine J.front 1 rfl <| J.op rfl (A.appR (Kr := Hp.nil) Try.underlying80 inf111 rfl rfl (by decide) (by decide) rfl rfl (Els.flat rfl) (Els.flat rfl) hz1389) ?_
       rintro _ _ _ ⟨v1390, rfl, rfl, rfl⟩
       refine J.wit Row.form ?_
       rintro ⟨ad1391, cp1392, rfl, _, _, hn1393⟩
       refine ja (.slice ad1391 z1388.length cp1392) rfl <| J.nil <| CJ.region <| jm (ii i1169) rfl <| jv (ii (IntKind.wrap .i64 (i1169 + 1))) (V.add rfl rfl) <| ja (ii (IntKind.wrap .i64 (i1169 + 1))) rfl <| J.nil ?_
       obtain rfl := si h1283
       exact ⟨rfl, ⟨z1388, IntKind.wrap .i64 (i1169 + 1), ad1391, cp1392, rfl, ⟨rfl, rfl, rfl, rfl, rfl, rfl, trivial⟩, rfl, rfl⟩⟩
     refine CJ.skip <| CJ.region <| jm (ii i1169) rfl <| jv (ii (IntKind.wrap .i64 (i1169 + 1))) (V.add rfl rfl) <| ja (ii (IntKind.wrap .i64 (i1169 + 1))) rfl <| J.nil ?_
     obtain rfl := si h1283
     exact ⟨rfl, ⟨z1330, IntKind.wrap .i64 (i1169 + 1), ad1333, cp1334, rfl, ⟨rfl, rfl, rfl, rfl, rfl, rfl, trivial⟩, rfl, rfl⟩⟩
   refine CJ.exit ?_
   obtain rfl := si h1283
   refine ⟨nofun, fun e => ?_⟩
   subst e
   exact ⟨rfl, ⟨l1164, ad1165, cp1166, rfl, ⟨rfl, trivial⟩, rfl, rfl⟩⟩
 rintro ρ _ _ ⟨l1044, ad1045, cp1046, rfl, hf1394, rfl, rfl⟩
 obtain ⟨ρ, rfl⟩ := hf1394.ex
 refine PJ.wit Row.hn fun hn1048 => PJ.done <| cr <| jm (.slice ad1045 l1044.length cp1046) rfl <| ja (.slice ad1045 l1044.length cp1046) rfl <| J.nil ?_
 refine CJ.ret ?_
 obtain rfl := si h
 exact ⟨_, _, Res.one rfl rfl, ⟨l1044, ad1045, cp1046, rfl, rfl, rfl⟩, (Hp.le_refl _), fun w hs => hs⟩

noncomputable def fn_ref16_Flow (xa : (List (Int × Bool))) (xb : (List (Int × Bool))) (xc : Int) (xd : Int) : Option (((List (Int × Int × Int × Int × Bool)) × Int)) :=
  (fn_ref15_Shape xa xb).bind fun t34 => cond (!t34) (some (([], 8))) ((fn_ref16_slots_rkkii xa xb xc xd (([] : List (Int × Int × Int × Int × Bool)))).bind fun l45 => some ((l45, 0)))
set_option maxRecDepth 100000 in
set_option maxHeartbeats 4000000 in
theorem ref16_Flow_ok {K : Hp} {xa : (List (Int × Bool))} {xb : (List (Int × Bool))} {xc : Int} {xd : Int} {adxa_0 : Option Addr} {cpxa_0 : Nat} {adxb_0 : Option Addr} {cpxb_0 : Nat} (fxa_0 : Is K (.sl (.cons (.int .i64) (.one .bool))) [.slice adxa_0 xa.length cpxa_0] xa) (fxb_0 : Is K (.sl (.cons (.int .i64) (.one .bool))) [.slice adxb_0 xb.length cpxb_0] xb) {r : ((List (Int × Int × Int × Int × Bool)) × Int)} (h : fn_ref16_Flow xa xb xc xd = some r) :
    Tr Try.prog 53 #[.agg #[.slice adxa_0 xa.length cpxa_0], .agg #[.slice adxb_0 xb.length cpxb_0], ii xc, ii xd] K [] (fun v K' L' => (∃ (l24 : (List (Int × Int × Int × Int × Bool))) (i29 : Int) (ad25 : Option Addr) (cp26 : Nat), (l24, i29) = r ∧ .tuple #[.slice ad25 l24.length cp26, ii i29] = v ∧ L' = [Row Hp.nil 111 (.cons (.int .i64) (.cons (.int .i64) (.cons (.int .i64) (.cons (.int .i64) (.one .bool))))) (.slice ad25 l24.length cp26) l24]) ∧ K = K') := by
 refine Tr.k <| Tr.of Try.func53 rfl Try.ntmps53 rfl fun E F => ?_
 unfold fn_ref16_Flow at h
 refine cr <| jbx [.slice adxa_0 xa.length cpxa_0] rfl rfl fun b30 => jbx [.slice adxb_0 xb.length cpxb_0] rfl rfl fun b31 => ja (nos) rfl <| ja (ii 0) rfl <| J.nil ?_
 refine CJ.seq <| cr <| jv (.agg #[.slice adxa_0 xa.length cpxa_0]) (V.ld rfl (Ld.agg (cs := [.slice adxa_0 xa.length cpxa_0]) Try.underlying26 sz26 rfl (Rd.cls 1 0 rfl rfl))) <| jv (.agg #[.slice adxb_0 xb.length cpxb_0]) (V.ld rfl (Ld.agg (cs := [.slice adxb_0 xb.length cpxb_0]) Try.underlying26 sz26 rfl (Rd.cls 0 0 rfl rfl))) ?_
 obtain ⟨r32, hr33, h⟩ := ob h
 refine J.op rfl (A.call (L1 := []) Try.call39 rfl (ref15_Shape_ok fxa_0 fxb_0 hr33) rfl rfl) ?_
 rintro _ _ _ ⟨v35, _, rfl, ⟨⟨t34, rfl, rfl, rfl⟩, rfl⟩, _, rfl⟩
 refine jv (.bool (!t34)) (V.not rfl) <| J.nil <| cc rfl h (fun hc38 h => ?_) fun hc38 h => ?_
 · refine cr <| ja (nos) rfl <| ja (ii 8) rfl <| J.nil <| CJ.by (fun w hs => Sep.rowNil (e := 111) (t := (.cons (.int .i64) (.cons (.int .i64) (.cons (.int .i64) (.cons (.int .i64) (.one .bool)))))) hs) <| CJ.ret ?_
   obtain rfl := si h
   exact ⟨_, _, Res.two rfl rfl rfl, ⟨[], 8, none, 0, rfl, rfl, rfl⟩, (Hp.le_refl _), fun w hs => (Sep.dropAt 1 rfl (Sep.dropAt 1 rfl hs))⟩
 refine CJ.skip <| CJ.seq <| CJ.region ?_
 refine J.op rfl (A.lit (K0 := Hp.nil) (ty := (.cons (.int .i64) (.cons (.int .i64) (.cons (.int .i64) (.cons (.int .i64) (.one .bool)))))) (xs := ([] : List (Int × Int × Int × Int × Bool))) Try.underlying80 inf111 rfl (by decide) rfl rfl rfl rfl rfl (by decide)) ?_
 rintro _ _ _ ⟨b40, rfl, rfl, rfl⟩
 have hn41 : ([] : List (Int × Int × Int × Int × Bool)) ≠ [] → ∃ g, (some ⟨b40, 0, none⟩ : Option Addr) = some ⟨g, 0, none⟩ := fun _ => ⟨b40, rfl⟩
 refine jv _ (V.fad Try.underlying26 rfl nz24 rfl) <| jv (.slice adxa_0 xa.length cpxa_0) (V.ld rfl (Ld.sc sc24 (Rd.cl 2 rfl rfl))) <| jv _ (V.fad Try.underlying26 rfl nz24 rfl) <| jv (.slice adxb_0 xb.length cpxb_0) (V.ld rfl (Ld.sc sc24 (Rd.cl 1 rfl rfl))) <| jm (ii xc) rfl <| jm (ii xd) rfl ?_
 obtain ⟨r43, hr44, h⟩ := ob h
 refine J.op rfl (A.call (L1 := [Row Hp.nil 111 (.cons (.int .i64) (.cons (.int .i64) (.cons (.int .i64) (.cons (.int .i64) (.one .bool))))) (.slice (some ⟨b40, 0, none⟩) ((([] : List (Int × Int × Int × Int × Bool))).length) 0) (([] : List (Int × Int × Int × Int × Bool)))]) Try.call69 rfl (ref16_slots_rkkii_ok fxa_0 fxb_0 hr44) rfl rfl) ?_
 rintro _ _ _ ⟨v49, _, rfl, ⟨⟨l45, ad46, cp47, rfl, rfl, rfl⟩, rfl⟩, _, rfl⟩
 refine J.wit Row.hn fun hn48 => ja (.slice ad46 l45.length cp47) rfl <| ja (ii 0) rfl <| J.nil <| CJ.ret ?_
 obtain rfl := si h
 exact ⟨_, _, Res.two rfl rfl rfl, ⟨l45, 0, ad46, cp47, rfl, rfl, rfl⟩, (Hp.le_refl _), fun w hs => (Sep.dropAt 1 rfl (Sep.dropAt 1 rfl hs))⟩
noncomputable def fn_ref15_Ref_l1 (xa : (List (Int × Bool))) (xc : Bool) : ((List (Int × Bool)) × Int) → Option (((List (Int × Bool)) × Int) ⊕ (List (Int × Bool))) := fun ((l734, i739) : ((List (Int × Bool)) × Int)) => cond (decide (i739 < (((xa.length : Nat) : Int)))) ((getI xa i739).bind fun x839 => (getI xa i739).bind fun x848 => cond (x848.2) ((app l734 (([(x839.1, true)] : List (Int × Bool)))).bind fun z861 => some (.inl ((z861, IntKind.wrap .i64 (i739 + 1))))) ((app l734 (([(x839.1, xc)] : List (Int × Bool)))).bind fun z870 => some (.inl ((z870, IntKind.wrap .i64 (i739 + 1)))))) (some (.inr (l734)))
noncomputable def fn_ref15_Ref (xa : (List (Int × Bool))) (xb : Int) (xc : Bool) : Option ((List (Int × Bool))) :=
  (loop (fn_ref15_Ref_l1 xa xc) ((([(xb, false)] : List (Int × Bool)), 0)) : Option ((List (Int × Bool)))).bind fun l658 => some (l658)
set_option maxRecDepth 100000 in
set_option maxHeartbeats 4000000 in
theorem ref15_Ref_ok {K : Hp} {xa : (List (Int × Bool))} {xb : Int} {xc : Bool} {adxa_0 : Option Addr} {cpxa_0 : Nat} (fxa_0 : Is K (.sl (.cons (.int .i64) (.one .bool))) [.slice adxa_0 xa.length cpxa_0] xa) {r : (List (Int × Bool))} (h : fn_ref15_Ref xa xb xc = some r) :
    Tr Try.prog 70 #[.agg #[.slice adxa_0 xa.length cpxa_0], ii xb, .bool xc] K [] (fun v K' L' => (∃ (l437 : (List (Int × Bool))) (ad438 : Option Addr) (cp439 : Nat), l437 = r ∧ .agg #[.slice ad438 l437.length cp439] = v ∧ L' = [Row Hp.nil 86 (.cons (.int .i64) (.one .bool)) (.slice ad438 l437.length cp439) l437]) ∧ K = K') := by
 refine Tr.k <| Tr.of Try.func70 rfl Try.ntmps70 rfl fun E F => ?_
 unfold fn_ref15_Ref at h
 refine cr <| jbx [.slice adxa_0 xa.length cpxa_0] rfl rfl fun b442 => jal inf26 [nos] rfl fun b443 => J.nil <| CJ.seq <| CJ.region ?_
 refine jm (ii xb) rfl <| jv (.agg #[ii xb, .bool false]) (V.build inf86 places86 rfl rfl) ?_
 refine J.op rfl (A.lit (K0 := Hp.nil) (ty := (.cons (.int .i64) (.one .bool))) (xs := ([(xb, false)] : List (Int × Bool))) Try.underlying24 inf86 rfl (by decide) rfl rfl rfl ⟨_, _, rfl, ⟨_, _, rfl, rfl, rfl, rfl⟩, rfl⟩ rfl (by decide)) ?_
 rintro _ _ _ ⟨b444, rfl, rfl, rfl⟩
 have hn445 : ([(xb, false)] : List (Int × Bool)) ≠ [] → ∃ g, (some ⟨b444, 0, none⟩ : Option Addr) = some ⟨g, 0, none⟩ := fun _ => ⟨b444, rfl⟩
 refine ja (.slice (some ⟨b444, 0, none⟩) ((([(xb, false)] : List (Int × Bool))).length) 1) rfl <| J.nil <| CJ.seq <| cr <| ja (ii 0) rfl <| J.nil ?_
 obtain ⟨o663, ho664, h⟩ := ob h
 refine CJ.meetN (fun ρ K' L' => ∃ (l658 : (List (Int × Bool))) (ad659 : Option Addr) (cp660 : Nat), l658 = o663 ∧ Fits [(6, .pointer (some ⟨b443, 0, none⟩)), (7, .slice ad659 l658.length cp660)] ρ ∧ K = K' ∧ L' = Cl b443 26 [nos] :: Row Hp.nil 86 (.cons (.int .i64) (.one .bool)) (.slice ad659 l658.length cp660) l658 :: F) ?_ ?_
 · refine CJ.block <| CJ.front 1 rfl <| CJ.front 2 rfl <| CJ.loop (fun s ρ K' L' => ∃ (l734 : (List (Int × Bool))) (i739 : Int) (ad735 : Option Addr) (cp736 : Nat), (l734, i739) = s ∧ Fits [(2, .bool xc), (3, .pointer (some ⟨b442, 0, none⟩)), (6, .pointer (some ⟨b443, 0, none⟩)), (7, .slice ad735 l734.length cp736), (8, ii i739)] ρ ∧ K = K' ∧ L' = Cl b442 26 [.slice adxa_0 xa.length cpxa_0] :: Cl b443 26 [nos] :: Row Hp.nil 86 (.cons (.int .i64) (.one .bool)) (.slice ad735 l734.length cp736) l734 :: F) ho664 ⟨([(xb, false)] : List (Int × Bool)), 0, (some ⟨b444, 0, none⟩), 1, rfl, ⟨rfl, rfl, rfl, rfl, rfl, trivial⟩, rfl, rfl⟩ ?_
   rintro s ρ _ _ r812 ⟨l734, i739, ad735, cp736, rfl, hf810, rfl, rfl⟩ h809
   obtain ⟨ρ, rfl⟩ := hf810.ex
   refine CJ.front 2 rfl <| CJ.wit Row.hn fun hn738 => CJ.seq <| cr <| jm (ii i739) rfl <| jv _ (V.fad Try.underlying26 rfl nz24 rfl) ?_
   refine jv (.slice adxa_0 xa.length cpxa_0) (V.ld rfl (Ld.sc sc24 (Rd.cl 1 rfl rfl))) <| jv (ii (((xa.length : Nat) : Int))) (V.len Try.underlying24 rfl) <| jv (.bool (decide (i739 < (((xa.length : Nat) : Int))))) (V.lss rfl rfl) <| J.nil <| cc rfl h809 (fun hc813 h809 => ?_) fun hc813 h809 => ?_
   · refine CJ.skip <| CJ.seq <| CJ.block <| CJ.mix [Row Hp.nil 86 (.cons (.int .i64) (.one .bool)) (.slice ad735 l734.length cp736) l734, Cl b442 26 [.slice adxa_0 xa.length cpxa_0], Cl b443 26 [nos]] [([0, 1, 2, 3, 4, 5, 6, 7, 8, 9, 10, 11, 12, 13, 14, 15, 16], 17)] [] [18, 19] mixO (by decide +kernel) ⟨0, rfl, 0, rfl, 0, rfl, trivial⟩ rfl rfl rfl <| JM.cons <| qm (.slice ad735 l734.length cp736) rfl <| qv _ (V.fad Try.underlying26 rfl nz24 rfl) ?_
     refine qv (.slice adxa_0 xa.length cpxa_0) (V.ld rfl (Ld.sc sc24 (Rd.cl 1 rfl rfl))) <| qm (ii i739) rfl ?_
     obtain ⟨x839, hx840, h809⟩ := ob h809
     obtain ⟨p841, p842, p843⟩ := getI_some hx840
     obtain ⟨b844, o845, e846, a847⟩ := (fxa_0).at p842
     refine qv _ (V.iad Try.underlying24 sz86 rfl e846 rfl p841 p843) <| qv _ (V.fad Try.underlying86 rfl nz3 rfl) <| qv (ii x839.1) (V.ld rfl (Ld.sc sc3 (Rd.k ((a847).fst).int (Hp.le_refl _)))) <| qv _ (V.fad Try.underlying26 rfl nz24 rfl) <| qv (.slice adxa_0 xa.length cpxa_0) (V.ld rfl (Ld.sc sc24 (Rd.cl 1 rfl rfl))) <| qm (ii i739) rfl ?_
     obtain ⟨x848, hx849, h809⟩ := ob h809
     obtain ⟨p850, p851, p852⟩ := getI_some hx849
     obtain ⟨b853, o854, e855, a856⟩ := (fxa_0).at p851
     refine qv _ (V.iad Try.underlying24 sz86 rfl e855 rfl p850 p852) <| qv _ (V.fad Try.underlying86 rfl nz4 rfl) <| qv (.bool x848.2) (V.ld rfl (Ld.sc sc4 (Rd.k (((a856).snd).one).bool (Hp.le_refl _)))) <| qm (.bool x848.2) rfl ?_
     rcases bt (x848.2) with hc857 | hc857
     · have h809 := ct hc857 h809
       refine JQ.skip rfl rfl rfl rfl hc857 <| qv (.bool true) (V.pickT rfl hc857 rfl) <| qv (.agg #[ii x839.1, .bool true]) (V.build inf86 places86 rfl rfl) <| JQ.nil ?_
       refine JA.op rfl (A.lit (K0 := Hp.nil) (ty := (.cons (.int .i64) (.one .bool))) (xs := ([(x839.1, true)] : List (Int × Bool))) Try.underlying24 inf86 rfl (by decide) rfl rfl rfl ⟨_, _, rfl, ⟨_, _, rfl, rfl, rfl, rfl⟩, rfl⟩ rfl (by decide)) ?_
       rintro _ _ _ ⟨b858, rfl, rfl, rfl⟩
       have hn859 : ([(x839.1, true)] : List (Int × Bool)) ≠ [] → ∃ g, (some ⟨b858, 0, none⟩ : Option Addr) = some ⟨g, 0, none⟩ := fun _ => ⟨b858, rfl⟩
       refine ⟨fun w hs => Hold.sub (Hp.le_refl _) ⟨1, rfl, 1, rfl, 1, rfl, trivial⟩ hs, ?_⟩
       refine JM.nil <| JQ.nil ?_
       obtain ⟨z861, hz862, h809⟩ := ob h809
       refine J.front 1 rfl <| J.op rfl (A.appR (Kr := Hp.nil) Try.underlying24 inf86 rfl rfl (by decide) (by decide) rfl rfl (Els.flat rfl) (Els.flat rfl) hz862) ?_
       rintro _ _ _ ⟨v863, rfl, rfl, rfl⟩
       refine J.wit Row.form ?_
       rintro ⟨ad864, cp865, rfl, _, _, hn866⟩
       refine ja (.slice ad864 z861.length cp865) rfl <| J.nil <| CJ.region <| jm (ii i739) rfl <| jv (ii (IntKind.wrap .i64 (i739 + 1))) (V.add rfl rfl) <| ja (ii (IntKind.wrap .i64 (i739 + 1))) rfl <| J.front 2 rfl ?_
       refine J.front 2 rfl <| J.nil ?_
       obtain rfl := si h809
       exact ⟨rfl, ⟨z861, IntKind.wrap .i64 (i739 + 1), ad864, cp865, rfl, ⟨rfl, rfl, rfl, rfl, rfl, trivial⟩, rfl, rfl⟩⟩
     have h809 := cf hc857 h809
     refine JQ.run rfl rfl rfl hc857 <| qm (.bool xc) rfl <| qv (.bool xc) (V.pickF rfl hc857 rfl) <| qv (.agg #[ii x839.1, .bool xc]) (V.build inf86 places86 rfl rfl) <| JQ.nil ?_
     refine JA.op rfl (A.lit (K0 := Hp.nil) (ty := (.cons (.int .i64) (.one .bool))) (xs := ([(x839.1, xc)] : List (Int × Bool))) Try.underlying24 inf86 rfl (by decide) rfl rfl rfl ⟨_, _, rfl, ⟨_, _, rfl, rfl, rfl, rfl⟩, rfl⟩ rfl (by decide)) ?_
     rintro _ _ _ ⟨b867, rfl, rfl, rfl⟩
     have hn868 : ([(x839.1, xc)] : List (Int × Bool)) ≠ [] → ∃ g, (some ⟨b867, 0, none⟩ : Option Addr) = some ⟨g, 0, none⟩ := fun _ => ⟨b867, rfl⟩
     refine ⟨fun w hs => Hold.sub (Hp.le_refl _) ⟨1, rfl, 1, rfl, 1, rfl, trivial⟩ hs, ?_⟩
     refine JM.nil <| JQ.nil ?_
     obtain ⟨z870, hz871, h809⟩ := ob h809
     refine J.front 1 rfl <| J.op rfl (A.appR (Kr := Hp.nil) Try.underlying24 inf86 rfl rfl (by decide) (by decide) rfl rfl (Els.flat rfl) (Els.flat rfl) hz871) ?_
     rintro _ _ _ ⟨v872, rfl, rfl, rfl⟩
     refine J.wit Row.form ?_
     rintro ⟨ad873, cp874, rfl, _, _, hn875⟩
     refine ja (.slice ad873 z870.length cp874) rfl <| J.nil <| CJ.region <| jm (ii i739) rfl <| jv (ii (IntKind.wrap .i64 (i739 + 1))) (V.add rfl rfl) <| ja (ii (IntKind.wrap .i64 (i739 + 1))) rfl <| J.front 2 rfl ?_
     refine J.front 2 rfl <| J.nil ?_
     obtain rfl := si h809
     exact ⟨rfl, ⟨z870, IntKind.wrap .i64 (i739 + 1), ad873, cp874, rfl, ⟨rfl, rfl, rfl, rfl, rfl, trivial⟩, rfl, rfl⟩⟩
   refine CJ.dropAt 1 rfl <| CJ.front 1 rfl <| CJ.exit ?_
   obtain rfl := si h809
   refine ⟨nofun, fun e => ?_⟩
   subst e
   exact ⟨rfl, ⟨l734, ad735, cp736, rfl, ⟨rfl, rfl, trivial⟩, rfl, rfl⟩⟩
 rintro ρ _ _ ⟨l658, ad659, cp660, rfl, hf876, rfl, rfl⟩
 obtain ⟨ρ, rfl⟩ := hf876.ex
 refine PJ.front 1 rfl <| PJ.wit Row.hn fun hn662 => PJ.done <| cr <| jm (.slice ad659 l658.length cp660) rfl <| jv (.agg #[.slice ad659 l658.length cp660]) (V.build inf26 places26 rfl rfl) ?_
 refine J.front 1 rfl <| js [.slice ad659 l658.length cp660] sz26 rfl rfl rfl rfl rfl rfl <| J.nil <| CJ.ret ?_
 obtain rfl := si h
 exact ⟨_, _, Res.one rfl ⟨_, _, rfl, Ld.agg (cs := [.slice ad659 l658.length cp660]) Try.underlying26 sz26 rfl (Rd.cls 0 0 rfl rfl)⟩, ⟨l658, ad659, cp660, rfl, rfl, rfl⟩, (Hp.le_refl _), fun w hs => (Sep.dropAt 0 rfl hs)⟩

noncomputable def fn_ref16_Loan (xa : (List (Int × Bool))) (xb : (List (Int × Bool))) (xc : Int) (xd : Bool) : Option (((List (Int × Int × Int × Int × Bool)) × Int)) :=
  (fn_ref15_Ref xa xc xd).bind fun l117 => (fn_ref15_Shape l117 xb).bind fun t130 => cond (!t130) (some (([], 8))) ((getI xb 0).bind fun x136 => (subL xb 1 (((xb.length : Nat) : Int))).bind fun y165 => (fn_ref16_slots_rkkii xa y165 1 1 (([(xc, x136.1, 2, 0, false)] : List (Int × Int × Int × Int × Bool)))).bind fun l173 => some ((l173, 0)))
set_option maxRecDepth 100000 in
set_option maxHeartbeats 4000000 in
theorem ref16_Loan_ok {K : Hp} {xa : (List (Int × Bool))} {xb : (List (Int × Bool))} {xc : Int} {xd : Bool} {adxa_0 : Option Addr} {cpxa_0 : Nat} {adxb_0 : Option Addr} {cpxb_0 : Nat} (fxa_0 : Is K (.sl (.cons (.int .i64) (.one .bool))) [.slice adxa_0 xa.length cpxa_0] xa) (fxb_0 : Is K (.sl (.cons (.int .i64) (.one .bool))) [.slice adxb_0 xb.length cpxb_0] xb) {r : ((List (Int × Int × Int × Int × Bool)) × Int)} (h : fn_ref16_Loan xa xb xc xd = some r) :
    Tr Try.prog 54 #[.agg #[.slice adxa_0 xa.length cpxa_0], .agg #[.slice adxb_0 xb.length cpxb_0], ii xc, .bool xd] K [] (fun v K' L' => (∃ (l88 : (List (Int × Int × Int × Int × Bool))) (i93 : Int) (ad89 : Option Addr) (cp90 : Nat), (l88, i93) = r ∧ .tuple #[.slice ad89 l88.length cp90, ii i93] = v ∧ L' = [Row Hp.nil 111 (.cons (.int .i64) (.cons (.int .i64) (.cons (.int .i64) (.cons (.int .i64) (.one .bool))))) (.slice ad89 l88.length cp90) l88]) ∧ K = K') := by
 refine Tr.k <| Tr.of Try.func54 rfl Try.ntmps54 rfl fun E F => ?_
 unfold fn_ref16_Loan at h
 refine cr <| jbx [.slice adxa_0 xa.length cpxa_0] rfl rfl fun b94 => jbx [.slice adxb_0 xb.length cpxb_0] rfl rfl fun b95 => ja (nos) rfl <| ja (ii 0) rfl <| J.nil ?_
 refine CJ.seq <| CJ.seq <| CJ.mix [Cl b95 26 [.slice adxb_0 xb.length cpxb_0], Cl b94 26 [.slice adxa_0 xa.length cpxa_0]] [([0, 1, 2, 4], 3), ([], 5)] [6] [] mixO (by decide +kernel) ⟨0, rfl, 0, rfl, trivial⟩ rfl rfl rfl <| JM.cons <| qv (.agg #[.slice adxa_0 xa.length cpxa_0]) (V.ld rfl (Ld.agg (cs := [.slice adxa_0 xa.length cpxa_0]) Try.underlying26 sz26 rfl (Rd.cls 1 0 rfl rfl))) <| qm (ii xc) rfl <| qm (.bool xd) rfl ?_
 refine qv (.agg #[.slice adxb_0 xb.length cpxb_0]) (V.ld rfl (Ld.agg (cs := [.slice adxb_0 xb.length cpxb_0]) Try.underlying26 sz26 rfl (Rd.cls 0 0 rfl rfl))) <| JQ.nil ?_
 obtain ⟨r115, hr116, h⟩ := ob h
 refine JA.op rfl (A.call (L1 := []) Try.call70 rfl (ref15_Ref_ok fxa_0 hr116) rfl rfl) ?_
 rintro _ _ _ ⟨v121, _, rfl, ⟨⟨l117, ad118, cp119, rfl, rfl, rfl⟩, rfl⟩, _, rfl⟩
 refine ⟨fun w hs => Hold.sub (Hp.le_refl _) ⟨1, rfl, 1, rfl, trivial⟩ hs, ?_⟩
 refine JM.wit Row.hn fun hn120 => JM.cons <| JQ.nil ?_
 obtain ⟨r125, hr126, h⟩ := ob h
 refine JA.op rfl (A.call (L1 := [Row Hp.nil 86 (.cons (.int .i64) (.one .bool)) (.slice ad118 l117.length cp119) l117]) Try.call39 rfl (Tr.lend (Hp.nil_le _) (by decide) (fun K127 hK128 f129 => ref15_Shape_ok f129 (fxb_0.mono hK128) hr126)) rfl rfl) ?_
 rintro _ _ _ ⟨v131, _, rfl, ⟨⟨_, ⟨t130, rfl, rfl, rfl⟩, rfl⟩, rfl⟩, _, rfl⟩
 refine ⟨fun w hs => Hold.sub (Hp.le_refl _) ⟨1, rfl, 1, rfl, trivial⟩ hs, ?_⟩
 refine JM.nil <| qv (.bool (!t130)) (V.not rfl) <| JQ.nil <| J.nil <| cc rfl h (fun hc134 h => ?_) fun hc134 h => ?_
 · refine cr <| ja (nos) rfl <| ja (ii 8) rfl <| J.nil <| CJ.by (fun w hs => Sep.rowNil (e := 111) (t := (.cons (.int .i64) (.cons (.int .i64) (.cons (.int .i64) (.cons (.int .i64) (.one .bool)))))) hs) <| CJ.ret ?_
   obtain rfl := si h
   exact ⟨_, _, Res.two rfl rfl rfl, ⟨[], 8, none, 0, rfl, rfl, rfl⟩, (Hp.le_refl _), fun w hs => (Sep.dropAt 1 rfl (Sep.dropAt 1 rfl (Sep.dropAt 1 rfl hs)))⟩
 refine CJ.skip <| cr <| jm (ii xc) rfl <| jv _ (V.fad Try.underlying26 rfl nz24 rfl) <| jv (.slice adxb_0 xb.length cpxb_0) (V.ld rfl (Ld.sc sc24 (Rd.cl 1 rfl rfl))) ?_
 obtain ⟨x136, hx137, h⟩ := ob h
 obtain ⟨p138, p139, p140⟩ := getI_some hx137
 obtain ⟨b141, o142, e143, a144⟩ := (fxb_0).at p139
 refine jv _ (V.iad Try.underlying24 sz86 rfl e143 rfl p138 p140) <| jv _ (V.fad Try.underlying86 rfl nz3 rfl) <| jv (ii x136.1) (V.ld rfl (Ld.sc sc3 (Rd.k ((a144).fst).int (Hp.le_refl _)))) <| jv (.agg #[ii xc, ii x136.1, ii 2, ii 0, .bool false]) (V.build inf111 places111 rfl rfl) ?_
 refine J.op rfl (A.lit (K0 := Hp.nil) (ty := (.cons (.int .i64) (.cons (.int .i64) (.cons (.int .i64) (.cons (.int .i64) (.one .bool)))))) (xs := ([(xc, x136.1, 2, 0, false)] : List (Int × Int × Int × Int × Bool))) Try.underlying80 inf111 rfl (by decide) rfl rfl rfl ⟨_, _, rfl, ⟨_, _, rfl, rfl, rfl, ⟨_, _, rfl, rfl, rfl, ⟨_, _, rfl, rfl, rfl, ⟨_, _, rfl, rfl, rfl, rfl⟩⟩⟩⟩, rfl⟩ rfl (by decide)) ?_
 rintro _ _ _ ⟨b145, rfl, rfl, rfl⟩
 have hn146 : ([(xc, x136.1, 2, 0, false)] : List (Int × Int × Int × Int × Bool)) ≠ [] → ∃ g, (some ⟨b145, 0, none⟩ : Option Addr) = some ⟨g, 0, none⟩ := fun _ => ⟨b145, rfl⟩
 refine ja (.slice (some ⟨b145, 0, none⟩) ((([(xc, x136.1, 2, 0, false)] : List (Int × Int × Int × Int × Bool))).length) 1) rfl <| J.nil <| CJ.seq <| CJ.mix [Row Hp.nil 86 (.cons (.int .i64) (.one .bool)) (.slice ad118 l117.length cp119) l117, Cl b95 26 [.slice adxb_0 xb.length cpxb_0], Cl b94 26 [.slice adxa_0 xa.length cpxa_0]] [([0, 1, 2, 3, 4, 5], 6)] [7, 8] [] mixO (by decide +kernel) ⟨1, rfl, 1, rfl, 1, rfl, trivial⟩ rfl rfl rfl <| JM.cons <| qm (.slice (some ⟨b145, 0, none⟩) ((([(xc, x136.1, 2, 0, false)] : List (Int × Int × Int × Int × Bool))).length) 1) rfl <| qv _ (V.fad Try.underlying26 rfl nz24 rfl) ?_
 refine qv (.slice adxa_0 xa.length cpxa_0) (V.ld rfl (Ld.sc sc24 (Rd.cl 2 rfl rfl))) <| qv _ (V.fad Try.underlying26 rfl nz24 rfl) <| qv (.slice adxb_0 xb.length cpxb_0) (V.ld rfl (Ld.sc sc24 (Rd.cl 1 rfl rfl))) ?_
 obtain ⟨y165, hy166, h⟩ := ob h
 obtain ⟨ad167, cp168, hv169, f170⟩ := V.subI (tp := (.cons (.int .i64) (.one .bool))) Try.underlying24 sz86 fxb_0 hy166
 refine qv (.slice ad167 y165.length cp168) (hv169 rfl (fun _ h => by cases h; exact ⟨_, rfl⟩) nofun nofun (fun _ => rfl)) <| JQ.nil ?_
 obtain ⟨r171, hr172, h⟩ := ob h
 refine JA.op rfl (A.call (L1 := [Row Hp.nil 111 (.cons (.int .i64) (.cons (.int .i64) (.cons (.int .i64) (.cons (.int .i64) (.one .bool))))) (.slice (some ⟨b145, 0, none⟩) ((([(xc, x136.1, 2, 0, false)] : List (Int × Int × Int × Int × Bool))).length) 1) (([(xc, x136.1, 2, 0, false)] : List (Int × Int × Int × Int × Bool)))]) Try.call69 rfl (ref16_slots_rkkii_ok fxa_0 f170 hr172) rfl rfl) ?_
 rintro _ _ _ ⟨v177, _, rfl, ⟨⟨l173, ad174, cp175, rfl, rfl, rfl⟩, rfl⟩, _, rfl⟩
 refine ⟨fun w hs => Hold.sub (Hp.le_refl _) ⟨1, rfl, 1, rfl, 1, rfl, trivial⟩ hs, ?_⟩
 refine JM.wit Row.hn fun hn176 => JM.nil <| qa (.slice ad174 l173.length cp175) rfl <| qa (ii 0) rfl <| JQ.nil <| J.nil <| CJ.ret ?_
 obtain rfl := si h
 exact ⟨_, _, Res.two rfl rfl rfl, ⟨l173, 0, ad174, cp175, rfl, rfl, rfl⟩, (Hp.le_refl _), fun w hs => (Sep.dropAt 1 rfl (Sep.dropAt 1 rfl (Sep.dropAt 1 rfl hs)))⟩
noncomputable def fn_ref16_Again_l1 (xa : (List (Int × Bool))) (xd : Bool) : Int → Option (Int ⊕ (Unit ⊕ ((List (Int × Int × Int × Int × Bool)) × Int))) := fun (i447 : Int) => cond (decide (i447 < (((xa.length : Nat) : Int)))) ((cond (xd) ((getI xa i447).bind fun x491 => some (!x491.2)) (some (false))).bind fun t488 => cond (t488) (some (.inr ((.inr (([], 8)))))) (some (.inl (IntKind.wrap .i64 (i447 + 1))))) (some (.inr ((.inl ()))))
noncomputable def fn_ref16_Again (xa : (List (Int × Bool))) (xb : (List (Int × Bool))) (xc : Int) (xd : Bool) : Option (((List (Int × Int × Int × Int × Bool)) × Int)) :=
  (cond (decide ((((xa.length : Nat) : Int)) = 0)) (some (true)) ((fn_ref15_Shape xa xb).bind fun t313 => some (!t313))).bind fun t308 => (cond (t308) (some (true)) ((getI xa 0).bind fun x330 => some (x330.2))).bind fun t327 => cond (t327) (some (([], 8))) ((loop (fn_ref16_Again_l1 xa xd) 1 : Option (Unit ⊕ ((List (Int × Int × Int × Int × Bool)) × Int))).bind fun o => match o with | .inr r => some r | .inl () => (getI xa 0).bind fun x526 => (getI xb 0).bind fun x535 => (subL xa 1 (((xa.length : Nat) : Int))).bind fun y570 => (subL xb 1 (((xb.length : Nat) : Int))).bind fun y576 => (fn_ref16_slots_rkkii y570 y576 1 1 (([(x526.1, xc, 3, 0, false), (xc, x535.1, 2, 0, false)] : List (Int × Int × Int × Int × Bool)))).bind fun l584 => some ((l584, 0)))
set_option maxRecDepth 100000 in
set_option maxHeartbeats 4000000 in
theorem ref16_Again_ok {K : Hp} {xa : (List (Int × Bool))} {xb : (List (Int × Bool))} {xc : Int} {xd : Bool} {adxa_0 : Option Addr} {cpxa_0 : Nat} {adxb_0 : Option Addr} {cpxb_0 : Nat} (fxa_0 : Is K (.sl (.cons (.int .i64) (.one .bool))) [.slice adxa_0 xa.length cpxa_0] xa) (fxb_0 : Is K (.sl (.cons (.int .i64) (.one .bool))) [.slice adxb_0 xb.length cpxb_0] xb) {r : ((List (Int × Int × Int × Int × Bool)) × Int)} (h : fn_ref16_Again xa xb xc xd = some r) :
    Tr Try.prog 55 #[.agg #[.slice adxa_0 xa.length cpxa_0], .agg #[.slice adxb_0 xb.length cpxb_0], ii xc, .bool xd] K [] (fun v K' L' => (∃ (l293 : (List (Int × Int × Int × Int × Bool))) (i298 : Int) (ad294 : Option Addr) (cp295 : Nat), (l293, i298) = r ∧ .tuple #[.slice ad294 l293.length cp295, ii i298] = v ∧ L' = [Row Hp.nil 111 (.cons (.int .i64) (.cons (.int .i64) (.cons (.int .i64) (.cons (.int .i64) (.one .bool))))) (.slice ad294 l293.length cp295) l293]) ∧ K = K') := by
 refine Tr.k <| Tr.of Try.func55 rfl Try.ntmps55 rfl fun E F => ?_
 unfold fn_ref16_Again at h
 refine cr <| jbx [.slice adxa_0 xa.length cpxa_0] rfl rfl fun b299 => jbx [.slice adxb_0 xb.length cpxb_0] rfl rfl fun b300 => ja (nos) rfl <| ja (ii 0) rfl <| J.nil ?_
 refine CJ.seq <| cr <| jv _ (V.fad Try.underlying26 rfl nz24 rfl) <| jv (.slice adxa_0 xa.length cpxa_0) (V.ld rfl (Ld.sc sc24 (Rd.cl 1 rfl rfl))) <| jv (ii (((xa.length : Nat) : Int))) (V.len Try.underlying24 rfl) <| jv (.bool (decide ((((xa.length : Nat) : Int)) = 0))) (V.eql rfl rfl) ?_
 refine jm (.bool (decide ((((xa.length : Nat) : Int)) = 0))) rfl <| J.cut 5 ?_
 obtain ⟨t308, ht309, h⟩ := ob h
 refine jmeet [(21, .bool t308), (2, ii xc), (3, .bool xd), (4, .pointer (some ⟨b299, 0, none⟩)), (5, .pointer (some ⟨b300, 0, none⟩))] ?_ ?_
 · rcases bt (decide ((((xa.length : Nat) : Int)) = 0)) with hc310 | hc310
   · have ht309 := ct hc310 ht309
     refine J.skip rfl rfl rfl rfl hc310 <| J.skip rfl rfl rfl rfl hc310 <| J.skip rfl rfl rfl rfl hc310 <| J.skip rfl rfl rfl rfl hc310 <| jv (.bool true) (V.pickT rfl hc310 rfl) <| J.nil ?_
     obtain rfl := si ht309
     exact ⟨rfl, ⟨rfl, rfl, rfl, rfl, rfl, trivial⟩, rfl, rfl⟩
   have ht309 := cf hc310 ht309
   refine J.run rfl rfl rfl hc310 <| jv (.agg #[.slice adxa_0 xa.length cpxa_0]) (V.ld rfl (Ld.agg (cs := [.slice adxa_0 xa.length cpxa_0]) Try.underlying26 sz26 rfl (Rd.cls 1 0 rfl rfl))) <| J.run rfl rfl rfl hc310 <| jv (.agg #[.slice adxb_0 xb.length cpxb_0]) (V.ld rfl (Ld.agg (cs := [.slice adxb_0 xb.length cpxb_0]) Try.underlying26 sz26 rfl (Rd.cls 0 0 rfl rfl))) <| J.run rfl rfl rfl hc310 ?_
   obtain ⟨r311, hr312, ht309⟩ := ob ht309
   refine J.op rfl (A.call (L1 := []) Try.call39 rfl (ref15_Shape_ok fxa_0 fxb_0 hr312) rfl rfl) ?_
   rintro _ _ _ ⟨v314, _, rfl, ⟨⟨t313, rfl, rfl, rfl⟩, rfl⟩, _, rfl⟩
   refine J.run rfl rfl rfl hc310 <| jv (.bool (!t313)) (V.not rfl) <| jv (.bool (!t313)) (V.pickF rfl hc310 rfl) <| J.nil ?_
   obtain rfl := si ht309
   exact ⟨rfl, ⟨rfl, rfl, rfl, rfl, rfl, trivial⟩, rfl, rfl⟩
 intro ρ
 refine jm (.bool t308) rfl <| J.cut 6 ?_
 obtain ⟨t327, ht328, h⟩ := ob h
 refine jmeet [(28, .bool t327), (2, ii xc), (3, .bool xd), (4, .pointer (some ⟨b299, 0, none⟩)), (5, .pointer (some ⟨b300, 0, none⟩))] ?_ ?_
 · rcases bt (t308) with hc329 | hc329
   · have ht328 := ct hc329 ht328
     refine J.skip rfl rfl rfl rfl hc329 <| J.skip rfl rfl rfl rfl hc329 <| J.skip rfl rfl rfl rfl hc329 <| J.skip rfl rfl rfl rfl hc329 <| J.skip rfl rfl rfl rfl hc329 <| jv (.bool true) (V.pickT rfl hc329 rfl) <| J.nil ?_
     obtain rfl := si ht328
     exact ⟨rfl, ⟨rfl, rfl, rfl, rfl, rfl, trivial⟩, rfl, rfl⟩
   have ht328 := cf hc329 ht328
   refine J.run rfl rfl rfl hc329 <| jv _ (V.fad Try.underlying26 rfl nz24 rfl) <| J.run rfl rfl rfl hc329 <| jv (.slice adxa_0 xa.length cpxa_0) (V.ld rfl (Ld.sc sc24 (Rd.cl 1 rfl rfl))) <| J.run rfl rfl rfl hc329 ?_
   obtain ⟨x330, hx331, ht328⟩ := ob ht328
   obtain ⟨p332, p333, p334⟩ := getI_some hx331
   obtain ⟨b335, o336, e337, a338⟩ := (fxa_0).at p333
   refine jv _ (V.iad Try.underlying24 sz86 rfl e337 rfl p332 p334) <| J.run rfl rfl rfl hc329 <| jv _ (V.fad Try.underlying86 rfl nz4 rfl) <| J.run rfl rfl rfl hc329 <| jv (.bool x330.2) (V.ld rfl (Ld.sc sc4 (Rd.k (((a338).snd).one).bool (Hp.le_refl _)))) <| jv (.bool x330.2) (V.pickF rfl hc329 rfl) <| J.nil ?_
   obtain rfl := si ht328
   exact ⟨rfl, ⟨rfl, rfl, rfl, rfl, rfl, trivial⟩, rfl, rfl⟩
 intro ρ
 refine J.nil <| cc rfl h (fun hc339 h => ?_) fun hc339 h => ?_
 · refine cr <| ja (nos) rfl <| ja (ii 8) rfl <| J.nil <| CJ.by (fun w hs => Sep.rowNil (e := 111) (t := (.cons (.int .i64) (.cons (.int .i64) (.cons (.int .i64) (.cons (.int .i64) (.one .bool)))))) hs) <| CJ.ret ?_
   obtain rfl := si h
   exact ⟨_, _, Res.two rfl rfl rfl, ⟨[], 8, none, 0, rfl, rfl, rfl⟩, (Hp.le_refl _), fun w hs => (Sep.dropAt 1 rfl (Sep.dropAt 1 rfl hs))⟩
 refine CJ.skip <| CJ.seq <| cr <| ja (ii 1) rfl <| J.nil ?_
 obtain ⟨o420, ho421, h⟩ := ob h
 refine CJ.joinN (o := o420) (fun s ρ K' L' => () = s ∧ Fits [(2, ii xc), (4, .pointer (some ⟨b299, 0, none⟩)), (5, .pointer (some ⟨b300, 0, none⟩))] ρ ∧ K = K' ∧ L' = Cl b299 26 [.slice adxa_0 xa.length cpxa_0] :: Cl b300 26 [.slice adxb_0 xb.length cpxb_0] :: F) ?_ ?_
 · refine CJ.block <| CJ.front 1 rfl <| CJ.loop (fun s ρ K' L' => ∃ (i447 : Int), i447 = s ∧ Fits [(2, ii xc), (3, .bool xd), (4, .pointer (some ⟨b299, 0, none⟩)), (5, .pointer (some ⟨b300, 0, none⟩)), (10, ii i447)] ρ ∧ K = K' ∧ L' = Cl b299 26 [.slice adxa_0 xa.length cpxa_0] :: Cl b300 26 [.slice adxb_0 xb.length cpxb_0] :: F) ho421 ⟨1, rfl, ⟨rfl, rfl, rfl, rfl, rfl, trivial⟩, rfl, rfl⟩ ?_
   rintro s ρ _ _ r476 ⟨i447, rfl, hf474, rfl, rfl⟩ h473
   obtain ⟨ρ, rfl⟩ := hf474.ex
   refine CJ.seq <| cr <| jm (ii i447) rfl <| jv _ (V.fad Try.underlying26 rfl nz24 rfl) <| jv (.slice adxa_0 xa.length cpxa_0) (V.ld rfl (Ld.sc sc24 (Rd.cl 0 rfl rfl))) <| jv (ii (((xa.length : Nat) : Int))) (V.len Try.underlying24 rfl) ?_
   refine jv (.bool (decide (i447 < (((xa.length : Nat) : Int))))) (V.lss rfl rfl) <| J.nil <| cc rfl h473 (fun hc477 h473 => ?_) fun hc477 h473 => ?_
   · refine CJ.skip <| CJ.seq <| CJ.block <| cr <| jm (.bool xd) rfl <| jm (.bool xd) rfl ?_
     refine J.cut 8 ?_
     obtain ⟨t488, ht489, h473⟩ := ob h473
     refine jmeet [(45, .bool t488), (2, ii xc), (3, .bool xd), (4, .pointer (some ⟨b299, 0, none⟩)), (5, .pointer (some ⟨b300, 0, none⟩)), (10, ii i447)] ?_ ?_
     · rcases bt (xd) with hc490 | hc490
       · have ht489 := ct hc490 ht489
         refine J.run rfl rfl rfl hc490 <| jv _ (V.fad Try.underlying26 rfl nz24 rfl) <| J.run rfl rfl rfl hc490 <| jv (.slice adxa_0 xa.length cpxa_0) (V.ld rfl (Ld.sc sc24 (Rd.cl 0 rfl rfl))) <| J.run rfl rfl rfl hc490 <| jm (ii i447) rfl <| J.run rfl rfl rfl hc490 ?_
         obtain ⟨x491, hx492, ht489⟩ := ob ht489
         obtain ⟨p493, p494, p495⟩ := getI_some hx492
         obtain ⟨b496, o497, e498, a499⟩ := (fxa_0).at p494
         refine jv _ (V.iad Try.underlying24 sz86 rfl e498 rfl p493 p495) <| J.run rfl rfl rfl hc490 <| jv _ (V.fad Try.underlying86 rfl nz4 rfl) <| J.run rfl rfl rfl hc490 <| jv (.bool x491.2) (V.ld rfl (Ld.sc sc4 (Rd.k (((a499).snd).one).bool (Hp.le_refl _)))) <| J.run rfl rfl rfl hc490 <| jv (.bool (!x491.2)) (V.not rfl) ?_
         refine jv (.bool (!x491.2)) (V.pickT rfl hc490 rfl) <| J.nil ?_
         obtain rfl := si ht489
         exact ⟨rfl, ⟨rfl, rfl, rfl, rfl, rfl, rfl, trivial⟩, rfl, rfl⟩
       have ht489 := cf hc490 ht489
       refine J.skip rfl rfl rfl rfl hc490 <| J.skip rfl rfl rfl rfl hc490 <| J.skip rfl rfl rfl rfl hc490 <| J.skip rfl rfl rfl rfl hc490 <| J.skip rfl rfl rfl rfl hc490 <| J.skip rfl rfl rfl rfl hc490 <| J.skip rfl rfl rfl rfl hc490 ?_
       refine jv (.bool false) (V.pickF rfl hc490 rfl) <| J.nil ?_
       obtain rfl := si ht489
       exact ⟨rfl, ⟨rfl, rfl, rfl, rfl, rfl, rfl, trivial⟩, rfl, rfl⟩
     intro ρ
     refine J.nil <| cc rfl h473 (fun hc500 h473 => ?_) fun hc500 h473 => ?_
     · refine cr <| ja (nos) rfl <| ja (ii 8) rfl <| J.nil <| CJ.by (fun w hs => Sep.rowNil (e := 111) (t := (.cons (.int .i64) (.cons (.int .i64) (.cons (.int .i64) (.cons (.int .i64) (.one .bool)))))) hs) <| CJ.ret ?_
       obtain rfl := si h473
       refine ⟨nofun, fun e => ?_⟩
       subst e
       refine .inr ⟨nofun, ?_⟩
       obtain rfl := si h
       exact ⟨_, _, Res.two rfl rfl rfl, ⟨[], 8, none, 0, rfl, rfl, rfl⟩, (Hp.le_refl _), fun w hs => (Sep.dropAt 1 rfl (Sep.dropAt 1 rfl hs))⟩
     refine CJ.skip <| CJ.region <| jm (ii i447) rfl <| jv (ii (IntKind.wrap .i64 (i447 + 1))) (V.add rfl rfl) <| ja (ii (IntKind.wrap .i64 (i447 + 1))) rfl <| J.nil ?_
     obtain rfl := si h473
     exact ⟨rfl, ⟨IntKind.wrap .i64 (i447 + 1), rfl, ⟨rfl, rfl, rfl, rfl, rfl, trivial⟩, rfl, rfl⟩⟩
   refine CJ.exit ?_
   obtain rfl := si h473
   refine ⟨nofun, fun e => ?_⟩
   subst e
   exact .inl ⟨rfl, _, rfl, ⟨rfl, ⟨rfl, rfl, rfl, trivial⟩, rfl, rfl⟩⟩
 rintro s ρ _ _ ho502 ⟨rfl, hf503, rfl, rfl⟩
 subst ho502
 obtain ⟨ρ, rfl⟩ := hf503.ex
 refine PJ.done <| CJ.seq <| CJ.mix [Cl b299 26 [.slice adxa_0 xa.length cpxa_0], Cl b300 26 [.slice adxb_0 xb.length cpxb_0]] [([0, 1, 2, 3, 4, 5, 6, 7, 8, 9, 10, 11, 12, 13], 14)] [15] [] mixO (by decide +kernel) ⟨0, rfl, 0, rfl, trivial⟩ rfl rfl rfl <| JM.cons <| qv _ (V.fad Try.underlying26 rfl nz24 rfl) <| qv (.slice adxa_0 xa.length cpxa_0) (V.ld rfl (Ld.sc sc24 (Rd.cl 0 rfl rfl))) ?_
 obtain ⟨x526, hx527, h⟩ := ob h
 obtain ⟨p528, p529, p530⟩ := getI_some hx527
 obtain ⟨b531, o532, e533, a534⟩ := (fxa_0).at p529
 refine qv _ (V.iad Try.underlying24 sz86 rfl e533 rfl p528 p530) <| qv _ (V.fad Try.underlying86 rfl nz3 rfl) <| qv (ii x526.1) (V.ld rfl (Ld.sc sc3 (Rd.k ((a534).fst).int (Hp.le_refl _)))) <| qm (ii xc) rfl <| qv (.agg #[ii x526.1, ii xc, ii 3, ii 0, .bool false]) (V.build inf111 places111 rfl rfl) <| qm (ii xc) rfl <| qv _ (V.fad Try.underlying26 rfl nz24 rfl) ?_
 refine qv (.slice adxb_0 xb.length cpxb_0) (V.ld rfl (Ld.sc sc24 (Rd.cl 1 rfl rfl))) ?_
 obtain ⟨x535, hx536, h⟩ := ob h
 obtain ⟨p537, p538, p539⟩ := getI_some hx536
 obtain ⟨b540, o541, e542, a543⟩ := (fxb_0).at p538
 refine qv _ (V.iad Try.underlying24 sz86 rfl e542 rfl p537 p539) <| qv _ (V.fad Try.underlying86 rfl nz3 rfl) <| qv (ii x535.1) (V.ld rfl (Ld.sc sc3 (Rd.k ((a543).fst).int (Hp.le_refl _)))) <| qv (.agg #[ii xc, ii x535.1, ii 2, ii 0, .bool false]) (V.build inf111 places111 rfl rfl) <| JQ.nil ?_
 refine JA.op rfl (A.lit (K0 := Hp.nil) (ty := (.cons (.int .i64) (.cons (.int .i64) (.cons (.int .i64) (.cons (.int .i64) (.one .bool)))))) (xs := ([(x526.1, xc, 3, 0, false), (xc, x535.1, 2, 0, false)] : List (Int × Int × Int × Int × Bool))) Try.underlying80 inf111 rfl (by decide) rfl rfl rfl ⟨_, _, rfl, ⟨_, _, rfl, rfl, rfl, ⟨_, _, rfl, rfl, rfl, ⟨_, _, rfl, rfl, rfl, ⟨_, _, rfl, rfl, rfl, rfl⟩⟩⟩⟩, ⟨_, _, rfl, ⟨_, _, rfl, rfl, rfl, ⟨_, _, rfl, rfl, rfl, ⟨_, _, rfl, rfl, rfl, ⟨_, _, rfl, rfl, rfl, rfl⟩⟩⟩⟩, rfl⟩⟩ rfl (by decide)) ?_
 rintro _ _ _ ⟨b544, rfl, rfl, rfl⟩
 have hn545 : ([(x526.1, xc, 3, 0, false), (xc, x535.1, 2, 0, false)] : List (Int × Int × Int × Int × Bool)) ≠ [] → ∃ g, (some ⟨b544, 0, none⟩ : Option Addr) = some ⟨g, 0, none⟩ := fun _ => ⟨b544, rfl⟩
 refine ⟨fun w hs => Hold.sub (Hp.le_refl _) ⟨1, rfl, 1, rfl, trivial⟩ hs, ?_⟩
 refine JM.nil <| qa (.slice (some ⟨b544, 0, none⟩) ((([(x526.1, xc, 3, 0, false), (xc, x535.1, 2, 0, false)] : List (Int × Int × Int × Int × Bool))).length) 2) rfl <| JQ.nil <| J.nil <| CJ.seq <| CJ.mix [Cl b299 26 [.slice adxa_0 xa.length cpxa_0], Cl b300 26 [.slice adxb_0 xb.length cpxb_0]] [([0, 1, 2, 3, 4, 5, 6], 7)] [8, 9] [] mixO (by decide +kernel) ⟨1, rfl, 1, rfl, trivial⟩ rfl rfl rfl <| JM.cons ?_
 refine qm (.slice (some ⟨b544, 0, none⟩) ((([(x526.1, xc, 3, 0, false), (xc, x535.1, 2, 0, false)] : List (Int × Int × Int × Int × Bool))).length) 2) rfl <| qv _ (V.fad Try.underlying26 rfl nz24 rfl) <| qv (.slice adxa_0 xa.length cpxa_0) (V.ld rfl (Ld.sc sc24 (Rd.cl 0 rfl rfl))) ?_
 obtain ⟨y570, hy571, h⟩ := ob h
 obtain ⟨ad572, cp573, hv574, f575⟩ := V.subI (tp := (.cons (.int .i64) (.one .bool))) Try.underlying24 sz86 fxa_0 hy571
 refine qv (.slice ad572 y570.length cp573) (hv574 rfl (fun _ h => by cases h; exact ⟨_, rfl⟩) nofun nofun (fun _ => rfl)) <| qv _ (V.fad Try.underlying26 rfl nz24 rfl) <| qv (.slice adxb_0 xb.length cpxb_0) (V.ld rfl (Ld.sc sc24 (Rd.cl 1 rfl rfl))) ?_
 obtain ⟨y576, hy577, h⟩ := ob h
 obtain ⟨ad578, cp579, hv580, f581⟩ := V.subI (tp := (.cons (.int .i64) (.one .bool))) Try.underlying24 sz86 fxb_0 hy577
 refine qv (.slice ad578 y576.length cp579) (hv580 rfl (fun _ h => by cases h; exact ⟨_, rfl⟩) nofun nofun (fun _ => rfl)) <| JQ.nil ?_
 obtain ⟨r582, hr583, h⟩ := ob h
 refine JA.op rfl (A.call (L1 := [Row Hp.nil 111 (.cons (.int .i64) (.cons (.int .i64) (.cons (.int .i64) (.cons (.int .i64) (.one .bool))))) (.slice (some ⟨b544, 0, none⟩) ((([(x526.1, xc, 3, 0, false), (xc, x535.1, 2, 0, false)] : List (Int × Int × Int × Int × Bool))).length) 2) (([(x526.1, xc, 3, 0, false), (xc, x535.1, 2, 0, false)] : List (Int × Int × Int × Int × Bool)))]) Try.call69 rfl (ref16_slots_rkkii_ok f575 f581 hr583) rfl rfl) ?_
 rintro _ _ _ ⟨v588, _, rfl, ⟨⟨l584, ad585, cp586, rfl, rfl, rfl⟩, rfl⟩, _, rfl⟩
 refine ⟨fun w hs => Hold.sub (Hp.le_refl _) ⟨1, rfl, 1, rfl, trivial⟩ hs, ?_⟩
 refine JM.wit Row.hn fun hn587 => JM.nil <| qa (.slice ad585 l584.length cp586) rfl <| qa (ii 0) rfl <| JQ.nil <| J.nil <| CJ.ret ?_
 obtain rfl := si h
 exact ⟨_, _, Res.two rfl rfl rfl, ⟨l584, 0, ad585, cp586, rfl, rfl, rfl⟩, (Hp.le_refl _), fun w hs => (Sep.dropAt 1 rfl (Sep.dropAt 1 rfl hs))⟩

noncomputable def fn_ref18_Needs (xa : (Int × Int × Int × Int × Bool)) (xb : (List (List (Int × Bool)))) (xc : Int) : Option (((List (Int × Int × Int × Int × Bool)) × Int)) :=
  (fn_ref18_Form (xa.1, xa.2.1, xa.2.2.1, xa.2.2.2.1, xa.2.2.2.2)).bind fun t327 => cond (!t327) (some (([], 3))) ((fn_ref18_Dst xa.1).bind fun t335 => (cond (t335 && ((decide (xa.2.1 < 0)) || (decide ((((xb.length : Nat) : Int)) ≤ xa.2.1)))) (some (true)) ((fn_ref18_Src xa.1).bind fun t369 => some (t369 && ((decide (xa.2.2.1 < 0)) || (decide ((((xb.length : Nat) : Int)) ≤ xa.2.2.1)))))).bind fun t364 => (cond (t364) (some (true)) ((fn_ref18_Region xa.1).bind fun t403 => some (t403 && ((decide (xa.2.2.2.1 < 0)) || (decide (xc ≤ xa.2.2.2.1)))))).bind fun t398 => cond (t398) (some (([], 7))) (cond (decide (xa.1 = 1)) ((getI xb xa.2.2.1).bind fun x456 => (getI xb xa.2.1).bind fun x469 => (fn_ref16_Flow x456 x469 1 0).bind fun (l484, i485) => some ((l484, i485))) (cond (decide (xa.1 = 2)) ((getI xb xa.2.2.1).bind fun x531 => (getI xb xa.2.1).bind fun x544 => (fn_ref16_Loan x531 x544 xa.2.2.2.1 xa.2.2.2.2).bind fun (l559, i560) => some ((l559, i560))) (cond (decide (xa.1 = 3)) ((getI xb xa.2.2.1).bind fun x606 => (getI xb xa.2.1).bind fun x619 => (fn_ref16_Again x606 x619 xa.2.2.2.1 xa.2.2.2.2).bind fun (l634, i635) => some ((l634, i635))) (some (([], 0)))))))
set_option maxRecDepth 100000 in
set_option maxHeartbeats 4000000 in
theorem ref18_Needs_ok {K : Hp} {xa : (Int × Int × Int × Int × Bool)} {xb : (List (List (Int × Bool)))} {xc : Int} {adxb_0 : Option Addr} {cpxb_0 : Nat} (fxb_0 : Is K (.sl (.one (.sl (.cons (.int .i64) (.one .bool))))) [.slice adxb_0 xb.length cpxb_0] xb) {r : ((List (Int × Int × Int × Int × Bool)) × Int)} (h : fn_ref18_Needs xa xb xc = some r) :
    Tr Try.prog 41 #[.agg #[ii xa.1, ii xa.2.1, ii xa.2.2.1, ii xa.2.2.2.1, .bool xa.2.2.2.2], .slice adxb_0 xb.length cpxb_0, ii xc] K [] (fun v K' L' => (∃ (l318 : (List (Int × Int × Int × Int × Bool))) (i323 : Int) (ad319 : Option Addr) (cp320 : Nat), (l318, i323) = r ∧ .tuple #[.slice ad319 l318.length cp320, ii i323] = v ∧ L' = [Row Hp.nil 111 (.cons (.int .i64) (.cons (.int .i64) (.cons (.int .i64) (.cons (.int .i64) (.one .bool))))) (.slice ad319 l318.length cp320) l318]) ∧ K = K') := by
 refine Tr.k <| Tr.of Try.func41 rfl Try.ntmps41 rfl fun E F => ?_
 unfold fn_ref18_Needs at h
 refine cr <| jbx [ii xa.1, ii xa.2.1, ii xa.2.2.1, ii xa.2.2.2.1, .bool xa.2.2.2.2] rfl rfl fun b324 => ja (nos) rfl <| ja (ii 0) rfl <| J.nil <| CJ.seq ?_
 refine cr <| jv (.agg #[ii xa.1, ii xa.2.1, ii xa.2.2.1, ii xa.2.2.2.1, .bool xa.2.2.2.2]) (V.ld rfl (Ld.agg (cs := [ii xa.1, ii xa.2.1, ii xa.2.2.1, ii xa.2.2.2.1, .bool xa.2.2.2.2]) Try.underlying76 sz76 rfl (Rd.cls 0 0 rfl rfl))) ?_
 obtain ⟨r325, hr326, h⟩ := ob h
 refine J.op rfl (A.call (L1 := []) Try.call49 rfl (ref18_Form_ok hr326) rfl rfl) ?_
 rintro _ _ _ ⟨v328, _, rfl, ⟨⟨t327, rfl, rfl, rfl⟩, rfl⟩, _, rfl⟩
 refine jv (.bool (!t327)) (V.not rfl) <| J.nil <| cc rfl h (fun hc331 h => ?_) fun hc331 h => ?_
 · refine cr <| ja (nos) rfl <| ja (ii 3) rfl <| J.nil <| CJ.by (fun w hs => Sep.rowNil (e := 111) (t := (.cons (.int .i64) (.cons (.int .i64) (.cons (.int .i64) (.cons (.int .i64) (.one .bool)))))) hs) <| CJ.ret ?_
   obtain rfl := si h
   exact ⟨_, _, Res.two rfl rfl rfl, ⟨[], 3, none, 0, rfl, rfl, rfl⟩, (Hp.le_refl _), fun w hs => (Sep.dropAt 1 rfl hs)⟩
 refine CJ.skip <| CJ.seq <| cr <| jv _ (V.fad Try.underlying76 rfl nz3 rfl) <| jv (ii xa.1) (V.ld rfl (Ld.sc sc3 (Rd.cl 0 rfl rfl))) ?_
 obtain ⟨r333, hr334, h⟩ := ob h
 refine J.op rfl (A.call (L1 := []) Try.call50 rfl (ref18_Dst_ok hr334) rfl rfl) ?_
 rintro _ _ _ ⟨v336, _, rfl, ⟨⟨t335, rfl, rfl, rfl⟩, rfl⟩, _, rfl⟩
 refine jm (.bool t335) rfl <| J.cut 11 <| jmeet [(25, .bool (t335 && ((decide (xa.2.1 < 0)) || (decide ((((xb.length : Nat) : Int)) ≤ xa.2.1))))), (1, .slice adxb_0 xb.length cpxb_0), (2, ii xc), (3, .pointer (some ⟨b324, 0, none⟩))] ?_ ?_
 · rcases bt (t335) with hc344 | hc344
   · refine J.run rfl rfl rfl hc344 <| jv _ (V.fad Try.underlying76 rfl nz3 rfl) <| J.run rfl rfl rfl hc344 <| jv (ii xa.2.1) (V.ld rfl (Ld.sc sc3 (Rd.cl 0 rfl rfl))) <| J.run rfl rfl rfl hc344 <| jv (.bool (decide (xa.2.1 < 0))) (V.lss rfl rfl) <| J.run rfl rfl rfl hc344 ?_
     refine jm (.bool (decide (xa.2.1 < 0))) rfl <| J.cut 6 <| jmeet [(24, .bool ((decide (xa.2.1 < 0)) || (decide ((((xb.length : Nat) : Int)) ≤ xa.2.1)))), (1, .slice adxb_0 xb.length cpxb_0), (2, ii xc), (3, .pointer (some ⟨b324, 0, none⟩)), (14, .bool t335)] ?_ ?_
     · rcases bt (decide (xa.2.1 < 0)) with hc347 | hc347
       · refine J.skip rfl rfl rfl rfl hc347 <| J.skip rfl rfl rfl rfl hc347 <| J.skip rfl rfl rfl rfl hc347 <| J.skip rfl rfl rfl rfl hc347 <| J.skip rfl rfl rfl rfl hc347 <| J.run rfl rfl rfl hc344 <| jv (.bool true) (V.pickT rfl hc347 rfl) ?_
         refine J.nil ?_
         exact ⟨rfl, ⟨(by simp only [hc347]; rfl), rfl, rfl, rfl, rfl, trivial⟩, rfl, rfl⟩
       refine J.run rfl rfl rfl hc347 <| jv _ (V.fad Try.underlying76 rfl nz3 rfl) <| J.run rfl rfl rfl hc347 <| jv (ii xa.2.1) (V.ld rfl (Ld.sc sc3 (Rd.cl 0 rfl rfl))) <| J.run rfl rfl rfl hc347 <| jm (.slice adxb_0 xb.length cpxb_0) rfl <| J.run rfl rfl rfl hc347 ?_
       refine jv (ii (((xb.length : Nat) : Int))) (V.len Try.underlying23 rfl) <| J.run rfl rfl rfl hc347 <| jv (.bool (decide ((((xb.length : Nat) : Int)) ≤ xa.2.1))) (V.geq rfl rfl) <| J.run rfl rfl rfl hc344 <| jv (.bool (decide ((((xb.length : Nat) : Int)) ≤ xa.2.1))) (V.pickF rfl hc347 rfl) <| J.nil ?_
       exact ⟨rfl, ⟨(by simp only [hc347]; rfl), rfl, rfl, rfl, rfl, trivial⟩, rfl, rfl⟩
     intro ρ
     refine jv (.bool ((decide (xa.2.1 < 0)) || (decide ((((xb.length : Nat) : Int)) ≤ xa.2.1)))) (V.pickT rfl hc344 rfl) <| J.nil ?_
     exact ⟨rfl, ⟨(by simp only [hc344]; rfl), rfl, rfl, rfl, trivial⟩, rfl, rfl⟩
   refine J.skip rfl rfl rfl rfl hc344 <| J.skip rfl rfl rfl rfl hc344 <| J.skip rfl rfl rfl rfl hc344 <| J.skip rfl rfl rfl rfl hc344 <| J.skipu rfl rfl rfl rfl <| J.skipu rfl rfl rfl rfl <| J.skipu rfl rfl rfl rfl ?_
   refine J.skipu rfl rfl rfl rfl <| J.skipu rfl rfl rfl rfl <| J.skip rfl rfl rfl rfl hc344 <| jv (.bool false) (V.pickF rfl hc344 rfl) <| J.nil ?_
   exact ⟨rfl, ⟨(by simp only [hc344]; rfl), rfl, rfl, rfl, trivial⟩, rfl, rfl⟩
 intro ρ
 refine jm (.bool (t335 && ((decide (xa.2.1 < 0)) || (decide ((((xb.length : Nat) : Int)) ≤ xa.2.1))))) rfl <| J.cut 16 ?_
 obtain ⟨t364, ht365, h⟩ := ob h
 refine jmeet [(42, .bool t364), (1, .slice adxb_0 xb.length cpxb_0), (2, ii xc), (3, .pointer (some ⟨b324, 0, none⟩))] ?_ ?_
 · rcases bt (t335 && ((decide (xa.2.1 < 0)) || (decide ((((xb.length : Nat) : Int)) ≤ xa.2.1)))) with hc366 | hc366
   · have ht365 := ct hc366 ht365
     refine J.skip rfl rfl rfl rfl hc366 <| J.skip rfl rfl rfl rfl hc366 <| J.skip rfl rfl rfl rfl hc366 <| J.skip rfl rfl rfl rfl hc366 <| J.skipu rfl rfl rfl rfl <| J.skipu rfl rfl rfl rfl <| J.skipu rfl rfl rfl rfl ?_
     refine J.skipu rfl rfl rfl rfl <| J.skipu rfl rfl rfl rfl <| J.skipu rfl rfl rfl rfl <| J.skipu rfl rfl rfl rfl <| J.skipu rfl rfl rfl rfl <| J.skipu rfl rfl rfl rfl <| J.skipu rfl rfl rfl rfl ?_
     refine J.skip rfl rfl rfl rfl hc366 <| jv (.bool true) (V.pickT rfl hc366 rfl) <| J.nil ?_
     obtain rfl := si ht365
     exact ⟨rfl, ⟨rfl, rfl, rfl, rfl, trivial⟩, rfl, rfl⟩
   have ht365 := cf hc366 ht365
   refine J.run rfl rfl rfl hc366 <| jv _ (V.fad Try.underlying76 rfl nz3 rfl) <| J.run rfl rfl rfl hc366 <| jv (ii xa.1) (V.ld rfl (Ld.sc sc3 (Rd.cl 0 rfl rfl))) <| J.run rfl rfl rfl hc366 ?_
   obtain ⟨r367, hr368, ht365⟩ := ob ht365
   refine J.op rfl (A.call (L1 := []) Try.call51 rfl (ref18_Src_ok hr368) rfl rfl) ?_
   rintro _ _ _ ⟨v370, _, rfl, ⟨⟨t369, rfl, rfl, rfl⟩, rfl⟩, _, rfl⟩
   refine J.run rfl rfl rfl hc366 <| jm (.bool t369) rfl <| J.cut 11 <| jmeet [(41, .bool (t369 && ((decide (xa.2.2.1 < 0)) || (decide ((((xb.length : Nat) : Int)) ≤ xa.2.2.1))))), (1, .slice adxb_0 xb.length cpxb_0), (2, ii xc), (3, .pointer (some ⟨b324, 0, none⟩)), (26, .bool (t335 && ((decide (xa.2.1 < 0)) || (decide ((((xb.length : Nat) : Int)) ≤ xa.2.1)))))] ?_ ?_
   · rcases bt (t369) with hc378 | hc378
     · refine J.run rfl rfl rfl hc378 <| jv _ (V.fad Try.underlying76 rfl nz3 rfl) <| J.run rfl rfl rfl hc378 <| jv (ii xa.2.2.1) (V.ld rfl (Ld.sc sc3 (Rd.cl 0 rfl rfl))) <| J.run rfl rfl rfl hc378 <| jv (.bool (decide (xa.2.2.1 < 0))) (V.lss rfl rfl) <| J.run rfl rfl rfl hc378 ?_
       refine jm (.bool (decide (xa.2.2.1 < 0))) rfl <| J.cut 6 <| jmeet [(40, .bool ((decide (xa.2.2.1 < 0)) || (decide ((((xb.length : Nat) : Int)) ≤ xa.2.2.1)))), (1, .slice adxb_0 xb.length cpxb_0), (2, ii xc), (3, .pointer (some ⟨b324, 0, none⟩)), (26, .bool (t335 && ((decide (xa.2.1 < 0)) || (decide ((((xb.length : Nat) : Int)) ≤ xa.2.1))))), (30, .bool t369)] ?_ ?_
       · rcases bt (decide (xa.2.2.1 < 0)) with hc381 | hc381
         · refine J.skip rfl rfl rfl rfl hc381 <| J.skip rfl rfl rfl rfl hc381 <| J.skip rfl rfl rfl rfl hc381 <| J.skip rfl rfl rfl rfl hc381 <| J.skip rfl rfl rfl rfl hc381 <| J.run rfl rfl rfl hc378 <| jv (.bool true) (V.pickT rfl hc381 rfl) ?_
           refine J.nil ?_
           exact ⟨rfl, ⟨(by simp only [hc381]; rfl), rfl, rfl, rfl, rfl, rfl, trivial⟩, rfl, rfl⟩
         refine J.run rfl rfl rfl hc381 <| jv _ (V.fad Try.underlying76 rfl nz3 rfl) <| J.run rfl rfl rfl hc381 <| jv (ii xa.2.2.1) (V.ld rfl (Ld.sc sc3 (Rd.cl 0 rfl rfl))) <| J.run rfl rfl rfl hc381 <| jm (.slice adxb_0 xb.length cpxb_0) rfl <| J.run rfl rfl rfl hc381 ?_
         refine jv (ii (((xb.length : Nat) : Int))) (V.len Try.underlying23 rfl) <| J.run rfl rfl rfl hc381 <| jv (.bool (decide ((((xb.length : Nat) : Int)) ≤ xa.2.2.1))) (V.geq rfl rfl) <| J.run rfl rfl rfl hc378 <| jv (.bool (decide ((((xb.length : Nat) : Int)) ≤ xa.2.2.1))) (V.pickF rfl hc381 rfl) <| J.nil ?_
         exact ⟨rfl, ⟨(by simp only [hc381]; rfl), rfl, rfl, rfl, rfl, rfl, trivial⟩, rfl, rfl⟩
       intro ρ
       refine J.run rfl rfl rfl hc366 <| jv (.bool ((decide (xa.2.2.1 < 0)) || (decide ((((xb.length : Nat) : Int)) ≤ xa.2.2.1)))) (V.pickT rfl hc378 rfl) <| J.nil ?_
       exact ⟨rfl, ⟨(by simp only [hc378]; rfl), rfl, rfl, rfl, rfl, trivial⟩, rfl, rfl⟩
     refine J.skip rfl rfl rfl rfl hc378 <| J.skip rfl rfl rfl rfl hc378 <| J.skip rfl rfl rfl rfl hc378 <| J.skip rfl rfl rfl rfl hc378 <| J.skipu rfl rfl rfl rfl <| J.skipu rfl rfl rfl rfl <| J.skipu rfl rfl rfl rfl ?_
     refine J.skipu rfl rfl rfl rfl <| J.skipu rfl rfl rfl rfl <| J.skip rfl rfl rfl rfl hc378 <| J.run rfl rfl rfl hc366 <| jv (.bool false) (V.pickF rfl hc378 rfl) <| J.nil ?_
     exact ⟨rfl, ⟨(by simp only [hc378]; rfl), rfl, rfl, rfl, rfl, trivial⟩, rfl, rfl⟩
   intro ρ
   refine jv (.bool (t369 && ((decide (xa.2.2.1 < 0)) || (decide ((((xb.length : Nat) : Int)) ≤ xa.2.2.1))))) (V.pickF rfl hc366 rfl) <| J.nil ?_
   obtain rfl := si ht365
   exact ⟨rfl, ⟨rfl, rfl, rfl, rfl, trivial⟩, rfl, rfl⟩
 intro ρ
 refine jm (.bool t364) rfl <| J.cut 15 ?_
 obtain ⟨t398, ht399, h⟩ := ob h
 refine jmeet [(58, .bool t398), (1, .slice adxb_0 xb.length cpxb_0), (3, .pointer (some ⟨b324, 0, none⟩))] ?_ ?_
 · rcases bt (t364) with hc400 | hc400
   · have ht399 := ct hc400 ht399
     refine J.skip rfl rfl rfl rfl hc400 <| J.skip rfl rfl rfl rfl hc400 <| J.skip rfl rfl rfl rfl hc400 <| J.skip rfl rfl rfl rfl hc400 <| J.skipu rfl rfl rfl rfl <| J.skipu rfl rfl rfl rfl <| J.skipu rfl rfl rfl rfl ?_
     refine J.skipu rfl rfl rfl rfl <| J.skipu rfl rfl rfl rfl <| J.skipu rfl rfl rfl rfl <| J.skipu rfl rfl rfl rfl <| J.skipu rfl rfl rfl rfl <| J.skipu rfl rfl rfl rfl <| J.skip rfl rfl rfl rfl hc400 ?_
     refine jv (.bool true) (V.pickT rfl hc400 rfl) <| J.nil ?_
     obtain rfl := si ht399
     exact ⟨rfl, ⟨rfl, rfl, rfl, trivial⟩, rfl, rfl⟩
   have ht399 := cf hc400 ht399
   refine J.run rfl rfl rfl hc400 <| jv _ (V.fad Try.underlying76 rfl nz3 rfl) <| J.run rfl rfl rfl hc400 <| jv (ii xa.1) (V.ld rfl (Ld.sc sc3 (Rd.cl 0 rfl rfl))) <| J.run rfl rfl rfl hc400 ?_
   obtain ⟨r401, hr402, ht399⟩ := ob ht399
   refine J.op rfl (A.call (L1 := []) Try.call52 rfl (ref18_Region_ok hr402) rfl rfl) ?_
   rintro _ _ _ ⟨v404, _, rfl, ⟨⟨t403, rfl, rfl, rfl⟩, rfl⟩, _, rfl⟩
   refine J.run rfl rfl rfl hc400 <| jm (.bool t403) rfl <| J.cut 10 <| jmeet [(57, .bool (t403 && ((decide (xa.2.2.2.1 < 0)) || (decide (xc ≤ xa.2.2.2.1))))), (1, .slice adxb_0 xb.length cpxb_0), (3, .pointer (some ⟨b324, 0, none⟩)), (43, .bool t364)] ?_ ?_
   · rcases bt (t403) with hc412 | hc412
     · refine J.run rfl rfl rfl hc412 <| jv _ (V.fad Try.underlying76 rfl nz3 rfl) <| J.run rfl rfl rfl hc412 <| jv (ii xa.2.2.2.1) (V.ld rfl (Ld.sc sc3 (Rd.cl 0 rfl rfl))) <| J.run rfl rfl rfl hc412 <| jv (.bool (decide (xa.2.2.2.1 < 0))) (V.lss rfl rfl) <| J.run rfl rfl rfl hc412 ?_
       refine jm (.bool (decide (xa.2.2.2.1 < 0))) rfl <| J.cut 5 <| jmeet [(56, .bool ((decide (xa.2.2.2.1 < 0)) || (decide (xc ≤ xa.2.2.2.1)))), (1, .slice adxb_0 xb.length cpxb_0), (3, .pointer (some ⟨b324, 0, none⟩)), (43, .bool t364), (47, .bool t403)] ?_ ?_
       · rcases bt (decide (xa.2.2.2.1 < 0)) with hc415 | hc415
         · refine J.skip rfl rfl rfl rfl hc415 <| J.skip rfl rfl rfl rfl hc415 <| J.skip rfl rfl rfl rfl hc415 <| J.skip rfl rfl rfl rfl hc415 <| J.run rfl rfl rfl hc412 <| jv (.bool true) (V.pickT rfl hc415 rfl) <| J.nil ?_
           exact ⟨rfl, ⟨(by simp only [hc415]; rfl), rfl, rfl, rfl, rfl, trivial⟩, rfl, rfl⟩
         refine J.run rfl rfl rfl hc415 <| jv _ (V.fad Try.underlying76 rfl nz3 rfl) <| J.run rfl rfl rfl hc415 <| jv (ii xa.2.2.2.1) (V.ld rfl (Ld.sc sc3 (Rd.cl 0 rfl rfl))) <| J.run rfl rfl rfl hc415 <| jm (ii xc) rfl <| J.run rfl rfl rfl hc415 ?_
         refine jv (.bool (decide (xc ≤ xa.2.2.2.1))) (V.geq rfl rfl) <| J.run rfl rfl rfl hc412 <| jv (.bool (decide (xc ≤ xa.2.2.2.1))) (V.pickF rfl hc415 rfl) <| J.nil ?_
         exact ⟨rfl, ⟨(by simp only [hc415]; rfl), rfl, rfl, rfl, rfl, trivial⟩, rfl, rfl⟩
       intro ρ
       refine J.run rfl rfl rfl hc400 <| jv (.bool ((decide (xa.2.2.2.1 < 0)) || (decide (xc ≤ xa.2.2.2.1)))) (V.pickT rfl hc412 rfl) <| J.nil ?_
       exact ⟨rfl, ⟨(by simp only [hc412]; rfl), rfl, rfl, rfl, trivial⟩, rfl, rfl⟩
     refine J.skip rfl rfl rfl rfl hc412 <| J.skip rfl rfl rfl rfl hc412 <| J.skip rfl rfl rfl rfl hc412 <| J.skip rfl rfl rfl rfl hc412 <| J.skipu rfl rfl rfl rfl <| J.skipu rfl rfl rfl rfl <| J.skipu rfl rfl rfl rfl ?_
     refine J.skipu rfl rfl rfl rfl <| J.skip rfl rfl rfl rfl hc412 <| J.run rfl rfl rfl hc400 <| jv (.bool false) (V.pickF rfl hc412 rfl) <| J.nil ?_
     exact ⟨rfl, ⟨(by simp only [hc412]; rfl), rfl, rfl, rfl, trivial⟩, rfl, rfl⟩
   intro ρ
   refine jv (.bool (t403 && ((decide (xa.2.2.2.1 < 0)) || (decide (xc ≤ xa.2.2.2.1))))) (V.pickF rfl hc400 rfl) <| J.nil ?_
   obtain rfl := si ht399
   exact ⟨rfl, ⟨rfl, rfl, rfl, trivial⟩, rfl, rfl⟩
 intro ρ
 refine J.nil <| cc rfl h (fun hc416 h => ?_) fun hc416 h => ?_
 · refine cr <| ja (nos) rfl <| ja (ii 7) rfl <| J.nil <| CJ.by (fun w hs => Sep.rowNil (e := 111) (t := (.cons (.int .i64) (.cons (.int .i64) (.cons (.int .i64) (.cons (.int .i64) (.one .bool)))))) hs) <| CJ.ret ?_
   obtain rfl := si h
   exact ⟨_, _, Res.two rfl rfl rfl, ⟨[], 7, none, 0, rfl, rfl, rfl⟩, (Hp.le_refl _), fun w hs => (Sep.dropAt 1 rfl hs)⟩
 refine CJ.skip <| CJ.seq <| cr <| jv _ (V.fad Try.underlying76 rfl nz3 rfl) <| jv (ii xa.1) (V.ld rfl (Ld.sc sc3 (Rd.cl 0 rfl rfl))) <| jv (.bool (decide (xa.1 = 1))) (V.eql rfl rfl) ?_
 refine J.nil <| cc rfl h (fun hc418 h => ?_) fun hc418 h => ?_
 · refine CJ.seq <| CJ.mix [Cl b324 76 [ii xa.1, ii xa.2.1, ii xa.2.2.1, ii xa.2.2.2.1, .bool xa.2.2.2.2]] [([0, 1, 2, 3, 4, 5, 6, 7, 8, 9], 10)] [11, 12, 13, 14] [] mixO (by decide +kernel) ⟨0, rfl, trivial⟩ rfl rfl rfl <| JM.cons <| qm (.slice adxb_0 xb.length cpxb_0) rfl <| qv _ (V.fad Try.underlying76 rfl nz3 rfl) <| qv (ii xa.2.2.1) (V.ld rfl (Ld.sc sc3 (Rd.cl 0 rfl rfl))) ?_
   obtain ⟨x456, hx457, h⟩ := ob h
   obtain ⟨p458, p459, p460⟩ := getI_some hx457
   obtain ⟨b461, o462, e463, a464⟩ := (fxb_0).at p459
   refine qv _ (V.iad Try.underlying23 sz26 rfl e463 rfl p458 p460) ?_
   obtain ⟨ad465, cp466, c467, f468⟩ := ((a464).one).sl
   refine qv (.agg #[.slice ad465 x456.length cp466]) (V.ld rfl (Ld.aggK (cs := [.slice ad465 x456.length cp466]) Try.underlying26 sz26 rfl ⟨c467, trivial⟩ (Hp.le_refl _))) <| qm (.slice adxb_0 xb.length cpxb_0) rfl <| qv _ (V.fad Try.underlying76 rfl nz3 rfl) <| qv (ii xa.2.1) (V.ld rfl (Ld.sc sc3 (Rd.cl 0 rfl rfl))) ?_
   obtain ⟨x469, hx470, h⟩ := ob h
   obtain ⟨p471, p472, p473⟩ := getI_some hx470
   obtain ⟨b474, o475, e476, a477⟩ := (fxb_0).at p472
   refine qv _ (V.iad Try.underlying23 sz26 rfl e476 rfl p471 p473) ?_
   obtain ⟨ad478, cp479, c480, f481⟩ := ((a477).one).sl
   refine qv (.agg #[.slice ad478 x469.length cp479]) (V.ld rfl (Ld.aggK (cs := [.slice ad478 x469.length cp479]) Try.underlying26 sz26 rfl ⟨c480, trivial⟩ (Hp.le_refl _))) <| JQ.nil ?_
   obtain ⟨r482, hr483, h⟩ := ob h
   refine JA.op rfl (A.call (L1 := []) Try.call53 rfl (ref16_Flow_ok f468 f481 hr483) rfl rfl) ?_
   rintro _ _ _ ⟨v489, _, rfl, ⟨⟨l484, i485, ad486, cp487, rfl, rfl, rfl⟩, rfl⟩, _, rfl⟩
   refine ⟨fun w hs => Hold.sub (Hp.le_refl _) ⟨1, rfl, trivial⟩ hs, ?_⟩
   refine JM.wit Row.hn fun hn488 => JM.nil <| qv (.slice ad486 l484.length cp487) (V.ext rfl rfl) <| qv (ii i485) (V.ext rfl rfl) <| qa (.slice ad486 l484.length cp487) rfl <| qa (ii i485) rfl <| JQ.nil ?_
   refine J.nil <| CJ.ret ?_
   obtain rfl := si h
   exact ⟨_, _, Res.two rfl rfl rfl, ⟨l484, i485, ad486, cp487, rfl, rfl, rfl⟩, (Hp.le_refl _), fun w hs => (Sep.dropAt 1 rfl hs)⟩
 refine CJ.skip <| CJ.seq <| cr <| jv _ (V.fad Try.underlying76 rfl nz3 rfl) <| jv (ii xa.1) (V.ld rfl (Ld.sc sc3 (Rd.cl 0 rfl rfl))) <| jv (.bool (decide (xa.1 = 2))) (V.eql rfl rfl) ?_
 refine J.nil <| cc rfl h (fun hc493 h => ?_) fun hc493 h => ?_
 · refine CJ.seq <| CJ.mix [Cl b324 76 [ii xa.1, ii xa.2.1, ii xa.2.2.1, ii xa.2.2.2.1, .bool xa.2.2.2.2]] [([0, 1, 2, 3, 4, 5, 6, 7, 8, 9, 10, 11, 12, 13], 14)] [15, 16, 17, 18] [] mixO (by decide +kernel) ⟨0, rfl, trivial⟩ rfl rfl rfl <| JM.cons <| qm (.slice adxb_0 xb.length cpxb_0) rfl <| qv _ (V.fad Try.underlying76 rfl nz3 rfl) <| qv (ii xa.2.2.1) (V.ld rfl (Ld.sc sc3 (Rd.cl 0 rfl rfl))) ?_
   obtain ⟨x531, hx532, h⟩ := ob h
   obtain ⟨p533, p534, p535⟩ := getI_some hx532
   obtain ⟨b536, o537, e538, a539⟩ := (fxb_0).at p534
   refine qv _ (V.iad Try.underlying23 sz26 rfl e538 rfl p533 p535) ?_
   obtain ⟨ad540, cp541, c542, f543⟩ := ((a539).one).sl
   refine qv (.agg #[.slice ad540 x531.length cp541]) (V.ld rfl (Ld.aggK (cs := [.slice ad540 x531.length cp541]) Try.underlying26 sz26 rfl ⟨c542, trivial⟩ (Hp.le_refl _))) <| qm (.slice adxb_0 xb.length cpxb_0) rfl <| qv _ (V.fad Try.underlying76 rfl nz3 rfl) <| qv (ii xa.2.1) (V.ld rfl (Ld.sc sc3 (Rd.cl 0 rfl rfl))) ?_
   obtain ⟨x544, hx545, h⟩ := ob h
   obtain ⟨p546, p547, p548⟩ := getI_some hx545
   obtain ⟨b549, o550, e551, a552⟩ := (fxb_0).at p547
   refine qv _ (V.iad Try.underlying23 sz26 rfl e551 rfl p546 p548) ?_
   obtain ⟨ad553, cp554, c555, f556⟩ := ((a552).one).sl
   refine qv (.agg #[.slice ad553 x544.length cp554]) (V.ld rfl (Ld.aggK (cs := [.slice ad553 x544.length cp554]) Try.underlying26 sz26 rfl ⟨c555, trivial⟩ (Hp.le_refl _))) <| qv _ (V.fad Try.underlying76 rfl nz3 rfl) <| qv (ii xa.2.2.2.1) (V.ld rfl (Ld.sc sc3 (Rd.cl 0 rfl rfl))) <| qv _ (V.fad Try.underlying76 rfl nz4 rfl) <| qv (.bool xa.2.2.2.2) (V.ld rfl (Ld.sc sc4 (Rd.cl 0 rfl rfl))) <| JQ.nil ?_
   obtain ⟨r557, hr558, h⟩ := ob h
   refine JA.op rfl (A.call (L1 := []) Try.call54 rfl (ref16_Loan_ok f543 f556 hr558) rfl rfl) ?_
   rintro _ _ _ ⟨v564, _, rfl, ⟨⟨l559, i560, ad561, cp562, rfl, rfl, rfl⟩, rfl⟩, _, rfl⟩
   refine ⟨fun w hs => Hold.sub (Hp.le_refl _) ⟨1, rfl, trivial⟩ hs, ?_⟩
   refine JM.wit Row.hn fun hn563 => JM.nil <| qv (.slice ad561 l559.length cp562) (V.ext rfl rfl) <| qv (ii i560) (V.ext rfl rfl) <| qa (.slice ad561 l559.length cp562) rfl <| qa (ii i560) rfl <| JQ.nil ?_
   refine J.nil <| CJ.ret ?_
   obtain rfl := si h
   exact ⟨_, _, Res.two rfl rfl rfl, ⟨l559, i560, ad561, cp562, rfl, rfl, rfl⟩, (Hp.le_refl _), fun w hs => (Sep.dropAt 1 rfl hs)⟩
 refine CJ.skip <| CJ.seq <| cr <| jv _ (V.fad Try.underlying76 rfl nz3 rfl) <| jv (ii xa.1) (V.ld rfl (Ld.sc sc3 (Rd.cl 0 rfl rfl))) <| jv (.bool (decide (xa.1 = 3))) (V.eql rfl rfl) ?_
 refine J.nil <| cc rfl h (fun hc568 h => ?_) fun hc568 h => ?_
 · refine CJ.seq <| CJ.mix [Cl b324 76 [ii xa.1, ii xa.2.1, ii xa.2.2.1, ii xa.2.2.2.1, .bool xa.2.2.2.2]] [([0, 1, 2, 3, 4, 5, 6, 7, 8, 9, 10, 11, 12, 13], 14)] [15, 16, 17, 18] [] mixO (by decide +kernel) ⟨0, rfl, trivial⟩ rfl rfl rfl <| JM.cons <| qm (.slice adxb_0 xb.length cpxb_0) rfl <| qv _ (V.fad Try.underlying76 rfl nz3 rfl) <| qv (ii xa.2.2.1) (V.ld rfl (Ld.sc sc3 (Rd.cl 0 rfl rfl))) ?_
   obtain ⟨x606, hx607, h⟩ := ob h
   obtain ⟨p608, p609, p610⟩ := getI_some hx607
   obtain ⟨b611, o612, e613, a614⟩ := (fxb_0).at p609
   refine qv _ (V.iad Try.underlying23 sz26 rfl e613 rfl p608 p610) ?_
   obtain ⟨ad615, cp616, c617, f618⟩ := ((a614).one).sl
   refine qv (.agg #[.slice ad615 x606.length cp616]) (V.ld rfl (Ld.aggK (cs := [.slice ad615 x606.length cp616]) Try.underlying26 sz26 rfl ⟨c617, trivial⟩ (Hp.le_refl _))) <| qm (.slice adxb_0 xb.length cpxb_0) rfl <| qv _ (V.fad Try.underlying76 rfl nz3 rfl) <| qv (ii xa.2.1) (V.ld rfl (Ld.sc sc3 (Rd.cl 0 rfl rfl))) ?_
   obtain ⟨x619, hx620, h⟩ := ob h
   obtain ⟨p621, p622, p623⟩ := getI_some hx620
   obtain ⟨b624, o625, e626, a627⟩ := (fxb_0).at p622
   refine qv _ (V.iad Try.underlying23 sz26 rfl e626 rfl p621 p623) ?_
   obtain ⟨ad628, cp629, c630, f631⟩ := ((a627).one).sl
   refine qv (.agg #[.slice ad628 x619.length cp629]) (V.ld rfl (Ld.aggK (cs := [.slice ad628 x619.length cp629]) Try.underlying26 sz26 rfl ⟨c630, trivial⟩ (Hp.le_refl _))) <| qv _ (V.fad Try.underlying76 rfl nz3 rfl) <| qv (ii xa.2.2.2.1) (V.ld rfl (Ld.sc sc3 (Rd.cl 0 rfl rfl))) <| qv _ (V.fad Try.underlying76 rfl nz4 rfl) <| qv (.bool xa.2.2.2.2) (V.ld rfl (Ld.sc sc4 (Rd.cl 0 rfl rfl))) <| JQ.nil ?_
   obtain ⟨r632, hr633, h⟩ := ob h
   refine JA.op rfl (A.call (L1 := []) Try.call55 rfl (ref16_Again_ok f618 f631 hr633) rfl rfl) ?_
   rintro _ _ _ ⟨v639, _, rfl, ⟨⟨l634, i635, ad636, cp637, rfl, rfl, rfl⟩, rfl⟩, _, rfl⟩
   refine ⟨fun w hs => Hold.sub (Hp.le_refl _) ⟨1, rfl, trivial⟩ hs, ?_⟩
   refine JM.wit Row.hn fun hn638 => JM.nil <| qv (.slice ad636 l634.length cp637) (V.ext rfl rfl) <| qv (ii i635) (V.ext rfl rfl) <| qa (.slice ad636 l634.length cp637) rfl <| qa (ii i635) rfl <| JQ.nil ?_
   refine J.nil <| CJ.ret ?_
   obtain rfl := si h
   exact ⟨_, _, Res.two rfl rfl rfl, ⟨l634, i635, ad636, cp637, rfl, rfl, rfl⟩, (Hp.le_refl _), fun w hs => (Sep.dropAt 1 rfl hs)⟩
 refine CJ.skip <| cr <| ja (nos) rfl <| ja (ii 0) rfl <| J.nil <| CJ.by (fun w hs => Sep.rowNil (e := 111) (t := (.cons (.int .i64) (.cons (.int .i64) (.cons (.int .i64) (.cons (.int .i64) (.one .bool)))))) hs) ?_
 refine CJ.ret ?_
 obtain rfl := si h
 exact ⟨_, _, Res.two rfl rfl rfl, ⟨[], 0, none, 0, rfl, rfl, rfl⟩, (Hp.le_refl _), fun w hs => (Sep.dropAt 1 rfl hs)⟩
end Go.Proofs.Ytbaaamdljojknaa
