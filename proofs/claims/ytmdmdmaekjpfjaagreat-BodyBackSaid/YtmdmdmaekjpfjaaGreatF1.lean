import Derived.Test.YtmdmdmaekjpfjaaGreatSh
import Derived.Test.YtmdmdmaekjpfjaaGreatRows
import Derived.Test.YtmdmdmaekjpfjaaGreatBd
import Derived.Test.YtmdmdmaekjpfjaaGreatFl
namespace Go.Proofs.YtmdmdmaekjpfjaaGreat
open Go.RowKit
set_option linter.unusedVariables false
set_option linter.unnecessarySimpa false
set_option linter.unusedSimpArgs false
set_option maxRecDepth 20000
theorem sz34 : (Tryz.prog.info? 34).map (·.size) = some 7 := by kernel_rfl
theorem nz26 : Tryz.prog.cellsOf 26 ≠ 0 := by decide +kernel
theorem sc26 : scalar Tryz.prog 26 = true := by kernel_rfl
theorem nz27 : Tryz.prog.cellsOf 27 ≠ 0 := by decide +kernel
theorem sc27 : scalar Tryz.prog 27 = true := by kernel_rfl
theorem nz31 : Tryz.prog.cellsOf 31 ≠ 0 := by decide +kernel
theorem sc31 : scalar Tryz.prog 31 = true := by kernel_rfl
theorem nz32 : Tryz.prog.cellsOf 32 ≠ 0 := by decide +kernel
theorem sc32 : scalar Tryz.prog 32 = true := by kernel_rfl
theorem nz30 : Tryz.prog.cellsOf 30 ≠ 0 := by decide +kernel
theorem sz30 : (Tryz.prog.info? 30).map (·.size) = some 1 := by kernel_rfl
theorem nz28 : Tryz.prog.cellsOf 28 ≠ 0 := by decide +kernel
theorem sc28 : scalar Tryz.prog 28 = true := by kernel_rfl
theorem sz63 : (Tryz.prog.info? 63).map (·.size) = some 4 := by kernel_rfl
theorem sz70 : (Tryz.prog.info? 70).map (·.size) = some 7 := by kernel_rfl
theorem nz68 : Tryz.prog.cellsOf 68 ≠ 0 := by decide +kernel
theorem sz68 : (Tryz.prog.info? 68).map (·.size) = some 6 := by kernel_rfl
theorem inf68 : Inf Tryz.prog 68 (.agg #[.int .i64 0, .int .i64 0, .int .i64 0, nos, nos, nos]) 6 96 := by unfold Inf; kernel_rfl
theorem nz65 : Tryz.prog.cellsOf 65 ≠ 0 := by decide +kernel
theorem sc65 : scalar Tryz.prog 65 = true := by kernel_rfl
theorem nz66 : Tryz.prog.cellsOf 66 ≠ 0 := by decide +kernel
theorem sc66 : scalar Tryz.prog 66 = true := by kernel_rfl
theorem inf34 : Inf Tryz.prog 34 (.agg #[.int .i64 0, .int .i64 0, nos, nos, nos, nos, nos]) 7 136 := by unfold Inf; kernel_rfl
theorem inf30 : Inf Tryz.prog 30 (.agg #[nos]) 1 24 := by unfold Inf; kernel_rfl
theorem places30 : Places Tryz.prog 30 [(0, 1)] := ⟨_, Tryz.underlying30, by kernel_rfl⟩
theorem places68 : Places Tryz.prog 68 [(0, 1), (1, 1), (2, 1), (3, 1), (4, 1), (5, 1)] := ⟨_, Tryz.underlying68, by kernel_rfl⟩
theorem inf70 : Inf Tryz.prog 70 (.agg #[nos, .int .i64 0, .int .i64 0, .int .i64 0, nos, nos, nos]) 7 120 := by unfold Inf; kernel_rfl
theorem places70 : Places Tryz.prog 70 [(0, 1), (1, 6)] := ⟨_, Tryz.underlying70, by kernel_rfl⟩
theorem places34 : Places Tryz.prog 34 [(0, 1), (1, 1), (2, 1), (3, 1), (4, 1), (5, 1), (6, 1)] := ⟨_, Tryz.underlying34, by kernel_rfl⟩
theorem inf107 : Inf Tryz.prog 107 (.agg #[.pointer none, nos]) 2 32 := by unfold Inf; kernel_rfl
theorem nz3 : Tryz.prog.cellsOf 3 ≠ 0 := by decide +kernel
theorem sc3 : scalar Tryz.prog 3 = true := by kernel_rfl
theorem inf3 : Inf Tryz.prog 3 (.int .i64 0) 1 8 := by unfold Inf; kernel_rfl
theorem sz3 : (Tryz.prog.info? 3).map (·.size) = some 1 := by kernel_rfl
theorem sz95 : (Tryz.prog.info? 95).map (·.size) = some 2 := by kernel_rfl
theorem inf95 : Inf Tryz.prog 95 (.agg #[.int .i64 0, .int .i64 0]) 2 16 := by unfold Inf; kernel_rfl
theorem sz146 : (Tryz.prog.info? 146).map (·.size) = some 2 := by kernel_rfl
theorem inf146 : Inf Tryz.prog 146 (.agg #[.int .i64 0, .bool false]) 2 16 := by unfold Inf; kernel_rfl
theorem nz4 : Tryz.prog.cellsOf 4 ≠ 0 := by decide +kernel
theorem sc4 : scalar Tryz.prog 4 = true := by kernel_rfl
theorem inf63 : Inf Tryz.prog 63 (.agg #[.int .i64 0, nos, nos, nos]) 4 80 := by unfold Inf; kernel_rfl
theorem sz73 : (Tryz.prog.info? 73).map (·.size) = some 5 := by kernel_rfl
theorem inf73 : Inf Tryz.prog 73 (.agg #[.int .i64 0, .int .i64 0, .int .i64 0, .int .i64 0, .bool false]) 5 40 := by unfold Inf; kernel_rfl
theorem inf136 : Inf Tryz.prog 136 (.agg #[.bool false, .bool false, .bool false]) 3 3 := by unfold Inf; kernel_rfl
theorem places136 : Places Tryz.prog 136 [(0, 1), (1, 1), (2, 1)] := ⟨_, Tryz.underlying136, by kernel_rfl⟩
theorem sz136 : (Tryz.prog.info? 136).map (·.size) = some 3 := by kernel_rfl
theorem places73 : Places Tryz.prog 73 [(0, 1), (1, 1), (2, 1), (3, 1), (4, 1)] := ⟨_, Tryz.underlying73, by kernel_rfl⟩
theorem mixO : Tryz.prog.follows .mixedOrders = true := by kernel_rfl
theorem sz4 : (Tryz.prog.info? 4).map (·.size) = some 1 := by kernel_rfl
theorem sih73 : Tryz.prog.stoodInHeld 73 = false := by kernel_rfl
theorem eqg73 : Tryz.prog.eqGuardType Tryz.prog.depth 73 = false := by kernel_rfl
theorem inf54 : Inf Tryz.prog 54 (.agg #[.string ⟨[].toArray⟩, .int .i64 0, .int .i64 0]) 3 32 := by unfold Inf; kernel_rfl
theorem places54 : Places Tryz.prog 54 [(0, 1), (1, 1), (2, 1)] := ⟨_, Tryz.underlying54, by kernel_rfl⟩
theorem nz35 : Tryz.prog.cellsOf 35 ≠ 0 := by decide +kernel
theorem sc35 : scalar Tryz.prog 35 = true := by kernel_rfl
theorem nz9 : Tryz.prog.cellsOf 9 ≠ 0 := by decide +kernel
theorem sc9 : scalar Tryz.prog 9 = true := by kernel_rfl
theorem sz35 : (Tryz.prog.info? 35).map (·.size) = some 1 := by kernel_rfl
theorem sz9 : (Tryz.prog.info? 9).map (·.size) = some 1 := by kernel_rfl
theorem inf122 : Inf Tryz.prog 122 (.agg #[.string ⟨[].toArray⟩, .int .i64 0]) 2 24 := by unfold Inf; kernel_rfl
theorem places122 : Places Tryz.prog 122 [(0, 1), (1, 1)] := ⟨_, Tryz.underlying122, by kernel_rfl⟩
theorem sz122 : (Tryz.prog.info? 122).map (·.size) = some 2 := by kernel_rfl
theorem sz26 : (Tryz.prog.info? 26).map (·.size) = some 1 := by kernel_rfl
theorem places146 : Places Tryz.prog 146 [(0, 1), (1, 1)] := ⟨_, Tryz.underlying146, by kernel_rfl⟩
theorem sz28 : (Tryz.prog.info? 28).map (·.size) = some 1 := by kernel_rfl
theorem sz27 : (Tryz.prog.info? 27).map (·.size) = some 1 := by kernel_rfl
theorem inf35 : Inf Tryz.prog 35 (.int .i64 0) 1 8 := by unfold Inf; kernel_rfl
theorem inf1 : Inf Tryz.prog 1 .nilFunc 1 8 := by unfold Inf; kernel_rfl
theorem sz1 : (Tryz.prog.info? 1).map (·.size) = some 1 := by kernel_rfl
theorem sc1 : scalar Tryz.prog 1 = true := by kernel_rfl
theorem places63 : Places Tryz.prog 63 [(0, 1), (1, 1), (2, 1), (3, 1)] := ⟨_, Tryz.underlying63, by kernel_rfl⟩
theorem sz31 : (Tryz.prog.info? 31).map (·.size) = some 1 := by kernel_rfl
theorem sz65 : (Tryz.prog.info? 65).map (·.size) = some 1 := by kernel_rfl
theorem inf142 : Inf Tryz.prog 142 (.agg #[.string ⟨[].toArray⟩, .int .i64 0, .int .i64 0]) 3 32 := by unfold Inf; kernel_rfl
theorem places142 : Places Tryz.prog 142 [(0, 1), (1, 1), (2, 1)] := ⟨_, Tryz.underlying142, by kernel_rfl⟩
theorem sz142 : (Tryz.prog.info? 142).map (·.size) = some 3 := by kernel_rfl
theorem sz66 : (Tryz.prog.info? 66).map (·.size) = some 1 := by kernel_rfl
theorem sz32 : (Tryz.prog.info? 32).map (·.size) = some 1 := by kernel_rfl
theorem sih95 : Tryz.prog.stoodInHeld 95 = false := by kernel_rfl
theorem eqg95 : Tryz.prog.eqGuardType Tryz.prog.depth 95 = false := by kernel_rfl
theorem inf5 : Inf Tryz.prog 5 (.int .u8 0) 1 1 := by unfold Inf; kernel_rfl
theorem places95 : Places Tryz.prog 95 [(0, 1), (1, 1)] := ⟨_, Tryz.underlying95, by kernel_rfl⟩

noncomputable def fn_ref15_Few (xa : (List (Int × Bool))) (xb : Int) : Option Bool :=
  some (decide ((((xa.length : Nat) : Int)) ≤ xb))
set_option maxRecDepth 100000 in
set_option maxHeartbeats 4000000 in
theorem ref15_Few_ok {K : Hp} {xa : (List (Int × Bool))} {xb : Int} {adxa_0 : Option Addr} {cpxa_0 : Nat} (fxa_0 : Is K (.sl (.cons (.int .i64) (.one .bool))) [.slice adxa_0 xa.length cpxa_0] xa) {r : Bool} (h : fn_ref15_Few xa xb = some r) :
    Tr Tryz.prog 50 #[.agg #[.slice adxa_0 xa.length cpxa_0], ii xb] K [] (fun v K' L' => (∃ (t2 : Bool), t2 = r ∧ .bool t2 = v ∧ L' = []) ∧ K = K') := by
 refine Tr.k <| Tr.of Tryz.func50 rfl Tryz.ntmps50 rfl fun E F => ?_
 unfold fn_ref15_Few at h
 refine cr <| jbx [.slice adxa_0 xa.length cpxa_0] rfl rfl fun b3 => ja (.bool false) rfl <| J.nil <| CJ.seq <| CJ.region ?_
 refine jv _ (V.fad Tryz.underlying30 rfl nz28 rfl) <| jv (.slice adxa_0 xa.length cpxa_0) (V.ld rfl (Ld.sc sc28 (Rd.cl 0 rfl rfl))) <| jv (ii (((xa.length : Nat) : Int))) (V.len Tryz.underlying28 rfl) <| jm (ii xb) rfl <| jv (.bool (decide ((((xa.length : Nat) : Int)) ≤ xb))) (V.leq rfl rfl) <| ja (.bool (decide ((((xa.length : Nat) : Int)) ≤ xb))) rfl <| J.nil ?_
 refine CJ.ret ?_
 obtain rfl := si h
 exact ⟨_, _, Res.one rfl rfl, ⟨decide ((((xa.length : Nat) : Int)) ≤ xb), rfl, rfl, rfl⟩, (Hp.le_refl _), fun w hs => (Sep.dropAt 0 rfl hs)⟩
noncomputable def fn_ref17_Few_l1 (xa : (Int × (List (Int × Int)) × (List (List (Int × Bool))) × (List (Int × Bool)))) : Int → Option (Int ⊕ (Unit ⊕ Bool)) := fun (i283 : Int) => cond (decide (i283 < (((xa.2.2.1.length : Nat) : Int)))) ((getI xa.2.2.1 i283).bind fun x311 => (fn_ref15_Few x311 20).bind fun t326 => cond (!t326) (some (.inr ((.inr (false))))) (some (.inl (IntKind.wrap .i64 (i283 + 1))))) (some (.inr ((.inl ()))))
noncomputable def fn_ref17_Few (xa : (Int × (List (Int × Int)) × (List (List (Int × Bool))) × (List (Int × Bool)))) : Option Bool :=
  (cond ((decide (20 < (((xa.2.1.length : Nat) : Int)))) || (decide (20 < (((xa.2.2.1.length : Nat) : Int))))) (some (true)) ((fn_ref15_Few xa.2.2.2 20).bind fun t184 => some (!t184))).bind fun t179 => cond (t179) (some (false)) ((loop (fn_ref17_Few_l1 xa) 0 : Option (Unit ⊕ Bool)).bind fun o => match o with | .inr r => some r | .inl () => some (true))
set_option maxRecDepth 100000 in
set_option maxHeartbeats 4000000 in
theorem ref17_Few_ok {K : Hp} {xa : (Int × (List (Int × Int)) × (List (List (Int × Bool))) × (List (Int × Bool)))} {adxa_1 : Option Addr} {cpxa_1 : Nat} {adxa_2 : Option Addr} {cpxa_2 : Nat} {adxa_3 : Option Addr} {cpxa_3 : Nat} (fxa_1 : Is K (.sl (.cons (.int .i64) (.one (.int .i64)))) [.slice adxa_1 xa.2.1.length cpxa_1] xa.2.1) (fxa_2 : Is K (.sl (.one (.sl (.cons (.int .i64) (.one .bool))))) [.slice adxa_2 xa.2.2.1.length cpxa_2] xa.2.2.1) (fxa_3 : Is K (.sl (.cons (.int .i64) (.one .bool))) [.slice adxa_3 xa.2.2.2.length cpxa_3] xa.2.2.2) {r : Bool} (h : fn_ref17_Few xa = some r) :
    Tr Tryz.prog 51 #[.agg #[ii xa.1, .slice adxa_1 xa.2.1.length cpxa_1, .slice adxa_2 xa.2.2.1.length cpxa_2, .slice adxa_3 xa.2.2.2.length cpxa_3]] K [] (fun v K' L' => (∃ (t167 : Bool), t167 = r ∧ .bool t167 = v ∧ L' = []) ∧ K = K') := by
 refine Tr.k <| Tr.of Tryz.func51 rfl Tryz.ntmps51 rfl fun E F => ?_
 unfold fn_ref17_Few at h
 refine cr <| jbx [ii xa.1, .slice adxa_1 xa.2.1.length cpxa_1, .slice adxa_2 xa.2.2.1.length cpxa_2, .slice adxa_3 xa.2.2.2.length cpxa_3] rfl rfl fun b168 => ja (.bool false) rfl <| J.nil <| CJ.seq <| CJ.seq ?_
 refine CJ.region <| jv _ (V.fad Tryz.underlying63 rfl nz26 rfl) <| jv (.slice adxa_1 xa.2.1.length cpxa_1) (V.ld rfl (Ld.sc sc26 (Rd.cl 0 rfl rfl))) <| jv (ii (((xa.2.1.length : Nat) : Int))) (V.len Tryz.underlying26 rfl) <| jv (.bool (decide (20 < (((xa.2.1.length : Nat) : Int))))) (V.gtr rfl rfl) <| jm (.bool (decide (20 < (((xa.2.1.length : Nat) : Int))))) rfl <| J.cut 5 ?_
 refine jmeet [(13, .bool ((decide (20 < (((xa.2.1.length : Nat) : Int)))) || (decide (20 < (((xa.2.2.1.length : Nat) : Int)))))), (1, .pointer (some ⟨b168, 0, none⟩))] ?_ ?_
 · rcases bt (decide (20 < (((xa.2.1.length : Nat) : Int)))) with hc171 | hc171
   · refine J.skip rfl rfl rfl rfl hc171 <| J.skip rfl rfl rfl rfl hc171 <| J.skip rfl rfl rfl rfl hc171 <| J.skip rfl rfl rfl rfl hc171 <| jv (.bool true) (V.pickT rfl hc171 rfl) <| J.nil ?_
     exact ⟨rfl, ⟨(by simp only [hc171]; rfl), rfl, trivial⟩, rfl, rfl⟩
   refine J.run rfl rfl rfl hc171 <| jv _ (V.fad Tryz.underlying63 rfl nz27 rfl) <| J.run rfl rfl rfl hc171 <| jv (.slice adxa_2 xa.2.2.1.length cpxa_2) (V.ld rfl (Ld.sc sc27 (Rd.cl 0 rfl rfl))) <| J.run rfl rfl rfl hc171 <| jv (ii (((xa.2.2.1.length : Nat) : Int))) (V.len Tryz.underlying27 rfl) <| J.run rfl rfl rfl hc171 ?_
   refine jv (.bool (decide (20 < (((xa.2.2.1.length : Nat) : Int))))) (V.gtr rfl rfl) <| jv (.bool (decide (20 < (((xa.2.2.1.length : Nat) : Int))))) (V.pickF rfl hc171 rfl) <| J.nil ?_
   exact ⟨rfl, ⟨(by simp only [hc171]; rfl), rfl, trivial⟩, rfl, rfl⟩
 intro ρ
 refine jm (.bool ((decide (20 < (((xa.2.1.length : Nat) : Int)))) || (decide (20 < (((xa.2.2.1.length : Nat) : Int)))))) rfl <| J.cut 5 ?_
 obtain ⟨t179, ht180, h⟩ := ob h
 refine jmeet [(19, .bool t179), (1, .pointer (some ⟨b168, 0, none⟩))] ?_ ?_
 · rcases bt ((decide (20 < (((xa.2.1.length : Nat) : Int)))) || (decide (20 < (((xa.2.2.1.length : Nat) : Int))))) with hc181 | hc181
   · have ht180 := ct hc181 ht180
     refine J.skip rfl rfl rfl rfl hc181 <| J.skip rfl rfl rfl rfl hc181 <| J.skip rfl rfl rfl rfl hc181 <| J.skip rfl rfl rfl rfl hc181 <| jv (.bool true) (V.pickT rfl hc181 rfl) <| J.nil ?_
     obtain rfl := si ht180
     exact ⟨rfl, ⟨rfl, rfl, trivial⟩, rfl, rfl⟩
   have ht180 := cf hc181 ht180
   refine J.run rfl rfl rfl hc181 <| jv _ (V.fad Tryz.underlying63 rfl nz30 rfl) <| J.run rfl rfl rfl hc181 <| jv (.agg #[.slice adxa_3 xa.2.2.2.length cpxa_3]) (V.ld rfl (Ld.agg (cs := [.slice adxa_3 xa.2.2.2.length cpxa_3]) Tryz.underlying30 sz30 rfl (Rd.cls 0 3 rfl rfl))) <| J.run rfl rfl rfl hc181 ?_
   obtain ⟨r182, hr183, ht180⟩ := ob ht180
   refine J.op rfl (A.call (L1 := []) Tryz.call50 rfl (ref15_Few_ok fxa_3 hr183) rfl rfl) ?_
   rintro _ _ _ ⟨v185, _, rfl, ⟨⟨t184, rfl, rfl, rfl⟩, rfl⟩, _, rfl⟩
   refine J.run rfl rfl rfl hc181 <| jv (.bool (!t184)) (V.not rfl) <| jv (.bool (!t184)) (V.pickF rfl hc181 rfl) <| J.nil ?_
   obtain rfl := si ht180
   exact ⟨rfl, ⟨rfl, rfl, trivial⟩, rfl, rfl⟩
 intro ρ
 refine J.nil <| cc rfl h (fun hc188 h => ?_) fun hc188 h => ?_
 · refine cr <| ja (.bool false) rfl <| J.nil <| CJ.ret ?_
   obtain rfl := si h
   exact ⟨_, _, Res.one rfl rfl, ⟨false, rfl, rfl, rfl⟩, (Hp.le_refl _), fun w hs => (Sep.dropAt 0 rfl hs)⟩
 refine CJ.skip <| CJ.seq <| cr <| ja (ii 0) rfl <| J.nil ?_
 obtain ⟨o259, ho260, h⟩ := ob h
 refine CJ.joinN (o := o259) (fun s ρ K' L' => () = s ∧ Fits [] ρ ∧ K = K' ∧ F = L') ?_ ?_
 · refine CJ.block <| CJ.loop (fun s ρ K' L' => ∃ (i283 : Int), i283 = s ∧ Fits [(1, .pointer (some ⟨b168, 0, none⟩)), (3, ii i283)] ρ ∧ K = K' ∧ L' = Cl b168 63 [ii xa.1, .slice adxa_1 xa.2.1.length cpxa_1, .slice adxa_2 xa.2.2.1.length cpxa_2, .slice adxa_3 xa.2.2.2.length cpxa_3] :: F) ho260 ⟨0, rfl, ⟨rfl, rfl, trivial⟩, rfl, rfl⟩ ?_
   rintro s ρ _ _ r309 ⟨i283, rfl, hf307, rfl, rfl⟩ h306
   obtain ⟨ρ, rfl⟩ := hf307.ex
   refine CJ.seq <| cr <| jm (ii i283) rfl <| jv _ (V.fad Tryz.underlying63 rfl nz27 rfl) <| jv (.slice adxa_2 xa.2.2.1.length cpxa_2) (V.ld rfl (Ld.sc sc27 (Rd.cl 0 rfl rfl))) <| jv (ii (((xa.2.2.1.length : Nat) : Int))) (V.len Tryz.underlying27 rfl) ?_
   refine jv (.bool (decide (i283 < (((xa.2.2.1.length : Nat) : Int))))) (V.lss rfl rfl) <| J.nil <| cc rfl h306 (fun hc310 h306 => ?_) fun hc310 h306 => ?_
   · refine CJ.skip <| CJ.seq <| CJ.block <| cr <| jv _ (V.fad Tryz.underlying63 rfl nz27 rfl) <| jv (.slice adxa_2 xa.2.2.1.length cpxa_2) (V.ld rfl (Ld.sc sc27 (Rd.cl 0 rfl rfl))) ?_
     refine jm (ii i283) rfl ?_
     obtain ⟨x311, hx312, h306⟩ := ob h306
     obtain ⟨p313, p314, p315⟩ := getI_some hx312
     obtain ⟨b316, o317, e318, a319⟩ := (fxa_2).at p314
     refine jv _ (V.iad Tryz.underlying27 sz30 rfl e318 rfl p313 p315) ?_
     obtain ⟨ad320, cp321, c322, f323⟩ := ((a319).one).sl
     refine jv (.agg #[.slice ad320 x311.length cp321]) (V.ld rfl (Ld.aggK (cs := [.slice ad320 x311.length cp321]) Tryz.underlying30 sz30 rfl ⟨c322, trivial⟩ (Hp.le_refl _))) ?_
     obtain ⟨r324, hr325, h306⟩ := ob h306
     refine J.op rfl (A.call (L1 := []) Tryz.call50 rfl (ref15_Few_ok f323 hr325) rfl rfl) ?_
     rintro _ _ _ ⟨v327, _, rfl, ⟨⟨t326, rfl, rfl, rfl⟩, rfl⟩, _, rfl⟩
     refine jv (.bool (!t326)) (V.not rfl) <| J.nil <| cc rfl h306 (fun hc330 h306 => ?_) fun hc330 h306 => ?_
     · refine cr <| ja (.bool false) rfl <| J.nil <| CJ.ret ?_
       obtain rfl := si h306
       refine ⟨nofun, fun e => ?_⟩
       subst e
       refine .inr ⟨nofun, ?_⟩
       obtain rfl := si h
       exact ⟨_, _, Res.one rfl rfl, ⟨false, rfl, rfl, rfl⟩, (Hp.le_refl _), fun w hs => (Sep.dropAt 0 rfl hs)⟩
     refine CJ.skip <| CJ.region <| jm (ii i283) rfl <| jv (ii (IntKind.wrap .i64 (i283 + 1))) (V.add rfl rfl) <| ja (ii (IntKind.wrap .i64 (i283 + 1))) rfl <| J.nil ?_
     obtain rfl := si h306
     exact ⟨rfl, ⟨IntKind.wrap .i64 (i283 + 1), rfl, ⟨rfl, rfl, trivial⟩, rfl, rfl⟩⟩
   refine CJ.dropAt 0 rfl <| CJ.exit ?_
   obtain rfl := si h306
   refine ⟨nofun, fun e => ?_⟩
   subst e
   exact .inl ⟨rfl, _, rfl, ⟨rfl, trivial, rfl, rfl⟩⟩
 rintro s ρ _ _ ho331 ⟨rfl, hf332, rfl, rfl⟩
 subst ho331
 obtain ⟨ρ, rfl⟩ := hf332.ex
 refine PJ.done <| cr <| ja (.bool true) rfl <| J.nil <| CJ.ret ?_
 obtain rfl := si h
 exact ⟨_, _, Res.one rfl rfl, ⟨true, rfl, rfl, rfl⟩, (Hp.le_refl _), fun w hs => hs⟩
noncomputable def fn_ref20_Small_l1 (xa : (Int × Int × (List (Int × Int)) × (List (List (Int × Bool))) × (List (Int × Bool)) × (List (Int × (List (Int × Int)) × (List (List (Int × Bool))) × (List (Int × Bool)))) × (List ((List (Int × Int × Int × Int × Bool)) × (Int × Int × Int × (List Int) × (List Int) × (List Int)))))) : Int → Option (Int ⊕ (Unit ⊕ Bool)) := fun (i773 : Int) => cond (decide (i773 < (((xa.2.2.2.1.length : Nat) : Int)))) ((getI xa.2.2.2.1 i773).bind fun x801 => (fn_ref15_Few x801 20).bind fun t816 => cond (!t816) (some (.inr ((.inr (false))))) (some (.inl (IntKind.wrap .i64 (i773 + 1))))) (some (.inr ((.inl ()))))
noncomputable def fn_ref20_Small_l2 (xa : (Int × Int × (List (Int × Int)) × (List (List (Int × Bool))) × (List (Int × Bool)) × (List (Int × (List (Int × Int)) × (List (List (Int × Bool))) × (List (Int × Bool)))) × (List ((List (Int × Int × Int × Int × Bool)) × (Int × Int × Int × (List Int) × (List Int) × (List Int)))))) : Int → Option (Int ⊕ (Unit ⊕ Bool)) := fun (i950 : Int) => cond (decide (i950 < (((xa.2.2.2.2.2.1.length : Nat) : Int)))) ((getI xa.2.2.2.2.2.1 i950).bind fun x986 => (fn_ref17_Few (x986.1, x986.2.1, x986.2.2.1, x986.2.2.2)).bind fun t1009 => cond (!t1009) (some (.inr ((.inr (false))))) (some (.inl (IntKind.wrap .i64 (i950 + 1))))) (some (.inr ((.inl ()))))
noncomputable def fn_ref20_Small_l3 (xa : (Int × Int × (List (Int × Int)) × (List (List (Int × Bool))) × (List (Int × Bool)) × (List (Int × (List (Int × Int)) × (List (List (Int × Bool))) × (List (Int × Bool)))) × (List ((List (Int × Int × Int × Int × Bool)) × (Int × Int × Int × (List Int) × (List Int) × (List Int)))))) : (Int × Int) → Option ((Int × Int) ⊕ (Int ⊕ Bool)) := fun ((i1204, i1205) : (Int × Int)) => cond (decide (i1205 < (((xa.2.2.2.2.2.2.length : Nat) : Int)))) ((getI xa.2.2.2.2.2.2 i1205).bind fun x1256 => (getI xa.2.2.2.2.2.2 i1205).bind fun x1278 => cond (((decide (20 < (((x1256.2.2.2.2.1.length : Nat) : Int)))) || (decide (20 < (((x1256.2.2.2.2.2.1.length : Nat) : Int))))) || (decide (20 < (((x1256.2.2.2.2.2.2.length : Nat) : Int))))) (some (.inr ((.inr (false))))) (some (.inl ((IntKind.wrap .i64 (i1204 + (((x1278.1.length : Nat) : Int))), IntKind.wrap .i64 (i1205 + 1)))))) (some (.inr (.inl i1204)))
noncomputable def fn_ref20_Small (xa : (Int × Int × (List (Int × Int)) × (List (List (Int × Bool))) × (List (Int × Bool)) × (List (Int × (List (Int × Int)) × (List (List (Int × Bool))) × (List (Int × Bool)))) × (List ((List (Int × Int × Int × Int × Bool)) × (Int × Int × Int × (List Int) × (List Int) × (List Int)))))) : Option Bool :=
  (cond ((((decide (20 < (((xa.2.2.1.length : Nat) : Int)))) || (decide (10 < (((xa.2.2.2.1.length : Nat) : Int))))) || (decide (4 < (((xa.2.2.2.2.2.1.length : Nat) : Int))))) || (decide (8 < (((xa.2.2.2.2.2.2.length : Nat) : Int))))) (some (true)) ((fn_ref15_Few xa.2.2.2.2.1 20).bind fun t674 => some (!t674))).bind fun t669 => cond (t669) (some (false)) ((loop (fn_ref20_Small_l1 xa) 0 : Option (Unit ⊕ Bool)).bind fun o => match o with | .inr r => some r | .inl () => (loop (fn_ref20_Small_l2 xa) 0 : Option (Unit ⊕ Bool)).bind fun o => match o with | .inr r => some r | .inl () => (loop (fn_ref20_Small_l3 xa) (0, 0) : Option (Int ⊕ Bool)).bind fun o => match o with | .inr r => some r | .inl i1156 => some (decide (i1156 ≤ 24)))
set_option maxRecDepth 100000 in
set_option maxHeartbeats 4000000 in
theorem ref20_Small_ok {K : Hp} {xa : (Int × Int × (List (Int × Int)) × (List (List (Int × Bool))) × (List (Int × Bool)) × (List (Int × (List (Int × Int)) × (List (List (Int × Bool))) × (List (Int × Bool)))) × (List ((List (Int × Int × Int × Int × Bool)) × (Int × Int × Int × (List Int) × (List Int) × (List Int)))))} {adxa_2 : Option Addr} {cpxa_2 : Nat} {adxa_3 : Option Addr} {cpxa_3 : Nat} {adxa_4 : Option Addr} {cpxa_4 : Nat} {adxa_5 : Option Addr} {cpxa_5 : Nat} {adxa_6 : Option Addr} {cpxa_6 : Nat} (fxa_2 : Is K (.sl (.cons (.int .i64) (.one (.int .i64)))) [.slice adxa_2 xa.2.2.1.length cpxa_2] xa.2.2.1) (fxa_3 : Is K (.sl (.one (.sl (.cons (.int .i64) (.one .bool))))) [.slice adxa_3 xa.2.2.2.1.length cpxa_3] xa.2.2.2.1) (fxa_4 : Is K (.sl (.cons (.int .i64) (.one .bool))) [.slice adxa_4 xa.2.2.2.2.1.length cpxa_4] xa.2.2.2.2.1) (fxa_5 : Is K (.sl (.cons (.int .i64) (.cons (.sl (.cons (.int .i64) (.one (.int .i64)))) (.cons (.sl (.one (.sl (.cons (.int .i64) (.one .bool))))) (.one (.one (.sl (.cons (.int .i64) (.one .bool))))))))) [.slice adxa_5 xa.2.2.2.2.2.1.length cpxa_5] xa.2.2.2.2.2.1) (fxa_6 : Is K (.sl (.cons (.sl (.cons (.int .i64) (.cons (.int .i64) (.cons (.int .i64) (.cons (.int .i64) (.one .bool)))))) (.one (.cons (.int .i64) (.cons (.int .i64) (.cons (.int .i64) (.cons (.sl (.int .i64)) (.cons (.sl (.int .i64)) (.one (.sl (.int .i64))))))))))) [.slice adxa_6 xa.2.2.2.2.2.2.length cpxa_6] xa.2.2.2.2.2.2) {r : Bool} (h : fn_ref20_Small xa = some r) :
    Tr Tryz.prog 12 #[.agg #[ii xa.1, ii xa.2.1, .slice adxa_2 xa.2.2.1.length cpxa_2, .slice adxa_3 xa.2.2.2.1.length cpxa_3, .slice adxa_4 xa.2.2.2.2.1.length cpxa_4, .slice adxa_5 xa.2.2.2.2.2.1.length cpxa_5, .slice adxa_6 xa.2.2.2.2.2.2.length cpxa_6]] K [] (fun v K' L' => (∃ (t651 : Bool), t651 = r ∧ .bool t651 = v ∧ L' = []) ∧ K = K') := by
 refine Tr.k <| Tr.of Tryz.func12 rfl Tryz.ntmps12 rfl fun E F => ?_
 unfold fn_ref20_Small at h
 refine cr <| jbx [ii xa.1, ii xa.2.1, .slice adxa_2 xa.2.2.1.length cpxa_2, .slice adxa_3 xa.2.2.2.1.length cpxa_3, .slice adxa_4 xa.2.2.2.2.1.length cpxa_4, .slice adxa_5 xa.2.2.2.2.2.1.length cpxa_5, .slice adxa_6 xa.2.2.2.2.2.2.length cpxa_6] rfl rfl fun b652 => ja (.bool false) rfl <| J.nil <| CJ.seq <| CJ.seq ?_
 refine CJ.region <| jv _ (V.fad Tryz.underlying34 rfl nz26 rfl) <| jv (.slice adxa_2 xa.2.2.1.length cpxa_2) (V.ld rfl (Ld.sc sc26 (Rd.cl 0 rfl rfl))) <| jv (ii (((xa.2.2.1.length : Nat) : Int))) (V.len Tryz.underlying26 rfl) <| jv (.bool (decide (20 < (((xa.2.2.1.length : Nat) : Int))))) (V.gtr rfl rfl) <| jm (.bool (decide (20 < (((xa.2.2.1.length : Nat) : Int))))) rfl <| J.cut 5 ?_
 refine jmeet [(17, .bool ((decide (20 < (((xa.2.2.1.length : Nat) : Int)))) || (decide (10 < (((xa.2.2.2.1.length : Nat) : Int)))))), (1, .pointer (some ⟨b652, 0, none⟩))] ?_ ?_
 · rcases bt (decide (20 < (((xa.2.2.1.length : Nat) : Int)))) with hc655 | hc655
   · refine J.skip rfl rfl rfl rfl hc655 <| J.skip rfl rfl rfl rfl hc655 <| J.skip rfl rfl rfl rfl hc655 <| J.skip rfl rfl rfl rfl hc655 <| jv (.bool true) (V.pickT rfl hc655 rfl) <| J.nil ?_
     exact ⟨rfl, ⟨(by simp only [hc655]; rfl), rfl, trivial⟩, rfl, rfl⟩
   refine J.run rfl rfl rfl hc655 <| jv _ (V.fad Tryz.underlying34 rfl nz27 rfl) <| J.run rfl rfl rfl hc655 <| jv (.slice adxa_3 xa.2.2.2.1.length cpxa_3) (V.ld rfl (Ld.sc sc27 (Rd.cl 0 rfl rfl))) <| J.run rfl rfl rfl hc655 <| jv (ii (((xa.2.2.2.1.length : Nat) : Int))) (V.len Tryz.underlying27 rfl) <| J.run rfl rfl rfl hc655 ?_
   refine jv (.bool (decide (10 < (((xa.2.2.2.1.length : Nat) : Int))))) (V.gtr rfl rfl) <| jv (.bool (decide (10 < (((xa.2.2.2.1.length : Nat) : Int))))) (V.pickF rfl hc655 rfl) <| J.nil ?_
   exact ⟨rfl, ⟨(by simp only [hc655]; rfl), rfl, trivial⟩, rfl, rfl⟩
 intro ρ
 refine jm (.bool ((decide (20 < (((xa.2.2.1.length : Nat) : Int)))) || (decide (10 < (((xa.2.2.2.1.length : Nat) : Int)))))) rfl <| J.cut 5 <| jmeet [(23, .bool (((decide (20 < (((xa.2.2.1.length : Nat) : Int)))) || (decide (10 < (((xa.2.2.2.1.length : Nat) : Int))))) || (decide (4 < (((xa.2.2.2.2.2.1.length : Nat) : Int)))))), (1, .pointer (some ⟨b652, 0, none⟩))] ?_ ?_
 · rcases bt ((decide (20 < (((xa.2.2.1.length : Nat) : Int)))) || (decide (10 < (((xa.2.2.2.1.length : Nat) : Int))))) with hc658 | hc658
   · refine J.skip rfl rfl rfl rfl hc658 <| J.skip rfl rfl rfl rfl hc658 <| J.skip rfl rfl rfl rfl hc658 <| J.skip rfl rfl rfl rfl hc658 <| jv (.bool true) (V.pickT rfl hc658 rfl) <| J.nil ?_
     exact ⟨rfl, ⟨(by simp only [hc658]; rfl), rfl, trivial⟩, rfl, rfl⟩
   refine J.run rfl rfl rfl hc658 <| jv _ (V.fad Tryz.underlying34 rfl nz31 rfl) <| J.run rfl rfl rfl hc658 <| jv (.slice adxa_5 xa.2.2.2.2.2.1.length cpxa_5) (V.ld rfl (Ld.sc sc31 (Rd.cl 0 rfl rfl))) <| J.run rfl rfl rfl hc658 <| jv (ii (((xa.2.2.2.2.2.1.length : Nat) : Int))) (V.len Tryz.underlying31 rfl) <| J.run rfl rfl rfl hc658 ?_
   refine jv (.bool (decide (4 < (((xa.2.2.2.2.2.1.length : Nat) : Int))))) (V.gtr rfl rfl) <| jv (.bool (decide (4 < (((xa.2.2.2.2.2.1.length : Nat) : Int))))) (V.pickF rfl hc658 rfl) <| J.nil ?_
   exact ⟨rfl, ⟨(by simp only [hc658]; rfl), rfl, trivial⟩, rfl, rfl⟩
 intro ρ
 refine jm (.bool (((decide (20 < (((xa.2.2.1.length : Nat) : Int)))) || (decide (10 < (((xa.2.2.2.1.length : Nat) : Int))))) || (decide (4 < (((xa.2.2.2.2.2.1.length : Nat) : Int)))))) rfl <| J.cut 5 <| jmeet [(29, .bool ((((decide (20 < (((xa.2.2.1.length : Nat) : Int)))) || (decide (10 < (((xa.2.2.2.1.length : Nat) : Int))))) || (decide (4 < (((xa.2.2.2.2.2.1.length : Nat) : Int))))) || (decide (8 < (((xa.2.2.2.2.2.2.length : Nat) : Int)))))), (1, .pointer (some ⟨b652, 0, none⟩))] ?_ ?_
 · rcases bt (((decide (20 < (((xa.2.2.1.length : Nat) : Int)))) || (decide (10 < (((xa.2.2.2.1.length : Nat) : Int))))) || (decide (4 < (((xa.2.2.2.2.2.1.length : Nat) : Int))))) with hc661 | hc661
   · refine J.skip rfl rfl rfl rfl hc661 <| J.skip rfl rfl rfl rfl hc661 <| J.skip rfl rfl rfl rfl hc661 <| J.skip rfl rfl rfl rfl hc661 <| jv (.bool true) (V.pickT rfl hc661 rfl) <| J.nil ?_
     exact ⟨rfl, ⟨(by simp only [hc661]; rfl), rfl, trivial⟩, rfl, rfl⟩
   refine J.run rfl rfl rfl hc661 <| jv _ (V.fad Tryz.underlying34 rfl nz32 rfl) <| J.run rfl rfl rfl hc661 <| jv (.slice adxa_6 xa.2.2.2.2.2.2.length cpxa_6) (V.ld rfl (Ld.sc sc32 (Rd.cl 0 rfl rfl))) <| J.run rfl rfl rfl hc661 <| jv (ii (((xa.2.2.2.2.2.2.length : Nat) : Int))) (V.len Tryz.underlying32 rfl) <| J.run rfl rfl rfl hc661 ?_
   refine jv (.bool (decide (8 < (((xa.2.2.2.2.2.2.length : Nat) : Int))))) (V.gtr rfl rfl) <| jv (.bool (decide (8 < (((xa.2.2.2.2.2.2.length : Nat) : Int))))) (V.pickF rfl hc661 rfl) <| J.nil ?_
   exact ⟨rfl, ⟨(by simp only [hc661]; rfl), rfl, trivial⟩, rfl, rfl⟩
 intro ρ
 refine jm (.bool ((((decide (20 < (((xa.2.2.1.length : Nat) : Int)))) || (decide (10 < (((xa.2.2.2.1.length : Nat) : Int))))) || (decide (4 < (((xa.2.2.2.2.2.1.length : Nat) : Int))))) || (decide (8 < (((xa.2.2.2.2.2.2.length : Nat) : Int)))))) rfl <| J.cut 5 ?_
 obtain ⟨t669, ht670, h⟩ := ob h
 refine jmeet [(35, .bool t669), (1, .pointer (some ⟨b652, 0, none⟩))] ?_ ?_
 · rcases bt ((((decide (20 < (((xa.2.2.1.length : Nat) : Int)))) || (decide (10 < (((xa.2.2.2.1.length : Nat) : Int))))) || (decide (4 < (((xa.2.2.2.2.2.1.length : Nat) : Int))))) || (decide (8 < (((xa.2.2.2.2.2.2.length : Nat) : Int))))) with hc671 | hc671
   · have ht670 := ct hc671 ht670
     refine J.skip rfl rfl rfl rfl hc671 <| J.skip rfl rfl rfl rfl hc671 <| J.skip rfl rfl rfl rfl hc671 <| J.skip rfl rfl rfl rfl hc671 <| jv (.bool true) (V.pickT rfl hc671 rfl) <| J.nil ?_
     obtain rfl := si ht670
     exact ⟨rfl, ⟨rfl, rfl, trivial⟩, rfl, rfl⟩
   have ht670 := cf hc671 ht670
   refine J.run rfl rfl rfl hc671 <| jv _ (V.fad Tryz.underlying34 rfl nz30 rfl) <| J.run rfl rfl rfl hc671 <| jv (.agg #[.slice adxa_4 xa.2.2.2.2.1.length cpxa_4]) (V.ld rfl (Ld.agg (cs := [.slice adxa_4 xa.2.2.2.2.1.length cpxa_4]) Tryz.underlying30 sz30 rfl (Rd.cls 0 4 rfl rfl))) <| J.run rfl rfl rfl hc671 ?_
   obtain ⟨r672, hr673, ht670⟩ := ob ht670
   refine J.op rfl (A.call (L1 := []) Tryz.call50 rfl (ref15_Few_ok fxa_4 hr673) rfl rfl) ?_
   rintro _ _ _ ⟨v675, _, rfl, ⟨⟨t674, rfl, rfl, rfl⟩, rfl⟩, _, rfl⟩
   refine J.run rfl rfl rfl hc671 <| jv (.bool (!t674)) (V.not rfl) <| jv (.bool (!t674)) (V.pickF rfl hc671 rfl) <| J.nil ?_
   obtain rfl := si ht670
   exact ⟨rfl, ⟨rfl, rfl, trivial⟩, rfl, rfl⟩
 intro ρ
 refine J.nil <| cc rfl h (fun hc678 h => ?_) fun hc678 h => ?_
 · refine cr <| ja (.bool false) rfl <| J.nil <| CJ.ret ?_
   obtain rfl := si h
   exact ⟨_, _, Res.one rfl rfl, ⟨false, rfl, rfl, rfl⟩, (Hp.le_refl _), fun w hs => (Sep.dropAt 0 rfl hs)⟩
 refine CJ.skip <| CJ.seq <| cr <| ja (ii 0) rfl <| J.nil ?_
 obtain ⟨o749, ho750, h⟩ := ob h
 refine CJ.joinN (o := o749) (fun s ρ K' L' => () = s ∧ Fits [(1, .pointer (some ⟨b652, 0, none⟩))] ρ ∧ K = K' ∧ L' = Cl b652 34 [ii xa.1, ii xa.2.1, .slice adxa_2 xa.2.2.1.length cpxa_2, .slice adxa_3 xa.2.2.2.1.length cpxa_3, .slice adxa_4 xa.2.2.2.2.1.length cpxa_4, .slice adxa_5 xa.2.2.2.2.2.1.length cpxa_5, .slice adxa_6 xa.2.2.2.2.2.2.length cpxa_6] :: F) ?_ ?_
 · refine CJ.block <| CJ.loop (fun s ρ K' L' => ∃ (i773 : Int), i773 = s ∧ Fits [(1, .pointer (some ⟨b652, 0, none⟩)), (3, ii i773)] ρ ∧ K = K' ∧ L' = Cl b652 34 [ii xa.1, ii xa.2.1, .slice adxa_2 xa.2.2.1.length cpxa_2, .slice adxa_3 xa.2.2.2.1.length cpxa_3, .slice adxa_4 xa.2.2.2.2.1.length cpxa_4, .slice adxa_5 xa.2.2.2.2.2.1.length cpxa_5, .slice adxa_6 xa.2.2.2.2.2.2.length cpxa_6] :: F) ho750 ⟨0, rfl, ⟨rfl, rfl, trivial⟩, rfl, rfl⟩ ?_
   rintro s ρ _ _ r799 ⟨i773, rfl, hf797, rfl, rfl⟩ h796
   obtain ⟨ρ, rfl⟩ := hf797.ex
   refine CJ.seq <| cr <| jm (ii i773) rfl <| jv _ (V.fad Tryz.underlying34 rfl nz27 rfl) <| jv (.slice adxa_3 xa.2.2.2.1.length cpxa_3) (V.ld rfl (Ld.sc sc27 (Rd.cl 0 rfl rfl))) <| jv (ii (((xa.2.2.2.1.length : Nat) : Int))) (V.len Tryz.underlying27 rfl) ?_
   refine jv (.bool (decide (i773 < (((xa.2.2.2.1.length : Nat) : Int))))) (V.lss rfl rfl) <| J.nil <| cc rfl h796 (fun hc800 h796 => ?_) fun hc800 h796 => ?_
   · refine CJ.skip <| CJ.seq <| CJ.block <| cr <| jv _ (V.fad Tryz.underlying34 rfl nz27 rfl) <| jv (.slice adxa_3 xa.2.2.2.1.length cpxa_3) (V.ld rfl (Ld.sc sc27 (Rd.cl 0 rfl rfl))) ?_
     refine jm (ii i773) rfl ?_
     obtain ⟨x801, hx802, h796⟩ := ob h796
     obtain ⟨p803, p804, p805⟩ := getI_some hx802
     obtain ⟨b806, o807, e808, a809⟩ := (fxa_3).at p804
     refine jv _ (V.iad Tryz.underlying27 sz30 rfl e808 rfl p803 p805) ?_
     obtain ⟨ad810, cp811, c812, f813⟩ := ((a809).one).sl
     refine jv (.agg #[.slice ad810 x801.length cp811]) (V.ld rfl (Ld.aggK (cs := [.slice ad810 x801.length cp811]) Tryz.underlying30 sz30 rfl ⟨c812, trivial⟩ (Hp.le_refl _))) ?_
     obtain ⟨r814, hr815, h796⟩ := ob h796
     refine J.op rfl (A.call (L1 := []) Tryz.call50 rfl (ref15_Few_ok f813 hr815) rfl rfl) ?_
     rintro _ _ _ ⟨v817, _, rfl, ⟨⟨t816, rfl, rfl, rfl⟩, rfl⟩, _, rfl⟩
     refine jv (.bool (!t816)) (V.not rfl) <| J.nil <| cc rfl h796 (fun hc820 h796 => ?_) fun hc820 h796 => ?_
     · refine cr <| ja (.bool false) rfl <| J.nil <| CJ.ret ?_
       obtain rfl := si h796
       refine ⟨nofun, fun e => ?_⟩
       subst e
       refine .inr ⟨nofun, ?_⟩
       obtain rfl := si h
       exact ⟨_, _, Res.one rfl rfl, ⟨false, rfl, rfl, rfl⟩, (Hp.le_refl _), fun w hs => (Sep.dropAt 0 rfl hs)⟩
     refine CJ.skip <| CJ.region <| jm (ii i773) rfl <| jv (ii (IntKind.wrap .i64 (i773 + 1))) (V.add rfl rfl) <| ja (ii (IntKind.wrap .i64 (i773 + 1))) rfl <| J.nil ?_
     obtain rfl := si h796
     exact ⟨rfl, ⟨IntKind.wrap .i64 (i773 + 1), rfl, ⟨rfl, rfl, trivial⟩, rfl, rfl⟩⟩
   refine CJ.exit ?_
   obtain rfl := si h796
   refine ⟨nofun, fun e => ?_⟩
   subst e
   exact .inl ⟨rfl, _, rfl, ⟨rfl, ⟨rfl, trivial⟩, rfl, rfl⟩⟩
 rintro s ρ _ _ ho821 ⟨rfl, hf822, rfl, rfl⟩
 subst ho821
 obtain ⟨ρ, rfl⟩ := hf822.ex
 refine PJ.done <| CJ.seq <| cr <| ja (ii 0) rfl <| J.nil ?_
 obtain ⟨o918, ho919, h⟩ := ob h
 refine CJ.joinN (o := o918) (fun s ρ K' L' => () = s ∧ Fits [(1, .pointer (some ⟨b652, 0, none⟩))] ρ ∧ K = K' ∧ L' = Cl b652 34 [ii xa.1, ii xa.2.1, .slice adxa_2 xa.2.2.1.length cpxa_2, .slice adxa_3 xa.2.2.2.1.length cpxa_3, .slice adxa_4 xa.2.2.2.2.1.length cpxa_4, .slice adxa_5 xa.2.2.2.2.2.1.length cpxa_5, .slice adxa_6 xa.2.2.2.2.2.2.length cpxa_6] :: F) ?_ ?_
 · refine CJ.block <| CJ.loop (fun s ρ K' L' => ∃ (i950 : Int), i950 = s ∧ Fits [(1, .pointer (some ⟨b652, 0, none⟩)), (4, ii i950)] ρ ∧ K = K' ∧ L' = Cl b652 34 [ii xa.1, ii xa.2.1, .slice adxa_2 xa.2.2.1.length cpxa_2, .slice adxa_3 xa.2.2.2.1.length cpxa_3, .slice adxa_4 xa.2.2.2.2.1.length cpxa_4, .slice adxa_5 xa.2.2.2.2.2.1.length cpxa_5, .slice adxa_6 xa.2.2.2.2.2.2.length cpxa_6] :: F) ho919 ⟨0, rfl, ⟨rfl, rfl, trivial⟩, rfl, rfl⟩ ?_
   rintro s ρ _ _ r984 ⟨i950, rfl, hf982, rfl, rfl⟩ h981
   obtain ⟨ρ, rfl⟩ := hf982.ex
   refine CJ.seq <| cr <| jm (ii i950) rfl <| jv _ (V.fad Tryz.underlying34 rfl nz31 rfl) <| jv (.slice adxa_5 xa.2.2.2.2.2.1.length cpxa_5) (V.ld rfl (Ld.sc sc31 (Rd.cl 0 rfl rfl))) <| jv (ii (((xa.2.2.2.2.2.1.length : Nat) : Int))) (V.len Tryz.underlying31 rfl) ?_
   refine jv (.bool (decide (i950 < (((xa.2.2.2.2.2.1.length : Nat) : Int))))) (V.lss rfl rfl) <| J.nil <| cc rfl h981 (fun hc985 h981 => ?_) fun hc985 h981 => ?_
   · refine CJ.skip <| CJ.seq <| CJ.block <| cr <| jv _ (V.fad Tryz.underlying34 rfl nz31 rfl) <| jv (.slice adxa_5 xa.2.2.2.2.2.1.length cpxa_5) (V.ld rfl (Ld.sc sc31 (Rd.cl 0 rfl rfl))) ?_
     refine jm (ii i950) rfl ?_
     obtain ⟨x986, hx987, h981⟩ := ob h981
     obtain ⟨p988, p989, p990⟩ := getI_some hx987
     obtain ⟨b991, o992, e993, a994⟩ := (fxa_5).at p989
     refine jv _ (V.iad Tryz.underlying31 sz63 rfl e993 rfl p988 p990) ?_
     obtain ⟨ad995, cp996, c997, f998⟩ := (((a994).snd).fst).sl
     obtain ⟨ad999, cp1000, c1001, f1002⟩ := ((((a994).snd).snd).fst).sl
     obtain ⟨ad1003, cp1004, c1005, f1006⟩ := ((((((a994).snd).snd).snd).one).one).sl
     refine jv (.agg #[ii x986.1, .slice ad995 x986.2.1.length cp996, .slice ad999 x986.2.2.1.length cp1000, .slice ad1003 x986.2.2.2.length cp1004]) (V.ld rfl (Ld.aggK (cs := [ii x986.1, .slice ad995 x986.2.1.length cp996, .slice ad999 x986.2.2.1.length cp1000, .slice ad1003 x986.2.2.2.length cp1004]) Tryz.underlying63 sz63 rfl ⟨((a994).fst).int, c997, c1001, c1005, trivial⟩ (Hp.le_refl _))) ?_
     obtain ⟨r1007, hr1008, h981⟩ := ob h981
     refine J.op rfl (A.call (L1 := []) Tryz.call51 rfl (ref17_Few_ok f998 f1002 f1006 hr1008) rfl rfl) ?_
     rintro _ _ _ ⟨v1010, _, rfl, ⟨⟨t1009, rfl, rfl, rfl⟩, rfl⟩, _, rfl⟩
     refine jv (.bool (!t1009)) (V.not rfl) <| J.nil <| cc rfl h981 (fun hc1013 h981 => ?_) fun hc1013 h981 => ?_
     · refine cr <| ja (.bool false) rfl <| J.nil <| CJ.ret ?_
       obtain rfl := si h981
       refine ⟨nofun, fun e => ?_⟩
       subst e
       refine .inr ⟨nofun, ?_⟩
       obtain rfl := si h
       exact ⟨_, _, Res.one rfl rfl, ⟨false, rfl, rfl, rfl⟩, (Hp.le_refl _), fun w hs => (Sep.dropAt 0 rfl hs)⟩
     refine CJ.skip <| CJ.region <| jm (ii i950) rfl <| jv (ii (IntKind.wrap .i64 (i950 + 1))) (V.add rfl rfl) <| ja (ii (IntKind.wrap .i64 (i950 + 1))) rfl <| J.nil ?_
     obtain rfl := si h981
     exact ⟨rfl, ⟨IntKind.wrap .i64 (i950 + 1), rfl, ⟨rfl, rfl, trivial⟩, rfl, rfl⟩⟩
   refine CJ.exit ?_
   obtain rfl := si h981
   refine ⟨nofun, fun e => ?_⟩
   subst e
   exact .inl ⟨rfl, _, rfl, ⟨rfl, ⟨rfl, trivial⟩, rfl, rfl⟩⟩
 rintro s ρ _ _ ho1014 ⟨rfl, hf1015, rfl, rfl⟩
 subst ho1014
 obtain ⟨ρ, rfl⟩ := hf1015.ex
 refine PJ.done <| cr <| ja (ii 0) rfl <| J.nil <| CJ.seq <| CJ.seq ?_
 refine CJ.region <| ja (ii 0) rfl <| J.nil ?_
 obtain ⟨o1157, ho1158, h⟩ := ob h
 refine CJ.joinN (o := o1157) (fun s ρ K' L' => ∃ (i1156 : Int), i1156 = s ∧ Fits [(5, ii i1156)] ρ ∧ K = K' ∧ F = L') ?_ ?_
 · refine CJ.block <| CJ.loop (fun s ρ K' L' => ∃ (i1204 : Int) (i1205 : Int), (i1204, i1205) = s ∧ Fits [(1, .pointer (some ⟨b652, 0, none⟩)), (5, ii i1204), (6, ii i1205)] ρ ∧ K = K' ∧ L' = Cl b652 34 [ii xa.1, ii xa.2.1, .slice adxa_2 xa.2.2.1.length cpxa_2, .slice adxa_3 xa.2.2.2.1.length cpxa_3, .slice adxa_4 xa.2.2.2.2.1.length cpxa_4, .slice adxa_5 xa.2.2.2.2.2.1.length cpxa_5, .slice adxa_6 xa.2.2.2.2.2.2.length cpxa_6] :: F) ho1158 ⟨0, 0, rfl, ⟨rfl, rfl, rfl, trivial⟩, rfl, rfl⟩ ?_
   rintro s ρ _ _ r1254 ⟨i1204, i1205, rfl, hf1252, rfl, rfl⟩ h1251
   obtain ⟨ρ, rfl⟩ := hf1252.ex
   refine CJ.seq <| cr <| jm (ii i1205) rfl <| jv _ (V.fad Tryz.underlying34 rfl nz32 rfl) <| jv (.slice adxa_6 xa.2.2.2.2.2.2.length cpxa_6) (V.ld rfl (Ld.sc sc32 (Rd.cl 0 rfl rfl))) <| jv (ii (((xa.2.2.2.2.2.2.length : Nat) : Int))) (V.len Tryz.underlying32 rfl) ?_
   refine jv (.bool (decide (i1205 < (((xa.2.2.2.2.2.2.length : Nat) : Int))))) (V.lss rfl rfl) <| J.nil <| cc rfl h1251 (fun hc1255 h1251 => ?_) fun hc1255 h1251 => ?_
   · refine CJ.skip <| CJ.seq <| CJ.block <| cr <| jv _ (V.fad Tryz.underlying34 rfl nz32 rfl) <| jv (.slice adxa_6 xa.2.2.2.2.2.2.length cpxa_6) (V.ld rfl (Ld.sc sc32 (Rd.cl 0 rfl rfl))) ?_
     refine jm (ii i1205) rfl ?_
     obtain ⟨x1256, hx1257, h1251⟩ := ob h1251
     obtain ⟨p1258, p1259, p1260⟩ := getI_some hx1257
     obtain ⟨b1261, o1262, e1263, a1264⟩ := (fxa_6).at p1259
     refine jv _ (V.iad Tryz.underlying32 sz70 rfl e1263 rfl p1258 p1260) <| jv _ (V.fad Tryz.underlying70 rfl nz68 rfl) ?_
     obtain ⟨ad1265, cp1266, c1267, f1268⟩ := (((((((a1264).snd).one).snd).snd).snd).fst).sl
     obtain ⟨ad1269, cp1270, c1271, f1272⟩ := ((((((((a1264).snd).one).snd).snd).snd).snd).fst).sl
     obtain ⟨ad1273, cp1274, c1275, f1276⟩ := (((((((((a1264).snd).one).snd).snd).snd).snd).snd).one).sl
     refine jv (.agg #[ii x1256.2.1, ii x1256.2.2.1, ii x1256.2.2.2.1, .slice ad1265 x1256.2.2.2.2.1.length cp1266, .slice ad1269 x1256.2.2.2.2.2.1.length cp1270, .slice ad1273 x1256.2.2.2.2.2.2.length cp1274]) (V.ld rfl (Ld.aggK (cs := [ii x1256.2.1, ii x1256.2.2.1, ii x1256.2.2.2.1, .slice ad1265 x1256.2.2.2.2.1.length cp1266, .slice ad1269 x1256.2.2.2.2.2.1.length cp1270, .slice ad1273 x1256.2.2.2.2.2.2.length cp1274]) Tryz.underlying68 sz68 rfl ⟨((((a1264).snd).one).fst).int, (((((a1264).snd).one).snd).fst).int, ((((((a1264).snd).one).snd).snd).fst).int, c1267, c1271, c1275, trivial⟩ (Hp.le_refl _))) <| jal inf68 [ii 0, ii 0, ii 0, nos, nos, nos] rfl fun b1277 => js [ii x1256.2.1, ii x1256.2.2.1, ii x1256.2.2.2.1, .slice ad1265 x1256.2.2.2.2.1.length cp1266, .slice ad1269 x1256.2.2.2.2.2.1.length cp1270, .slice ad1273 x1256.2.2.2.2.2.2.length cp1274] sz68 rfl rfl rfl rfl rfl rfl <| J.nil <| cr <| jm (ii i1204) rfl ?_
     refine jv _ (V.fad Tryz.underlying34 rfl nz32 rfl) <| jv (.slice adxa_6 xa.2.2.2.2.2.2.length cpxa_6) (V.ld rfl (Ld.sc sc32 (Rd.cl 1 rfl rfl))) <| jm (ii i1205) rfl ?_
     obtain ⟨x1278, hx1279, h1251⟩ := ob h1251
     obtain ⟨p1280, p1281, p1282⟩ := getI_some hx1279
     obtain ⟨b1283, o1284, e1285, a1286⟩ := (fxa_6).at p1281
     refine jv _ (V.iad Tryz.underlying32 sz70 rfl e1285 rfl p1280 p1282) <| jv _ (V.fad Tryz.underlying70 rfl nz65 rfl) ?_
     obtain ⟨ad1287, cp1288, c1289, f1290⟩ := ((a1286).fst).sl
     refine jv (.slice ad1287 x1278.1.length cp1288) (V.ld rfl (Ld.sc sc65 (Rd.k c1289 (Hp.le_refl _)))) <| jv (ii (((x1278.1.length : Nat) : Int))) (V.len Tryz.underlying65 rfl) <| jv (ii (IntKind.wrap .i64 (i1204 + (((x1278.1.length : Nat) : Int))))) (V.add rfl rfl) <| ja (ii (IntKind.wrap .i64 (i1204 + (((x1278.1.length : Nat) : Int))))) rfl <| J.nil <| CJ.seq <| CJ.region ?_
     refine jv _ (V.fad Tryz.underlying68 rfl nz66 rfl) <| jv (.slice ad1265 x1256.2.2.2.2.1.length cp1266) (V.ld rfl (Ld.sc sc66 (Rd.cl 0 rfl rfl))) <| jv (ii (((x1256.2.2.2.2.1.length : Nat) : Int))) (V.len Tryz.underlying66 rfl) <| jv (.bool (decide (20 < (((x1256.2.2.2.2.1.length : Nat) : Int))))) (V.gtr rfl rfl) <| jm (.bool (decide (20 < (((x1256.2.2.2.2.1.length : Nat) : Int))))) rfl <| J.cut 5 <| jmeet [(95, .bool ((decide (20 < (((x1256.2.2.2.2.1.length : Nat) : Int)))) || (decide (20 < (((x1256.2.2.2.2.2.1.length : Nat) : Int)))))), (1, .pointer (some ⟨b652, 0, none⟩)), (5, ii (IntKind.wrap .i64 (i1204 + (((x1278.1.length : Nat) : Int))))), (6, ii i1205), (7, .pointer (some ⟨b1277, 0, none⟩))] ?_ ?_
     · rcases bt (decide (20 < (((x1256.2.2.2.2.1.length : Nat) : Int)))) with hc1293 | hc1293
       · refine J.skip rfl rfl rfl rfl hc1293 <| J.skip rfl rfl rfl rfl hc1293 <| J.skip rfl rfl rfl rfl hc1293 <| J.skip rfl rfl rfl rfl hc1293 <| jv (.bool true) (V.pickT rfl hc1293 rfl) <| J.nil ?_
         exact ⟨rfl, ⟨(by simp only [hc1293]; rfl), rfl, rfl, rfl, rfl, trivial⟩, rfl, rfl⟩
       refine J.run rfl rfl rfl hc1293 <| jv _ (V.fad Tryz.underlying68 rfl nz66 rfl) <| J.run rfl rfl rfl hc1293 <| jv (.slice ad1269 x1256.2.2.2.2.2.1.length cp1270) (V.ld rfl (Ld.sc sc66 (Rd.cl 0 rfl rfl))) <| J.run rfl rfl rfl hc1293 <| jv (ii (((x1256.2.2.2.2.2.1.length : Nat) : Int))) (V.len Tryz.underlying66 rfl) <| J.run rfl rfl rfl hc1293 ?_
       refine jv (.bool (decide (20 < (((x1256.2.2.2.2.2.1.length : Nat) : Int))))) (V.gtr rfl rfl) <| jv (.bool (decide (20 < (((x1256.2.2.2.2.2.1.length : Nat) : Int))))) (V.pickF rfl hc1293 rfl) <| J.nil ?_
       exact ⟨rfl, ⟨(by simp only [hc1293]; rfl), rfl, rfl, rfl, rfl, trivial⟩, rfl, rfl⟩
     intro ρ
     refine jm (.bool ((decide (20 < (((x1256.2.2.2.2.1.length : Nat) : Int)))) || (decide (20 < (((x1256.2.2.2.2.2.1.length : Nat) : Int)))))) rfl <| J.cut 5 <| jmeet [(101, .bool (((decide (20 < (((x1256.2.2.2.2.1.length : Nat) : Int)))) || (decide (20 < (((x1256.2.2.2.2.2.1.length : Nat) : Int))))) || (decide (20 < (((x1256.2.2.2.2.2.2.length : Nat) : Int)))))), (1, .pointer (some ⟨b652, 0, none⟩)), (5, ii (IntKind.wrap .i64 (i1204 + (((x1278.1.length : Nat) : Int))))), (6, ii i1205)] ?_ ?_
     · rcases bt ((decide (20 < (((x1256.2.2.2.2.1.length : Nat) : Int)))) || (decide (20 < (((x1256.2.2.2.2.2.1.length : Nat) : Int))))) with hc1296 | hc1296
       · refine J.skip rfl rfl rfl rfl hc1296 <| J.skip rfl rfl rfl rfl hc1296 <| J.skip rfl rfl rfl rfl hc1296 <| J.skip rfl rfl rfl rfl hc1296 <| jv (.bool true) (V.pickT rfl hc1296 rfl) <| J.nil ?_
         exact ⟨rfl, ⟨(by simp only [hc1296]; rfl), rfl, rfl, rfl, trivial⟩, rfl, rfl⟩
       refine J.run rfl rfl rfl hc1296 <| jv _ (V.fad Tryz.underlying68 rfl nz66 rfl) <| J.run rfl rfl rfl hc1296 <| jv (.slice ad1273 x1256.2.2.2.2.2.2.length cp1274) (V.ld rfl (Ld.sc sc66 (Rd.cl 0 rfl rfl))) <| J.run rfl rfl rfl hc1296 <| jv (ii (((x1256.2.2.2.2.2.2.length : Nat) : Int))) (V.len Tryz.underlying66 rfl) <| J.run rfl rfl rfl hc1296 ?_
       refine jv (.bool (decide (20 < (((x1256.2.2.2.2.2.2.length : Nat) : Int))))) (V.gtr rfl rfl) <| jv (.bool (decide (20 < (((x1256.2.2.2.2.2.2.length : Nat) : Int))))) (V.pickF rfl hc1296 rfl) <| J.nil ?_
       exact ⟨rfl, ⟨(by simp only [hc1296]; rfl), rfl, rfl, rfl, trivial⟩, rfl, rfl⟩
     intro ρ
     refine J.nil <| cc rfl h1251 (fun hc1297 h1251 => ?_) fun hc1297 h1251 => ?_
     · refine cr <| ja (.bool false) rfl <| J.nil <| CJ.ret ?_
       obtain rfl := si h1251
       refine ⟨nofun, fun e => ?_⟩
       subst e
       refine .inr ⟨nofun, ?_⟩
       obtain rfl := si h
       exact ⟨_, _, Res.one rfl rfl, ⟨false, rfl, rfl, rfl⟩, (Hp.le_refl _), fun w hs => (Sep.dropAt 0 rfl (Sep.dropAt 0 rfl hs))⟩
     refine CJ.skip <| CJ.region <| jm (ii i1205) rfl <| jv (ii (IntKind.wrap .i64 (i1205 + 1))) (V.add rfl rfl) <| ja (ii (IntKind.wrap .i64 (i1205 + 1))) rfl <| J.dropAt 0 rfl <| J.nil ?_
     obtain rfl := si h1251
     exact ⟨rfl, ⟨IntKind.wrap .i64 (i1204 + (((x1278.1.length : Nat) : Int))), IntKind.wrap .i64 (i1205 + 1), rfl, ⟨rfl, rfl, rfl, trivial⟩, rfl, rfl⟩⟩
   refine CJ.dropAt 0 rfl <| CJ.exit ?_
   obtain rfl := si h1251
   refine ⟨nofun, fun e => ?_⟩
   subst e
   exact .inl ⟨rfl, _, rfl, ⟨i1204, rfl, ⟨rfl, trivial⟩, rfl, rfl⟩⟩
 rintro s ρ _ _ ho1298 ⟨i1156, rfl, hf1299, rfl, rfl⟩
 subst ho1298
 obtain ⟨ρ, rfl⟩ := hf1299.ex
 refine PJ.done <| cr <| jm (ii i1156) rfl <| jv (.bool (decide (i1156 ≤ 24))) (V.leq rfl rfl) <| ja (.bool (decide (i1156 ≤ 24))) rfl <| J.nil ?_
 refine CJ.ret ?_
 obtain rfl := si h
 exact ⟨_, _, Res.one rfl rfl, ⟨decide (i1156 ≤ 24), rfl, rfl, rfl⟩, (Hp.le_refl _), fun w hs => hs⟩

noncomputable def fn_law20_one  : Option ((Int × Int × (List (Int × Int)) × (List (List (Int × Bool))) × (List (Int × Bool)) × (List (Int × (List (Int × Int)) × (List (List (Int × Bool))) × (List (Int × Bool)))) × (List ((List (Int × Int × Int × Int × Bool)) × (Int × Int × Int × (List Int) × (List Int) × (List Int)))) × List UInt8)) :=
  some ((1, 1, [], ([[]] : List (List (Int × Bool))), [], [], ([([], (3, 0, 0, [], [], []))] : List ((List (Int × Int × Int × Int × Bool)) × (Int × Int × Int × (List Int) × (List Int) × (List Int)))), ([109, 105, 114, 1, 1, 1, 0, 1, 0, 0, 0, 1, 0, 3] : List UInt8)))
set_option maxRecDepth 100000 in
set_option maxHeartbeats 4000000 in
theorem law20_one_ok {K : Hp}    {r : (Int × Int × (List (Int × Int)) × (List (List (Int × Bool))) × (List (Int × Bool)) × (List (Int × (List (Int × Int)) × (List (List (Int × Bool))) × (List (Int × Bool)))) × (List ((List (Int × Int × Int × Int × Bool)) × (Int × Int × Int × (List Int) × (List Int) × (List Int)))) × List UInt8)} (h : fn_law20_one = some r) :
    Tr Tryz.prog 15 #[] K [] (fun v K' L' => (∃ (i9 : Int) (i10 : Int) (l11 : (List (Int × Int))) (l15 : (List (List (Int × Bool)))) (l20 : (List (Int × Bool))) (l24 : (List (Int × (List (Int × Int)) × (List (List (Int × Bool))) × (List (Int × Bool))))) (l28 : (List ((List (Int × Int × Int × Int × Bool)) × (Int × Int × Int × (List Int) × (List Int) × (List Int))))) (s33 : List UInt8) (ad12 : Option Addr) (cp13 : Nat) (ad16 : Option Addr) (cp17 : Nat) (ad21 : Option Addr) (cp22 : Nat) (ad25 : Option Addr) (cp26 : Nat) (ad29 : Option Addr) (cp30 : Nat), (i9, i10, l11, l15, l20, l24, l28, s33) = r ∧ .tuple #[.agg #[ii i9, ii i10, .slice ad12 l11.length cp13, .slice ad16 l15.length cp17, .slice ad21 l20.length cp22, .slice ad25 l24.length cp26, .slice ad29 l28.length cp30], .string ⟨s33.toArray⟩] = v ∧ Is K' (.sl (.cons (.int .i64) (.one (.int .i64)))) [.slice ad12 l11.length cp13] l11 ∧ Is K' (.sl (.cons (.int .i64) (.one .bool))) [.slice ad21 l20.length cp22] l20 ∧ Is K' (.sl (.cons (.int .i64) (.cons (.sl (.cons (.int .i64) (.one (.int .i64)))) (.cons (.sl (.one (.sl (.cons (.int .i64) (.one .bool))))) (.one (.one (.sl (.cons (.int .i64) (.one .bool))))))))) [.slice ad25 l24.length cp26] l24 ∧ L' = [Row K' 30 (.one (.sl (.cons (.int .i64) (.one .bool)))) (.slice ad16 l15.length cp17) l15, Row K' 70 (.cons (.sl (.cons (.int .i64) (.cons (.int .i64) (.cons (.int .i64) (.cons (.int .i64) (.one .bool)))))) (.one (.cons (.int .i64) (.cons (.int .i64) (.cons (.int .i64) (.cons (.sl (.int .i64)) (.cons (.sl (.int .i64)) (.one (.sl (.int .i64)))))))))) (.slice ad29 l28.length cp30) l28])) := by
 refine Tr.of Tryz.func15 rfl Tryz.ntmps15 rfl fun E F => ?_
 unfold fn_law20_one at h
 refine cr <| jal inf34 [ii 0, ii 0, nos, nos, nos, nos, nos] rfl fun b34 => ja (.string ⟨([] : List UInt8).toArray⟩) rfl <| J.nil <| CJ.seq <| CJ.region ?_
 refine jv (.agg #[nos]) (V.build inf30 places30 rfl rfl) ?_
 refine J.op rfl (A.lit (K0 := K) (ty := (.one (.sl (.cons (.int .i64) (.one .bool))))) (xs := ([[]] : List (List (Int × Bool)))) Tryz.underlying27 inf30 rfl (by decide) rfl rfl rfl ⟨_, _, rfl, (isNil (K := K) (t := (.cons (.int .i64) (.one .bool)))), rfl⟩ rfl (by decide)) ?_
 rintro _ _ _ ⟨b35, rfl, rfl, rfl⟩
 have hn36 : ([[]] : List (List (Int × Bool))) ≠ [] → ∃ g, (some ⟨b35, 0, none⟩ : Option Addr) = some ⟨g, 0, none⟩ := fun _ => ⟨b35, rfl⟩
 refine jv (.agg #[ii 3, ii 0, ii 0, nos, nos, nos]) (V.build inf68 places68 rfl rfl) <| jv (.agg #[nos, ii 3, ii 0, ii 0, nos, nos, nos]) (V.build inf70 places70 rfl rfl) ?_
 refine J.op rfl (A.lit (K0 := K) (ty := (.cons (.sl (.cons (.int .i64) (.cons (.int .i64) (.cons (.int .i64) (.cons (.int .i64) (.one .bool)))))) (.one (.cons (.int .i64) (.cons (.int .i64) (.cons (.int .i64) (.cons (.sl (.int .i64)) (.cons (.sl (.int .i64)) (.one (.sl (.int .i64))))))))))) (xs := ([([], (3, 0, 0, [], [], []))] : List ((List (Int × Int × Int × Int × Bool)) × (Int × Int × Int × (List Int) × (List Int) × (List Int))))) Tryz.underlying32 inf70 rfl (by decide) rfl rfl rfl ⟨_, _, rfl, ⟨_, _, rfl, rfl, (isNil (K := K) (t := (.cons (.int .i64) (.cons (.int .i64) (.cons (.int .i64) (.cons (.int .i64) (.one .bool))))))), ⟨_, _, rfl, rfl, rfl, ⟨_, _, rfl, rfl, rfl, ⟨_, _, rfl, rfl, rfl, ⟨_, _, rfl, rfl, (isNil (K := K) (t := (.int .i64))), ⟨_, _, rfl, rfl, (isNil (K := K) (t := (.int .i64))), (isNil (K := K) (t := (.int .i64)))⟩⟩⟩⟩⟩⟩, rfl⟩ rfl (by decide)) ?_
 rintro _ _ _ ⟨b38, rfl, rfl, rfl⟩
 have hn39 : ([([], (3, 0, 0, [], [], []))] : List ((List (Int × Int × Int × Int × Bool)) × (Int × Int × Int × (List Int) × (List Int) × (List Int)))) ≠ [] → ∃ g, (some ⟨b38, 0, none⟩ : Option Addr) = some ⟨g, 0, none⟩ := fun _ => ⟨b38, rfl⟩
 refine jv (.agg #[ii 1, ii 1, nos, .slice (some ⟨b35, 0, none⟩) ((([[]] : List (List (Int × Bool)))).length) 1, nos, nos, .slice (some ⟨b38, 0, none⟩) ((([([], (3, 0, 0, [], [], []))] : List ((List (Int × Int × Int × Int × Bool)) × (Int × Int × Int × (List Int) × (List Int) × (List Int))))).length) 1]) (V.build inf34 places34 rfl rfl) <| J.front 2 rfl <| js [ii 1, ii 1, nos, .slice (some ⟨b35, 0, none⟩) ((([[]] : List (List (Int × Bool)))).length) 1, nos, nos, .slice (some ⟨b38, 0, none⟩) ((([([], (3, 0, 0, [], [], []))] : List ((List (Int × Int × Int × Int × Bool)) × (Int × Int × Int × (List Int) × (List Int) × (List Int))))).length) 1] sz34 rfl rfl rfl rfl rfl rfl <| ja (.string ⟨([109, 105, 114, 1, 1, 1, 0, 1, 0, 0, 0, 1, 0, 3] : List UInt8).toArray⟩) rfl <| J.nil <| CJ.ret ?_
 obtain rfl := si h
 exact ⟨_, _, Res.two rfl ⟨_, _, rfl, Ld.agg (cs := [ii 1, ii 1, nos, .slice (some ⟨b35, 0, none⟩) ((([[]] : List (List (Int × Bool)))).length) 1, nos, nos, .slice (some ⟨b38, 0, none⟩) ((([([], (3, 0, 0, [], [], []))] : List ((List (Int × Int × Int × Int × Bool)) × (Int × Int × Int × (List Int) × (List Int) × (List Int))))).length) 1]) Tryz.underlying34 sz34 rfl (Rd.cls 0 0 rfl rfl)⟩ rfl, ⟨1, 1, [], ([[]] : List (List (Int × Bool))), [], [], ([([], (3, 0, 0, [], [], []))] : List ((List (Int × Int × Int × Int × Bool)) × (Int × Int × Int × (List Int) × (List Int) × (List Int)))), ([109, 105, 114, 1, 1, 1, 0, 1, 0, 0, 0, 1, 0, 3] : List UInt8), none, 0, (some ⟨b35, 0, none⟩), 1, none, 0, none, 0, (some ⟨b38, 0, none⟩), 1, rfl, rfl, isNil, isNil, isNil, rfl⟩, (Hp.le_refl _), fun w hs => (Sep.front 1 rfl (Sep.dropAt 0 rfl hs))⟩
noncomputable def fn_leb_digits_l1  : (Int × Int) → Option ((Int × Int) ⊕ Int) := fun ((i53, i54) : (Int × Int)) => cond (decide (0 < i53)) (some (.inl ((Int.fdiv i53 (2 ^ (min (Int.toNat 8) (IntKind.bits .i64))), IntKind.wrap .i64 (i54 + 1))))) (some (.inr (i54)))
noncomputable def fn_leb_digits (xa : Int) : Option Int :=
  (loop (fn_leb_digits_l1) (xa, 0) : Option Int).bind fun i47 => some (i47)
set_option maxRecDepth 100000 in
set_option maxHeartbeats 4000000 in
theorem leb_digits_ok {K : Hp} {xa : Int}   {r : Int} (h : fn_leb_digits xa = some r) :
    Tr Tryz.prog 99 #[ii xa] K [] (fun v K' L' => (∃ (i33 : Int), i33 = r ∧ ii i33 = v ∧ L' = []) ∧ K = K') := by
 refine Tr.k <| Tr.of Tryz.func99 rfl Tryz.ntmps99 rfl fun E F => ?_
 unfold fn_leb_digits at h
 refine cr <| ja (ii 0) rfl <| J.nil <| cr <| ja (ii 0) rfl ?_
 refine J.nil <| CJ.seq ?_
 obtain ⟨o48, ho49, h⟩ := ob h
 refine CJ.meetN (fun ρ K' L' => ∃ (i47 : Int), i47 = o48 ∧ Fits [(3, ii i47)] ρ ∧ K = K' ∧ F = L') ?_ ?_
 · refine CJ.block <| CJ.loop (fun s ρ K' L' => ∃ (i53 : Int) (i54 : Int), (i53, i54) = s ∧ Fits [(0, ii i53), (3, ii i54)] ρ ∧ K = K' ∧ F = L') ho49 ⟨xa, 0, rfl, ⟨rfl, rfl, trivial⟩, rfl, rfl⟩ ?_
   rintro s ρ _ _ r61 ⟨i53, i54, rfl, hf59, rfl, rfl⟩ h58
   obtain ⟨ρ, rfl⟩ := hf59.ex
   refine CJ.seq <| cr <| jm (ii i53) rfl <| jv (.bool (decide (0 < i53))) (V.gtr rfl rfl) <| J.nil <| cc rfl h58 (fun hc62 h58 => ?_) fun hc62 h58 => ?_
   · refine CJ.skip <| CJ.seq <| CJ.block <| CJ.region <| jm (ii i54) rfl <| jv (ii (IntKind.wrap .i64 (i54 + 1))) (V.add rfl rfl) <| ja (ii (IntKind.wrap .i64 (i54 + 1))) rfl ?_
     refine J.nil <| CJ.region <| jm (ii i53) rfl <| jv (ii (Int.fdiv i53 (2 ^ (min (Int.toNat 8) (IntKind.bits .i64))))) (V.shr rfl rfl (by decide)) <| ja (ii (Int.fdiv i53 (2 ^ (min (Int.toNat 8) (IntKind.bits .i64))))) rfl <| J.nil ?_
     obtain rfl := si h58
     exact ⟨rfl, ⟨Int.fdiv i53 (2 ^ (min (Int.toNat 8) (IntKind.bits .i64))), IntKind.wrap .i64 (i54 + 1), rfl, ⟨rfl, rfl, trivial⟩, rfl, rfl⟩⟩
   refine CJ.exit ?_
   obtain rfl := si h58
   refine ⟨nofun, fun e => ?_⟩
   subst e
   exact ⟨rfl, ⟨i54, rfl, ⟨rfl, trivial⟩, rfl, rfl⟩⟩
 rintro ρ _ _ ⟨i47, rfl, hf63, rfl, rfl⟩
 obtain ⟨ρ, rfl⟩ := hf63.ex
 refine PJ.done <| cr <| jm (ii i47) rfl <| ja (ii i47) rfl <| J.nil <| CJ.ret ?_
 obtain rfl := si h
 exact ⟨_, _, Res.one rfl rfl, ⟨i47, rfl, rfl, rfl⟩, (Hp.le_refl _), fun w hs => hs⟩

noncomputable def fn_leb_Size (xa : Int) : Option Int :=
  cond ((decide (xa < 0)) || (decide (4294967295 < xa))) (some (0)) (cond (decide (xa < 248)) (some (1)) ((fn_leb_digits xa).bind fun i21 => some (IntKind.wrap .i64 (1 + i21))))
set_option maxRecDepth 100000 in
set_option maxHeartbeats 4000000 in
theorem leb_Size_ok {K : Hp} {xa : Int}   {r : Int} (h : fn_leb_Size xa = some r) :
    Tr Tryz.prog 88 #[ii xa] K [] (fun v K' L' => (∃ (i13 : Int), i13 = r ∧ ii i13 = v ∧ L' = []) ∧ K = K') := by
 refine Tr.k <| Tr.of Tryz.func88 rfl Tryz.ntmps88 rfl fun E F => ?_
 unfold fn_leb_Size at h
 refine cr <| ja (ii 0) rfl <| J.nil <| CJ.seq <| CJ.block <| CJ.seq ?_
 refine CJ.region <| jm (ii xa) rfl <| jv (.bool (decide (xa < 0))) (V.lss rfl rfl) <| jm (.bool (decide (xa < 0))) rfl <| J.cut 3 <| jmeet [(9, .bool ((decide (xa < 0)) || (decide (4294967295 < xa)))), (0, ii xa)] ?_ ?_
 · rcases bt (decide (xa < 0)) with hc16 | hc16
   · refine J.skip rfl rfl rfl rfl hc16 <| J.skip rfl rfl rfl rfl hc16 <| jv (.bool true) (V.pickT rfl hc16 rfl) <| J.nil ?_
     exact ⟨rfl, ⟨(by simp only [hc16]; rfl), rfl, trivial⟩, rfl, rfl⟩
   refine J.run rfl rfl rfl hc16 <| jm (ii xa) rfl <| J.run rfl rfl rfl hc16 <| jv (.bool (decide (4294967295 < xa))) (V.gtr rfl rfl) <| jv (.bool (decide (4294967295 < xa))) (V.pickF rfl hc16 rfl) <| J.nil ?_
   exact ⟨rfl, ⟨(by simp only [hc16]; rfl), rfl, trivial⟩, rfl, rfl⟩
 intro ρ
 refine ja (.bool ((decide (xa < 0)) || (decide (4294967295 < xa)))) rfl <| J.nil <| cc rfl h (fun hc17 h => ?_) fun hc17 h => ?_
 · refine cr <| ja (ii 0) rfl <| J.nil <| CJ.ret ?_
   obtain rfl := si h
   exact ⟨_, _, Res.one rfl rfl, ⟨0, rfl, rfl, rfl⟩, (Hp.le_refl _), fun w hs => hs⟩
 refine cr <| jm (ii xa) rfl <| jv (.bool (decide (xa < 248))) (V.lss rfl rfl) <| ja (.bool (decide (xa < 248))) rfl <| J.nil <| cc rfl h (fun hc18 h => ?_) fun hc18 h => ?_
 · refine cr <| ja (ii 1) rfl <| J.nil <| CJ.ret ?_
   obtain rfl := si h
   exact ⟨_, _, Res.one rfl rfl, ⟨1, rfl, rfl, rfl⟩, (Hp.le_refl _), fun w hs => hs⟩
 refine CJ.skip <| cr <| jm (ii xa) rfl ?_
 obtain ⟨r19, hr20, h⟩ := ob h
 refine J.op rfl (A.call (L1 := []) Tryz.call99 rfl (leb_digits_ok hr20) rfl rfl) ?_
 rintro _ _ _ ⟨v22, _, rfl, ⟨⟨i21, rfl, rfl, rfl⟩, rfl⟩, _, rfl⟩
 refine jv (ii (IntKind.wrap .i64 (1 + i21))) (V.add rfl rfl) <| ja (ii (IntKind.wrap .i64 (1 + i21))) rfl <| J.nil <| CJ.ret ?_
 obtain rfl := si h
 exact ⟨_, _, Res.one rfl rfl, ⟨IntKind.wrap .i64 (1 + i21), rfl, rfl, rfl⟩, (Hp.le_refl _), fun w hs => hs⟩
noncomputable def fn_leb_All_l1 (x993 : Int) : (Int × List UInt8) → Option ((Int × List UInt8) ⊕ List UInt8) := fun ((i1055, s1056) : (Int × List UInt8)) => cond (decide (0 ≤ i1055)) ((ge0 i1055).bind fun u1070 => (wrB s1056 (IntKind.wrap .u8 (Int.fdiv x993 (2 ^ (min (Int.toNat i1055) (IntKind.bits .i64)))))).bind fun s1072 => some (.inl ((IntKind.wrap .i64 (i1055 - 8), s1072)))) (some (.inr (s1056)))
noncomputable def fn_leb_All_l2 (xa : (List Int)) : (Int × List UInt8) → Option ((Int × List UInt8) ⊕ List UInt8) := fun ((i899, s900) : (Int × List UInt8)) => cond (decide (i899 < (((xa.length : Nat) : Int)))) ((getI xa i899).bind fun x993 => (fn_leb_Size x993).bind fun i1004 => cond (decide (i1004 = 0)) (some (.inl ((IntKind.wrap .i64 (i899 + 1), s900)))) (cond (decide (i1004 = 1)) ((wrB s900 (IntKind.wrap .u8 x993)).bind fun s1010 => some (.inl ((IntKind.wrap .i64 (i899 + 1), s1010)))) ((wrB s900 (IntKind.wrap .u8 (IntKind.wrap .i64 ((IntKind.wrap .i64 (247 + i1004)) - 1)))).bind fun s1013 => (loop (fn_leb_All_l1 x993) ((IntKind.wrap .i64 (8 * (IntKind.wrap .i64 (i1004 - 2))), s1013)) : Option (List UInt8)).bind fun s1044 => some (.inl ((IntKind.wrap .i64 (i899 + 1), s1044)))))) (some (.inr (s900)))
noncomputable def fn_leb_All (xa : (List Int)) : Option (List UInt8) :=
  (loop (fn_leb_All_l2 xa) ((0, ([] : List UInt8))) : Option (List UInt8)).bind fun s809 => ((some s809 : Option (List UInt8))).bind fun s1079 => some (s1079)
set_option maxRecDepth 100000 in
set_option maxHeartbeats 4000000 in
theorem leb_All_ok {K : Hp} {xa : (List Int)} {adxa_0 : Option Addr} {cpxa_0 : Nat} (fxa_0 : Is K (.sl (.int .i64)) [.slice adxa_0 xa.length cpxa_0] xa) {r : List UInt8} (h : fn_leb_All xa = some r) :
    Tr Tryz.prog 53 #[.slice adxa_0 xa.length cpxa_0] K [] (fun v K' L' => (∃ (s542 : List UInt8), s542 = r ∧ .string ⟨s542.toArray⟩ = v ∧ L' = []) ∧ K = K') := by
 refine Tr.k <| Tr.of Tryz.func53 rfl Tryz.ntmps53 rfl fun E F => ?_
 unfold fn_leb_All at h
 refine cr <| ja (.string ⟨([] : List UInt8).toArray⟩) rfl <| J.nil <| cr <| jal inf107 [.pointer none, nos] rfl fun b543 => ?_
 refine J.by (fun w hs => Bld.fresh hs) <| J.nil <| CJ.seq <| cr <| jm (.slice adxa_0 xa.length cpxa_0) rfl <| jv (ii (((xa.length : Nat) : Int))) (V.len Tryz.underlying66 rfl) ?_
 refine jm (ii 0) rfl <| J.nil ?_
 obtain ⟨o810, ho811, h⟩ := ob h
 refine CJ.meetN (fun ρ K' L' => ∃ (s809 : List UInt8), s809 = o810 ∧ Fits [(3, .pointer (some ⟨b543, 0, none⟩))] ρ ∧ K = K' ∧ L' = Bld b543 s809 :: F) ?_ ?_
 · refine CJ.block <| CJ.loop (fun s ρ K' L' => ∃ (i899 : Int) (s900 : List UInt8), (i899, s900) = s ∧ Fits [(3, .pointer (some ⟨b543, 0, none⟩)), (8, .slice adxa_0 xa.length cpxa_0), (9, ii (((xa.length : Nat) : Int))), (10, ii i899)] ρ ∧ K = K' ∧ L' = Bld b543 s900 :: F) ho811 ⟨0, ([] : List UInt8), rfl, ⟨rfl, rfl, rfl, rfl, trivial⟩, rfl, rfl⟩ ?_
   rintro s ρ _ _ r991 ⟨i899, s900, rfl, hf989, rfl, rfl⟩ h988
   obtain ⟨ρ, rfl⟩ := hf989.ex
   refine cr <| jv (.bool (decide (i899 < (((xa.length : Nat) : Int))))) (V.lss rfl rfl) <| J.nil <| CJ.seq <| cc rfl h988 (fun hc992 h988 => ?_) fun hc992 h988 => ?_
   · refine CJ.skip <| CJ.seq <| CJ.block <| CJ.seq <| CJ.region ?_
     obtain ⟨x993, hx994, h988⟩ := ob h988
     obtain ⟨p995, p996, p997⟩ := getI_some hx994
     obtain ⟨b998, o999, e1000, a1001⟩ := (fxa_0).at p996
     refine jv _ (V.iad Tryz.underlying66 sz3 rfl e1000 rfl p995 p997) <| jv (ii x993) (V.ld rfl (Ld.sc sc3 (Rd.k (a1001).int (Hp.le_refl _)))) <| ja (ii x993) rfl <| J.nil <| cr <| jm (ii x993) rfl ?_
     obtain ⟨r1002, hr1003, h988⟩ := ob h988
     refine J.op rfl (A.call (L1 := []) Tryz.call88 rfl (leb_Size_ok hr1003) rfl rfl) ?_
     rintro _ _ _ ⟨v1005, _, rfl, ⟨⟨i1004, rfl, rfl, rfl⟩, rfl⟩, _, rfl⟩
     refine ja (ii i1004) rfl <| J.nil <| cr <| jm (ii i1004) rfl <| J.nil <| CJ.block ?_
     refine cr <| jv (.bool (decide (i1004 = 0))) (V.eql rfl rfl) <| ja (.bool (decide (i1004 = 0))) rfl <| J.nil <| cc rfl h988 (fun hc1008 h988 => ?_) fun hc1008 h988 => ?_
     · refine CJ.skip <| CJ.region <| jv (ii (IntKind.wrap .i64 (i899 + 1))) (V.add rfl rfl) <| jm (ii (IntKind.wrap .i64 (i899 + 1))) rfl <| J.nil ?_
       obtain rfl := si h988
       exact ⟨rfl, ⟨IntKind.wrap .i64 (i899 + 1), s900, rfl, ⟨rfl, rfl, rfl, rfl, trivial⟩, rfl, rfl⟩⟩
     refine cr <| jv (.bool (decide (i1004 = 1))) (V.eql rfl rfl) <| ja (.bool (decide (i1004 = 1))) rfl <| J.nil <| cc rfl h988 (fun hc1009 h988 => ?_) fun hc1009 h988 => ?_
     · refine CJ.region <| jm (ii x993) rfl <| jv (.int .u8 (IntKind.wrap .u8 x993)) (V.conv Tryz.underlying3 Tryz.underlying5 rfl) ?_
       obtain ⟨s1010, hs1011, h988⟩ := ob h988
       refine J.op rfl (A.call (L1 := [Bld b543 s900]) Tryz.call89 rfl (WriteByte_ok hs1011) rfl rfl) ?_
       rintro _ _ _ ⟨v1012, _, rfl, ⟨⟨s1010, rfl, rfl, rfl⟩, rfl⟩, _, rfl⟩
       refine J.nil <| CJ.region <| jv (ii (IntKind.wrap .i64 (i899 + 1))) (V.add rfl rfl) <| jm (ii (IntKind.wrap .i64 (i899 + 1))) rfl <| J.nil ?_
       obtain rfl := si h988
       exact ⟨rfl, ⟨IntKind.wrap .i64 (i899 + 1), s1010, rfl, ⟨rfl, rfl, rfl, rfl, trivial⟩, rfl, rfl⟩⟩
     refine cr <| jm (ii i1004) rfl <| jv (ii (IntKind.wrap .i64 (247 + i1004))) (V.add rfl rfl) <| jv (ii (IntKind.wrap .i64 ((IntKind.wrap .i64 (247 + i1004)) - 1))) (V.sub rfl rfl) <| jv (.int .u8 (IntKind.wrap .u8 (IntKind.wrap .i64 ((IntKind.wrap .i64 (247 + i1004)) - 1)))) (V.conv Tryz.underlying3 Tryz.underlying5 rfl) ?_
     obtain ⟨s1013, hs1014, h988⟩ := ob h988
     refine J.op rfl (A.call (L1 := [Bld b543 s900]) Tryz.call89 rfl (WriteByte_ok hs1014) rfl rfl) ?_
     rintro _ _ _ ⟨v1015, _, rfl, ⟨⟨s1013, rfl, rfl, rfl⟩, rfl⟩, _, rfl⟩
     refine J.nil <| cr <| jm (ii i1004) rfl <| jv (ii (IntKind.wrap .i64 (i1004 - 2))) (V.sub rfl rfl) <| jv (ii (IntKind.wrap .i64 (8 * (IntKind.wrap .i64 (i1004 - 2))))) (V.mul rfl rfl) <| ja (ii (IntKind.wrap .i64 (8 * (IntKind.wrap .i64 (i1004 - 2))))) rfl ?_
     refine J.nil ?_
     obtain ⟨o1045, ho1046, h988⟩ := ob h988
     refine CJ.meetN (fun ρ K' L' => ∃ (s1044 : List UInt8), s1044 = o1045 ∧ Fits [(3, .pointer (some ⟨b543, 0, none⟩)), (8, .slice adxa_0 xa.length cpxa_0), (9, ii (((xa.length : Nat) : Int))), (10, ii i899)] ρ ∧ K = K' ∧ L' = Bld b543 s1044 :: F) ?_ ?_
     · refine CJ.block <| CJ.loop (fun s ρ K' L' => ∃ (i1055 : Int) (s1056 : List UInt8), (i1055, s1056) = s ∧ Fits [(3, .pointer (some ⟨b543, 0, none⟩)), (5, ii x993), (7, ii i1055), (8, .slice adxa_0 xa.length cpxa_0), (9, ii (((xa.length : Nat) : Int))), (10, ii i899)] ρ ∧ K = K' ∧ L' = Bld b543 s1056 :: F) ho1046 ⟨IntKind.wrap .i64 (8 * (IntKind.wrap .i64 (i1004 - 2))), s1013, rfl, ⟨rfl, rfl, rfl, rfl, rfl, rfl, trivial⟩, rfl, rfl⟩ ?_
       rintro s ρ _ _ r1068 ⟨i1055, s1056, rfl, hf1066, rfl, rfl⟩ h1065
       obtain ⟨ρ, rfl⟩ := hf1066.ex
       refine CJ.seq <| cr <| jm (ii i1055) rfl <| jv (.bool (decide (0 ≤ i1055))) (V.geq rfl rfl) <| J.nil <| cc rfl h1065 (fun hc1069 h1065 => ?_) fun hc1069 h1065 => ?_
       · refine CJ.skip <| CJ.seq <| CJ.block <| CJ.region <| jm (ii x993) rfl <| jm (ii i1055) rfl ?_
         obtain ⟨u1070, hu1071, h1065⟩ := ob h1065
         refine jv (ii (Int.fdiv x993 (2 ^ (min (Int.toNat i1055) (IntKind.bits .i64))))) (V.shr rfl rfl (ge0_some hu1071)) <| jv (.int .u8 (IntKind.wrap .u8 (Int.fdiv x993 (2 ^ (min (Int.toNat i1055) (IntKind.bits .i64)))))) (V.conv Tryz.underlying3 Tryz.underlying5 rfl) ?_
         obtain ⟨s1072, hs1073, h1065⟩ := ob h1065
         refine J.op rfl (A.call (L1 := [Bld b543 s1056]) Tryz.call89 rfl (WriteByte_ok hs1073) rfl rfl) ?_
         rintro _ _ _ ⟨v1074, _, rfl, ⟨⟨s1072, rfl, rfl, rfl⟩, rfl⟩, _, rfl⟩
         refine J.nil <| CJ.region <| jm (ii i1055) rfl <| jv (ii (IntKind.wrap .i64 (i1055 - 8))) (V.sub rfl rfl) <| ja (ii (IntKind.wrap .i64 (i1055 - 8))) rfl <| J.nil ?_
         obtain rfl := si h1065
         exact ⟨rfl, ⟨IntKind.wrap .i64 (i1055 - 8), s1072, rfl, ⟨rfl, rfl, rfl, rfl, rfl, rfl, trivial⟩, rfl, rfl⟩⟩
       refine CJ.exit ?_
       obtain rfl := si h1065
       refine ⟨nofun, fun e => ?_⟩
       subst e
       exact ⟨rfl, ⟨s1056, rfl, ⟨rfl, rfl, rfl, rfl, trivial⟩, rfl, rfl⟩⟩
     rintro ρ _ _ ⟨s1044, rfl, hf1075, rfl, rfl⟩
     obtain ⟨ρ, rfl⟩ := hf1075.ex
     refine PJ.done <| CJ.region <| jv (ii (IntKind.wrap .i64 (i899 + 1))) (V.add rfl rfl) <| jm (ii (IntKind.wrap .i64 (i899 + 1))) rfl <| J.nil ?_
     obtain rfl := si h988
     exact ⟨rfl, ⟨IntKind.wrap .i64 (i899 + 1), s1044, rfl, ⟨rfl, rfl, rfl, rfl, trivial⟩, rfl, rfl⟩⟩
   refine CJ.exit ?_
   obtain rfl := si h988
   refine ⟨nofun, fun e => ?_⟩
   subst e
   exact ⟨rfl, ⟨s900, rfl, ⟨rfl, trivial⟩, rfl, rfl⟩⟩
 rintro ρ _ _ ⟨s809, rfl, hf1077, rfl, rfl⟩
 obtain ⟨ρ, rfl⟩ := hf1077.ex
 refine PJ.done <| CJ.seq <| CJ.region ?_
 obtain ⟨s1079, hs1080, h⟩ := ob h
 refine J.op rfl (A.call (L1 := [Bld b543 s809]) Tryz.call59 rfl (BString_ok hs1080) rfl rfl) ?_
 rintro _ _ _ ⟨v1081, _, rfl, ⟨⟨s1079, rfl, rfl, rfl⟩, rfl⟩, _, rfl⟩
 refine ja (.string ⟨s1079.toArray⟩) rfl <| J.nil <| CJ.ret ?_
 obtain rfl := si h
 exact ⟨_, _, Res.one rfl rfl, ⟨s1079, rfl, rfl, rfl⟩, (Hp.le_refl _), fun w hs => hs⟩
noncomputable def fn_sig_PutBounds_l1 (xa : (List (Int × Int))) : ((List Int) × Int) → Option (((List Int) × Int) ⊕ (List Int)) := fun ((l305, i310) : ((List Int) × Int)) => cond (decide (i310 < (((xa.length : Nat) : Int)))) ((getI xa i310).bind fun x342 => (app l305 ([x342.1, x342.2] : List Int)).bind fun z355 => some (.inl ((z355, IntKind.wrap .i64 (i310 + 1))))) (some (.inr (l305)))
noncomputable def fn_sig_PutBounds (xa : (List (Int × Int))) : Option (List UInt8) :=
  (loop (fn_sig_PutBounds_l1 xa) ((([((xa.length : Nat) : Int)] : List Int), 0)) : Option (List Int)).bind fun l272 => (fn_leb_All l272).bind fun s368 => some (s368)
set_option maxRecDepth 100000 in
set_option maxHeartbeats 4000000 in
theorem sig_PutBounds_ok {K : Hp} {xa : (List (Int × Int))} {adxa_0 : Option Addr} {cpxa_0 : Nat} (fxa_0 : Is K (.sl (.cons (.int .i64) (.one (.int .i64)))) [.slice adxa_0 xa.length cpxa_0] xa) {r : List UInt8} (h : fn_sig_PutBounds xa = some r) :
    Tr Tryz.prog 54 #[.slice adxa_0 xa.length cpxa_0] K [] (fun v K' L' => (∃ (s186 : List UInt8), s186 = r ∧ .string ⟨s186.toArray⟩ = v ∧ L' = []) ∧ K = K') := by
 refine Tr.k <| Tr.of Tryz.func54 rfl Tryz.ntmps54 rfl fun E F => ?_
 unfold fn_sig_PutBounds at h
 refine cr <| ja (.string ⟨([] : List UInt8).toArray⟩) rfl <| J.nil <| cr <| jm (.slice adxa_0 xa.length cpxa_0) rfl ?_
 refine jv (ii (((xa.length : Nat) : Int))) (V.len Tryz.underlying26 rfl) ?_
 refine J.op rfl (A.lit (K0 := Hp.nil) (ty := (.int .i64)) (xs := ([((xa.length : Nat) : Int)] : List Int)) Tryz.underlying66 inf3 rfl (by decide) rfl rfl rfl ⟨_, _, rfl, rfl, rfl⟩ rfl (by decide)) ?_
 rintro _ _ _ ⟨b187, rfl, rfl, rfl⟩
 have hn188 : ([((xa.length : Nat) : Int)] : List Int) ≠ [] → ∃ g, (some ⟨b187, 0, none⟩ : Option Addr) = some ⟨g, 0, none⟩ := fun _ => ⟨b187, rfl⟩
 refine ja (.slice (some ⟨b187, 0, none⟩) ((([((xa.length : Nat) : Int)] : List Int)).length) 1) rfl <| J.nil <| CJ.seq <| cr <| jm (.slice adxa_0 xa.length cpxa_0) rfl <| jv (ii (((xa.length : Nat) : Int))) (V.len Tryz.underlying26 rfl) ?_
 refine jm (ii 0) rfl <| J.nil ?_
 obtain ⟨o277, ho278, h⟩ := ob h
 refine CJ.meetN (fun ρ K' L' => ∃ (l272 : (List Int)) (ad273 : Option Addr) (cp274 : Nat), l272 = o277 ∧ Fits [(3, .slice ad273 l272.length cp274)] ρ ∧ K = K' ∧ L' = Row Hp.nil 3 (.int .i64) (.slice ad273 l272.length cp274) l272 :: F) ?_ ?_
 · refine CJ.block <| CJ.loop (fun s ρ K' L' => ∃ (l305 : (List Int)) (i310 : Int) (ad306 : Option Addr) (cp307 : Nat), (l305, i310) = s ∧ Fits [(3, .slice ad306 l305.length cp307), (9, .slice adxa_0 xa.length cpxa_0), (10, ii (((xa.length : Nat) : Int))), (11, ii i310)] ρ ∧ K = K' ∧ L' = Row Hp.nil 3 (.int .i64) (.slice ad306 l305.length cp307) l305 :: F) ho278 ⟨([((xa.length : Nat) : Int)] : List Int), 0, (some ⟨b187, 0, none⟩), 1, rfl, ⟨rfl, rfl, rfl, rfl, trivial⟩, rfl, rfl⟩ ?_
   rintro s ρ _ _ r340 ⟨l305, i310, ad306, cp307, rfl, hf338, rfl, rfl⟩ h337
   obtain ⟨ρ, rfl⟩ := hf338.ex
   refine CJ.wit Row.hn fun hn309 => cr <| jv (.bool (decide (i310 < (((xa.length : Nat) : Int))))) (V.lss rfl rfl) <| J.nil <| CJ.seq <| cc rfl h337 (fun hc341 h337 => ?_) fun hc341 h337 => ?_
   · refine CJ.skip <| CJ.seq <| CJ.block <| CJ.seq <| CJ.region ?_
     obtain ⟨x342, hx343, h337⟩ := ob h337
     obtain ⟨p344, p345, p346⟩ := getI_some hx343
     obtain ⟨b347, o348, e349, a350⟩ := (fxa_0).at p345
     refine jv _ (V.iad Tryz.underlying26 sz95 rfl e349 rfl p344 p346) <| jv (.agg #[ii x342.1, ii x342.2]) (V.ld rfl (Ld.aggK (cs := [ii x342.1, ii x342.2]) Tryz.underlying95 sz95 rfl ⟨((a350).fst).int, (((a350).snd).one).int, trivial⟩ (Hp.le_refl _))) <| jal inf95 [ii 0, ii 0] rfl fun b351 => js [ii x342.1, ii x342.2] sz95 rfl rfl rfl rfl rfl rfl <| J.nil <| CJ.region <| jm (.slice ad306 l305.length cp307) rfl ?_
     refine jv _ (V.fad Tryz.underlying95 rfl nz3 rfl) <| jv (ii x342.1) (V.ld rfl (Ld.sc sc3 (Rd.cl 0 rfl rfl))) <| jv _ (V.fad Tryz.underlying95 rfl nz3 rfl) <| jv (ii x342.2) (V.ld rfl (Ld.sc sc3 (Rd.cl 0 rfl rfl))) ?_
     refine J.op rfl (A.lit (K0 := Hp.nil) (ty := (.int .i64)) (xs := ([x342.1, x342.2] : List Int)) Tryz.underlying66 inf3 rfl (by decide) rfl rfl rfl ⟨_, _, rfl, rfl, ⟨_, _, rfl, rfl, rfl⟩⟩ rfl (by decide)) ?_
     rintro _ _ _ ⟨b352, rfl, rfl, rfl⟩
     have hn353 : ([x342.1, x342.2] : List Int) ≠ [] → ∃ g, (some ⟨b352, 0, none⟩ : Option Addr) = some ⟨g, 0, none⟩ := fun _ => ⟨b352, rfl⟩
     obtain ⟨z355, hz356, h337⟩ := ob h337
     refine J.front 2 rfl <| J.op rfl (A.appR (Kr := Hp.nil) Tryz.underlying66 inf3 rfl rfl (by decide) (by decide) rfl rfl (Els.flat rfl) (Els.flat rfl) hz356) ?_
     rintro _ _ _ ⟨v357, rfl, rfl, rfl⟩
     refine J.wit Row.form ?_
     rintro ⟨ad358, cp359, rfl, _, _, hn360⟩
     refine ja (.slice ad358 z355.length cp359) rfl <| J.nil <| CJ.region <| jv (ii (IntKind.wrap .i64 (i310 + 1))) (V.add rfl rfl) <| jm (ii (IntKind.wrap .i64 (i310 + 1))) rfl <| J.dropAt 1 rfl <| J.nil ?_
     obtain rfl := si h337
     exact ⟨rfl, ⟨z355, IntKind.wrap .i64 (i310 + 1), ad358, cp359, rfl, ⟨rfl, rfl, rfl, rfl, trivial⟩, rfl, rfl⟩⟩
   refine CJ.exit ?_
   obtain rfl := si h337
   refine ⟨nofun, fun e => ?_⟩
   subst e
   exact ⟨rfl, ⟨l305, ad306, cp307, rfl, ⟨rfl, trivial⟩, rfl, rfl⟩⟩
 rintro ρ _ _ ⟨l272, ad273, cp274, rfl, hf361, rfl, rfl⟩
 obtain ⟨ρ, rfl⟩ := hf361.ex
 refine PJ.wit Row.hn fun hn276 => PJ.done <| cr <| jm (.slice ad273 l272.length cp274) rfl ?_
 obtain ⟨r363, hr364, h⟩ := ob h
 refine J.op rfl (A.call (L1 := [Row Hp.nil 3 (.int .i64) (.slice ad273 l272.length cp274) l272]) Tryz.call53 rfl (Tr.lend (Hp.nil_le _) (by decide) (fun K365 hK366 f367 => leb_All_ok f367 hr364)) rfl rfl) ?_
 rintro _ _ _ ⟨v369, _, rfl, ⟨⟨_, ⟨s368, rfl, rfl, rfl⟩, rfl⟩, rfl⟩, _, rfl⟩
 refine ja (.string ⟨s368.toArray⟩) rfl <| J.nil <| CJ.ret ?_
 obtain rfl := si h
 exact ⟨_, _, Res.one rfl rfl, ⟨s368, rfl, rfl, rfl⟩, (Hp.le_refl _), fun w hs => (Sep.dropAt 0 rfl hs)⟩

noncomputable def fn_leb_Put (xa : Int) : Option (List UInt8) :=
  (fn_leb_All ([xa] : List Int)).bind fun s23 => some (s23)
set_option maxRecDepth 100000 in
set_option maxHeartbeats 4000000 in
theorem leb_Put_ok {K : Hp} {xa : Int}   {r : List UInt8} (h : fn_leb_Put xa = some r) :
    Tr Tryz.prog 55 #[ii xa] K [] (fun v K' L' => (∃ (s14 : List UInt8), s14 = r ∧ .string ⟨s14.toArray⟩ = v ∧ L' = []) ∧ K = K') := by
 refine Tr.k <| Tr.of Tryz.func55 rfl Tryz.ntmps55 rfl fun E F => ?_
 unfold fn_leb_Put at h
 refine cr <| ja (.string ⟨([] : List UInt8).toArray⟩) rfl <| J.nil <| cr <| jm (ii xa) rfl ?_
 refine J.op rfl (A.lit (K0 := Hp.nil) (ty := (.int .i64)) (xs := ([xa] : List Int)) Tryz.underlying66 inf3 rfl (by decide) rfl rfl rfl ⟨_, _, rfl, rfl, rfl⟩ rfl (by decide)) ?_
 rintro _ _ _ ⟨b15, rfl, rfl, rfl⟩
 have hn16 : ([xa] : List Int) ≠ [] → ∃ g, (some ⟨b15, 0, none⟩ : Option Addr) = some ⟨g, 0, none⟩ := fun _ => ⟨b15, rfl⟩
 obtain ⟨r18, hr19, h⟩ := ob h
 refine J.op rfl (A.call (L1 := [Row Hp.nil 3 (.int .i64) (.slice (some ⟨b15, 0, none⟩) (([xa] : List Int).length) 1) ([xa] : List Int)]) Tryz.call53 rfl (Tr.lend (Hp.nil_le _) (by decide) (fun K20 hK21 f22 => leb_All_ok f22 hr19)) rfl rfl) ?_
 rintro _ _ _ ⟨v24, _, rfl, ⟨⟨_, ⟨s23, rfl, rfl, rfl⟩, rfl⟩, rfl⟩, _, rfl⟩
 refine ja (.string ⟨s23.toArray⟩) rfl <| J.nil <| CJ.ret ?_
 obtain rfl := si h
 exact ⟨_, _, Res.one rfl rfl, ⟨s23, rfl, rfl, rfl⟩, (Hp.le_refl _), fun w hs => (Sep.dropAt 0 rfl hs)⟩
noncomputable def fn_sig_PutType_l1 (xa : (List (Int × Bool))) : ((List Int) × Int) → Option (((List Int) × Int) ⊕ (List Int)) := fun ((l377, i382) : ((List Int) × Int)) => cond (decide (i382 < (((xa.length : Nat) : Int)))) ((getI xa i382).bind fun x421 => (cond (x421.2) (some (IntKind.wrap .i64 ((IntKind.wrap .i64 (2 * x421.1)) + 1))) (some (IntKind.wrap .i64 (2 * x421.1))) : Option Int).bind fun i432 => (app l377 ([i432] : List Int)).bind fun z441 => some (.inl ((z441, IntKind.wrap .i64 (i382 + 1))))) (some (.inr (l377)))
noncomputable def fn_sig_PutType (xa : (List (Int × Bool))) : Option (List UInt8) :=
  (loop (fn_sig_PutType_l1 xa) ((([((xa.length : Nat) : Int)] : List Int), 0)) : Option (List Int)).bind fun l337 => (fn_leb_All l337).bind fun s454 => some (s454)
set_option maxRecDepth 100000 in
set_option maxHeartbeats 4000000 in
theorem sig_PutType_ok {K : Hp} {xa : (List (Int × Bool))} {adxa_0 : Option Addr} {cpxa_0 : Nat} (fxa_0 : Is K (.sl (.cons (.int .i64) (.one .bool))) [.slice adxa_0 xa.length cpxa_0] xa) {r : List UInt8} (h : fn_sig_PutType xa = some r) :
    Tr Tryz.prog 56 #[.agg #[.slice adxa_0 xa.length cpxa_0]] K [] (fun v K' L' => (∃ (s229 : List UInt8), s229 = r ∧ .string ⟨s229.toArray⟩ = v ∧ L' = []) ∧ K = K') := by
 refine Tr.k <| Tr.of Tryz.func56 rfl Tryz.ntmps56 rfl fun E F => ?_
 unfold fn_sig_PutType at h
 refine cr <| jbx [.slice adxa_0 xa.length cpxa_0] rfl rfl fun b230 => ja (.string ⟨([] : List UInt8).toArray⟩) rfl <| J.nil <| CJ.seq <| CJ.region ?_
 refine jv _ (V.fad Tryz.underlying30 rfl nz28 rfl) <| jv (.slice adxa_0 xa.length cpxa_0) (V.ld rfl (Ld.sc sc28 (Rd.cl 0 rfl rfl))) <| jv (ii (((xa.length : Nat) : Int))) (V.len Tryz.underlying28 rfl) ?_
 refine J.op rfl (A.lit (K0 := Hp.nil) (ty := (.int .i64)) (xs := ([((xa.length : Nat) : Int)] : List Int)) Tryz.underlying66 inf3 rfl (by decide) rfl rfl rfl ⟨_, _, rfl, rfl, rfl⟩ rfl (by decide)) ?_
 rintro _ _ _ ⟨b231, rfl, rfl, rfl⟩
 have hn232 : ([((xa.length : Nat) : Int)] : List Int) ≠ [] → ∃ g, (some ⟨b231, 0, none⟩ : Option Addr) = some ⟨g, 0, none⟩ := fun _ => ⟨b231, rfl⟩
 refine ja (.slice (some ⟨b231, 0, none⟩) ((([((xa.length : Nat) : Int)] : List Int)).length) 1) rfl <| J.nil <| CJ.seq <| cr <| jv _ (V.fad Tryz.underlying30 rfl nz28 rfl) <| jv (.slice adxa_0 xa.length cpxa_0) (V.ld rfl (Ld.sc sc28 (Rd.cl 1 rfl rfl))) ?_
 refine jv (ii (((xa.length : Nat) : Int))) (V.len Tryz.underlying28 rfl) <| jm (ii 0) rfl <| J.nil ?_
 obtain ⟨o342, ho343, h⟩ := ob h
 refine CJ.meetN (fun ρ K' L' => ∃ (l337 : (List Int)) (ad338 : Option Addr) (cp339 : Nat), l337 = o342 ∧ Fits [(3, .slice ad338 l337.length cp339)] ρ ∧ K = K' ∧ L' = Row Hp.nil 3 (.int .i64) (.slice ad338 l337.length cp339) l337 :: F) ?_ ?_
 · refine CJ.block <| CJ.dropAt 1 rfl <| CJ.loop (fun s ρ K' L' => ∃ (l377 : (List Int)) (i382 : Int) (ad378 : Option Addr) (cp379 : Nat), (l377, i382) = s ∧ Fits [(3, .slice ad378 l377.length cp379), (12, .slice adxa_0 xa.length cpxa_0), (13, ii (((xa.length : Nat) : Int))), (14, ii i382)] ρ ∧ K = K' ∧ L' = Row Hp.nil 3 (.int .i64) (.slice ad378 l377.length cp379) l377 :: F) ho343 ⟨([((xa.length : Nat) : Int)] : List Int), 0, (some ⟨b231, 0, none⟩), 1, rfl, ⟨rfl, rfl, rfl, rfl, trivial⟩, rfl, rfl⟩ ?_
   rintro s ρ _ _ r419 ⟨l377, i382, ad378, cp379, rfl, hf417, rfl, rfl⟩ h416
   obtain ⟨ρ, rfl⟩ := hf417.ex
   refine CJ.wit Row.hn fun hn381 => cr <| jv (.bool (decide (i382 < (((xa.length : Nat) : Int))))) (V.lss rfl rfl) <| J.nil <| CJ.seq <| cc rfl h416 (fun hc420 h416 => ?_) fun hc420 h416 => ?_
   · refine CJ.skip <| CJ.seq <| CJ.block <| CJ.seq <| CJ.region ?_
     obtain ⟨x421, hx422, h416⟩ := ob h416
     obtain ⟨p423, p424, p425⟩ := getI_some hx422
     obtain ⟨b426, o427, e428, a429⟩ := (fxa_0).at p424
     refine jv _ (V.iad Tryz.underlying28 sz146 rfl e428 rfl p423 p425) <| jv (.agg #[ii x421.1, .bool x421.2]) (V.ld rfl (Ld.aggK (cs := [ii x421.1, .bool x421.2]) Tryz.underlying146 sz146 rfl ⟨((a429).fst).int, (((a429).snd).one).bool, trivial⟩ (Hp.le_refl _))) <| jal inf146 [ii 0, .bool false] rfl fun b430 => js [ii x421.1, .bool x421.2] sz146 rfl rfl rfl rfl rfl rfl <| J.nil <| CJ.seq <| CJ.region ?_
     refine jv _ (V.fad Tryz.underlying146 rfl nz3 rfl) <| jv (ii x421.1) (V.ld rfl (Ld.sc sc3 (Rd.cl 0 rfl rfl))) <| jv (ii (IntKind.wrap .i64 (2 * x421.1))) (V.mul rfl rfl) <| ja (ii (IntKind.wrap .i64 (2 * x421.1))) rfl <| J.nil <| CJ.seq ?_
     obtain ⟨o433, ho434, h416⟩ := ob h416
     refine CJ.meetN (fun ρ K' L' => ∃ (i432 : Int), i432 = o433 ∧ Fits [(3, .slice ad378 l377.length cp379), (6, ii i432), (12, .slice adxa_0 xa.length cpxa_0), (13, ii (((xa.length : Nat) : Int))), (14, ii i382)] ρ ∧ K = K' ∧ L' = Row Hp.nil 3 (.int .i64) (.slice ad378 l377.length cp379) l377 :: F) ?_ ?_
     · refine cr <| jv _ (V.fad Tryz.underlying146 rfl nz4 rfl) <| jv (.bool x421.2) (V.ld rfl (Ld.sc sc4 (Rd.cl 0 rfl rfl))) <| J.nil <| cc rfl ho434 (fun hc435 ho434 => ?_) fun hc435 ho434 => ?_
       · refine CJ.region <| jm (ii (IntKind.wrap .i64 (2 * x421.1))) rfl <| jv (ii (IntKind.wrap .i64 ((IntKind.wrap .i64 (2 * x421.1)) + 1))) (V.add rfl rfl) <| ja (ii (IntKind.wrap .i64 ((IntKind.wrap .i64 (2 * x421.1)) + 1))) rfl <| J.dropAt 0 rfl <| J.nil ?_
         obtain rfl := si ho434
         exact ⟨rfl, ⟨IntKind.wrap .i64 ((IntKind.wrap .i64 (2 * x421.1)) + 1), rfl, ⟨rfl, rfl, rfl, rfl, rfl, trivial⟩, rfl, rfl⟩⟩
       refine CJ.dropAt 0 rfl <| CJ.skip ?_
       obtain rfl := si ho434
       exact ⟨rfl, ⟨IntKind.wrap .i64 (2 * x421.1), rfl, ⟨rfl, rfl, rfl, rfl, rfl, trivial⟩, rfl, rfl⟩⟩
     rintro ρ _ _ ⟨i432, rfl, hf436, rfl, rfl⟩
     obtain ⟨ρ, rfl⟩ := hf436.ex
     refine PJ.done <| CJ.region <| jm (.slice ad378 l377.length cp379) rfl <| jm (ii i432) rfl ?_
     refine J.op rfl (A.lit (K0 := Hp.nil) (ty := (.int .i64)) (xs := ([i432] : List Int)) Tryz.underlying66 inf3 rfl (by decide) rfl rfl rfl ⟨_, _, rfl, rfl, rfl⟩ rfl (by decide)) ?_
     rintro _ _ _ ⟨b438, rfl, rfl, rfl⟩
     have hn439 : ([i432] : List Int) ≠ [] → ∃ g, (some ⟨b438, 0, none⟩ : Option Addr) = some ⟨g, 0, none⟩ := fun _ => ⟨b438, rfl⟩
     obtain ⟨z441, hz442, h416⟩ := ob h416
     refine J.front 1 rfl <| J.op rfl (A.appR (Kr := Hp.nil) Tryz.underlying66 inf3 rfl rfl (by decide) (by decide) rfl rfl (Els.flat rfl) (Els.flat rfl) hz442) ?_
     rintro _ _ _ ⟨v443, rfl, rfl, rfl⟩
     refine J.wit Row.form ?_
     rintro ⟨ad444, cp445, rfl, _, _, hn446⟩
     refine ja (.slice ad444 z441.length cp445) rfl <| J.nil <| CJ.region <| jv (ii (IntKind.wrap .i64 (i382 + 1))) (V.add rfl rfl) <| jm (ii (IntKind.wrap .i64 (i382 + 1))) rfl <| J.nil ?_
     obtain rfl := si h416
     exact ⟨rfl, ⟨z441, IntKind.wrap .i64 (i382 + 1), ad444, cp445, rfl, ⟨rfl, rfl, rfl, rfl, trivial⟩, rfl, rfl⟩⟩
   refine CJ.exit ?_
   obtain rfl := si h416
   refine ⟨nofun, fun e => ?_⟩
   subst e
   exact ⟨rfl, ⟨l377, ad378, cp379, rfl, ⟨rfl, trivial⟩, rfl, rfl⟩⟩
 rintro ρ _ _ ⟨l337, ad338, cp339, rfl, hf447, rfl, rfl⟩
 obtain ⟨ρ, rfl⟩ := hf447.ex
 refine PJ.wit Row.hn fun hn341 => PJ.done <| cr <| jm (.slice ad338 l337.length cp339) rfl ?_
 obtain ⟨r449, hr450, h⟩ := ob h
 refine J.op rfl (A.call (L1 := [Row Hp.nil 3 (.int .i64) (.slice ad338 l337.length cp339) l337]) Tryz.call53 rfl (Tr.lend (Hp.nil_le _) (by decide) (fun K451 hK452 f453 => leb_All_ok f453 hr450)) rfl rfl) ?_
 rintro _ _ _ ⟨v455, _, rfl, ⟨⟨_, ⟨s454, rfl, rfl, rfl⟩, rfl⟩, rfl⟩, _, rfl⟩
 refine ja (.string ⟨s454.toArray⟩) rfl <| J.nil <| CJ.ret ?_
 obtain rfl := si h
 exact ⟨_, _, Res.one rfl rfl, ⟨s454, rfl, rfl, rfl⟩, (Hp.le_refl _), fun w hs => (Sep.dropAt 0 rfl hs)⟩
noncomputable def fn_sig_Put_l1 (xa : (Int × (List (Int × Int)) × (List (List (Int × Bool))) × (List (Int × Bool)))) : (Int × List UInt8) → Option ((Int × List UInt8) ⊕ List UInt8) := fun ((i352, s353) : (Int × List UInt8)) => cond (decide (i352 < (((xa.2.2.1.length : Nat) : Int)))) ((getI xa.2.2.1 i352).bind fun x385 => (fn_sig_PutType x385).bind fun s401 => (wrS s353 s401).bind fun s405 => some (.inl ((IntKind.wrap .i64 (i352 + 1), s405)))) (some (.inr (s353)))
noncomputable def fn_sig_Put (xa : (Int × (List (Int × Int)) × (List (List (Int × Bool))) × (List (Int × Bool)))) : Option (List UInt8) :=
  (fn_leb_Put xa.1).bind fun s216 => (wrS ([] : List UInt8) s216).bind fun s220 => (fn_sig_PutBounds xa.2.1).bind fun s225 => (wrS s220 s225).bind fun s229 => (fn_leb_Put (((xa.2.2.1.length : Nat) : Int))).bind fun s234 => (wrS s229 s234).bind fun s238 => (loop (fn_sig_Put_l1 xa) (0, s238) : Option (List UInt8)).bind fun s323 => (fn_sig_PutType xa.2.2.2).bind fun s412 => (wrS s323 s412).bind fun s416 => ((some s416 : Option (List UInt8))).bind fun s419 => some (s419)
set_option maxRecDepth 100000 in
set_option maxHeartbeats 4000000 in
theorem sig_Put_ok {K : Hp} {xa : (Int × (List (Int × Int)) × (List (List (Int × Bool))) × (List (Int × Bool)))} {adxa_1 : Option Addr} {cpxa_1 : Nat} {adxa_2 : Option Addr} {cpxa_2 : Nat} {adxa_3 : Option Addr} {cpxa_3 : Nat} (fxa_1 : Is K (.sl (.cons (.int .i64) (.one (.int .i64)))) [.slice adxa_1 xa.2.1.length cpxa_1] xa.2.1) (fxa_2 : Is K (.sl (.one (.sl (.cons (.int .i64) (.one .bool))))) [.slice adxa_2 xa.2.2.1.length cpxa_2] xa.2.2.1) (fxa_3 : Is K (.sl (.cons (.int .i64) (.one .bool))) [.slice adxa_3 xa.2.2.2.length cpxa_3] xa.2.2.2) {r : List UInt8} (h : fn_sig_Put xa = some r) :
    Tr Tryz.prog 57 #[.agg #[ii xa.1, .slice adxa_1 xa.2.1.length cpxa_1, .slice adxa_2 xa.2.2.1.length cpxa_2, .slice adxa_3 xa.2.2.2.length cpxa_3]] K [] (fun v K' L' => (∃ (s211 : List UInt8), s211 = r ∧ .string ⟨s211.toArray⟩ = v ∧ L' = []) ∧ K = K') := by
 refine Tr.k <| Tr.of Tryz.func57 rfl Tryz.ntmps57 rfl fun E F => ?_
 unfold fn_sig_Put at h
 refine cr <| jbx [ii xa.1, .slice adxa_1 xa.2.1.length cpxa_1, .slice adxa_2 xa.2.2.1.length cpxa_2, .slice adxa_3 xa.2.2.2.length cpxa_3] rfl rfl fun b212 => ja (.string ⟨([] : List UInt8).toArray⟩) rfl <| J.nil <| CJ.seq <| CJ.region ?_
 refine jal inf107 [.pointer none, nos] rfl fun b213 => J.by (fun w hs => Bld.fresh hs) <| J.nil <| cr <| jv _ (V.fad Tryz.underlying63 rfl nz3 rfl) <| jv (ii xa.1) (V.ld rfl (Ld.sc sc3 (Rd.cl 1 rfl rfl))) ?_
 obtain ⟨r214, hr215, h⟩ := ob h
 refine J.op rfl (A.call (L1 := []) Tryz.call55 rfl (leb_Put_ok hr215) rfl rfl) ?_
 rintro _ _ _ ⟨v217, _, rfl, ⟨⟨s216, rfl, rfl, rfl⟩, rfl⟩, _, rfl⟩
 obtain ⟨s220, hs221, h⟩ := ob h
 refine J.op rfl (A.call (L1 := [Bld b213 ([] : List UInt8)]) Tryz.call52 rfl (WriteString_ok hs221) rfl rfl) ?_
 rintro _ _ _ ⟨v222, _, rfl, ⟨⟨s220, rfl, rfl, rfl⟩, rfl⟩, _, rfl⟩
 refine J.nil <| cr <| jv _ (V.fad Tryz.underlying63 rfl nz26 rfl) <| jv (.slice adxa_1 xa.2.1.length cpxa_1) (V.ld rfl (Ld.sc sc26 (Rd.cl 1 rfl rfl))) ?_
 obtain ⟨r223, hr224, h⟩ := ob h
 refine J.op rfl (A.call (L1 := []) Tryz.call54 rfl (sig_PutBounds_ok fxa_1 hr224) rfl rfl) ?_
 rintro _ _ _ ⟨v226, _, rfl, ⟨⟨s225, rfl, rfl, rfl⟩, rfl⟩, _, rfl⟩
 obtain ⟨s229, hs230, h⟩ := ob h
 refine J.op rfl (A.call (L1 := [Bld b213 s220]) Tryz.call52 rfl (WriteString_ok hs230) rfl rfl) ?_
 rintro _ _ _ ⟨v231, _, rfl, ⟨⟨s229, rfl, rfl, rfl⟩, rfl⟩, _, rfl⟩
 refine J.nil <| cr <| jv _ (V.fad Tryz.underlying63 rfl nz27 rfl) <| jv (.slice adxa_2 xa.2.2.1.length cpxa_2) (V.ld rfl (Ld.sc sc27 (Rd.cl 1 rfl rfl))) <| jv (ii (((xa.2.2.1.length : Nat) : Int))) (V.len Tryz.underlying27 rfl) ?_
 obtain ⟨r232, hr233, h⟩ := ob h
 refine J.op rfl (A.call (L1 := []) Tryz.call55 rfl (leb_Put_ok hr233) rfl rfl) ?_
 rintro _ _ _ ⟨v235, _, rfl, ⟨⟨s234, rfl, rfl, rfl⟩, rfl⟩, _, rfl⟩
 obtain ⟨s238, hs239, h⟩ := ob h
 refine J.op rfl (A.call (L1 := [Bld b213 s229]) Tryz.call52 rfl (WriteString_ok hs239) rfl rfl) ?_
 rintro _ _ _ ⟨v240, _, rfl, ⟨⟨s238, rfl, rfl, rfl⟩, rfl⟩, _, rfl⟩
 refine J.nil <| CJ.seq <| cr <| jv _ (V.fad Tryz.underlying63 rfl nz27 rfl) <| jv (.slice adxa_2 xa.2.2.1.length cpxa_2) (V.ld rfl (Ld.sc sc27 (Rd.cl 1 rfl rfl))) <| jv (ii (((xa.2.2.1.length : Nat) : Int))) (V.len Tryz.underlying27 rfl) ?_
 refine jm (ii 0) rfl <| J.nil ?_
 obtain ⟨o324, ho325, h⟩ := ob h
 refine CJ.meetN (fun ρ K' L' => ∃ (s323 : List UInt8), s323 = o324 ∧ Fits [(1, .pointer (some ⟨b212, 0, none⟩)), (3, .pointer (some ⟨b213, 0, none⟩))] ρ ∧ K = K' ∧ L' = Cl b212 63 [ii xa.1, .slice adxa_1 xa.2.1.length cpxa_1, .slice adxa_2 xa.2.2.1.length cpxa_2, .slice adxa_3 xa.2.2.2.length cpxa_3] :: Bld b213 s323 :: F) ?_ ?_
 · refine CJ.block <| CJ.front 1 rfl <| CJ.loop (fun s ρ K' L' => ∃ (i352 : Int) (s353 : List UInt8), (i352, s353) = s ∧ Fits [(1, .pointer (some ⟨b212, 0, none⟩)), (3, .pointer (some ⟨b213, 0, none⟩)), (20, .slice adxa_2 xa.2.2.1.length cpxa_2), (21, ii (((xa.2.2.1.length : Nat) : Int))), (22, ii i352)] ρ ∧ K = K' ∧ L' = Cl b212 63 [ii xa.1, .slice adxa_1 xa.2.1.length cpxa_1, .slice adxa_2 xa.2.2.1.length cpxa_2, .slice adxa_3 xa.2.2.2.length cpxa_3] :: Bld b213 s353 :: F) ho325 ⟨0, s238, rfl, ⟨rfl, rfl, rfl, rfl, rfl, trivial⟩, rfl, rfl⟩ ?_
   rintro s ρ _ _ r383 ⟨i352, s353, rfl, hf381, rfl, rfl⟩ h380
   obtain ⟨ρ, rfl⟩ := hf381.ex
   refine cr <| jv (.bool (decide (i352 < (((xa.2.2.1.length : Nat) : Int))))) (V.lss rfl rfl) <| J.nil <| CJ.seq <| cc rfl h380 (fun hc384 h380 => ?_) fun hc384 h380 => ?_
   · refine CJ.skip <| CJ.seq <| CJ.block <| CJ.seq <| CJ.region ?_
     obtain ⟨x385, hx386, h380⟩ := ob h380
     obtain ⟨p387, p388, p389⟩ := getI_some hx386
     obtain ⟨b390, o391, e392, a393⟩ := (fxa_2).at p388
     refine jv _ (V.iad Tryz.underlying27 sz30 rfl e392 rfl p387 p389) ?_
     obtain ⟨ad394, cp395, c396, f397⟩ := ((a393).one).sl
     refine jv (.agg #[.slice ad394 x385.length cp395]) (V.ld rfl (Ld.aggK (cs := [.slice ad394 x385.length cp395]) Tryz.underlying30 sz30 rfl ⟨c396, trivial⟩ (Hp.le_refl _))) <| jal inf30 [nos] rfl fun b398 => js [.slice ad394 x385.length cp395] sz30 rfl rfl rfl rfl rfl rfl <| J.nil <| CJ.region <| jv (.agg #[.slice ad394 x385.length cp395]) (V.ld rfl (Ld.agg (cs := [.slice ad394 x385.length cp395]) Tryz.underlying30 sz30 rfl (Rd.cls 0 0 rfl rfl))) ?_
     obtain ⟨r399, hr400, h380⟩ := ob h380
     refine J.op rfl (A.call (L1 := []) Tryz.call56 rfl (sig_PutType_ok f397 hr400) rfl rfl) ?_
     rintro _ _ _ ⟨v402, _, rfl, ⟨⟨s401, rfl, rfl, rfl⟩, rfl⟩, _, rfl⟩
     refine J.front 2 rfl ?_
     obtain ⟨s405, hs406, h380⟩ := ob h380
     refine J.op rfl (A.call (L1 := [Bld b213 s353]) Tryz.call52 rfl (WriteString_ok hs406) rfl rfl) ?_
     rintro _ _ _ ⟨v407, _, rfl, ⟨⟨s405, rfl, rfl, rfl⟩, rfl⟩, _, rfl⟩
     refine J.nil <| CJ.region <| jv (ii (IntKind.wrap .i64 (i352 + 1))) (V.add rfl rfl) <| jm (ii (IntKind.wrap .i64 (i352 + 1))) rfl <| J.dropAt 1 rfl <| J.front 1 rfl <| J.nil ?_
     obtain rfl := si h380
     exact ⟨rfl, ⟨IntKind.wrap .i64 (i352 + 1), s405, rfl, ⟨rfl, rfl, rfl, rfl, rfl, trivial⟩, rfl, rfl⟩⟩
   refine CJ.exit ?_
   obtain rfl := si h380
   refine ⟨nofun, fun e => ?_⟩
   subst e
   exact ⟨rfl, ⟨s353, rfl, ⟨rfl, rfl, trivial⟩, rfl, rfl⟩⟩
 rintro ρ _ _ ⟨s323, rfl, hf408, rfl, rfl⟩
 obtain ⟨ρ, rfl⟩ := hf408.ex
 refine PJ.done <| cr <| jv _ (V.fad Tryz.underlying63 rfl nz30 rfl) <| jv (.agg #[.slice adxa_3 xa.2.2.2.length cpxa_3]) (V.ld rfl (Ld.agg (cs := [.slice adxa_3 xa.2.2.2.length cpxa_3]) Tryz.underlying30 sz30 rfl (Rd.cls 0 3 rfl rfl))) ?_
 obtain ⟨r410, hr411, h⟩ := ob h
 refine J.op rfl (A.call (L1 := []) Tryz.call56 rfl (sig_PutType_ok fxa_3 hr411) rfl rfl) ?_
 rintro _ _ _ ⟨v413, _, rfl, ⟨⟨s412, rfl, rfl, rfl⟩, rfl⟩, _, rfl⟩
 refine J.front 1 rfl ?_
 obtain ⟨s416, hs417, h⟩ := ob h
 refine J.op rfl (A.call (L1 := [Bld b213 s323]) Tryz.call52 rfl (WriteString_ok hs417) rfl rfl) ?_
 rintro _ _ _ ⟨v418, _, rfl, ⟨⟨s416, rfl, rfl, rfl⟩, rfl⟩, _, rfl⟩
 refine J.nil <| CJ.seq <| CJ.region ?_
 obtain ⟨s419, hs420, h⟩ := ob h
 refine J.op rfl (A.call (L1 := [Bld b213 s416]) Tryz.call59 rfl (BString_ok hs420) rfl rfl) ?_
 rintro _ _ _ ⟨v421, _, rfl, ⟨⟨s419, rfl, rfl, rfl⟩, rfl⟩, _, rfl⟩
 refine ja (.string ⟨s419.toArray⟩) rfl <| J.nil <| CJ.ret ?_
 obtain rfl := si h
 exact ⟨_, _, Res.one rfl rfl, ⟨s419, rfl, rfl, rfl⟩, (Hp.le_refl _), fun w hs => (Sep.dropAt 0 rfl hs)⟩

noncomputable def fn_stmt_fieldsOf (xa : Int) : Option (Bool × Bool × Bool × Bool) :=
  cond (decide (xa = 0)) (some ((false, false, false, true))) (cond (decide (xa = 1)) (some ((true, true, false, true))) ((cond (decide (xa = 2)) (some (decide (xa = 2))) (some (decide (xa = 3))) : Option Bool).bind fun t22 => cond (t22) (some ((true, true, true, true))) (cond (decide (xa = 4)) (some ((false, true, false, true))) (cond (decide (xa = 5)) (some ((true, false, false, true))) (some ((false, false, false, false)))))))
set_option maxRecDepth 100000 in
set_option maxHeartbeats 4000000 in
theorem stmt_fieldsOf_ok {K : Hp} {xa : Int}   {r : (Bool × Bool × Bool × Bool)} (h : fn_stmt_fieldsOf xa = some r) :
    Tr Tryz.prog 75 #[ii xa] K [] (fun v K' L' => (∃ (t14 : Bool) (t15 : Bool) (t16 : Bool) (t17 : Bool), (t14, t15, t16, t17) = r ∧ .tuple #[.agg #[.bool t14, .bool t15, .bool t16], .bool t17] = v ∧ L' = []) ∧ K = K') := by
 refine Tr.k <| Tr.of Tryz.func75 rfl Tryz.ntmps75 rfl fun E F => ?_
 unfold fn_stmt_fieldsOf at h
 refine cr <| jal inf136 [.bool false, .bool false, .bool false] rfl fun b18 => ja (.bool false) rfl <| J.nil <| CJ.seq <| CJ.seq ?_
 refine CJ.region <| jm (ii xa) rfl <| J.nil <| CJ.block <| cr <| jv (.bool (decide (xa = 0))) (V.eql rfl rfl) ?_
 refine ja (.bool (decide (xa = 0))) rfl <| J.nil <| cc rfl h (fun hc19 h => ?_) fun hc19 h => ?_
 · refine cr <| jv (.agg #[.bool false, .bool false, .bool false]) (V.build inf136 places136 rfl rfl) <| js [.bool false, .bool false, .bool false] sz136 rfl rfl rfl rfl rfl rfl <| ja (.bool true) rfl <| J.nil <| CJ.ret ?_
   obtain rfl := si h
   exact ⟨_, _, Res.two rfl ⟨_, _, rfl, Ld.agg (cs := [.bool false, .bool false, .bool false]) Tryz.underlying136 sz136 rfl (Rd.cls 0 0 rfl rfl)⟩ rfl, ⟨false, false, false, true, rfl, rfl, rfl⟩, (Hp.le_refl _), fun w hs => (Sep.dropAt 0 rfl hs)⟩
 refine cr <| jv (.bool (decide (xa = 1))) (V.eql rfl rfl) <| ja (.bool (decide (xa = 1))) rfl <| J.nil <| cc rfl h (fun hc20 h => ?_) fun hc20 h => ?_
 · refine cr <| jv (.agg #[.bool true, .bool true, .bool false]) (V.build inf136 places136 rfl rfl) <| js [.bool true, .bool true, .bool false] sz136 rfl rfl rfl rfl rfl rfl <| ja (.bool true) rfl <| J.nil <| CJ.ret ?_
   obtain rfl := si h
   exact ⟨_, _, Res.two rfl ⟨_, _, rfl, Ld.agg (cs := [.bool true, .bool true, .bool false]) Tryz.underlying136 sz136 rfl (Rd.cls 0 0 rfl rfl)⟩ rfl, ⟨true, true, false, true, rfl, rfl, rfl⟩, (Hp.le_refl _), fun w hs => (Sep.dropAt 0 rfl hs)⟩
 refine CJ.seq ?_
 obtain ⟨o23, ho24, h⟩ := ob h
 refine CJ.meetN (fun ρ K' L' => ∃ (t22 : Bool), t22 = o23 ∧ Fits [(2, .pointer (some ⟨b18, 0, none⟩)), (4, ii xa), (11, .bool t22)] ρ ∧ K = K' ∧ L' = Cl b18 136 [.bool false, .bool false, .bool false] :: F) ?_ ?_
 · refine cr <| jv (.bool (decide (xa = 2))) (V.eql rfl rfl) <| ja (.bool (decide (xa = 2))) rfl <| J.nil <| cc rfl ho24 (fun hc25 ho24 => ?_) fun hc25 ho24 => ?_
   · refine CJ.skip ?_
     obtain rfl := si ho24
     exact ⟨rfl, ⟨decide (xa = 2), rfl, ⟨rfl, rfl, rfl, trivial⟩, rfl, rfl⟩⟩
   refine CJ.region <| jv (.bool (decide (xa = 3))) (V.eql rfl rfl) <| ja (.bool (decide (xa = 3))) rfl <| J.nil ?_
   obtain rfl := si ho24
   exact ⟨rfl, ⟨decide (xa = 3), rfl, ⟨rfl, rfl, rfl, trivial⟩, rfl, rfl⟩⟩
 rintro ρ _ _ ⟨t22, rfl, hf26, rfl, rfl⟩
 obtain ⟨ρ, rfl⟩ := hf26.ex
 refine PJ.done <| cc rfl h (fun hc28 h => ?_) fun hc28 h => ?_
 · refine cr <| jv (.agg #[.bool true, .bool true, .bool true]) (V.build inf136 places136 rfl rfl) <| js [.bool true, .bool true, .bool true] sz136 rfl rfl rfl rfl rfl rfl <| ja (.bool true) rfl <| J.nil <| CJ.ret ?_
   obtain rfl := si h
   exact ⟨_, _, Res.two rfl ⟨_, _, rfl, Ld.agg (cs := [.bool true, .bool true, .bool true]) Tryz.underlying136 sz136 rfl (Rd.cls 0 0 rfl rfl)⟩ rfl, ⟨true, true, true, true, rfl, rfl, rfl⟩, (Hp.le_refl _), fun w hs => (Sep.dropAt 0 rfl hs)⟩
 refine cr <| jv (.bool (decide (xa = 4))) (V.eql rfl rfl) <| ja (.bool (decide (xa = 4))) rfl <| J.nil <| cc rfl h (fun hc29 h => ?_) fun hc29 h => ?_
 · refine cr <| jv (.agg #[.bool false, .bool true, .bool false]) (V.build inf136 places136 rfl rfl) <| js [.bool false, .bool true, .bool false] sz136 rfl rfl rfl rfl rfl rfl <| ja (.bool true) rfl <| J.nil <| CJ.ret ?_
   obtain rfl := si h
   exact ⟨_, _, Res.two rfl ⟨_, _, rfl, Ld.agg (cs := [.bool false, .bool true, .bool false]) Tryz.underlying136 sz136 rfl (Rd.cls 0 0 rfl rfl)⟩ rfl, ⟨false, true, false, true, rfl, rfl, rfl⟩, (Hp.le_refl _), fun w hs => (Sep.dropAt 0 rfl hs)⟩
 refine cr <| jv (.bool (decide (xa = 5))) (V.eql rfl rfl) <| ja (.bool (decide (xa = 5))) rfl <| J.nil <| cc rfl h (fun hc30 h => ?_) fun hc30 h => ?_
 · refine cr <| jv (.agg #[.bool true, .bool false, .bool false]) (V.build inf136 places136 rfl rfl) <| js [.bool true, .bool false, .bool false] sz136 rfl rfl rfl rfl rfl rfl <| ja (.bool true) rfl <| J.nil <| CJ.ret ?_
   obtain rfl := si h
   exact ⟨_, _, Res.two rfl ⟨_, _, rfl, Ld.agg (cs := [.bool true, .bool false, .bool false]) Tryz.underlying136 sz136 rfl (Rd.cls 0 0 rfl rfl)⟩ rfl, ⟨true, false, false, true, rfl, rfl, rfl⟩, (Hp.le_refl _), fun w hs => (Sep.dropAt 0 rfl hs)⟩
 refine CJ.skip <| cr <| jv (.agg #[.bool false, .bool false, .bool false]) (V.build inf136 places136 rfl rfl) <| js [.bool false, .bool false, .bool false] sz136 rfl rfl rfl rfl rfl rfl <| ja (.bool false) rfl <| J.nil ?_
 refine CJ.ret ?_
 obtain rfl := si h
 exact ⟨_, _, Res.two rfl ⟨_, _, rfl, Ld.agg (cs := [.bool false, .bool false, .bool false]) Tryz.underlying136 sz136 rfl (Rd.cls 0 0 rfl rfl)⟩ rfl, ⟨false, false, false, false, rfl, rfl, rfl⟩, (Hp.le_refl _), fun w hs => (Sep.dropAt 0 rfl hs)⟩

noncomputable def fn_stmt_own (xa : (Int × Int × Int × Int × Bool)) (xb : (Bool × Bool × Bool)) : Option (Int × Int × Int × Int × Bool) :=
  (cond (xb.1) (some (xa.2.1)) (some (0)) : Option Int).bind fun i30 => (cond (xb.2.1) (some (xa.2.2.1)) (some (0)) : Option Int).bind fun i37 => cond (xb.2.2) (some ((xa.1, i30, i37, xa.2.2.2.1, xa.2.2.2.2))) (some ((xa.1, i30, i37, 0, false)))
set_option maxRecDepth 100000 in
set_option maxHeartbeats 4000000 in
theorem stmt_own_ok {K : Hp} {xa : (Int × Int × Int × Int × Bool)} {xb : (Bool × Bool × Bool)}   {r : (Int × Int × Int × Int × Bool)} (h : fn_stmt_own xa xb = some r) :
    Tr Tryz.prog 118 #[.agg #[ii xa.1, ii xa.2.1, ii xa.2.2.1, ii xa.2.2.2.1, .bool xa.2.2.2.2], .agg #[.bool xb.1, .bool xb.2.1, .bool xb.2.2]] K [] (fun v K' L' => (∃ (i20 : Int) (i21 : Int) (i22 : Int) (i23 : Int) (t24 : Bool), (i20, i21, i22, i23, t24) = r ∧ .agg #[ii i20, ii i21, ii i22, ii i23, .bool t24] = v ∧ L' = []) ∧ K = K') := by
 refine Tr.k <| Tr.of Tryz.func118 rfl Tryz.ntmps118 rfl fun E F => ?_
 unfold fn_stmt_own at h
 refine cr <| jbx [ii xa.1, ii xa.2.1, ii xa.2.2.1, ii xa.2.2.2.1, .bool xa.2.2.2.2] rfl rfl fun b25 => jbx [.bool xb.1, .bool xb.2.1, .bool xb.2.2] rfl rfl fun b26 => jal inf73 [ii 0, ii 0, ii 0, ii 0, .bool false] rfl fun b27 => J.nil <| CJ.seq ?_
 refine CJ.region <| jv _ (V.fad Tryz.underlying73 rfl nz3 rfl) <| jv (ii xa.1) (V.ld rfl (Ld.sc sc3 (Rd.cl 2 rfl rfl))) <| jv (.agg #[ii xa.1, ii 0, ii 0, ii 0, .bool false]) (V.build inf73 places73 rfl rfl) <| jal inf73 [ii 0, ii 0, ii 0, ii 0, .bool false] rfl fun b28 => js [ii xa.1, ii 0, ii 0, ii 0, .bool false] sz73 rfl rfl rfl rfl rfl rfl <| J.nil ?_
 refine CJ.seq ?_
 obtain ⟨o31, ho32, h⟩ := ob h
 refine CJ.meetN (fun ρ K' L' => ∃ (i30 : Int), i30 = o31 ∧ Fits [(2, .pointer (some ⟨b25, 0, none⟩)), (3, .pointer (some ⟨b26, 0, none⟩)), (4, .pointer (some ⟨b27, 0, none⟩)), (5, .pointer (some ⟨b28, 0, none⟩))] ρ ∧ K = K' ∧ L' = Cl b25 73 [ii xa.1, ii xa.2.1, ii xa.2.2.1, ii xa.2.2.2.1, .bool xa.2.2.2.2] :: Cl b26 136 [.bool xb.1, .bool xb.2.1, .bool xb.2.2] :: Cl b27 73 [ii 0, ii 0, ii 0, ii 0, .bool false] :: Cl b28 73 [ii xa.1, ii i30, ii 0, ii 0, .bool false] :: F) ?_ ?_
 · refine cr <| jv _ (V.fad Tryz.underlying136 rfl nz4 rfl) <| jv (.bool xb.1) (V.ld rfl (Ld.sc sc4 (Rd.cl 2 rfl rfl))) <| J.nil <| cc rfl ho32 (fun hc33 ho32 => ?_) fun hc33 ho32 => ?_
   · refine CJ.region <| jv _ (V.fad Tryz.underlying73 rfl nz3 rfl) <| jv (ii xa.2.1) (V.ld rfl (Ld.sc sc3 (Rd.cl 3 rfl rfl))) <| jv _ (V.fad Tryz.underlying73 rfl nz3 rfl) <| js1 [ii xa.1, ii xa.2.1, ii 0, ii 0, .bool false] sz3 rfl rfl rfl rfl rfl rfl <| J.front 1 rfl <| J.front 2 rfl ?_
     refine J.front 3 rfl <| J.nil ?_
     obtain rfl := si ho32
     exact ⟨rfl, ⟨xa.2.1, rfl, ⟨rfl, rfl, rfl, rfl, trivial⟩, rfl, rfl⟩⟩
   refine CJ.front 1 rfl <| CJ.front 2 rfl <| CJ.front 3 rfl <| CJ.skip ?_
   obtain rfl := si ho32
   exact ⟨rfl, ⟨0, rfl, ⟨rfl, rfl, rfl, rfl, trivial⟩, rfl, rfl⟩⟩
 rintro ρ _ _ ⟨i30, rfl, hf34, rfl, rfl⟩
 obtain ⟨ρ, rfl⟩ := hf34.ex
 refine PJ.done <| CJ.seq ?_
 obtain ⟨o38, ho39, h⟩ := ob h
 refine CJ.meetN (fun ρ K' L' => ∃ (i37 : Int), i37 = o38 ∧ Fits [(2, .pointer (some ⟨b25, 0, none⟩)), (3, .pointer (some ⟨b26, 0, none⟩)), (4, .pointer (some ⟨b27, 0, none⟩)), (5, .pointer (some ⟨b28, 0, none⟩))] ρ ∧ K = K' ∧ L' = Cl b25 73 [ii xa.1, ii xa.2.1, ii xa.2.2.1, ii xa.2.2.2.1, .bool xa.2.2.2.2] :: Cl b26 136 [.bool xb.1, .bool xb.2.1, .bool xb.2.2] :: Cl b27 73 [ii 0, ii 0, ii 0, ii 0, .bool false] :: Cl b28 73 [ii xa.1, ii i30, ii i37, ii 0, .bool false] :: F) ?_ ?_
 · refine cr <| jv _ (V.fad Tryz.underlying136 rfl nz4 rfl) <| jv (.bool xb.2.1) (V.ld rfl (Ld.sc sc4 (Rd.cl 1 rfl rfl))) <| J.nil <| cc rfl ho39 (fun hc40 ho39 => ?_) fun hc40 ho39 => ?_
   · refine CJ.region <| jv _ (V.fad Tryz.underlying73 rfl nz3 rfl) <| jv (ii xa.2.2.1) (V.ld rfl (Ld.sc sc3 (Rd.cl 0 rfl rfl))) <| jv _ (V.fad Tryz.underlying73 rfl nz3 rfl) <| J.front 3 rfl <| js1 [ii xa.1, ii i30, ii xa.2.2.1, ii 0, .bool false] sz3 rfl rfl rfl rfl rfl rfl <| J.front 3 rfl ?_
     refine J.front 3 rfl <| J.front 3 rfl <| J.nil ?_
     obtain rfl := si ho39
     exact ⟨rfl, ⟨xa.2.2.1, rfl, ⟨rfl, rfl, rfl, rfl, trivial⟩, rfl, rfl⟩⟩
   refine CJ.skip ?_
   obtain rfl := si ho39
   exact ⟨rfl, ⟨0, rfl, ⟨rfl, rfl, rfl, rfl, trivial⟩, rfl, rfl⟩⟩
 rintro ρ _ _ ⟨i37, rfl, hf41, rfl, rfl⟩
 obtain ⟨ρ, rfl⟩ := hf41.ex
 refine PJ.done <| CJ.seq <| cr <| jv _ (V.fad Tryz.underlying136 rfl nz4 rfl) <| jv (.bool xb.2.2) (V.ld rfl (Ld.sc sc4 (Rd.cl 1 rfl rfl))) <| J.nil ?_
 refine cc rfl h (fun hc43 h => ?_) fun hc43 h => ?_
 · refine CJ.mix [Cl b25 73 [ii xa.1, ii xa.2.1, ii xa.2.2.1, ii xa.2.2.2.1, .bool xa.2.2.2.2], Cl b26 136 [.bool xb.1, .bool xb.2.1, .bool xb.2.2], Cl b27 73 [ii 0, ii 0, ii 0, ii 0, .bool false]] [([0, 1, 2, 3, 4], 5)] [6] [7] mixO (by decide +kernel) ⟨0, rfl, 0, rfl, 0, rfl, trivial⟩ rfl rfl rfl <| JM.cons <| qv _ (V.fad Tryz.underlying73 rfl nz3 rfl) <| qv (ii xa.2.2.2.1) (V.ld rfl (Ld.sc sc3 (Rd.cl 0 rfl rfl))) <| qv _ (V.fad Tryz.underlying73 rfl nz4 rfl) <| qv (.bool xa.2.2.2.2) (V.ld rfl (Ld.sc sc4 (Rd.cl 0 rfl rfl))) <| qv _ (V.fad Tryz.underlying73 rfl nz3 rfl) ?_
   refine JQ.nil <| JA.front 3 rfl <| JA.op rfl (A.store1 (v := ii xa.2.2.2.1) (cs' := [ii xa.1, ii i30, ii i37, ii xa.2.2.2.1, .bool false]) sz3 rfl rfl rfl rfl rfl rfl) ?_
   rintro _ _ _ ⟨rfl, rfl, rfl⟩
   refine ⟨fun w hs => Hold.sub (Hp.le_refl _) ⟨1, rfl, 1, rfl, 1, rfl, trivial⟩ hs, ?_⟩
   refine JM.nil <| qv _ (V.fad Tryz.underlying73 rfl nz4 rfl) <| JQ.nil <| js1 [ii xa.1, ii i30, ii i37, ii xa.2.2.2.1, .bool xa.2.2.2.2] sz4 rfl rfl rfl rfl rfl rfl <| J.nil <| CJ.seq <| CJ.region ?_
   refine jv (.agg #[ii xa.1, ii i30, ii i37, ii xa.2.2.2.1, .bool xa.2.2.2.2]) (V.ld rfl (Ld.agg (cs := [ii xa.1, ii i30, ii i37, ii xa.2.2.2.1, .bool xa.2.2.2.2]) Tryz.underlying73 sz73 rfl (Rd.cls 0 0 rfl rfl))) <| J.front 3 rfl <| js [ii xa.1, ii i30, ii i37, ii xa.2.2.2.1, .bool xa.2.2.2.2] sz73 rfl rfl rfl rfl rfl rfl <| J.nil <| CJ.ret ?_
   obtain rfl := si h
   exact ⟨_, _, Res.one rfl ⟨_, _, rfl, Ld.agg (cs := [ii xa.1, ii i30, ii i37, ii xa.2.2.2.1, .bool xa.2.2.2.2]) Tryz.underlying73 sz73 rfl (Rd.cls 0 0 rfl rfl)⟩, ⟨xa.1, i30, i37, xa.2.2.2.1, xa.2.2.2.2, rfl, rfl, rfl⟩, (Hp.le_refl _), fun w hs => (Sep.dropAt 0 rfl (Sep.dropAt 0 rfl (Sep.dropAt 0 rfl (Sep.dropAt 0 rfl hs))))⟩
 refine CJ.skip <| cr <| jv (.agg #[ii xa.1, ii i30, ii i37, ii 0, .bool false]) (V.ld rfl (Ld.agg (cs := [ii xa.1, ii i30, ii i37, ii 0, .bool false]) Tryz.underlying73 sz73 rfl (Rd.cls 3 0 rfl rfl))) <| J.front 2 rfl <| js [ii xa.1, ii i30, ii i37, ii 0, .bool false] sz73 rfl rfl rfl rfl rfl rfl <| J.nil ?_
 refine CJ.ret ?_
 obtain rfl := si h
 exact ⟨_, _, Res.one rfl ⟨_, _, rfl, Ld.agg (cs := [ii xa.1, ii i30, ii i37, ii 0, .bool false]) Tryz.underlying73 sz73 rfl (Rd.cls 0 0 rfl rfl)⟩, ⟨xa.1, i30, i37, 0, false, rfl, rfl, rfl⟩, (Hp.le_refl _), fun w hs => (Sep.dropAt 0 rfl (Sep.dropAt 0 rfl (Sep.dropAt 0 rfl (Sep.dropAt 0 rfl hs))))⟩

noncomputable def fn_stmt_form (xa : (Int × Int × Int × Int × Bool)) : Option (Bool × Bool × Bool × Int) :=
  (fn_stmt_fieldsOf xa.1).bind fun (t45, t46, t47, t48) => cond (!t48) (some ((false, false, false, 3))) ((fn_stmt_own (xa.1, xa.2.1, xa.2.2.1, xa.2.2.2.1, xa.2.2.2.2) (t45, t46, t47)).bind fun (i67, i68, i69, i70, t71) => cond (!((decide (xa.1 = i67)) && ((decide (xa.2.1 = i68)) && ((decide (xa.2.2.1 = i69)) && ((decide (xa.2.2.2.1 = i70)) && (xa.2.2.2.2 == t71)))))) (some ((false, false, false, 3))) (some ((t45, t46, t47, 0))))
set_option maxRecDepth 100000 in
set_option maxHeartbeats 4000000 in
theorem stmt_form_ok {K : Hp} {xa : (Int × Int × Int × Int × Bool)}   {r : (Bool × Bool × Bool × Int)} (h : fn_stmt_form xa = some r) :
    Tr Tryz.prog 106 #[.agg #[ii xa.1, ii xa.2.1, ii xa.2.2.1, ii xa.2.2.2.1, .bool xa.2.2.2.2]] K [] (fun v K' L' => (∃ (t37 : Bool) (t38 : Bool) (t39 : Bool) (i40 : Int), (t37, t38, t39, i40) = r ∧ .tuple #[.agg #[.bool t37, .bool t38, .bool t39], ii i40] = v ∧ L' = []) ∧ K = K') := by
 refine Tr.k <| Tr.of Tryz.func106 rfl Tryz.ntmps106 rfl fun E F => ?_
 unfold fn_stmt_form at h
 refine cr <| jbx [ii xa.1, ii xa.2.1, ii xa.2.2.1, ii xa.2.2.2.1, .bool xa.2.2.2.2] rfl rfl fun b41 => jal inf136 [.bool false, .bool false, .bool false] rfl fun b42 => ja (ii 0) rfl <| J.nil <| CJ.seq ?_
 refine CJ.region <| jv _ (V.fad Tryz.underlying73 rfl nz3 rfl) <| jv (ii xa.1) (V.ld rfl (Ld.sc sc3 (Rd.cl 1 rfl rfl))) ?_
 obtain ⟨r43, hr44, h⟩ := ob h
 refine J.op rfl (A.call (L1 := []) Tryz.call75 rfl (stmt_fieldsOf_ok hr44) rfl rfl) ?_
 rintro _ _ _ ⟨v49, _, rfl, ⟨⟨t45, t46, t47, t48, rfl, rfl, rfl⟩, rfl⟩, _, rfl⟩
 refine jm (.tuple #[.agg #[.bool t45, .bool t46, .bool t47], .bool t48]) rfl <| jx (.agg #[.bool t45, .bool t46, .bool t47]) rfl rfl <| jx (.bool t48) rfl rfl <| jal inf136 [.bool false, .bool false, .bool false] rfl fun b52 => js [.bool t45, .bool t46, .bool t47] sz136 rfl rfl rfl rfl rfl rfl <| ja (.bool t48) rfl <| J.nil ?_
 refine CJ.seq <| CJ.seq <| CJ.mix [Cl b52 136 [.bool t45, .bool t46, .bool t47], Cl b42 136 [.bool false, .bool false, .bool false], Cl b41 73 [ii xa.1, ii xa.2.1, ii xa.2.2.1, ii xa.2.2.2.1, .bool xa.2.2.2.2]] [([0, 1, 2, 3, 4, 5], 6)] [7, 8] [] mixO (by decide +kernel) ⟨0, rfl, 0, rfl, 0, rfl, trivial⟩ rfl rfl rfl <| JM.cons <| qm (.bool t48) rfl <| qv (.bool (!t48)) (V.not rfl) <| qm (.bool (!t48)) rfl ?_
 rcases bt (!t48) with hc64 | hc64
 · have h := ct hc64 h
   refine JQ.skip rfl rfl rfl rfl hc64 <| JQ.skip rfl rfl rfl rfl hc64 <| JQ.skip rfl rfl rfl rfl hc64 <| JQ.nil <| JA.skip rfl rfl rfl rfl hc64 <| JM.nil <| JQ.skip rfl rfl rfl rfl hc64 ?_
   refine qv (.bool true) (V.pickT rfl hc64 rfl) <| JQ.nil <| J.nil <| CJ.condK (b := true) rfl rfl <| cr <| jv (.agg #[.bool false, .bool false, .bool false]) (V.build inf136 places136 rfl rfl) ?_
   refine J.front 1 rfl <| js [.bool false, .bool false, .bool false] sz136 rfl rfl rfl rfl rfl rfl <| ja (ii 3) rfl <| J.nil <| CJ.ret ?_
   obtain rfl := si h
   exact ⟨_, _, Res.two rfl ⟨_, _, rfl, Ld.agg (cs := [.bool false, .bool false, .bool false]) Tryz.underlying136 sz136 rfl (Rd.cls 0 0 rfl rfl)⟩ rfl, ⟨false, false, false, 3, rfl, rfl, rfl⟩, (Hp.le_refl _), fun w hs => (Sep.dropAt 0 rfl (Sep.dropAt 0 rfl (Sep.dropAt 0 rfl hs)))⟩
 have h := cf hc64 h
 refine JQ.run rfl rfl rfl hc64 <| qv (.agg #[ii xa.1, ii xa.2.1, ii xa.2.2.1, ii xa.2.2.2.1, .bool xa.2.2.2.2]) (V.ld rfl (Ld.agg (cs := [ii xa.1, ii xa.2.1, ii xa.2.2.1, ii xa.2.2.2.1, .bool xa.2.2.2.2]) Tryz.underlying73 sz73 rfl (Rd.cls 2 0 rfl rfl))) <| JQ.run rfl rfl rfl hc64 <| qv (.agg #[ii xa.1, ii xa.2.1, ii xa.2.2.1, ii xa.2.2.2.1, .bool xa.2.2.2.2]) (V.ld rfl (Ld.agg (cs := [ii xa.1, ii xa.2.1, ii xa.2.2.1, ii xa.2.2.2.1, .bool xa.2.2.2.2]) Tryz.underlying73 sz73 rfl (Rd.cls 2 0 rfl rfl))) <| JQ.run rfl rfl rfl hc64 <| qv (.agg #[.bool t45, .bool t46, .bool t47]) (V.ld rfl (Ld.agg (cs := [.bool t45, .bool t46, .bool t47]) Tryz.underlying136 sz136 rfl (Rd.cls 0 0 rfl rfl))) <| JQ.nil ?_
 refine JA.run rfl rfl rfl hc64 ?_
 obtain ⟨r65, hr66, h⟩ := ob h
 refine JA.op rfl (A.call (L1 := []) Tryz.call118 rfl (stmt_own_ok hr66) rfl rfl) ?_
 rintro _ _ _ ⟨v72, _, rfl, ⟨⟨i67, i68, i69, i70, t71, rfl, rfl, rfl⟩, rfl⟩, _, rfl⟩
 refine ⟨fun w hs => Hold.sub (Hp.le_refl _) ⟨0, rfl, 0, rfl, 0, rfl, trivial⟩ hs, ?_⟩
 refine JM.nil <| JQ.run rfl rfl rfl hc64 <| qv (.bool (!((decide (xa.1 = i67)) && ((decide (xa.2.1 = i68)) && ((decide (xa.2.2.1 = i69)) && ((decide (xa.2.2.2.1 = i70)) && (xa.2.2.2.2 == t71))))))) (V.nest eqg73 (EqIn.st (d := 9999) rfl Tryz.underlying73 sih73 (EqFs.cons (by decide) (Ld0.sc sc3 rfl) (Ld0.sc sc3 rfl) (EqIn.int (d := 9998) rfl Tryz.underlying3) (EqFs.cons (by decide) (Ld0.sc sc3 rfl) (Ld0.sc sc3 rfl) (EqIn.int (d := 9998) rfl Tryz.underlying3) (EqFs.cons (by decide) (Ld0.sc sc3 rfl) (Ld0.sc sc3 rfl) (EqIn.int (d := 9998) rfl Tryz.underlying3) (EqFs.cons (by decide) (Ld0.sc sc3 rfl) (Ld0.sc sc3 rfl) (EqIn.int (d := 9998) rfl Tryz.underlying3) (EqFs.last (by decide) (Ld0.sc sc4 rfl) (Ld0.sc sc4 rfl) (EqIn.bool (d := 9998) rfl Tryz.underlying4))))))) rfl rfl) <| qv (.bool (!((decide (xa.1 = i67)) && ((decide (xa.2.1 = i68)) && ((decide (xa.2.2.1 = i69)) && ((decide (xa.2.2.2.1 = i70)) && (xa.2.2.2.2 == t71))))))) (V.pickF rfl hc64 rfl) <| JQ.nil <| J.nil <| cc rfl h (fun hc75 h => ?_) fun hc75 h => ?_
 · refine cr <| jv (.agg #[.bool false, .bool false, .bool false]) (V.build inf136 places136 rfl rfl) <| J.front 1 rfl <| js [.bool false, .bool false, .bool false] sz136 rfl rfl rfl rfl rfl rfl <| ja (ii 3) rfl <| J.nil ?_
   refine CJ.ret ?_
   obtain rfl := si h
   exact ⟨_, _, Res.two rfl ⟨_, _, rfl, Ld.agg (cs := [.bool false, .bool false, .bool false]) Tryz.underlying136 sz136 rfl (Rd.cls 0 0 rfl rfl)⟩ rfl, ⟨false, false, false, 3, rfl, rfl, rfl⟩, (Hp.le_refl _), fun w hs => (Sep.dropAt 0 rfl (Sep.dropAt 0 rfl (Sep.dropAt 0 rfl hs)))⟩
 refine CJ.skip <| cr <| jv (.agg #[.bool t45, .bool t46, .bool t47]) (V.ld rfl (Ld.agg (cs := [.bool t45, .bool t46, .bool t47]) Tryz.underlying136 sz136 rfl (Rd.cls 0 0 rfl rfl))) <| J.front 1 rfl <| js [.bool t45, .bool t46, .bool t47] sz136 rfl rfl rfl rfl rfl rfl <| ja (ii 0) rfl ?_
 refine J.nil <| CJ.ret ?_
 obtain rfl := si h
 exact ⟨_, _, Res.two rfl ⟨_, _, rfl, Ld.agg (cs := [.bool t45, .bool t46, .bool t47]) Tryz.underlying136 sz136 rfl (Rd.cls 0 0 rfl rfl)⟩ rfl, ⟨t45, t46, t47, 0, rfl, rfl, rfl⟩, (Hp.le_refl _), fun w hs => (Sep.dropAt 0 rfl (Sep.dropAt 0 rfl (Sep.dropAt 0 rfl hs)))⟩

noncomputable def fn_stmt_Put (xa : (Int × Int × Int × Int × Bool)) : Option (List UInt8 × Int) :=
  (fn_stmt_form (xa.1, xa.2.1, xa.2.2.1, xa.2.2.2.1, xa.2.2.2.2)).bind fun (t114, t115, t116, i117) => cond (!decide (i117 = 0)) (some ((([] : List UInt8), i117))) ((cond (t114) ((app ([xa.1] : List Int) ([xa.2.1] : List Int)).bind fun z147 => some (z147)) (some (([xa.1] : List Int))) : Option (List Int)).bind fun l136 => (cond (t115) ((app l136 ([xa.2.2.1] : List Int)).bind fun z176 => some (z176)) (some (l136)) : Option (List Int)).bind fun l165 => cond (t116) ((cond (xa.2.2.2.2) (some (IntKind.wrap .i64 ((IntKind.wrap .i64 (2 * xa.2.2.2.1)) + 1))) (some (IntKind.wrap .i64 (2 * xa.2.2.2.1))) : Option Int).bind fun i186 => (app l165 ([i186] : List Int)).bind fun z195 => (fn_leb_All z195).bind fun s206 => some ((s206, 0))) ((fn_leb_All l165).bind fun s215 => some ((s215, 0))))
set_option maxRecDepth 100000 in
set_option maxHeartbeats 4000000 in
theorem stmt_Put_ok {K : Hp} {xa : (Int × Int × Int × Int × Bool)}   {r : (List UInt8 × Int)} (h : fn_stmt_Put xa = some r) :
    Tr Tryz.prog 90 #[.agg #[ii xa.1, ii xa.2.1, ii xa.2.2.1, ii xa.2.2.2.1, .bool xa.2.2.2.2]] K [] (fun v K' L' => (∃ (s109 : List UInt8) (i110 : Int), (s109, i110) = r ∧ .tuple #[.string ⟨s109.toArray⟩, ii i110] = v ∧ L' = []) ∧ K = K') := by
 refine Tr.k <| Tr.of Tryz.func90 rfl Tryz.ntmps90 rfl fun E F => ?_
 unfold fn_stmt_Put at h
 refine cr <| jbx [ii xa.1, ii xa.2.1, ii xa.2.2.1, ii xa.2.2.2.1, .bool xa.2.2.2.2] rfl rfl fun b111 => ja (.string ⟨([] : List UInt8).toArray⟩) rfl <| ja (ii 0) rfl <| J.nil <| CJ.seq ?_
 refine CJ.region <| jv (.agg #[ii xa.1, ii xa.2.1, ii xa.2.2.1, ii xa.2.2.2.1, .bool xa.2.2.2.2]) (V.ld rfl (Ld.agg (cs := [ii xa.1, ii xa.2.1, ii xa.2.2.1, ii xa.2.2.2.1, .bool xa.2.2.2.2]) Tryz.underlying73 sz73 rfl (Rd.cls 0 0 rfl rfl))) ?_
 obtain ⟨r112, hr113, h⟩ := ob h
 refine J.op rfl (A.call (L1 := []) Tryz.call106 rfl (stmt_form_ok hr113) rfl rfl) ?_
 rintro _ _ _ ⟨v118, _, rfl, ⟨⟨t114, t115, t116, i117, rfl, rfl, rfl⟩, rfl⟩, _, rfl⟩
 refine jm (.tuple #[.agg #[.bool t114, .bool t115, .bool t116], ii i117]) rfl <| jx (.agg #[.bool t114, .bool t115, .bool t116]) rfl rfl <| jx (ii i117) rfl rfl <| jal inf136 [.bool false, .bool false, .bool false] rfl fun b121 => js [.bool t114, .bool t115, .bool t116] sz136 rfl rfl rfl rfl rfl rfl <| ja (ii i117) rfl <| J.nil ?_
 refine CJ.seq <| cr <| jm (ii i117) rfl <| jv (.bool (!decide (i117 = 0))) (V.neq rfl rfl) <| J.nil <| cc rfl h (fun hc122 h => ?_) fun hc122 h => ?_
 · refine cr <| jm (ii i117) rfl <| ja (.string ⟨([] : List UInt8).toArray⟩) rfl <| ja (ii i117) rfl <| J.nil <| CJ.ret ?_
   obtain rfl := si h
   exact ⟨_, _, Res.two rfl rfl rfl, ⟨([] : List UInt8), i117, rfl, rfl, rfl⟩, (Hp.le_refl _), fun w hs => (Sep.dropAt 0 rfl (Sep.dropAt 0 rfl hs))⟩
 refine CJ.skip <| cr <| jv _ (V.fad Tryz.underlying73 rfl nz3 rfl) <| jv (ii xa.1) (V.ld rfl (Ld.sc sc3 (Rd.cl 1 rfl rfl))) ?_
 refine J.op rfl (A.lit (K0 := Hp.nil) (ty := (.int .i64)) (xs := ([xa.1] : List Int)) Tryz.underlying66 inf3 rfl (by decide) rfl rfl rfl ⟨_, _, rfl, rfl, rfl⟩ rfl (by decide)) ?_
 rintro _ _ _ ⟨b123, rfl, rfl, rfl⟩
 have hn124 : ([xa.1] : List Int) ≠ [] → ∃ g, (some ⟨b123, 0, none⟩ : Option Addr) = some ⟨g, 0, none⟩ := fun _ => ⟨b123, rfl⟩
 refine ja (.slice (some ⟨b123, 0, none⟩) (([xa.1] : List Int).length) 1) rfl <| J.nil <| CJ.seq ?_
 obtain ⟨o141, ho142, h⟩ := ob h
 refine CJ.meetN (fun ρ K' L' => ∃ (l136 : (List Int)) (ad137 : Option Addr) (cp138 : Nat), l136 = o141 ∧ Fits [(1, .pointer (some ⟨b111, 0, none⟩)), (4, .pointer (some ⟨b121, 0, none⟩)), (6, .slice ad137 l136.length cp138)] ρ ∧ K = K' ∧ L' = Cl b111 73 [ii xa.1, ii xa.2.1, ii xa.2.2.1, ii xa.2.2.2.1, .bool xa.2.2.2.2] :: Cl b121 136 [.bool t114, .bool t115, .bool t116] :: Row Hp.nil 3 (.int .i64) (.slice ad137 l136.length cp138) l136 :: F) ?_ ?_
 · refine cr <| jv _ (V.fad Tryz.underlying136 rfl nz4 rfl) <| jv (.bool t114) (V.ld rfl (Ld.sc sc4 (Rd.cl 1 rfl rfl))) <| J.nil <| cc rfl ho142 (fun hc143 ho142 => ?_) fun hc143 ho142 => ?_
   · refine CJ.region <| jm (.slice (some ⟨b123, 0, none⟩) (([xa.1] : List Int).length) 1) rfl <| jv _ (V.fad Tryz.underlying73 rfl nz3 rfl) <| jv (ii xa.2.1) (V.ld rfl (Ld.sc sc3 (Rd.cl 2 rfl rfl))) ?_
     refine J.op rfl (A.lit (K0 := Hp.nil) (ty := (.int .i64)) (xs := ([xa.2.1] : List Int)) Tryz.underlying66 inf3 rfl (by decide) rfl rfl rfl ⟨_, _, rfl, rfl, rfl⟩ rfl (by decide)) ?_
     rintro _ _ _ ⟨b144, rfl, rfl, rfl⟩
     have hn145 : ([xa.2.1] : List Int) ≠ [] → ∃ g, (some ⟨b144, 0, none⟩ : Option Addr) = some ⟨g, 0, none⟩ := fun _ => ⟨b144, rfl⟩
     obtain ⟨z147, hz148, ho142⟩ := ob ho142
     refine J.front 1 rfl <| J.op rfl (A.appR (Kr := Hp.nil) Tryz.underlying66 inf3 rfl rfl (by decide) (by decide) rfl rfl (Els.flat rfl) (Els.flat rfl) hz148) ?_
     rintro _ _ _ ⟨v149, rfl, rfl, rfl⟩
     refine J.wit Row.form ?_
     rintro ⟨ad150, cp151, rfl, _, _, hn152⟩
     refine ja (.slice ad150 z147.length cp151) rfl <| J.front 1 rfl <| J.front 2 rfl <| J.nil ?_
     obtain rfl := si ho142
     exact ⟨rfl, ⟨z147, ad150, cp151, rfl, ⟨rfl, rfl, rfl, trivial⟩, rfl, rfl⟩⟩
   refine CJ.front 1 rfl <| CJ.front 2 rfl <| CJ.skip ?_
   obtain rfl := si ho142
   exact ⟨rfl, ⟨([xa.1] : List Int), (some ⟨b123, 0, none⟩), 1, rfl, ⟨rfl, rfl, rfl, trivial⟩, rfl, rfl⟩⟩
 rintro ρ _ _ ⟨l136, ad137, cp138, rfl, hf153, rfl, rfl⟩
 obtain ⟨ρ, rfl⟩ := hf153.ex
 refine PJ.front 2 rfl <| PJ.wit Row.hn fun hn140 => PJ.done <| CJ.seq ?_
 obtain ⟨o170, ho171, h⟩ := ob h
 refine CJ.meetN (fun ρ K' L' => ∃ (l165 : (List Int)) (ad166 : Option Addr) (cp167 : Nat), l165 = o170 ∧ Fits [(1, .pointer (some ⟨b111, 0, none⟩)), (4, .pointer (some ⟨b121, 0, none⟩)), (6, .slice ad166 l165.length cp167)] ρ ∧ K = K' ∧ L' = Cl b111 73 [ii xa.1, ii xa.2.1, ii xa.2.2.1, ii xa.2.2.2.1, .bool xa.2.2.2.2] :: Cl b121 136 [.bool t114, .bool t115, .bool t116] :: Row Hp.nil 3 (.int .i64) (.slice ad166 l165.length cp167) l165 :: F) ?_ ?_
 · refine cr <| jv _ (V.fad Tryz.underlying136 rfl nz4 rfl) <| jv (.bool t115) (V.ld rfl (Ld.sc sc4 (Rd.cl 2 rfl rfl))) <| J.nil <| cc rfl ho171 (fun hc172 ho171 => ?_) fun hc172 ho171 => ?_
   · refine CJ.region <| jm (.slice ad137 l136.length cp138) rfl <| jv _ (V.fad Tryz.underlying73 rfl nz3 rfl) <| jv (ii xa.2.2.1) (V.ld rfl (Ld.sc sc3 (Rd.cl 1 rfl rfl))) ?_
     refine J.op rfl (A.lit (K0 := Hp.nil) (ty := (.int .i64)) (xs := ([xa.2.2.1] : List Int)) Tryz.underlying66 inf3 rfl (by decide) rfl rfl rfl ⟨_, _, rfl, rfl, rfl⟩ rfl (by decide)) ?_
     rintro _ _ _ ⟨b173, rfl, rfl, rfl⟩
     have hn174 : ([xa.2.2.1] : List Int) ≠ [] → ∃ g, (some ⟨b173, 0, none⟩ : Option Addr) = some ⟨g, 0, none⟩ := fun _ => ⟨b173, rfl⟩
     obtain ⟨z176, hz177, ho171⟩ := ob ho171
     refine J.front 1 rfl <| J.op rfl (A.appR (Kr := Hp.nil) Tryz.underlying66 inf3 rfl rfl (by decide) (by decide) rfl rfl (Els.flat rfl) (Els.flat rfl) hz177) ?_
     rintro _ _ _ ⟨v178, rfl, rfl, rfl⟩
     refine J.wit Row.form ?_
     rintro ⟨ad179, cp180, rfl, _, _, hn181⟩
     refine ja (.slice ad179 z176.length cp180) rfl <| J.front 2 rfl <| J.front 2 rfl <| J.nil ?_
     obtain rfl := si ho171
     exact ⟨rfl, ⟨z176, ad179, cp180, rfl, ⟨rfl, rfl, rfl, trivial⟩, rfl, rfl⟩⟩
   refine CJ.front 2 rfl <| CJ.front 2 rfl <| CJ.skip ?_
   obtain rfl := si ho171
   exact ⟨rfl, ⟨l136, ad137, cp138, rfl, ⟨rfl, rfl, rfl, trivial⟩, rfl, rfl⟩⟩
 rintro ρ _ _ ⟨l165, ad166, cp167, rfl, hf182, rfl, rfl⟩
 obtain ⟨ρ, rfl⟩ := hf182.ex
 refine PJ.front 2 rfl <| PJ.wit Row.hn fun hn169 => PJ.done <| CJ.seq <| cr <| jv _ (V.fad Tryz.underlying136 rfl nz4 rfl) ?_
 refine jv (.bool t116) (V.ld rfl (Ld.sc sc4 (Rd.cl 2 rfl rfl))) <| J.nil <| cc rfl h (fun hc184 h => ?_) fun hc184 h => ?_
 · refine cr <| jv _ (V.fad Tryz.underlying73 rfl nz3 rfl) <| jv (ii xa.2.2.2.1) (V.ld rfl (Ld.sc sc3 (Rd.cl 1 rfl rfl))) <| jv (ii (IntKind.wrap .i64 (2 * xa.2.2.2.1))) (V.mul rfl rfl) <| ja (ii (IntKind.wrap .i64 (2 * xa.2.2.2.1))) rfl <| J.nil ?_
   refine CJ.seq ?_
   obtain ⟨o187, ho188, h⟩ := ob h
   refine CJ.meetN (fun ρ K' L' => ∃ (i186 : Int), i186 = o187 ∧ Fits [(6, .slice ad166 l165.length cp167), (7, ii i186)] ρ ∧ K = K' ∧ L' = Row Hp.nil 3 (.int .i64) (.slice ad166 l165.length cp167) l165 :: F) ?_ ?_
   · refine cr <| jv _ (V.fad Tryz.underlying73 rfl nz4 rfl) <| jv (.bool xa.2.2.2.2) (V.ld rfl (Ld.sc sc4 (Rd.cl 1 rfl rfl))) <| J.nil <| cc rfl ho188 (fun hc189 ho188 => ?_) fun hc189 ho188 => ?_
     · refine CJ.region <| jm (ii (IntKind.wrap .i64 (2 * xa.2.2.2.1))) rfl <| jv (ii (IntKind.wrap .i64 ((IntKind.wrap .i64 (2 * xa.2.2.2.1)) + 1))) (V.add rfl rfl) <| ja (ii (IntKind.wrap .i64 ((IntKind.wrap .i64 (2 * xa.2.2.2.1)) + 1))) rfl <| J.dropAt 1 rfl <| J.dropAt 1 rfl <| J.nil ?_
       obtain rfl := si ho188
       exact ⟨rfl, ⟨IntKind.wrap .i64 ((IntKind.wrap .i64 (2 * xa.2.2.2.1)) + 1), rfl, ⟨rfl, rfl, trivial⟩, rfl, rfl⟩⟩
     refine CJ.dropAt 1 rfl <| CJ.dropAt 1 rfl <| CJ.skip ?_
     obtain rfl := si ho188
     exact ⟨rfl, ⟨IntKind.wrap .i64 (2 * xa.2.2.2.1), rfl, ⟨rfl, rfl, trivial⟩, rfl, rfl⟩⟩
   rintro ρ _ _ ⟨i186, rfl, hf190, rfl, rfl⟩
   obtain ⟨ρ, rfl⟩ := hf190.ex
   refine PJ.done <| CJ.region <| jm (.slice ad166 l165.length cp167) rfl <| jm (ii i186) rfl ?_
   refine J.op rfl (A.lit (K0 := Hp.nil) (ty := (.int .i64)) (xs := ([i186] : List Int)) Tryz.underlying66 inf3 rfl (by decide) rfl rfl rfl ⟨_, _, rfl, rfl, rfl⟩ rfl (by decide)) ?_
   rintro _ _ _ ⟨b192, rfl, rfl, rfl⟩
   have hn193 : ([i186] : List Int) ≠ [] → ∃ g, (some ⟨b192, 0, none⟩ : Option Addr) = some ⟨g, 0, none⟩ := fun _ => ⟨b192, rfl⟩
   obtain ⟨z195, hz196, h⟩ := ob h
   refine J.front 1 rfl <| J.op rfl (A.appR (Kr := Hp.nil) Tryz.underlying66 inf3 rfl rfl (by decide) (by decide) rfl rfl (Els.flat rfl) (Els.flat rfl) hz196) ?_
   rintro _ _ _ ⟨v197, rfl, rfl, rfl⟩
   refine J.wit Row.form ?_
   rintro ⟨ad198, cp199, rfl, _, _, hn200⟩
   refine ja (.slice ad198 z195.length cp199) rfl <| J.nil <| cr <| jm (.slice ad198 z195.length cp199) rfl ?_
   obtain ⟨r201, hr202, h⟩ := ob h
   refine J.op rfl (A.call (L1 := [Row Hp.nil 3 (.int .i64) (.slice ad198 z195.length cp199) z195]) Tryz.call53 rfl (Tr.lend (Hp.nil_le _) (by decide) (fun K203 hK204 f205 => leb_All_ok f205 hr202)) rfl rfl) ?_
   rintro _ _ _ ⟨v207, _, rfl, ⟨⟨_, ⟨s206, rfl, rfl, rfl⟩, rfl⟩, rfl⟩, _, rfl⟩
   refine ja (.string ⟨s206.toArray⟩) rfl <| ja (ii 0) rfl <| J.nil <| CJ.ret ?_
   obtain rfl := si h
   exact ⟨_, _, Res.two rfl rfl rfl, ⟨s206, 0, rfl, rfl, rfl⟩, (Hp.le_refl _), fun w hs => (Sep.dropAt 0 rfl hs)⟩
 refine CJ.skip <| cr <| jm (.slice ad166 l165.length cp167) rfl ?_
 obtain ⟨r210, hr211, h⟩ := ob h
 refine J.op rfl (A.call (L1 := [Row Hp.nil 3 (.int .i64) (.slice ad166 l165.length cp167) l165]) Tryz.call53 rfl (Tr.lend (Hp.nil_le _) (by decide) (fun K212 hK213 f214 => leb_All_ok f214 hr211)) rfl rfl) ?_
 rintro _ _ _ ⟨v216, _, rfl, ⟨⟨_, ⟨s215, rfl, rfl, rfl⟩, rfl⟩, rfl⟩, _, rfl⟩
 refine ja (.string ⟨s215.toArray⟩) rfl <| ja (ii 0) rfl <| J.nil <| CJ.ret ?_
 obtain rfl := si h
 exact ⟨_, _, Res.two rfl rfl rfl, ⟨s215, 0, rfl, rfl, rfl⟩, (Hp.le_refl _), fun w hs => (Sep.dropAt 0 rfl (Sep.dropAt 0 rfl (Sep.dropAt 0 rfl hs)))⟩

noncomputable def fn_term_calls (xa : (Int × Int × Int × (List Int) × (List Int) × (List Int))) : Option Bool :=
  some (((!decide (xa.2.1 = 0)) || (!decide (xa.2.2.1 = 0))) || (decide (0 < (((xa.2.2.2.2.2.length : Nat) : Int)))))
set_option maxRecDepth 100000 in
set_option maxHeartbeats 4000000 in
theorem term_calls_ok {K : Hp} {xa : (Int × Int × Int × (List Int) × (List Int) × (List Int))} {adxa_3 : Option Addr} {cpxa_3 : Nat} {adxa_4 : Option Addr} {cpxa_4 : Nat} {adxa_5 : Option Addr} {cpxa_5 : Nat} (fxa_3 : Is K (.sl (.int .i64)) [.slice adxa_3 xa.2.2.2.1.length cpxa_3] xa.2.2.2.1) (fxa_4 : Is K (.sl (.int .i64)) [.slice adxa_4 xa.2.2.2.2.1.length cpxa_4] xa.2.2.2.2.1) (fxa_5 : Is K (.sl (.int .i64)) [.slice adxa_5 xa.2.2.2.2.2.length cpxa_5] xa.2.2.2.2.2) {r : Bool} (h : fn_term_calls xa = some r) :
    Tr Tryz.prog 119 #[.agg #[ii xa.1, ii xa.2.1, ii xa.2.2.1, .slice adxa_3 xa.2.2.2.1.length cpxa_3, .slice adxa_4 xa.2.2.2.2.1.length cpxa_4, .slice adxa_5 xa.2.2.2.2.2.length cpxa_5]] K [] (fun v K' L' => (∃ (t8 : Bool), t8 = r ∧ .bool t8 = v ∧ L' = []) ∧ K = K') := by
 refine Tr.k <| Tr.of Tryz.func119 rfl Tryz.ntmps119 rfl fun E F => ?_
 unfold fn_term_calls at h
 refine cr <| jbx [ii xa.1, ii xa.2.1, ii xa.2.2.1, .slice adxa_3 xa.2.2.2.1.length cpxa_3, .slice adxa_4 xa.2.2.2.2.1.length cpxa_4, .slice adxa_5 xa.2.2.2.2.2.length cpxa_5] rfl rfl fun b9 => ja (.bool false) rfl <| J.nil <| CJ.seq <| CJ.region ?_
 refine jv _ (V.fad Tryz.underlying68 rfl nz3 rfl) <| jv (ii xa.2.1) (V.ld rfl (Ld.sc sc3 (Rd.cl 0 rfl rfl))) <| jv (.bool (!decide (xa.2.1 = 0))) (V.neq rfl rfl) <| jm (.bool (!decide (xa.2.1 = 0))) rfl <| J.cut 4 <| jmeet [(10, .bool ((!decide (xa.2.1 = 0)) || (!decide (xa.2.2.1 = 0)))), (1, .pointer (some ⟨b9, 0, none⟩))] ?_ ?_
 · rcases bt (!decide (xa.2.1 = 0)) with hc12 | hc12
   · refine J.skip rfl rfl rfl rfl hc12 <| J.skip rfl rfl rfl rfl hc12 <| J.skip rfl rfl rfl rfl hc12 <| jv (.bool true) (V.pickT rfl hc12 rfl) <| J.nil ?_
     exact ⟨rfl, ⟨(by simp only [hc12]; rfl), rfl, trivial⟩, rfl, rfl⟩
   refine J.run rfl rfl rfl hc12 <| jv _ (V.fad Tryz.underlying68 rfl nz3 rfl) <| J.run rfl rfl rfl hc12 <| jv (ii xa.2.2.1) (V.ld rfl (Ld.sc sc3 (Rd.cl 0 rfl rfl))) <| J.run rfl rfl rfl hc12 <| jv (.bool (!decide (xa.2.2.1 = 0))) (V.neq rfl rfl) <| jv (.bool (!decide (xa.2.2.1 = 0))) (V.pickF rfl hc12 rfl) ?_
   refine J.nil ?_
   exact ⟨rfl, ⟨(by simp only [hc12]; rfl), rfl, trivial⟩, rfl, rfl⟩
 intro ρ
 refine jm (.bool ((!decide (xa.2.1 = 0)) || (!decide (xa.2.2.1 = 0)))) rfl <| J.cut 5 <| jmeet [(16, .bool (((!decide (xa.2.1 = 0)) || (!decide (xa.2.2.1 = 0))) || (decide (0 < (((xa.2.2.2.2.2.length : Nat) : Int))))))] ?_ ?_
 · rcases bt ((!decide (xa.2.1 = 0)) || (!decide (xa.2.2.1 = 0))) with hc15 | hc15
   · refine J.skip rfl rfl rfl rfl hc15 <| J.skip rfl rfl rfl rfl hc15 <| J.skip rfl rfl rfl rfl hc15 <| J.skip rfl rfl rfl rfl hc15 <| jv (.bool true) (V.pickT rfl hc15 rfl) <| J.nil ?_
     exact ⟨rfl, ⟨(by simp only [hc15]; rfl), trivial⟩, rfl, rfl⟩
   refine J.run rfl rfl rfl hc15 <| jv _ (V.fad Tryz.underlying68 rfl nz66 rfl) <| J.run rfl rfl rfl hc15 <| jv (.slice adxa_5 xa.2.2.2.2.2.length cpxa_5) (V.ld rfl (Ld.sc sc66 (Rd.cl 0 rfl rfl))) <| J.run rfl rfl rfl hc15 <| jv (ii (((xa.2.2.2.2.2.length : Nat) : Int))) (V.len Tryz.underlying66 rfl) <| J.run rfl rfl rfl hc15 ?_
   refine jv (.bool (decide (0 < (((xa.2.2.2.2.2.length : Nat) : Int))))) (V.gtr rfl rfl) <| jv (.bool (decide (0 < (((xa.2.2.2.2.2.length : Nat) : Int))))) (V.pickF rfl hc15 rfl) <| J.nil ?_
   exact ⟨rfl, ⟨(by simp only [hc15]; rfl), trivial⟩, rfl, rfl⟩
 intro ρ
 refine ja (.bool (((!decide (xa.2.1 = 0)) || (!decide (xa.2.2.1 = 0))) || (decide (0 < (((xa.2.2.2.2.2.length : Nat) : Int)))))) rfl <| J.nil <| CJ.ret ?_
 obtain rfl := si h
 exact ⟨_, _, Res.one rfl rfl, ⟨((!decide (xa.2.1 = 0)) || (!decide (xa.2.2.1 = 0))) || (decide (0 < (((xa.2.2.2.2.2.length : Nat) : Int)))), rfl, rfl, rfl⟩, (Hp.le_refl _), fun w hs => (Sep.dropAt 0 rfl hs)⟩

noncomputable def fn_term_form (xa : (Int × Int × Int × (List Int) × (List Int) × (List Int))) : Option Int :=
  (cond (decide (xa.1 = 1)) ((cond ((decide ((((xa.2.2.2.1.length : Nat) : Int)) = 1)) && (decide ((((xa.2.2.2.2.1.length : Nat) : Int)) = 0))) ((fn_term_calls (xa.1, xa.2.1, xa.2.2.1, xa.2.2.2.1, xa.2.2.2.2.1, xa.2.2.2.2.2)).bind fun t210 => some (!t210)) (some (false))).bind fun t205 => some (t205)) (cond (decide (xa.1 = 2)) ((cond (decide (0 < (((xa.2.2.2.1.length : Nat) : Int)))) ((fn_term_calls (xa.1, xa.2.1, xa.2.2.1, xa.2.2.2.1, xa.2.2.2.2.1, xa.2.2.2.2.2)).bind fun t227 => some (!t227)) (some (false))).bind fun t222 => some (t222)) (cond (decide (xa.1 = 3)) ((cond ((decide ((((xa.2.2.2.1.length : Nat) : Int)) = 0)) && (decide ((((xa.2.2.2.2.1.length : Nat) : Int)) = 0))) ((fn_term_calls (xa.1, xa.2.1, xa.2.2.1, xa.2.2.2.1, xa.2.2.2.2.1, xa.2.2.2.2.2)).bind fun t247 => some (!t247)) (some (false))).bind fun t242 => some (t242)) (cond (decide (xa.1 = 4)) (some (decide ((((xa.2.2.2.1.length : Nat) : Int)) = 1))) (some (false))))) : Option Bool).bind fun t191 => cond (!t191) (some (3)) (cond (((decide (16 < (((xa.2.2.2.1.length : Nat) : Int)))) || (decide (16 < (((xa.2.2.2.2.1.length : Nat) : Int))))) || (decide (16 < (((xa.2.2.2.2.2.length : Nat) : Int))))) (some (6)) (some (0)))
set_option maxRecDepth 100000 in
set_option maxHeartbeats 4000000 in
theorem term_form_ok {K : Hp} {xa : (Int × Int × Int × (List Int) × (List Int) × (List Int))} {adxa_3 : Option Addr} {cpxa_3 : Nat} {adxa_4 : Option Addr} {cpxa_4 : Nat} {adxa_5 : Option Addr} {cpxa_5 : Nat} (fxa_3 : Is K (.sl (.int .i64)) [.slice adxa_3 xa.2.2.2.1.length cpxa_3] xa.2.2.2.1) (fxa_4 : Is K (.sl (.int .i64)) [.slice adxa_4 xa.2.2.2.2.1.length cpxa_4] xa.2.2.2.2.1) (fxa_5 : Is K (.sl (.int .i64)) [.slice adxa_5 xa.2.2.2.2.2.length cpxa_5] xa.2.2.2.2.2) {r : Int} (h : fn_term_form xa = some r) :
    Tr Tryz.prog 107 #[.agg #[ii xa.1, ii xa.2.1, ii xa.2.2.1, .slice adxa_3 xa.2.2.2.1.length cpxa_3, .slice adxa_4 xa.2.2.2.2.1.length cpxa_4, .slice adxa_5 xa.2.2.2.2.2.length cpxa_5]] K [] (fun v K' L' => (∃ (i131 : Int), i131 = r ∧ ii i131 = v ∧ L' = []) ∧ K = K') := by
 refine Tr.k <| Tr.of Tryz.func107 rfl Tryz.ntmps107 rfl fun E F => ?_
 unfold fn_term_form at h
 refine cr <| jbx [ii xa.1, ii xa.2.1, ii xa.2.2.1, .slice adxa_3 xa.2.2.2.1.length cpxa_3, .slice adxa_4 xa.2.2.2.2.1.length cpxa_4, .slice adxa_5 xa.2.2.2.2.2.length cpxa_5] rfl rfl fun b132 => ja (ii 0) rfl <| J.nil <| CJ.seq <| CJ.region ?_
 refine ja (.bool false) rfl <| J.nil <| CJ.seq ?_
 obtain ⟨o192, ho193, h⟩ := ob h
 refine CJ.meetN (fun ρ K' L' => ∃ (t191 : Bool), t191 = o192 ∧ Fits [(1, .pointer (some ⟨b132, 0, none⟩)), (3, .bool t191)] ρ ∧ K = K' ∧ L' = Cl b132 68 [ii xa.1, ii xa.2.1, ii xa.2.2.1, .slice adxa_3 xa.2.2.2.1.length cpxa_3, .slice adxa_4 xa.2.2.2.2.1.length cpxa_4, .slice adxa_5 xa.2.2.2.2.2.length cpxa_5] :: F) ?_ ?_
 · refine cr <| jv _ (V.fad Tryz.underlying68 rfl nz3 rfl) <| jv (ii xa.1) (V.ld rfl (Ld.sc sc3 (Rd.cl 0 rfl rfl))) <| J.nil <| CJ.block <| CJ.seq ?_
   refine CJ.region <| jv (.bool (decide (xa.1 = 1))) (V.eql rfl rfl) <| ja (.bool (decide (xa.1 = 1))) rfl <| J.nil <| cc rfl ho193 (fun hc194 ho193 => ?_) fun hc194 ho193 => ?_
   · refine CJ.region <| jv _ (V.fad Tryz.underlying68 rfl nz66 rfl) <| jv (.slice adxa_3 xa.2.2.2.1.length cpxa_3) (V.ld rfl (Ld.sc sc66 (Rd.cl 0 rfl rfl))) <| jv (ii (((xa.2.2.2.1.length : Nat) : Int))) (V.len Tryz.underlying66 rfl) <| jv (.bool (decide ((((xa.2.2.2.1.length : Nat) : Int)) = 1))) (V.eql rfl rfl) <| jm (.bool (decide ((((xa.2.2.2.1.length : Nat) : Int)) = 1))) rfl <| J.cut 5 ?_
     refine jmeet [(17, .bool ((decide ((((xa.2.2.2.1.length : Nat) : Int)) = 1)) && (decide ((((xa.2.2.2.2.1.length : Nat) : Int)) = 0)))), (1, .pointer (some ⟨b132, 0, none⟩))] ?_ ?_
     · rcases bt (decide ((((xa.2.2.2.1.length : Nat) : Int)) = 1)) with hc197 | hc197
       · refine J.run rfl rfl rfl hc197 <| jv _ (V.fad Tryz.underlying68 rfl nz66 rfl) <| J.run rfl rfl rfl hc197 <| jv (.slice adxa_4 xa.2.2.2.2.1.length cpxa_4) (V.ld rfl (Ld.sc sc66 (Rd.cl 0 rfl rfl))) <| J.run rfl rfl rfl hc197 <| jv (ii (((xa.2.2.2.2.1.length : Nat) : Int))) (V.len Tryz.underlying66 rfl) <| J.run rfl rfl rfl hc197 ?_
         refine jv (.bool (decide ((((xa.2.2.2.2.1.length : Nat) : Int)) = 0))) (V.eql rfl rfl) <| jv (.bool (decide ((((xa.2.2.2.2.1.length : Nat) : Int)) = 0))) (V.pickT rfl hc197 rfl) <| J.nil ?_
         exact ⟨rfl, ⟨(by simp only [hc197]; rfl), rfl, trivial⟩, rfl, rfl⟩
       refine J.skip rfl rfl rfl rfl hc197 <| J.skip rfl rfl rfl rfl hc197 <| J.skip rfl rfl rfl rfl hc197 <| J.skip rfl rfl rfl rfl hc197 <| jv (.bool false) (V.pickF rfl hc197 rfl) <| J.nil ?_
       exact ⟨rfl, ⟨(by simp only [hc197]; rfl), rfl, trivial⟩, rfl, rfl⟩
     intro ρ
     refine jm (.bool ((decide ((((xa.2.2.2.1.length : Nat) : Int)) = 1)) && (decide ((((xa.2.2.2.2.1.length : Nat) : Int)) = 0)))) rfl <| J.cut 4 ?_
     obtain ⟨t205, ht206, ho193⟩ := ob ho193
     refine jmeet [(22, .bool t205), (1, .pointer (some ⟨b132, 0, none⟩))] ?_ ?_
     · rcases bt ((decide ((((xa.2.2.2.1.length : Nat) : Int)) = 1)) && (decide ((((xa.2.2.2.2.1.length : Nat) : Int)) = 0))) with hc207 | hc207
       · have ht206 := ct hc207 ht206
         refine J.run rfl rfl rfl hc207 <| jv (.agg #[ii xa.1, ii xa.2.1, ii xa.2.2.1, .slice adxa_3 xa.2.2.2.1.length cpxa_3, .slice adxa_4 xa.2.2.2.2.1.length cpxa_4, .slice adxa_5 xa.2.2.2.2.2.length cpxa_5]) (V.ld rfl (Ld.agg (cs := [ii xa.1, ii xa.2.1, ii xa.2.2.1, .slice adxa_3 xa.2.2.2.1.length cpxa_3, .slice adxa_4 xa.2.2.2.2.1.length cpxa_4, .slice adxa_5 xa.2.2.2.2.2.length cpxa_5]) Tryz.underlying68 sz68 rfl (Rd.cls 0 0 rfl rfl))) <| J.run rfl rfl rfl hc207 ?_
         obtain ⟨r208, hr209, ht206⟩ := ob ht206
         refine J.op rfl (A.call (L1 := []) Tryz.call119 rfl (term_calls_ok fxa_3 fxa_4 fxa_5 hr209) rfl rfl) ?_
         rintro _ _ _ ⟨v211, _, rfl, ⟨⟨t210, rfl, rfl, rfl⟩, rfl⟩, _, rfl⟩
         refine J.run rfl rfl rfl hc207 <| jv (.bool (!t210)) (V.not rfl) <| jv (.bool (!t210)) (V.pickT rfl hc207 rfl) <| J.nil ?_
         obtain rfl := si ht206
         exact ⟨rfl, ⟨rfl, rfl, trivial⟩, rfl, rfl⟩
       have ht206 := cf hc207 ht206
       refine J.skip rfl rfl rfl rfl hc207 <| J.skip rfl rfl rfl rfl hc207 <| J.skip rfl rfl rfl rfl hc207 <| jv (.bool false) (V.pickF rfl hc207 rfl) <| J.nil ?_
       obtain rfl := si ht206
       exact ⟨rfl, ⟨rfl, rfl, trivial⟩, rfl, rfl⟩
     intro ρ
     refine ja (.bool t205) rfl <| J.nil ?_
     obtain rfl := si ho193
     exact ⟨rfl, ⟨t205, rfl, ⟨rfl, rfl, trivial⟩, rfl, rfl⟩⟩
   refine cr <| jv (.bool (decide (xa.1 = 2))) (V.eql rfl rfl) <| ja (.bool (decide (xa.1 = 2))) rfl <| J.nil <| cc rfl ho193 (fun hc214 ho193 => ?_) fun hc214 ho193 => ?_
   · refine CJ.region <| jv _ (V.fad Tryz.underlying68 rfl nz66 rfl) <| jv (.slice adxa_3 xa.2.2.2.1.length cpxa_3) (V.ld rfl (Ld.sc sc66 (Rd.cl 0 rfl rfl))) <| jv (ii (((xa.2.2.2.1.length : Nat) : Int))) (V.len Tryz.underlying66 rfl) <| jv (.bool (decide (0 < (((xa.2.2.2.1.length : Nat) : Int))))) (V.gtr rfl rfl) <| jm (.bool (decide (0 < (((xa.2.2.2.1.length : Nat) : Int))))) rfl <| J.cut 4 ?_
     obtain ⟨t222, ht223, ho193⟩ := ob ho193
     refine jmeet [(33, .bool t222), (1, .pointer (some ⟨b132, 0, none⟩))] ?_ ?_
     · rcases bt (decide (0 < (((xa.2.2.2.1.length : Nat) : Int)))) with hc224 | hc224
       · have ht223 := ct hc224 ht223
         refine J.run rfl rfl rfl hc224 <| jv (.agg #[ii xa.1, ii xa.2.1, ii xa.2.2.1, .slice adxa_3 xa.2.2.2.1.length cpxa_3, .slice adxa_4 xa.2.2.2.2.1.length cpxa_4, .slice adxa_5 xa.2.2.2.2.2.length cpxa_5]) (V.ld rfl (Ld.agg (cs := [ii xa.1, ii xa.2.1, ii xa.2.2.1, .slice adxa_3 xa.2.2.2.1.length cpxa_3, .slice adxa_4 xa.2.2.2.2.1.length cpxa_4, .slice adxa_5 xa.2.2.2.2.2.length cpxa_5]) Tryz.underlying68 sz68 rfl (Rd.cls 0 0 rfl rfl))) <| J.run rfl rfl rfl hc224 ?_
         obtain ⟨r225, hr226, ht223⟩ := ob ht223
         refine J.op rfl (A.call (L1 := []) Tryz.call119 rfl (term_calls_ok fxa_3 fxa_4 fxa_5 hr226) rfl rfl) ?_
         rintro _ _ _ ⟨v228, _, rfl, ⟨⟨t227, rfl, rfl, rfl⟩, rfl⟩, _, rfl⟩
         refine J.run rfl rfl rfl hc224 <| jv (.bool (!t227)) (V.not rfl) <| jv (.bool (!t227)) (V.pickT rfl hc224 rfl) <| J.nil ?_
         obtain rfl := si ht223
         exact ⟨rfl, ⟨rfl, rfl, trivial⟩, rfl, rfl⟩
       have ht223 := cf hc224 ht223
       refine J.skip rfl rfl rfl rfl hc224 <| J.skip rfl rfl rfl rfl hc224 <| J.skip rfl rfl rfl rfl hc224 <| jv (.bool false) (V.pickF rfl hc224 rfl) <| J.nil ?_
       obtain rfl := si ht223
       exact ⟨rfl, ⟨rfl, rfl, trivial⟩, rfl, rfl⟩
     intro ρ
     refine ja (.bool t222) rfl <| J.nil ?_
     obtain rfl := si ho193
     exact ⟨rfl, ⟨t222, rfl, ⟨rfl, rfl, trivial⟩, rfl, rfl⟩⟩
   refine cr <| jv (.bool (decide (xa.1 = 3))) (V.eql rfl rfl) <| ja (.bool (decide (xa.1 = 3))) rfl <| J.nil <| cc rfl ho193 (fun hc231 ho193 => ?_) fun hc231 ho193 => ?_
   · refine CJ.region <| jv _ (V.fad Tryz.underlying68 rfl nz66 rfl) <| jv (.slice adxa_3 xa.2.2.2.1.length cpxa_3) (V.ld rfl (Ld.sc sc66 (Rd.cl 0 rfl rfl))) <| jv (ii (((xa.2.2.2.1.length : Nat) : Int))) (V.len Tryz.underlying66 rfl) <| jv (.bool (decide ((((xa.2.2.2.1.length : Nat) : Int)) = 0))) (V.eql rfl rfl) <| jm (.bool (decide ((((xa.2.2.2.1.length : Nat) : Int)) = 0))) rfl <| J.cut 5 ?_
     refine jmeet [(45, .bool ((decide ((((xa.2.2.2.1.length : Nat) : Int)) = 0)) && (decide ((((xa.2.2.2.2.1.length : Nat) : Int)) = 0)))), (1, .pointer (some ⟨b132, 0, none⟩))] ?_ ?_
     · rcases bt (decide ((((xa.2.2.2.1.length : Nat) : Int)) = 0)) with hc234 | hc234
       · refine J.run rfl rfl rfl hc234 <| jv _ (V.fad Tryz.underlying68 rfl nz66 rfl) <| J.run rfl rfl rfl hc234 <| jv (.slice adxa_4 xa.2.2.2.2.1.length cpxa_4) (V.ld rfl (Ld.sc sc66 (Rd.cl 0 rfl rfl))) <| J.run rfl rfl rfl hc234 <| jv (ii (((xa.2.2.2.2.1.length : Nat) : Int))) (V.len Tryz.underlying66 rfl) <| J.run rfl rfl rfl hc234 ?_
         refine jv (.bool (decide ((((xa.2.2.2.2.1.length : Nat) : Int)) = 0))) (V.eql rfl rfl) <| jv (.bool (decide ((((xa.2.2.2.2.1.length : Nat) : Int)) = 0))) (V.pickT rfl hc234 rfl) <| J.nil ?_
         exact ⟨rfl, ⟨(by simp only [hc234]; rfl), rfl, trivial⟩, rfl, rfl⟩
       refine J.skip rfl rfl rfl rfl hc234 <| J.skip rfl rfl rfl rfl hc234 <| J.skip rfl rfl rfl rfl hc234 <| J.skip rfl rfl rfl rfl hc234 <| jv (.bool false) (V.pickF rfl hc234 rfl) <| J.nil ?_
       exact ⟨rfl, ⟨(by simp only [hc234]; rfl), rfl, trivial⟩, rfl, rfl⟩
     intro ρ
     refine jm (.bool ((decide ((((xa.2.2.2.1.length : Nat) : Int)) = 0)) && (decide ((((xa.2.2.2.2.1.length : Nat) : Int)) = 0)))) rfl <| J.cut 4 ?_
     obtain ⟨t242, ht243, ho193⟩ := ob ho193
     refine jmeet [(50, .bool t242), (1, .pointer (some ⟨b132, 0, none⟩))] ?_ ?_
     · rcases bt ((decide ((((xa.2.2.2.1.length : Nat) : Int)) = 0)) && (decide ((((xa.2.2.2.2.1.length : Nat) : Int)) = 0))) with hc244 | hc244
       · have ht243 := ct hc244 ht243
         refine J.run rfl rfl rfl hc244 <| jv (.agg #[ii xa.1, ii xa.2.1, ii xa.2.2.1, .slice adxa_3 xa.2.2.2.1.length cpxa_3, .slice adxa_4 xa.2.2.2.2.1.length cpxa_4, .slice adxa_5 xa.2.2.2.2.2.length cpxa_5]) (V.ld rfl (Ld.agg (cs := [ii xa.1, ii xa.2.1, ii xa.2.2.1, .slice adxa_3 xa.2.2.2.1.length cpxa_3, .slice adxa_4 xa.2.2.2.2.1.length cpxa_4, .slice adxa_5 xa.2.2.2.2.2.length cpxa_5]) Tryz.underlying68 sz68 rfl (Rd.cls 0 0 rfl rfl))) <| J.run rfl rfl rfl hc244 ?_
         obtain ⟨r245, hr246, ht243⟩ := ob ht243
         refine J.op rfl (A.call (L1 := []) Tryz.call119 rfl (term_calls_ok fxa_3 fxa_4 fxa_5 hr246) rfl rfl) ?_
         rintro _ _ _ ⟨v248, _, rfl, ⟨⟨t247, rfl, rfl, rfl⟩, rfl⟩, _, rfl⟩
         refine J.run rfl rfl rfl hc244 <| jv (.bool (!t247)) (V.not rfl) <| jv (.bool (!t247)) (V.pickT rfl hc244 rfl) <| J.nil ?_
         obtain rfl := si ht243
         exact ⟨rfl, ⟨rfl, rfl, trivial⟩, rfl, rfl⟩
       have ht243 := cf hc244 ht243
       refine J.skip rfl rfl rfl rfl hc244 <| J.skip rfl rfl rfl rfl hc244 <| J.skip rfl rfl rfl rfl hc244 <| jv (.bool false) (V.pickF rfl hc244 rfl) <| J.nil ?_
       obtain rfl := si ht243
       exact ⟨rfl, ⟨rfl, rfl, trivial⟩, rfl, rfl⟩
     intro ρ
     refine ja (.bool t242) rfl <| J.nil ?_
     obtain rfl := si ho193
     exact ⟨rfl, ⟨t242, rfl, ⟨rfl, rfl, trivial⟩, rfl, rfl⟩⟩
   refine cr <| jv (.bool (decide (xa.1 = 4))) (V.eql rfl rfl) <| ja (.bool (decide (xa.1 = 4))) rfl <| J.nil <| cc rfl ho193 (fun hc251 ho193 => ?_) fun hc251 ho193 => ?_
   · refine CJ.region <| jv _ (V.fad Tryz.underlying68 rfl nz66 rfl) <| jv (.slice adxa_3 xa.2.2.2.1.length cpxa_3) (V.ld rfl (Ld.sc sc66 (Rd.cl 0 rfl rfl))) <| jv (ii (((xa.2.2.2.1.length : Nat) : Int))) (V.len Tryz.underlying66 rfl) <| jv (.bool (decide ((((xa.2.2.2.1.length : Nat) : Int)) = 1))) (V.eql rfl rfl) <| ja (.bool (decide ((((xa.2.2.2.1.length : Nat) : Int)) = 1))) rfl <| J.nil ?_
     obtain rfl := si ho193
     exact ⟨rfl, ⟨decide ((((xa.2.2.2.1.length : Nat) : Int)) = 1), rfl, ⟨rfl, rfl, trivial⟩, rfl, rfl⟩⟩
   refine CJ.skip ?_
   obtain rfl := si ho193
   exact ⟨rfl, ⟨false, rfl, ⟨rfl, rfl, trivial⟩, rfl, rfl⟩⟩
 rintro ρ _ _ ⟨t191, rfl, hf252, rfl, rfl⟩
 obtain ⟨ρ, rfl⟩ := hf252.ex
 refine PJ.done <| CJ.seq <| cr <| jm (.bool t191) rfl <| jv (.bool (!t191)) (V.not rfl) <| J.nil ?_
 refine cc rfl h (fun hc254 h => ?_) fun hc254 h => ?_
 · refine cr <| ja (ii 3) rfl <| J.nil <| CJ.ret ?_
   obtain rfl := si h
   exact ⟨_, _, Res.one rfl rfl, ⟨3, rfl, rfl, rfl⟩, (Hp.le_refl _), fun w hs => (Sep.dropAt 0 rfl hs)⟩
 refine CJ.skip <| CJ.seq <| cr <| jv _ (V.fad Tryz.underlying68 rfl nz66 rfl) <| jv (.slice adxa_3 xa.2.2.2.1.length cpxa_3) (V.ld rfl (Ld.sc sc66 (Rd.cl 0 rfl rfl))) <| jv (ii (((xa.2.2.2.1.length : Nat) : Int))) (V.len Tryz.underlying66 rfl) ?_
 refine jv (.bool (decide (16 < (((xa.2.2.2.1.length : Nat) : Int))))) (V.gtr rfl rfl) <| jm (.bool (decide (16 < (((xa.2.2.2.1.length : Nat) : Int))))) rfl <| J.cut 5 <| jmeet [(68, .bool ((decide (16 < (((xa.2.2.2.1.length : Nat) : Int)))) || (decide (16 < (((xa.2.2.2.2.1.length : Nat) : Int)))))), (1, .pointer (some ⟨b132, 0, none⟩))] ?_ ?_
 · rcases bt (decide (16 < (((xa.2.2.2.1.length : Nat) : Int)))) with hc257 | hc257
   · refine J.skip rfl rfl rfl rfl hc257 <| J.skip rfl rfl rfl rfl hc257 <| J.skip rfl rfl rfl rfl hc257 <| J.skip rfl rfl rfl rfl hc257 <| jv (.bool true) (V.pickT rfl hc257 rfl) <| J.nil ?_
     exact ⟨rfl, ⟨(by simp only [hc257]; rfl), rfl, trivial⟩, rfl, rfl⟩
   refine J.run rfl rfl rfl hc257 <| jv _ (V.fad Tryz.underlying68 rfl nz66 rfl) <| J.run rfl rfl rfl hc257 <| jv (.slice adxa_4 xa.2.2.2.2.1.length cpxa_4) (V.ld rfl (Ld.sc sc66 (Rd.cl 0 rfl rfl))) <| J.run rfl rfl rfl hc257 <| jv (ii (((xa.2.2.2.2.1.length : Nat) : Int))) (V.len Tryz.underlying66 rfl) <| J.run rfl rfl rfl hc257 ?_
   refine jv (.bool (decide (16 < (((xa.2.2.2.2.1.length : Nat) : Int))))) (V.gtr rfl rfl) <| jv (.bool (decide (16 < (((xa.2.2.2.2.1.length : Nat) : Int))))) (V.pickF rfl hc257 rfl) <| J.nil ?_
   exact ⟨rfl, ⟨(by simp only [hc257]; rfl), rfl, trivial⟩, rfl, rfl⟩
 intro ρ
 refine jm (.bool ((decide (16 < (((xa.2.2.2.1.length : Nat) : Int)))) || (decide (16 < (((xa.2.2.2.2.1.length : Nat) : Int)))))) rfl <| J.cut 5 <| jmeet [(74, .bool (((decide (16 < (((xa.2.2.2.1.length : Nat) : Int)))) || (decide (16 < (((xa.2.2.2.2.1.length : Nat) : Int))))) || (decide (16 < (((xa.2.2.2.2.2.length : Nat) : Int))))))] ?_ ?_
 · rcases bt ((decide (16 < (((xa.2.2.2.1.length : Nat) : Int)))) || (decide (16 < (((xa.2.2.2.2.1.length : Nat) : Int))))) with hc260 | hc260
   · refine J.skip rfl rfl rfl rfl hc260 <| J.skip rfl rfl rfl rfl hc260 <| J.skip rfl rfl rfl rfl hc260 <| J.skip rfl rfl rfl rfl hc260 <| jv (.bool true) (V.pickT rfl hc260 rfl) <| J.nil ?_
     exact ⟨rfl, ⟨(by simp only [hc260]; rfl), trivial⟩, rfl, rfl⟩
   refine J.run rfl rfl rfl hc260 <| jv _ (V.fad Tryz.underlying68 rfl nz66 rfl) <| J.run rfl rfl rfl hc260 <| jv (.slice adxa_5 xa.2.2.2.2.2.length cpxa_5) (V.ld rfl (Ld.sc sc66 (Rd.cl 0 rfl rfl))) <| J.run rfl rfl rfl hc260 <| jv (ii (((xa.2.2.2.2.2.length : Nat) : Int))) (V.len Tryz.underlying66 rfl) <| J.run rfl rfl rfl hc260 ?_
   refine jv (.bool (decide (16 < (((xa.2.2.2.2.2.length : Nat) : Int))))) (V.gtr rfl rfl) <| jv (.bool (decide (16 < (((xa.2.2.2.2.2.length : Nat) : Int))))) (V.pickF rfl hc260 rfl) <| J.nil ?_
   exact ⟨rfl, ⟨(by simp only [hc260]; rfl), trivial⟩, rfl, rfl⟩
 intro ρ
 refine J.nil <| cc rfl h (fun hc261 h => ?_) fun hc261 h => ?_
 · refine cr <| ja (ii 6) rfl <| J.nil <| CJ.ret ?_
   obtain rfl := si h
   exact ⟨_, _, Res.one rfl rfl, ⟨6, rfl, rfl, rfl⟩, (Hp.le_refl _), fun w hs => (Sep.dropAt 0 rfl hs)⟩
 refine CJ.skip <| cr <| ja (ii 0) rfl <| J.nil <| CJ.ret ?_
 obtain rfl := si h
 exact ⟨_, _, Res.one rfl rfl, ⟨0, rfl, rfl, rfl⟩, (Hp.le_refl _), fun w hs => (Sep.dropAt 0 rfl hs)⟩

noncomputable def fn_term_putList (xa : (List Int)) : Option (List UInt8) :=
  (fn_leb_Put (((xa.length : Nat) : Int))).bind fun s18 => (fn_leb_All xa).bind fun s24 => (app s18 s24).bind fun z28 => some (z28)
set_option maxRecDepth 100000 in
set_option maxHeartbeats 4000000 in
theorem term_putList_ok {K : Hp} {xa : (List Int)} {adxa_0 : Option Addr} {cpxa_0 : Nat} (fxa_0 : Is K (.sl (.int .i64)) [.slice adxa_0 xa.length cpxa_0] xa) {r : List UInt8} (h : fn_term_putList xa = some r) :
    Tr Tryz.prog 108 #[.slice adxa_0 xa.length cpxa_0] K [] (fun v K' L' => (∃ (s15 : List UInt8), s15 = r ∧ .string ⟨s15.toArray⟩ = v ∧ L' = []) ∧ K = K') := by
 refine Tr.k <| Tr.of Tryz.func108 rfl Tryz.ntmps108 rfl fun E F => ?_
 unfold fn_term_putList at h
 refine cr <| ja (.string ⟨([] : List UInt8).toArray⟩) rfl <| J.nil <| cr <| jm (.slice adxa_0 xa.length cpxa_0) rfl ?_
 refine jv (ii (((xa.length : Nat) : Int))) (V.len Tryz.underlying66 rfl) ?_
 obtain ⟨r16, hr17, h⟩ := ob h
 refine J.op rfl (A.call (L1 := []) Tryz.call55 rfl (leb_Put_ok hr17) rfl rfl) ?_
 rintro _ _ _ ⟨v19, _, rfl, ⟨⟨s18, rfl, rfl, rfl⟩, rfl⟩, _, rfl⟩
 refine jm (.slice adxa_0 xa.length cpxa_0) rfl ?_
 obtain ⟨r22, hr23, h⟩ := ob h
 refine J.op rfl (A.call (L1 := []) Tryz.call53 rfl (leb_All_ok fxa_0 hr23) rfl rfl) ?_
 rintro _ _ _ ⟨v25, _, rfl, ⟨⟨s24, rfl, rfl, rfl⟩, rfl⟩, _, rfl⟩
 obtain ⟨z28, hz29, h⟩ := ob h
 refine jv (.string ⟨z28.toArray⟩) (V.cat rfl rfl hz29) <| ja (.string ⟨z28.toArray⟩) rfl <| J.nil <| CJ.ret ?_
 obtain rfl := si h
 exact ⟨_, _, Res.one rfl rfl, ⟨z28, rfl, rfl, rfl⟩, (Hp.le_refl _), fun w hs => hs⟩

noncomputable def fn_term_Put (xa : (Int × Int × Int × (List Int) × (List Int) × (List Int))) : Option (List UInt8 × Int) :=
  (fn_term_form (xa.1, xa.2.1, xa.2.2.1, xa.2.2.2.1, xa.2.2.2.2.1, xa.2.2.2.2.2)).bind fun i141 => cond (!decide (i141 = 0)) (some ((([] : List UInt8), i141))) ((fn_leb_Put xa.1).bind fun s149 => (wrS ([] : List UInt8) s149).bind fun s153 => cond (decide (xa.1 = 1)) ((getI xa.2.2.2.1 0).bind fun x157 => (fn_leb_Put x157).bind fun s168 => (wrS s153 s168).bind fun s172 => ((some s172 : Option (List UInt8))).bind fun s175 => some ((s175, 0))) (cond (decide (xa.1 = 2)) ((fn_term_putList xa.2.2.2.1).bind fun s181 => (wrS s153 s181).bind fun s185 => (fn_term_putList xa.2.2.2.2.1).bind fun s190 => (wrS s185 s190).bind fun s194 => ((some s194 : Option (List UInt8))).bind fun s197 => some ((s197, 0))) (cond (decide (xa.1 = 4)) ((getI xa.2.2.2.1 0).bind fun x225 => (fn_leb_All ([xa.2.1, xa.2.2.1, x225] : List Int)).bind fun s242 => (wrS s153 s242).bind fun s246 => (fn_term_putList xa.2.2.2.2.2).bind fun s251 => (wrS s246 s251).bind fun s255 => (fn_term_putList xa.2.2.2.2.1).bind fun s260 => (wrS s255 s260).bind fun s264 => ((some s264 : Option (List UInt8))).bind fun s267 => some ((s267, 0))) (((some s153 : Option (List UInt8))).bind fun s270 => some ((s270, 0))))))
set_option maxRecDepth 100000 in
set_option maxHeartbeats 4000000 in
theorem term_Put_ok {K : Hp} {xa : (Int × Int × Int × (List Int) × (List Int) × (List Int))} {adxa_3 : Option Addr} {cpxa_3 : Nat} {adxa_4 : Option Addr} {cpxa_4 : Nat} {adxa_5 : Option Addr} {cpxa_5 : Nat} (fxa_3 : Is K (.sl (.int .i64)) [.slice adxa_3 xa.2.2.2.1.length cpxa_3] xa.2.2.2.1) (fxa_4 : Is K (.sl (.int .i64)) [.slice adxa_4 xa.2.2.2.2.1.length cpxa_4] xa.2.2.2.2.1) (fxa_5 : Is K (.sl (.int .i64)) [.slice adxa_5 xa.2.2.2.2.2.length cpxa_5] xa.2.2.2.2.2) {r : (List UInt8 × Int)} (h : fn_term_Put xa = some r) :
    Tr Tryz.prog 91 #[.agg #[ii xa.1, ii xa.2.1, ii xa.2.2.1, .slice adxa_3 xa.2.2.2.1.length cpxa_3, .slice adxa_4 xa.2.2.2.2.1.length cpxa_4, .slice adxa_5 xa.2.2.2.2.2.length cpxa_5]] K [] (fun v K' L' => (∃ (s136 : List UInt8) (i137 : Int), (s136, i137) = r ∧ .tuple #[.string ⟨s136.toArray⟩, ii i137] = v ∧ L' = []) ∧ K = K') := by
 refine Tr.k <| Tr.of Tryz.func91 rfl Tryz.ntmps91 rfl fun E F => ?_
 unfold fn_term_Put at h
 refine cr <| jbx [ii xa.1, ii xa.2.1, ii xa.2.2.1, .slice adxa_3 xa.2.2.2.1.length cpxa_3, .slice adxa_4 xa.2.2.2.2.1.length cpxa_4, .slice adxa_5 xa.2.2.2.2.2.length cpxa_5] rfl rfl fun b138 => ja (.string ⟨([] : List UInt8).toArray⟩) rfl <| ja (ii 0) rfl <| J.nil <| CJ.seq ?_
 refine cr <| jv (.agg #[ii xa.1, ii xa.2.1, ii xa.2.2.1, .slice adxa_3 xa.2.2.2.1.length cpxa_3, .slice adxa_4 xa.2.2.2.2.1.length cpxa_4, .slice adxa_5 xa.2.2.2.2.2.length cpxa_5]) (V.ld rfl (Ld.agg (cs := [ii xa.1, ii xa.2.1, ii xa.2.2.1, .slice adxa_3 xa.2.2.2.1.length cpxa_3, .slice adxa_4 xa.2.2.2.2.1.length cpxa_4, .slice adxa_5 xa.2.2.2.2.2.length cpxa_5]) Tryz.underlying68 sz68 rfl (Rd.cls 0 0 rfl rfl))) ?_
 obtain ⟨r139, hr140, h⟩ := ob h
 refine J.op rfl (A.call (L1 := []) Tryz.call107 rfl (term_form_ok fxa_3 fxa_4 fxa_5 hr140) rfl rfl) ?_
 rintro _ _ _ ⟨v142, _, rfl, ⟨⟨i141, rfl, rfl, rfl⟩, rfl⟩, _, rfl⟩
 refine ja (ii i141) rfl <| J.nil <| cr <| jm (ii i141) rfl <| jv (.bool (!decide (i141 = 0))) (V.neq rfl rfl) <| J.nil ?_
 refine cc rfl h (fun hc145 h => ?_) fun hc145 h => ?_
 · refine cr <| jm (ii i141) rfl <| ja (.string ⟨([] : List UInt8).toArray⟩) rfl <| ja (ii i141) rfl <| J.nil <| CJ.ret ?_
   obtain rfl := si h
   exact ⟨_, _, Res.two rfl rfl rfl, ⟨([] : List UInt8), i141, rfl, rfl, rfl⟩, (Hp.le_refl _), fun w hs => (Sep.dropAt 0 rfl hs)⟩
 refine CJ.skip <| cr <| jal inf107 [.pointer none, nos] rfl fun b146 => J.by (fun w hs => Bld.fresh hs) <| J.nil <| CJ.seq ?_
 refine CJ.region <| jv _ (V.fad Tryz.underlying68 rfl nz3 rfl) <| jv (ii xa.1) (V.ld rfl (Ld.sc sc3 (Rd.cl 1 rfl rfl))) ?_
 obtain ⟨r147, hr148, h⟩ := ob h
 refine J.op rfl (A.call (L1 := []) Tryz.call55 rfl (leb_Put_ok hr148) rfl rfl) ?_
 rintro _ _ _ ⟨v150, _, rfl, ⟨⟨s149, rfl, rfl, rfl⟩, rfl⟩, _, rfl⟩
 obtain ⟨s153, hs154, h⟩ := ob h
 refine J.op rfl (A.call (L1 := [Bld b146 ([] : List UInt8)]) Tryz.call52 rfl (WriteString_ok hs154) rfl rfl) ?_
 rintro _ _ _ ⟨v155, _, rfl, ⟨⟨s153, rfl, rfl, rfl⟩, rfl⟩, _, rfl⟩
 refine J.nil <| CJ.seq <| cr <| jv _ (V.fad Tryz.underlying68 rfl nz3 rfl) <| jv (ii xa.1) (V.ld rfl (Ld.sc sc3 (Rd.cl 1 rfl rfl))) <| J.nil ?_
 refine CJ.block <| cr <| jv (.bool (decide (xa.1 = 1))) (V.eql rfl rfl) <| ja (.bool (decide (xa.1 = 1))) rfl <| J.nil <| cc rfl h (fun hc156 h => ?_) fun hc156 h => ?_
 · refine CJ.region <| jv _ (V.fad Tryz.underlying68 rfl nz66 rfl) <| jv (.slice adxa_3 xa.2.2.2.1.length cpxa_3) (V.ld rfl (Ld.sc sc66 (Rd.cl 1 rfl rfl))) ?_
   obtain ⟨x157, hx158, h⟩ := ob h
   obtain ⟨p159, p160, p161⟩ := getI_some hx158
   obtain ⟨b162, o163, e164, a165⟩ := (fxa_3).at p160
   refine jv _ (V.iad Tryz.underlying66 sz3 rfl e164 rfl p159 p161) <| jv (ii x157) (V.ld rfl (Ld.sc sc3 (Rd.k (a165).int (Hp.le_refl _)))) ?_
   obtain ⟨r166, hr167, h⟩ := ob h
   refine J.op rfl (A.call (L1 := []) Tryz.call55 rfl (leb_Put_ok hr167) rfl rfl) ?_
   rintro _ _ _ ⟨v169, _, rfl, ⟨⟨s168, rfl, rfl, rfl⟩, rfl⟩, _, rfl⟩
   obtain ⟨s172, hs173, h⟩ := ob h
   refine J.op rfl (A.call (L1 := [Bld b146 s153]) Tryz.call52 rfl (WriteString_ok hs173) rfl rfl) ?_
   rintro _ _ _ ⟨v174, _, rfl, ⟨⟨s172, rfl, rfl, rfl⟩, rfl⟩, _, rfl⟩
   refine J.nil <| CJ.seq <| CJ.region ?_
   obtain ⟨s175, hs176, h⟩ := ob h
   refine J.op rfl (A.call (L1 := [Bld b146 s172]) Tryz.call59 rfl (BString_ok hs176) rfl rfl) ?_
   rintro _ _ _ ⟨v177, _, rfl, ⟨⟨s175, rfl, rfl, rfl⟩, rfl⟩, _, rfl⟩
   refine ja (.string ⟨s175.toArray⟩) rfl <| ja (ii 0) rfl <| J.nil <| CJ.ret ?_
   obtain rfl := si h
   exact ⟨_, _, Res.two rfl rfl rfl, ⟨s175, 0, rfl, rfl, rfl⟩, (Hp.le_refl _), fun w hs => (Sep.dropAt 0 rfl hs)⟩
 refine cr <| jv (.bool (decide (xa.1 = 2))) (V.eql rfl rfl) <| ja (.bool (decide (xa.1 = 2))) rfl <| J.nil <| cc rfl h (fun hc178 h => ?_) fun hc178 h => ?_
 · refine cr <| jv _ (V.fad Tryz.underlying68 rfl nz66 rfl) <| jv (.slice adxa_3 xa.2.2.2.1.length cpxa_3) (V.ld rfl (Ld.sc sc66 (Rd.cl 1 rfl rfl))) ?_
   obtain ⟨r179, hr180, h⟩ := ob h
   refine J.op rfl (A.call (L1 := []) Tryz.call108 rfl (term_putList_ok fxa_3 hr180) rfl rfl) ?_
   rintro _ _ _ ⟨v182, _, rfl, ⟨⟨s181, rfl, rfl, rfl⟩, rfl⟩, _, rfl⟩
   obtain ⟨s185, hs186, h⟩ := ob h
   refine J.op rfl (A.call (L1 := [Bld b146 s153]) Tryz.call52 rfl (WriteString_ok hs186) rfl rfl) ?_
   rintro _ _ _ ⟨v187, _, rfl, ⟨⟨s185, rfl, rfl, rfl⟩, rfl⟩, _, rfl⟩
   refine J.nil <| CJ.region <| jv _ (V.fad Tryz.underlying68 rfl nz66 rfl) <| jv (.slice adxa_4 xa.2.2.2.2.1.length cpxa_4) (V.ld rfl (Ld.sc sc66 (Rd.cl 1 rfl rfl))) ?_
   obtain ⟨r188, hr189, h⟩ := ob h
   refine J.op rfl (A.call (L1 := []) Tryz.call108 rfl (term_putList_ok fxa_4 hr189) rfl rfl) ?_
   rintro _ _ _ ⟨v191, _, rfl, ⟨⟨s190, rfl, rfl, rfl⟩, rfl⟩, _, rfl⟩
   obtain ⟨s194, hs195, h⟩ := ob h
   refine J.op rfl (A.call (L1 := [Bld b146 s185]) Tryz.call52 rfl (WriteString_ok hs195) rfl rfl) ?_
   rintro _ _ _ ⟨v196, _, rfl, ⟨⟨s194, rfl, rfl, rfl⟩, rfl⟩, _, rfl⟩
   refine J.nil <| CJ.seq <| CJ.region ?_
   obtain ⟨s197, hs198, h⟩ := ob h
   refine J.op rfl (A.call (L1 := [Bld b146 s194]) Tryz.call59 rfl (BString_ok hs198) rfl rfl) ?_
   rintro _ _ _ ⟨v199, _, rfl, ⟨⟨s197, rfl, rfl, rfl⟩, rfl⟩, _, rfl⟩
   refine ja (.string ⟨s197.toArray⟩) rfl <| ja (ii 0) rfl <| J.nil <| CJ.ret ?_
   obtain rfl := si h
   exact ⟨_, _, Res.two rfl rfl rfl, ⟨s197, 0, rfl, rfl, rfl⟩, (Hp.le_refl _), fun w hs => (Sep.dropAt 0 rfl hs)⟩
 refine cr <| jv (.bool (decide (xa.1 = 4))) (V.eql rfl rfl) <| ja (.bool (decide (xa.1 = 4))) rfl <| J.nil <| cc rfl h (fun hc200 h => ?_) fun hc200 h => ?_
 · refine CJ.seq <| CJ.mix [Cl b138 68 [ii xa.1, ii xa.2.1, ii xa.2.2.1, .slice adxa_3 xa.2.2.2.1.length cpxa_3, .slice adxa_4 xa.2.2.2.2.1.length cpxa_4, .slice adxa_5 xa.2.2.2.2.2.length cpxa_5]] [([0, 1, 2, 3, 4, 5, 6, 7], 8), ([], 9), ([], 10)] [] [] mixO (by decide +kernel) ⟨1, rfl, trivial⟩ rfl rfl rfl <| JM.cons <| qv _ (V.fad Tryz.underlying68 rfl nz3 rfl) <| qv (ii xa.2.1) (V.ld rfl (Ld.sc sc3 (Rd.cl 0 rfl rfl))) <| qv _ (V.fad Tryz.underlying68 rfl nz3 rfl) <| qv (ii xa.2.2.1) (V.ld rfl (Ld.sc sc3 (Rd.cl 0 rfl rfl))) ?_
   refine qv _ (V.fad Tryz.underlying68 rfl nz66 rfl) <| qv (.slice adxa_3 xa.2.2.2.1.length cpxa_3) (V.ld rfl (Ld.sc sc66 (Rd.cl 0 rfl rfl))) ?_
   obtain ⟨x225, hx226, h⟩ := ob h
   obtain ⟨p227, p228, p229⟩ := getI_some hx226
   obtain ⟨b230, o231, e232, a233⟩ := (fxa_3).at p228
   refine qv _ (V.iad Tryz.underlying66 sz3 rfl e232 rfl p227 p229) <| qv (ii x225) (V.ld rfl (Ld.sc sc3 (Rd.k (a233).int (Hp.le_refl _)))) <| JQ.nil ?_
   refine JA.op rfl (A.lit (K0 := Hp.nil) (ty := (.int .i64)) (xs := ([xa.2.1, xa.2.2.1, x225] : List Int)) Tryz.underlying66 inf3 rfl (by decide) rfl rfl rfl ⟨_, _, rfl, rfl, ⟨_, _, rfl, rfl, ⟨_, _, rfl, rfl, rfl⟩⟩⟩ rfl (by decide)) ?_
   rintro _ _ _ ⟨b234, rfl, rfl, rfl⟩
   have hn235 : ([xa.2.1, xa.2.2.1, x225] : List Int) ≠ [] → ∃ g, (some ⟨b234, 0, none⟩ : Option Addr) = some ⟨g, 0, none⟩ := fun _ => ⟨b234, rfl⟩
   refine ⟨fun w hs => Hold.sub (Hp.le_refl _) ⟨2, rfl, trivial⟩ hs, ?_⟩
   refine JM.cons <| JQ.nil ?_
   obtain ⟨r237, hr238, h⟩ := ob h
   refine JA.op rfl (A.call (L1 := [Row Hp.nil 3 (.int .i64) (.slice (some ⟨b234, 0, none⟩) (([xa.2.1, xa.2.2.1, x225] : List Int).length) 3) ([xa.2.1, xa.2.2.1, x225] : List Int)]) Tryz.call53 rfl (Tr.lend (Hp.nil_le _) (by decide) (fun K239 hK240 f241 => leb_All_ok f241 hr238)) rfl rfl) ?_
   rintro _ _ _ ⟨v243, _, rfl, ⟨⟨_, ⟨s242, rfl, rfl, rfl⟩, rfl⟩, rfl⟩, _, rfl⟩
   refine ⟨fun w hs => Hold.sub (Hp.le_refl _) ⟨2, rfl, trivial⟩ hs, ?_⟩
   refine JM.cons <| JQ.nil <| JA.front 1 rfl ?_
   obtain ⟨s246, hs247, h⟩ := ob h
   refine JA.op rfl (A.call (L1 := [Bld b146 s153]) Tryz.call52 rfl (WriteString_ok hs247) rfl rfl) ?_
   rintro _ _ _ ⟨v248, _, rfl, ⟨⟨s246, rfl, rfl, rfl⟩, rfl⟩, _, rfl⟩
   refine ⟨fun w hs => Hold.sub (Hp.le_refl _) ⟨2, rfl, trivial⟩ hs, ?_⟩
   refine JM.nil <| JQ.nil <| J.nil <| cr <| jv _ (V.fad Tryz.underlying68 rfl nz66 rfl) <| jv (.slice adxa_5 xa.2.2.2.2.2.length cpxa_5) (V.ld rfl (Ld.sc sc66 (Rd.cl 2 rfl rfl))) ?_
   obtain ⟨r249, hr250, h⟩ := ob h
   refine J.op rfl (A.call (L1 := []) Tryz.call108 rfl (term_putList_ok fxa_5 hr250) rfl rfl) ?_
   rintro _ _ _ ⟨v252, _, rfl, ⟨⟨s251, rfl, rfl, rfl⟩, rfl⟩, _, rfl⟩
   obtain ⟨s255, hs256, h⟩ := ob h
   refine J.op rfl (A.call (L1 := [Bld b146 s246]) Tryz.call52 rfl (WriteString_ok hs256) rfl rfl) ?_
   rintro _ _ _ ⟨v257, _, rfl, ⟨⟨s255, rfl, rfl, rfl⟩, rfl⟩, _, rfl⟩
   refine J.nil <| CJ.region <| jv _ (V.fad Tryz.underlying68 rfl nz66 rfl) <| jv (.slice adxa_4 xa.2.2.2.2.1.length cpxa_4) (V.ld rfl (Ld.sc sc66 (Rd.cl 2 rfl rfl))) ?_
   obtain ⟨r258, hr259, h⟩ := ob h
   refine J.op rfl (A.call (L1 := []) Tryz.call108 rfl (term_putList_ok fxa_4 hr259) rfl rfl) ?_
   rintro _ _ _ ⟨v261, _, rfl, ⟨⟨s260, rfl, rfl, rfl⟩, rfl⟩, _, rfl⟩
   obtain ⟨s264, hs265, h⟩ := ob h
   refine J.op rfl (A.call (L1 := [Bld b146 s255]) Tryz.call52 rfl (WriteString_ok hs265) rfl rfl) ?_
   rintro _ _ _ ⟨v266, _, rfl, ⟨⟨s264, rfl, rfl, rfl⟩, rfl⟩, _, rfl⟩
   refine J.nil <| CJ.seq <| CJ.region ?_
   obtain ⟨s267, hs268, h⟩ := ob h
   refine J.op rfl (A.call (L1 := [Bld b146 s264]) Tryz.call59 rfl (BString_ok hs268) rfl rfl) ?_
   rintro _ _ _ ⟨v269, _, rfl, ⟨⟨s267, rfl, rfl, rfl⟩, rfl⟩, _, rfl⟩
   refine ja (.string ⟨s267.toArray⟩) rfl <| ja (ii 0) rfl <| J.nil <| CJ.ret ?_
   obtain rfl := si h
   exact ⟨_, _, Res.two rfl rfl rfl, ⟨s267, 0, rfl, rfl, rfl⟩, (Hp.le_refl _), fun w hs => (Sep.dropAt 0 rfl (Sep.dropAt 0 rfl hs))⟩
 refine CJ.skip <| CJ.seq <| CJ.region ?_
 obtain ⟨s270, hs271, h⟩ := ob h
 refine J.op rfl (A.call (L1 := [Bld b146 s153]) Tryz.call59 rfl (BString_ok hs271) rfl rfl) ?_
 rintro _ _ _ ⟨v272, _, rfl, ⟨⟨s270, rfl, rfl, rfl⟩, rfl⟩, _, rfl⟩
 refine ja (.string ⟨s270.toArray⟩) rfl <| ja (ii 0) rfl <| J.nil <| CJ.ret ?_
 obtain rfl := si h
 exact ⟨_, _, Res.two rfl rfl rfl, ⟨s270, 0, rfl, rfl, rfl⟩, (Hp.le_refl _), fun w hs => (Sep.dropAt 0 rfl hs)⟩
noncomputable def fn_body_putBlock_p0a_s_l1 (xb : ((List (Int × Int × Int × Int × Bool)) × (Int × Int × Int × (List Int) × (List Int) × (List Int)))) : (Int × List UInt8) → Option ((Int × List UInt8) ⊕ (List UInt8 ⊕ (Int × List UInt8))) := fun ((i294, s295) : (Int × List UInt8)) => cond (decide (i294 < (((xb.1.length : Nat) : Int)))) ((getI xb.1 i294).bind fun x325 => (fn_stmt_Put (x325.1, x325.2.1, x325.2.2.1, x325.2.2.2.1, x325.2.2.2.2)).bind fun (s337, i338) => cond (!decide (i338 = 0)) (some (.inr ((.inr ((i338, s295)))))) ((wrS s295 s337).bind fun s343 => some (.inl ((IntKind.wrap .i64 (i294 + 1), s343))))) (some (.inr (.inl s295)))
noncomputable def fn_body_putBlock_p0a_s (xb : ((List (Int × Int × Int × Int × Bool)) × (Int × Int × Int × (List Int) × (List Int) × (List Int)))) (qa0 : List UInt8) : Option (Int × List UInt8) :=
  (fn_leb_Put (((xb.1.length : Nat) : Int))).bind fun s184 => (wrS qa0 s184).bind fun s188 => (loop (fn_body_putBlock_p0a_s_l1 xb) (0, s188) : Option (List UInt8 ⊕ (Int × List UInt8))).bind fun o => match o with | .inr r => some r | .inl s267 => (fn_term_Put (xb.2.1, xb.2.2.1, xb.2.2.2.1, xb.2.2.2.2.1, xb.2.2.2.2.2.1, xb.2.2.2.2.2.2)).bind fun (s351, i352) => (wrS s267 s351).bind fun s356 => some ((i352, s356))
set_option maxRecDepth 100000 in
set_option maxHeartbeats 4000000 in
theorem body_putBlock_p0a_s_ok {K : Hp} {xb : ((List (Int × Int × Int × Int × Bool)) × (Int × Int × Int × (List Int) × (List Int) × (List Int)))} {qa0 : List UInt8} {pba : Nat} {adxb_0 : Option Addr} {cpxb_0 : Nat} {adxb_4 : Option Addr} {cpxb_4 : Nat} {adxb_5 : Option Addr} {cpxb_5 : Nat} {adxb_6 : Option Addr} {cpxb_6 : Nat} (fxb_0 : Is K (.sl (.cons (.int .i64) (.cons (.int .i64) (.cons (.int .i64) (.cons (.int .i64) (.one .bool)))))) [.slice adxb_0 xb.1.length cpxb_0] xb.1) (fxb_4 : Is K (.sl (.int .i64)) [.slice adxb_4 xb.2.2.2.2.1.length cpxb_4] xb.2.2.2.2.1) (fxb_5 : Is K (.sl (.int .i64)) [.slice adxb_5 xb.2.2.2.2.2.1.length cpxb_5] xb.2.2.2.2.2.1) (fxb_6 : Is K (.sl (.int .i64)) [.slice adxb_6 xb.2.2.2.2.2.2.length cpxb_6] xb.2.2.2.2.2.2) {r : (Int × List UInt8)} (h : fn_body_putBlock_p0a_s xb qa0 = some r) :
    Tr Tryz.prog 58 #[.pointer (some ⟨pba, 0, none⟩), .agg #[.slice adxb_0 xb.1.length cpxb_0, ii xb.2.1, ii xb.2.2.1, ii xb.2.2.2.1, .slice adxb_4 xb.2.2.2.2.1.length cpxb_4, .slice adxb_5 xb.2.2.2.2.2.1.length cpxb_5, .slice adxb_6 xb.2.2.2.2.2.2.length cpxb_6]] K [Bld pba qa0] (fun v K' L' => (∃ (i179 : Int) (s180 : List UInt8), (i179, s180) = r ∧ ii i179 = v ∧ L' = [Bld pba s180]) ∧ K = K') := by
 refine Tr.k <| Tr.of Tryz.func58 rfl Tryz.ntmps58 rfl fun E F => ?_
 unfold fn_body_putBlock_p0a_s at h
 refine cr <| jbx [.slice adxb_0 xb.1.length cpxb_0, ii xb.2.1, ii xb.2.2.1, ii xb.2.2.2.1, .slice adxb_4 xb.2.2.2.2.1.length cpxb_4, .slice adxb_5 xb.2.2.2.2.2.1.length cpxb_5, .slice adxb_6 xb.2.2.2.2.2.2.length cpxb_6] rfl rfl fun b181 => ja (ii 0) rfl <| J.nil <| CJ.seq <| CJ.region ?_
 refine jm _ rfl <| jv _ (V.fad Tryz.underlying70 rfl nz65 rfl) <| jv (.slice adxb_0 xb.1.length cpxb_0) (V.ld rfl (Ld.sc sc65 (Rd.cl 0 rfl rfl))) <| jv (ii (((xb.1.length : Nat) : Int))) (V.len Tryz.underlying65 rfl) ?_
 obtain ⟨r182, hr183, h⟩ := ob h
 refine J.op rfl (A.call (L1 := []) Tryz.call55 rfl (leb_Put_ok hr183) rfl rfl) ?_
 rintro _ _ _ ⟨v185, _, rfl, ⟨⟨s184, rfl, rfl, rfl⟩, rfl⟩, _, rfl⟩
 refine J.front 1 rfl ?_
 obtain ⟨s188, hs189, h⟩ := ob h
 refine J.op rfl (A.call (L1 := [Bld pba qa0]) Tryz.call52 rfl (WriteString_ok hs189) rfl rfl) ?_
 rintro _ _ _ ⟨v190, _, rfl, ⟨⟨s188, rfl, rfl, rfl⟩, rfl⟩, _, rfl⟩
 refine J.nil <| CJ.seq <| cr <| jv _ (V.fad Tryz.underlying70 rfl nz65 rfl) <| jv (.slice adxb_0 xb.1.length cpxb_0) (V.ld rfl (Ld.sc sc65 (Rd.cl 1 rfl rfl))) <| jv (ii (((xb.1.length : Nat) : Int))) (V.len Tryz.underlying65 rfl) ?_
 refine jm (ii 0) rfl <| J.nil ?_
 obtain ⟨o268, ho269, h⟩ := ob h
 refine CJ.joinN (o := o268) (fun s ρ K' L' => ∃ (s267 : List UInt8), s267 = s ∧ Fits [(0, .pointer (some ⟨pba, 0, none⟩)), (3, .pointer (some ⟨b181, 0, none⟩))] ρ ∧ K = K' ∧ L' = Bld pba s267 :: Cl b181 70 [.slice adxb_0 xb.1.length cpxb_0, ii xb.2.1, ii xb.2.2.1, ii xb.2.2.2.1, .slice adxb_4 xb.2.2.2.2.1.length cpxb_4, .slice adxb_5 xb.2.2.2.2.2.1.length cpxb_5, .slice adxb_6 xb.2.2.2.2.2.2.length cpxb_6] :: F) ?_ ?_
 · refine CJ.block <| CJ.loop (fun s ρ K' L' => ∃ (i294 : Int) (s295 : List UInt8), (i294, s295) = s ∧ Fits [(0, .pointer (some ⟨pba, 0, none⟩)), (3, .pointer (some ⟨b181, 0, none⟩)), (18, .slice adxb_0 xb.1.length cpxb_0), (19, ii (((xb.1.length : Nat) : Int))), (20, ii i294)] ρ ∧ K = K' ∧ L' = Bld pba s295 :: Cl b181 70 [.slice adxb_0 xb.1.length cpxb_0, ii xb.2.1, ii xb.2.2.1, ii xb.2.2.2.1, .slice adxb_4 xb.2.2.2.2.1.length cpxb_4, .slice adxb_5 xb.2.2.2.2.2.1.length cpxb_5, .slice adxb_6 xb.2.2.2.2.2.2.length cpxb_6] :: F) ho269 ⟨0, s188, rfl, ⟨rfl, rfl, rfl, rfl, rfl, trivial⟩, rfl, rfl⟩ ?_
   rintro s ρ _ _ r323 ⟨i294, s295, rfl, hf321, rfl, rfl⟩ h320
   obtain ⟨ρ, rfl⟩ := hf321.ex
   refine cr <| jv (.bool (decide (i294 < (((xb.1.length : Nat) : Int))))) (V.lss rfl rfl) <| J.nil <| CJ.seq <| cc rfl h320 (fun hc324 h320 => ?_) fun hc324 h320 => ?_
   · refine CJ.skip <| CJ.seq <| CJ.block <| CJ.seq <| CJ.region ?_
     obtain ⟨x325, hx326, h320⟩ := ob h320
     obtain ⟨p327, p328, p329⟩ := getI_some hx326
     obtain ⟨b330, o331, e332, a333⟩ := (fxb_0).at p328
     refine jv _ (V.iad Tryz.underlying65 sz73 rfl e332 rfl p327 p329) <| jv (.agg #[ii x325.1, ii x325.2.1, ii x325.2.2.1, ii x325.2.2.2.1, .bool x325.2.2.2.2]) (V.ld rfl (Ld.aggK (cs := [ii x325.1, ii x325.2.1, ii x325.2.2.1, ii x325.2.2.2.1, .bool x325.2.2.2.2]) Tryz.underlying73 sz73 rfl ⟨((a333).fst).int, (((a333).snd).fst).int, ((((a333).snd).snd).fst).int, (((((a333).snd).snd).snd).fst).int, ((((((a333).snd).snd).snd).snd).one).bool, trivial⟩ (Hp.le_refl _))) <| jal inf73 [ii 0, ii 0, ii 0, ii 0, .bool false] rfl fun b334 => js [ii x325.1, ii x325.2.1, ii x325.2.2.1, ii x325.2.2.2.1, .bool x325.2.2.2.2] sz73 rfl rfl rfl rfl rfl rfl <| J.nil <| CJ.seq <| CJ.region ?_
     refine jv (.agg #[ii x325.1, ii x325.2.1, ii x325.2.2.1, ii x325.2.2.2.1, .bool x325.2.2.2.2]) (V.ld rfl (Ld.agg (cs := [ii x325.1, ii x325.2.1, ii x325.2.2.1, ii x325.2.2.2.1, .bool x325.2.2.2.2]) Tryz.underlying73 sz73 rfl (Rd.cls 0 0 rfl rfl))) ?_
     obtain ⟨r335, hr336, h320⟩ := ob h320
     refine J.op rfl (A.call (L1 := []) Tryz.call90 rfl (stmt_Put_ok hr336) rfl rfl) ?_
     rintro _ _ _ ⟨v339, _, rfl, ⟨⟨s337, i338, rfl, rfl, rfl⟩, rfl⟩, _, rfl⟩
     refine jm (.tuple #[.string ⟨s337.toArray⟩, ii i338]) rfl <| jx (.string ⟨s337.toArray⟩) rfl rfl <| jx (ii i338) rfl rfl <| ja (.string ⟨s337.toArray⟩) rfl <| ja (ii i338) rfl <| J.nil <| CJ.seq ?_
     refine cr <| jm (ii i338) rfl <| jv (.bool (!decide (i338 = 0))) (V.neq rfl rfl) <| J.nil <| cc rfl h320 (fun hc342 h320 => ?_) fun hc342 h320 => ?_
     · refine cr <| jm (ii i338) rfl <| ja (ii i338) rfl <| J.nil <| CJ.ret ?_
       obtain rfl := si h320
       refine ⟨nofun, fun e => ?_⟩
       subst e
       refine .inr ⟨nofun, ?_⟩
       obtain rfl := si h
       exact ⟨_, _, Res.one rfl rfl, ⟨i338, s295, rfl, rfl, rfl⟩, (Hp.le_refl _), fun w hs => (Sep.dropAt 1 rfl (Sep.dropAt 0 rfl hs))⟩
     refine CJ.skip <| CJ.region <| jm _ rfl <| jm (.string ⟨s337.toArray⟩) rfl <| J.front 1 rfl ?_
     obtain ⟨s343, hs344, h320⟩ := ob h320
     refine J.op rfl (A.call (L1 := [Bld pba s295]) Tryz.call52 rfl (WriteString_ok hs344) rfl rfl) ?_
     rintro _ _ _ ⟨v345, _, rfl, ⟨⟨s343, rfl, rfl, rfl⟩, rfl⟩, _, rfl⟩
     refine J.nil <| CJ.region <| jv (ii (IntKind.wrap .i64 (i294 + 1))) (V.add rfl rfl) <| jm (ii (IntKind.wrap .i64 (i294 + 1))) rfl <| J.dropAt 1 rfl <| J.nil ?_
     obtain rfl := si h320
     exact ⟨rfl, ⟨IntKind.wrap .i64 (i294 + 1), s343, rfl, ⟨rfl, rfl, rfl, rfl, rfl, trivial⟩, rfl, rfl⟩⟩
   refine CJ.exit ?_
   obtain rfl := si h320
   refine ⟨nofun, fun e => ?_⟩
   subst e
   exact .inl ⟨rfl, _, rfl, ⟨s295, rfl, ⟨rfl, rfl, trivial⟩, rfl, rfl⟩⟩
 rintro s ρ _ _ ho346 ⟨s267, rfl, hf347, rfl, rfl⟩
 subst ho346
 obtain ⟨ρ, rfl⟩ := hf347.ex
 refine PJ.done <| cr <| jv _ (V.fad Tryz.underlying70 rfl nz68 rfl) <| jv (.agg #[ii xb.2.1, ii xb.2.2.1, ii xb.2.2.2.1, .slice adxb_4 xb.2.2.2.2.1.length cpxb_4, .slice adxb_5 xb.2.2.2.2.2.1.length cpxb_5, .slice adxb_6 xb.2.2.2.2.2.2.length cpxb_6]) (V.ld rfl (Ld.agg (cs := [ii xb.2.1, ii xb.2.2.1, ii xb.2.2.2.1, .slice adxb_4 xb.2.2.2.2.1.length cpxb_4, .slice adxb_5 xb.2.2.2.2.2.1.length cpxb_5, .slice adxb_6 xb.2.2.2.2.2.2.length cpxb_6]) Tryz.underlying68 sz68 rfl (Rd.cls 1 1 rfl rfl))) ?_
 obtain ⟨r349, hr350, h⟩ := ob h
 refine J.op rfl (A.call (L1 := []) Tryz.call91 rfl (term_Put_ok fxb_4 fxb_5 fxb_6 hr350) rfl rfl) ?_
 rintro _ _ _ ⟨v353, _, rfl, ⟨⟨s351, i352, rfl, rfl, rfl⟩, rfl⟩, _, rfl⟩
 refine jm (.tuple #[.string ⟨s351.toArray⟩, ii i352]) rfl <| jx (.string ⟨s351.toArray⟩) rfl rfl <| jx (ii i352) rfl rfl <| ja (.string ⟨s351.toArray⟩) rfl <| ja (ii i352) rfl <| J.nil <| CJ.seq ?_
 refine CJ.region <| jm _ rfl <| jm (.string ⟨s351.toArray⟩) rfl ?_
 obtain ⟨s356, hs357, h⟩ := ob h
 refine J.op rfl (A.call (L1 := [Bld pba s267]) Tryz.call52 rfl (WriteString_ok hs357) rfl rfl) ?_
 rintro _ _ _ ⟨v358, _, rfl, ⟨⟨s356, rfl, rfl, rfl⟩, rfl⟩, _, rfl⟩
 refine J.nil <| cr <| jm (ii i352) rfl <| ja (ii i352) rfl <| J.nil <| CJ.ret ?_
 obtain rfl := si h
 exact ⟨_, _, Res.one rfl rfl, ⟨i352, s356, rfl, rfl, rfl⟩, (Hp.le_refl _), fun w hs => (Sep.dropAt 1 rfl hs)⟩
noncomputable def fn_body_Put_l1 (xa : (Int × Int × (List (Int × Int)) × (List (List (Int × Bool))) × (List (Int × Bool)) × (List (Int × (List (Int × Int)) × (List (List (Int × Bool))) × (List (Int × Bool)))) × (List ((List (Int × Int × Int × Int × Bool)) × (Int × Int × Int × (List Int) × (List Int) × (List Int)))))) : (Int × List UInt8) → Option ((Int × List UInt8) ⊕ List UInt8) := fun ((i842, s843) : (Int × List UInt8)) => cond (decide (i842 < (((xa.2.2.2.1.length : Nat) : Int)))) ((getI xa.2.2.2.1 i842).bind fun x875 => (fn_sig_PutType x875).bind fun s891 => (wrS s843 s891).bind fun s895 => some (.inl ((IntKind.wrap .i64 (i842 + 1), s895)))) (some (.inr (s843)))
noncomputable def fn_body_Put_l2 (xa : (Int × Int × (List (Int × Int)) × (List (List (Int × Bool))) × (List (Int × Bool)) × (List (Int × (List (Int × Int)) × (List (List (Int × Bool))) × (List (Int × Bool)))) × (List ((List (Int × Int × Int × Int × Bool)) × (Int × Int × Int × (List Int) × (List Int) × (List Int)))))) : (Int × List UInt8) → Option ((Int × List UInt8) ⊕ List UInt8) := fun ((i1061, s1062) : (Int × List UInt8)) => cond (decide (i1061 < (((xa.2.2.2.2.2.1.length : Nat) : Int)))) ((getI xa.2.2.2.2.2.1 i1061).bind fun x1102 => (fn_sig_Put (x1102.1, x1102.2.1, x1102.2.2.1, x1102.2.2.2)).bind fun s1126 => (wrS s1062 s1126).bind fun s1130 => some (.inl ((IntKind.wrap .i64 (i1061 + 1), s1130)))) (some (.inr (s1062)))
noncomputable def fn_body_Put_l3 (xa : (Int × Int × (List (Int × Int)) × (List (List (Int × Bool))) × (List (Int × Bool)) × (List (Int × (List (Int × Int)) × (List (List (Int × Bool))) × (List (Int × Bool)))) × (List ((List (Int × Int × Int × Int × Bool)) × (Int × Int × Int × (List Int) × (List Int) × (List Int)))))) : (Int × List UInt8) → Option ((Int × List UInt8) ⊕ (List UInt8 ⊕ (List UInt8 × Int))) := fun ((i1299, s1300) : (Int × List UInt8)) => cond (decide (i1299 < (((xa.2.2.2.2.2.2.length : Nat) : Int)))) ((getI xa.2.2.2.2.2.2 i1299).bind fun x1343 => (fn_body_putBlock_p0a_s ((x1343.1, (x1343.2.1, x1343.2.2.1, x1343.2.2.2.1, x1343.2.2.2.2.1, x1343.2.2.2.2.2.1, x1343.2.2.2.2.2.2))) s1300).bind fun (i1371, s1372) => cond (!decide (i1371 = 0)) (some (.inr ((.inr ((([] : List UInt8), i1371)))))) (some (.inl ((IntKind.wrap .i64 (i1299 + 1), s1372))))) (some (.inr (.inl s1300)))
noncomputable def fn_body_Put (xa : (Int × Int × (List (Int × Int)) × (List (List (Int × Bool))) × (List (Int × Bool)) × (List (Int × (List (Int × Int)) × (List (List (Int × Bool))) × (List (Int × Bool)))) × (List ((List (Int × Int × Int × Int × Bool)) × (Int × Int × Int × (List Int) × (List Int) × (List Int)))))) : Option (List UInt8 × Int) :=
  (wrS ([] : List UInt8) ([109, 105, 114, 1] : List UInt8)).bind fun s695 => (fn_leb_All ([xa.1, xa.2.1] : List Int)).bind fun s706 => (wrS s695 s706).bind fun s710 => (fn_sig_PutBounds xa.2.2.1).bind fun s715 => (wrS s710 s715).bind fun s719 => (fn_leb_Put (((xa.2.2.2.1.length : Nat) : Int))).bind fun s724 => (wrS s719 s724).bind fun s728 => (loop (fn_body_Put_l1 xa) (0, s728) : Option (List UInt8)).bind fun s813 => (fn_sig_PutType xa.2.2.2.2.1).bind fun s902 => (wrS s813 s902).bind fun s906 => (fn_leb_Put (((xa.2.2.2.2.2.1.length : Nat) : Int))).bind fun s911 => (wrS s906 s911).bind fun s915 => (loop (fn_body_Put_l2 xa) (0, s915) : Option (List UInt8)).bind fun s1024 => (fn_leb_Put (((xa.2.2.2.2.2.2.length : Nat) : Int))).bind fun s1137 => (wrS s1024 s1137).bind fun s1141 => (loop (fn_body_Put_l3 xa) (0, s1141) : Option (List UInt8 ⊕ (List UInt8 × Int))).bind fun o => match o with | .inr r => some r | .inl s1259 => ((some s1259 : Option (List UInt8))).bind fun s1380 => some ((s1380, 0))
set_option maxRecDepth 100000 in
set_option maxHeartbeats 4000000 in
theorem body_Put_ok {K : Hp} {xa : (Int × Int × (List (Int × Int)) × (List (List (Int × Bool))) × (List (Int × Bool)) × (List (Int × (List (Int × Int)) × (List (List (Int × Bool))) × (List (Int × Bool)))) × (List ((List (Int × Int × Int × Int × Bool)) × (Int × Int × Int × (List Int) × (List Int) × (List Int)))))} {adxa_2 : Option Addr} {cpxa_2 : Nat} {adxa_3 : Option Addr} {cpxa_3 : Nat} {adxa_4 : Option Addr} {cpxa_4 : Nat} {adxa_5 : Option Addr} {cpxa_5 : Nat} {adxa_6 : Option Addr} {cpxa_6 : Nat} (fxa_2 : Is K (.sl (.cons (.int .i64) (.one (.int .i64)))) [.slice adxa_2 xa.2.2.1.length cpxa_2] xa.2.2.1) (fxa_3 : Is K (.sl (.one (.sl (.cons (.int .i64) (.one .bool))))) [.slice adxa_3 xa.2.2.2.1.length cpxa_3] xa.2.2.2.1) (fxa_4 : Is K (.sl (.cons (.int .i64) (.one .bool))) [.slice adxa_4 xa.2.2.2.2.1.length cpxa_4] xa.2.2.2.2.1) (fxa_5 : Is K (.sl (.cons (.int .i64) (.cons (.sl (.cons (.int .i64) (.one (.int .i64)))) (.cons (.sl (.one (.sl (.cons (.int .i64) (.one .bool))))) (.one (.one (.sl (.cons (.int .i64) (.one .bool))))))))) [.slice adxa_5 xa.2.2.2.2.2.1.length cpxa_5] xa.2.2.2.2.2.1) (fxa_6 : Is K (.sl (.cons (.sl (.cons (.int .i64) (.cons (.int .i64) (.cons (.int .i64) (.cons (.int .i64) (.one .bool)))))) (.one (.cons (.int .i64) (.cons (.int .i64) (.cons (.int .i64) (.cons (.sl (.int .i64)) (.cons (.sl (.int .i64)) (.one (.sl (.int .i64))))))))))) [.slice adxa_6 xa.2.2.2.2.2.2.length cpxa_6] xa.2.2.2.2.2.2) {r : (List UInt8 × Int)} (h : fn_body_Put xa = some r) :
    Tr Tryz.prog 13 #[.agg #[ii xa.1, ii xa.2.1, .slice adxa_2 xa.2.2.1.length cpxa_2, .slice adxa_3 xa.2.2.2.1.length cpxa_3, .slice adxa_4 xa.2.2.2.2.1.length cpxa_4, .slice adxa_5 xa.2.2.2.2.2.1.length cpxa_5, .slice adxa_6 xa.2.2.2.2.2.2.length cpxa_6]] K [] (fun v K' L' => (∃ (s691 : List UInt8) (i692 : Int), (s691, i692) = r ∧ .tuple #[.string ⟨s691.toArray⟩, ii i692] = v ∧ L' = []) ∧ K = K') := by
 refine Tr.k <| Tr.of Tryz.func13 rfl Tryz.ntmps13 rfl fun E F => ?_
 unfold fn_body_Put at h
 refine cr <| jbx [ii xa.1, ii xa.2.1, .slice adxa_2 xa.2.2.1.length cpxa_2, .slice adxa_3 xa.2.2.2.1.length cpxa_3, .slice adxa_4 xa.2.2.2.2.1.length cpxa_4, .slice adxa_5 xa.2.2.2.2.2.1.length cpxa_5, .slice adxa_6 xa.2.2.2.2.2.2.length cpxa_6] rfl rfl fun b693 => ja (.string ⟨([] : List UInt8).toArray⟩) rfl <| ja (ii 0) rfl <| J.nil <| CJ.seq ?_
 refine CJ.region <| jal inf107 [.pointer none, nos] rfl fun b694 => J.by (fun w hs => Bld.fresh hs) <| J.nil <| CJ.seq <| CJ.region ?_
 obtain ⟨s695, hs696, h⟩ := ob h
 refine J.op rfl (A.call (L1 := [Bld b694 ([] : List UInt8)]) Tryz.call52 rfl (WriteString_ok hs696) rfl rfl) ?_
 rintro _ _ _ ⟨v697, _, rfl, ⟨⟨s695, rfl, rfl, rfl⟩, rfl⟩, _, rfl⟩
 refine J.nil <| cr <| jv _ (V.fad Tryz.underlying34 rfl nz3 rfl) <| jv (ii xa.1) (V.ld rfl (Ld.sc sc3 (Rd.cl 1 rfl rfl))) <| jv _ (V.fad Tryz.underlying34 rfl nz3 rfl) <| jv (ii xa.2.1) (V.ld rfl (Ld.sc sc3 (Rd.cl 1 rfl rfl))) ?_
 refine J.op rfl (A.lit (K0 := Hp.nil) (ty := (.int .i64)) (xs := ([xa.1, xa.2.1] : List Int)) Tryz.underlying66 inf3 rfl (by decide) rfl rfl rfl ⟨_, _, rfl, rfl, ⟨_, _, rfl, rfl, rfl⟩⟩ rfl (by decide)) ?_
 rintro _ _ _ ⟨b698, rfl, rfl, rfl⟩
 have hn699 : ([xa.1, xa.2.1] : List Int) ≠ [] → ∃ g, (some ⟨b698, 0, none⟩ : Option Addr) = some ⟨g, 0, none⟩ := fun _ => ⟨b698, rfl⟩
 obtain ⟨r701, hr702, h⟩ := ob h
 refine J.op rfl (A.call (L1 := [Row Hp.nil 3 (.int .i64) (.slice (some ⟨b698, 0, none⟩) (([xa.1, xa.2.1] : List Int).length) 2) ([xa.1, xa.2.1] : List Int)]) Tryz.call53 rfl (Tr.lend (Hp.nil_le _) (by decide) (fun K703 hK704 f705 => leb_All_ok f705 hr702)) rfl rfl) ?_
 rintro _ _ _ ⟨v707, _, rfl, ⟨⟨_, ⟨s706, rfl, rfl, rfl⟩, rfl⟩, rfl⟩, _, rfl⟩
 refine J.front 1 rfl ?_
 obtain ⟨s710, hs711, h⟩ := ob h
 refine J.op rfl (A.call (L1 := [Bld b694 s695]) Tryz.call52 rfl (WriteString_ok hs711) rfl rfl) ?_
 rintro _ _ _ ⟨v712, _, rfl, ⟨⟨s710, rfl, rfl, rfl⟩, rfl⟩, _, rfl⟩
 refine J.nil <| cr <| jv _ (V.fad Tryz.underlying34 rfl nz26 rfl) <| jv (.slice adxa_2 xa.2.2.1.length cpxa_2) (V.ld rfl (Ld.sc sc26 (Rd.cl 2 rfl rfl))) ?_
 obtain ⟨r713, hr714, h⟩ := ob h
 refine J.op rfl (A.call (L1 := []) Tryz.call54 rfl (sig_PutBounds_ok fxa_2 hr714) rfl rfl) ?_
 rintro _ _ _ ⟨v716, _, rfl, ⟨⟨s715, rfl, rfl, rfl⟩, rfl⟩, _, rfl⟩
 obtain ⟨s719, hs720, h⟩ := ob h
 refine J.op rfl (A.call (L1 := [Bld b694 s710]) Tryz.call52 rfl (WriteString_ok hs720) rfl rfl) ?_
 rintro _ _ _ ⟨v721, _, rfl, ⟨⟨s719, rfl, rfl, rfl⟩, rfl⟩, _, rfl⟩
 refine J.nil <| cr <| jv _ (V.fad Tryz.underlying34 rfl nz27 rfl) <| jv (.slice adxa_3 xa.2.2.2.1.length cpxa_3) (V.ld rfl (Ld.sc sc27 (Rd.cl 2 rfl rfl))) <| jv (ii (((xa.2.2.2.1.length : Nat) : Int))) (V.len Tryz.underlying27 rfl) ?_
 obtain ⟨r722, hr723, h⟩ := ob h
 refine J.op rfl (A.call (L1 := []) Tryz.call55 rfl (leb_Put_ok hr723) rfl rfl) ?_
 rintro _ _ _ ⟨v725, _, rfl, ⟨⟨s724, rfl, rfl, rfl⟩, rfl⟩, _, rfl⟩
 obtain ⟨s728, hs729, h⟩ := ob h
 refine J.op rfl (A.call (L1 := [Bld b694 s719]) Tryz.call52 rfl (WriteString_ok hs729) rfl rfl) ?_
 rintro _ _ _ ⟨v730, _, rfl, ⟨⟨s728, rfl, rfl, rfl⟩, rfl⟩, _, rfl⟩
 refine J.nil <| CJ.seq <| cr <| jv _ (V.fad Tryz.underlying34 rfl nz27 rfl) <| jv (.slice adxa_3 xa.2.2.2.1.length cpxa_3) (V.ld rfl (Ld.sc sc27 (Rd.cl 2 rfl rfl))) <| jv (ii (((xa.2.2.2.1.length : Nat) : Int))) (V.len Tryz.underlying27 rfl) ?_
 refine jm (ii 0) rfl <| J.nil ?_
 obtain ⟨o814, ho815, h⟩ := ob h
 refine CJ.meetN (fun ρ K' L' => ∃ (s813 : List UInt8), s813 = o814 ∧ Fits [(1, .pointer (some ⟨b693, 0, none⟩)), (4, .pointer (some ⟨b694, 0, none⟩))] ρ ∧ K = K' ∧ L' = Cl b693 34 [ii xa.1, ii xa.2.1, .slice adxa_2 xa.2.2.1.length cpxa_2, .slice adxa_3 xa.2.2.2.1.length cpxa_3, .slice adxa_4 xa.2.2.2.2.1.length cpxa_4, .slice adxa_5 xa.2.2.2.2.2.1.length cpxa_5, .slice adxa_6 xa.2.2.2.2.2.2.length cpxa_6] :: Bld b694 s813 :: F) ?_ ?_
 · refine CJ.block <| CJ.dropAt 1 rfl <| CJ.front 1 rfl <| CJ.loop (fun s ρ K' L' => ∃ (i842 : Int) (s843 : List UInt8), (i842, s843) = s ∧ Fits [(1, .pointer (some ⟨b693, 0, none⟩)), (4, .pointer (some ⟨b694, 0, none⟩)), (30, .slice adxa_3 xa.2.2.2.1.length cpxa_3), (31, ii (((xa.2.2.2.1.length : Nat) : Int))), (32, ii i842)] ρ ∧ K = K' ∧ L' = Cl b693 34 [ii xa.1, ii xa.2.1, .slice adxa_2 xa.2.2.1.length cpxa_2, .slice adxa_3 xa.2.2.2.1.length cpxa_3, .slice adxa_4 xa.2.2.2.2.1.length cpxa_4, .slice adxa_5 xa.2.2.2.2.2.1.length cpxa_5, .slice adxa_6 xa.2.2.2.2.2.2.length cpxa_6] :: Bld b694 s843 :: F) ho815 ⟨0, s728, rfl, ⟨rfl, rfl, rfl, rfl, rfl, trivial⟩, rfl, rfl⟩ ?_
   rintro s ρ _ _ r873 ⟨i842, s843, rfl, hf871, rfl, rfl⟩ h870
   obtain ⟨ρ, rfl⟩ := hf871.ex
   refine cr <| jv (.bool (decide (i842 < (((xa.2.2.2.1.length : Nat) : Int))))) (V.lss rfl rfl) <| J.nil <| CJ.seq <| cc rfl h870 (fun hc874 h870 => ?_) fun hc874 h870 => ?_
   · refine CJ.skip <| CJ.seq <| CJ.block <| CJ.seq <| CJ.region ?_
     obtain ⟨x875, hx876, h870⟩ := ob h870
     obtain ⟨p877, p878, p879⟩ := getI_some hx876
     obtain ⟨b880, o881, e882, a883⟩ := (fxa_3).at p878
     refine jv _ (V.iad Tryz.underlying27 sz30 rfl e882 rfl p877 p879) ?_
     obtain ⟨ad884, cp885, c886, f887⟩ := ((a883).one).sl
     refine jv (.agg #[.slice ad884 x875.length cp885]) (V.ld rfl (Ld.aggK (cs := [.slice ad884 x875.length cp885]) Tryz.underlying30 sz30 rfl ⟨c886, trivial⟩ (Hp.le_refl _))) <| jal inf30 [nos] rfl fun b888 => js [.slice ad884 x875.length cp885] sz30 rfl rfl rfl rfl rfl rfl <| J.nil <| CJ.region <| jv (.agg #[.slice ad884 x875.length cp885]) (V.ld rfl (Ld.agg (cs := [.slice ad884 x875.length cp885]) Tryz.underlying30 sz30 rfl (Rd.cls 0 0 rfl rfl))) ?_
     obtain ⟨r889, hr890, h870⟩ := ob h870
     refine J.op rfl (A.call (L1 := []) Tryz.call56 rfl (sig_PutType_ok f887 hr890) rfl rfl) ?_
     rintro _ _ _ ⟨v892, _, rfl, ⟨⟨s891, rfl, rfl, rfl⟩, rfl⟩, _, rfl⟩
     refine J.front 2 rfl ?_
     obtain ⟨s895, hs896, h870⟩ := ob h870
     refine J.op rfl (A.call (L1 := [Bld b694 s843]) Tryz.call52 rfl (WriteString_ok hs896) rfl rfl) ?_
     rintro _ _ _ ⟨v897, _, rfl, ⟨⟨s895, rfl, rfl, rfl⟩, rfl⟩, _, rfl⟩
     refine J.nil <| CJ.region <| jv (ii (IntKind.wrap .i64 (i842 + 1))) (V.add rfl rfl) <| jm (ii (IntKind.wrap .i64 (i842 + 1))) rfl <| J.dropAt 1 rfl <| J.front 1 rfl <| J.nil ?_
     obtain rfl := si h870
     exact ⟨rfl, ⟨IntKind.wrap .i64 (i842 + 1), s895, rfl, ⟨rfl, rfl, rfl, rfl, rfl, trivial⟩, rfl, rfl⟩⟩
   refine CJ.exit ?_
   obtain rfl := si h870
   refine ⟨nofun, fun e => ?_⟩
   subst e
   exact ⟨rfl, ⟨s843, rfl, ⟨rfl, rfl, trivial⟩, rfl, rfl⟩⟩
 rintro ρ _ _ ⟨s813, rfl, hf898, rfl, rfl⟩
 obtain ⟨ρ, rfl⟩ := hf898.ex
 refine PJ.done <| cr <| jv _ (V.fad Tryz.underlying34 rfl nz30 rfl) <| jv (.agg #[.slice adxa_4 xa.2.2.2.2.1.length cpxa_4]) (V.ld rfl (Ld.agg (cs := [.slice adxa_4 xa.2.2.2.2.1.length cpxa_4]) Tryz.underlying30 sz30 rfl (Rd.cls 0 4 rfl rfl))) ?_
 obtain ⟨r900, hr901, h⟩ := ob h
 refine J.op rfl (A.call (L1 := []) Tryz.call56 rfl (sig_PutType_ok fxa_4 hr901) rfl rfl) ?_
 rintro _ _ _ ⟨v903, _, rfl, ⟨⟨s902, rfl, rfl, rfl⟩, rfl⟩, _, rfl⟩
 refine J.front 1 rfl ?_
 obtain ⟨s906, hs907, h⟩ := ob h
 refine J.op rfl (A.call (L1 := [Bld b694 s813]) Tryz.call52 rfl (WriteString_ok hs907) rfl rfl) ?_
 rintro _ _ _ ⟨v908, _, rfl, ⟨⟨s906, rfl, rfl, rfl⟩, rfl⟩, _, rfl⟩
 refine J.nil <| cr <| jv _ (V.fad Tryz.underlying34 rfl nz31 rfl) <| jv (.slice adxa_5 xa.2.2.2.2.2.1.length cpxa_5) (V.ld rfl (Ld.sc sc31 (Rd.cl 1 rfl rfl))) <| jv (ii (((xa.2.2.2.2.2.1.length : Nat) : Int))) (V.len Tryz.underlying31 rfl) ?_
 obtain ⟨r909, hr910, h⟩ := ob h
 refine J.op rfl (A.call (L1 := []) Tryz.call55 rfl (leb_Put_ok hr910) rfl rfl) ?_
 rintro _ _ _ ⟨v912, _, rfl, ⟨⟨s911, rfl, rfl, rfl⟩, rfl⟩, _, rfl⟩
 obtain ⟨s915, hs916, h⟩ := ob h
 refine J.op rfl (A.call (L1 := [Bld b694 s906]) Tryz.call52 rfl (WriteString_ok hs916) rfl rfl) ?_
 rintro _ _ _ ⟨v917, _, rfl, ⟨⟨s915, rfl, rfl, rfl⟩, rfl⟩, _, rfl⟩
 refine J.nil <| CJ.seq <| cr <| jv _ (V.fad Tryz.underlying34 rfl nz31 rfl) <| jv (.slice adxa_5 xa.2.2.2.2.2.1.length cpxa_5) (V.ld rfl (Ld.sc sc31 (Rd.cl 1 rfl rfl))) <| jv (ii (((xa.2.2.2.2.2.1.length : Nat) : Int))) (V.len Tryz.underlying31 rfl) ?_
 refine jm (ii 0) rfl <| J.nil ?_
 obtain ⟨o1025, ho1026, h⟩ := ob h
 refine CJ.meetN (fun ρ K' L' => ∃ (s1024 : List UInt8), s1024 = o1025 ∧ Fits [(1, .pointer (some ⟨b693, 0, none⟩)), (4, .pointer (some ⟨b694, 0, none⟩))] ρ ∧ K = K' ∧ L' = Cl b693 34 [ii xa.1, ii xa.2.1, .slice adxa_2 xa.2.2.1.length cpxa_2, .slice adxa_3 xa.2.2.2.1.length cpxa_3, .slice adxa_4 xa.2.2.2.2.1.length cpxa_4, .slice adxa_5 xa.2.2.2.2.2.1.length cpxa_5, .slice adxa_6 xa.2.2.2.2.2.2.length cpxa_6] :: Bld b694 s1024 :: F) ?_ ?_
 · refine CJ.block <| CJ.front 1 rfl <| CJ.loop (fun s ρ K' L' => ∃ (i1061 : Int) (s1062 : List UInt8), (i1061, s1062) = s ∧ Fits [(1, .pointer (some ⟨b693, 0, none⟩)), (4, .pointer (some ⟨b694, 0, none⟩)), (50, .slice adxa_5 xa.2.2.2.2.2.1.length cpxa_5), (51, ii (((xa.2.2.2.2.2.1.length : Nat) : Int))), (52, ii i1061)] ρ ∧ K = K' ∧ L' = Cl b693 34 [ii xa.1, ii xa.2.1, .slice adxa_2 xa.2.2.1.length cpxa_2, .slice adxa_3 xa.2.2.2.1.length cpxa_3, .slice adxa_4 xa.2.2.2.2.1.length cpxa_4, .slice adxa_5 xa.2.2.2.2.2.1.length cpxa_5, .slice adxa_6 xa.2.2.2.2.2.2.length cpxa_6] :: Bld b694 s1062 :: F) ho1026 ⟨0, s915, rfl, ⟨rfl, rfl, rfl, rfl, rfl, trivial⟩, rfl, rfl⟩ ?_
   rintro s ρ _ _ r1100 ⟨i1061, s1062, rfl, hf1098, rfl, rfl⟩ h1097
   obtain ⟨ρ, rfl⟩ := hf1098.ex
   refine cr <| jv (.bool (decide (i1061 < (((xa.2.2.2.2.2.1.length : Nat) : Int))))) (V.lss rfl rfl) <| J.nil <| CJ.seq <| cc rfl h1097 (fun hc1101 h1097 => ?_) fun hc1101 h1097 => ?_
   · refine CJ.skip <| CJ.seq <| CJ.block <| CJ.seq <| CJ.region ?_
     obtain ⟨x1102, hx1103, h1097⟩ := ob h1097
     obtain ⟨p1104, p1105, p1106⟩ := getI_some hx1103
     obtain ⟨b1107, o1108, e1109, a1110⟩ := (fxa_5).at p1105
     refine jv _ (V.iad Tryz.underlying31 sz63 rfl e1109 rfl p1104 p1106) ?_
     obtain ⟨ad1111, cp1112, c1113, f1114⟩ := (((a1110).snd).fst).sl
     obtain ⟨ad1115, cp1116, c1117, f1118⟩ := ((((a1110).snd).snd).fst).sl
     obtain ⟨ad1119, cp1120, c1121, f1122⟩ := ((((((a1110).snd).snd).snd).one).one).sl
     refine jv (.agg #[ii x1102.1, .slice ad1111 x1102.2.1.length cp1112, .slice ad1115 x1102.2.2.1.length cp1116, .slice ad1119 x1102.2.2.2.length cp1120]) (V.ld rfl (Ld.aggK (cs := [ii x1102.1, .slice ad1111 x1102.2.1.length cp1112, .slice ad1115 x1102.2.2.1.length cp1116, .slice ad1119 x1102.2.2.2.length cp1120]) Tryz.underlying63 sz63 rfl ⟨((a1110).fst).int, c1113, c1117, c1121, trivial⟩ (Hp.le_refl _))) <| jal inf63 [ii 0, nos, nos, nos] rfl fun b1123 => js [ii x1102.1, .slice ad1111 x1102.2.1.length cp1112, .slice ad1115 x1102.2.2.1.length cp1116, .slice ad1119 x1102.2.2.2.length cp1120] sz63 rfl rfl rfl rfl rfl rfl <| J.nil <| CJ.region <| jv (.agg #[ii x1102.1, .slice ad1111 x1102.2.1.length cp1112, .slice ad1115 x1102.2.2.1.length cp1116, .slice ad1119 x1102.2.2.2.length cp1120]) (V.ld rfl (Ld.agg (cs := [ii x1102.1, .slice ad1111 x1102.2.1.length cp1112, .slice ad1115 x1102.2.2.1.length cp1116, .slice ad1119 x1102.2.2.2.length cp1120]) Tryz.underlying63 sz63 rfl (Rd.cls 0 0 rfl rfl))) ?_
     obtain ⟨r1124, hr1125, h1097⟩ := ob h1097
     refine J.op rfl (A.call (L1 := []) Tryz.call57 rfl (sig_Put_ok f1114 f1118 f1122 hr1125) rfl rfl) ?_
     rintro _ _ _ ⟨v1127, _, rfl, ⟨⟨s1126, rfl, rfl, rfl⟩, rfl⟩, _, rfl⟩
     refine J.front 2 rfl ?_
     obtain ⟨s1130, hs1131, h1097⟩ := ob h1097
     refine J.op rfl (A.call (L1 := [Bld b694 s1062]) Tryz.call52 rfl (WriteString_ok hs1131) rfl rfl) ?_
     rintro _ _ _ ⟨v1132, _, rfl, ⟨⟨s1130, rfl, rfl, rfl⟩, rfl⟩, _, rfl⟩
     refine J.nil <| CJ.region <| jv (ii (IntKind.wrap .i64 (i1061 + 1))) (V.add rfl rfl) <| jm (ii (IntKind.wrap .i64 (i1061 + 1))) rfl <| J.dropAt 1 rfl <| J.front 1 rfl <| J.nil ?_
     obtain rfl := si h1097
     exact ⟨rfl, ⟨IntKind.wrap .i64 (i1061 + 1), s1130, rfl, ⟨rfl, rfl, rfl, rfl, rfl, trivial⟩, rfl, rfl⟩⟩
   refine CJ.exit ?_
   obtain rfl := si h1097
   refine ⟨nofun, fun e => ?_⟩
   subst e
   exact ⟨rfl, ⟨s1062, rfl, ⟨rfl, rfl, trivial⟩, rfl, rfl⟩⟩
 rintro ρ _ _ ⟨s1024, rfl, hf1133, rfl, rfl⟩
 obtain ⟨ρ, rfl⟩ := hf1133.ex
 refine PJ.done <| cr <| jv _ (V.fad Tryz.underlying34 rfl nz32 rfl) <| jv (.slice adxa_6 xa.2.2.2.2.2.2.length cpxa_6) (V.ld rfl (Ld.sc sc32 (Rd.cl 0 rfl rfl))) <| jv (ii (((xa.2.2.2.2.2.2.length : Nat) : Int))) (V.len Tryz.underlying32 rfl) ?_
 obtain ⟨r1135, hr1136, h⟩ := ob h
 refine J.op rfl (A.call (L1 := []) Tryz.call55 rfl (leb_Put_ok hr1136) rfl rfl) ?_
 rintro _ _ _ ⟨v1138, _, rfl, ⟨⟨s1137, rfl, rfl, rfl⟩, rfl⟩, _, rfl⟩
 refine J.front 1 rfl ?_
 obtain ⟨s1141, hs1142, h⟩ := ob h
 refine J.op rfl (A.call (L1 := [Bld b694 s1024]) Tryz.call52 rfl (WriteString_ok hs1142) rfl rfl) ?_
 rintro _ _ _ ⟨v1143, _, rfl, ⟨⟨s1141, rfl, rfl, rfl⟩, rfl⟩, _, rfl⟩
 refine J.nil <| CJ.seq <| cr <| jv _ (V.fad Tryz.underlying34 rfl nz32 rfl) <| jv (.slice adxa_6 xa.2.2.2.2.2.2.length cpxa_6) (V.ld rfl (Ld.sc sc32 (Rd.cl 1 rfl rfl))) <| jv (ii (((xa.2.2.2.2.2.2.length : Nat) : Int))) (V.len Tryz.underlying32 rfl) ?_
 refine jm (ii 0) rfl <| J.nil ?_
 obtain ⟨o1260, ho1261, h⟩ := ob h
 refine CJ.joinN (o := o1260) (fun s ρ K' L' => ∃ (s1259 : List UInt8), s1259 = s ∧ Fits [(4, .pointer (some ⟨b694, 0, none⟩))] ρ ∧ K = K' ∧ L' = Bld b694 s1259 :: F) ?_ ?_
 · refine CJ.block <| CJ.dropAt 1 rfl <| CJ.loop (fun s ρ K' L' => ∃ (i1299 : Int) (s1300 : List UInt8), (i1299, s1300) = s ∧ Fits [(4, .pointer (some ⟨b694, 0, none⟩)), (66, .slice adxa_6 xa.2.2.2.2.2.2.length cpxa_6), (67, ii (((xa.2.2.2.2.2.2.length : Nat) : Int))), (68, ii i1299)] ρ ∧ K = K' ∧ L' = Bld b694 s1300 :: F) ho1261 ⟨0, s1141, rfl, ⟨rfl, rfl, rfl, rfl, trivial⟩, rfl, rfl⟩ ?_
   rintro s ρ _ _ r1341 ⟨i1299, s1300, rfl, hf1339, rfl, rfl⟩ h1338
   obtain ⟨ρ, rfl⟩ := hf1339.ex
   refine cr <| jv (.bool (decide (i1299 < (((xa.2.2.2.2.2.2.length : Nat) : Int))))) (V.lss rfl rfl) <| J.nil <| CJ.seq <| cc rfl h1338 (fun hc1342 h1338 => ?_) fun hc1342 h1338 => ?_
   · refine CJ.skip <| CJ.seq <| CJ.block <| CJ.seq <| CJ.region ?_
     obtain ⟨x1343, hx1344, h1338⟩ := ob h1338
     obtain ⟨p1345, p1346, p1347⟩ := getI_some hx1344
     obtain ⟨b1348, o1349, e1350, a1351⟩ := (fxa_6).at p1346
     refine jv _ (V.iad Tryz.underlying32 sz70 rfl e1350 rfl p1345 p1347) ?_
     obtain ⟨ad1352, cp1353, c1354, f1355⟩ := ((a1351).fst).sl
     obtain ⟨ad1356, cp1357, c1358, f1359⟩ := (((((((a1351).snd).one).snd).snd).snd).fst).sl
     obtain ⟨ad1360, cp1361, c1362, f1363⟩ := ((((((((a1351).snd).one).snd).snd).snd).snd).fst).sl
     obtain ⟨ad1364, cp1365, c1366, f1367⟩ := (((((((((a1351).snd).one).snd).snd).snd).snd).snd).one).sl
     refine jv (.agg #[.slice ad1352 x1343.1.length cp1353, ii x1343.2.1, ii x1343.2.2.1, ii x1343.2.2.2.1, .slice ad1356 x1343.2.2.2.2.1.length cp1357, .slice ad1360 x1343.2.2.2.2.2.1.length cp1361, .slice ad1364 x1343.2.2.2.2.2.2.length cp1365]) (V.ld rfl (Ld.aggK (cs := [.slice ad1352 x1343.1.length cp1353, ii x1343.2.1, ii x1343.2.2.1, ii x1343.2.2.2.1, .slice ad1356 x1343.2.2.2.2.1.length cp1357, .slice ad1360 x1343.2.2.2.2.2.1.length cp1361, .slice ad1364 x1343.2.2.2.2.2.2.length cp1365]) Tryz.underlying70 sz70 rfl ⟨c1354, ((((a1351).snd).one).fst).int, (((((a1351).snd).one).snd).fst).int, ((((((a1351).snd).one).snd).snd).fst).int, c1358, c1362, c1366, trivial⟩ (Hp.le_refl _))) <| jal inf70 [nos, ii 0, ii 0, ii 0, nos, nos, nos] rfl fun b1368 => js [.slice ad1352 x1343.1.length cp1353, ii x1343.2.1, ii x1343.2.2.1, ii x1343.2.2.2.1, .slice ad1356 x1343.2.2.2.2.1.length cp1357, .slice ad1360 x1343.2.2.2.2.2.1.length cp1361, .slice ad1364 x1343.2.2.2.2.2.2.length cp1365] sz70 rfl rfl rfl rfl rfl rfl <| J.nil <| cr <| jv (.agg #[.slice ad1352 x1343.1.length cp1353, ii x1343.2.1, ii x1343.2.2.1, ii x1343.2.2.2.1, .slice ad1356 x1343.2.2.2.2.1.length cp1357, .slice ad1360 x1343.2.2.2.2.2.1.length cp1361, .slice ad1364 x1343.2.2.2.2.2.2.length cp1365]) (V.ld rfl (Ld.agg (cs := [.slice ad1352 x1343.1.length cp1353, ii x1343.2.1, ii x1343.2.2.1, ii x1343.2.2.2.1, .slice ad1356 x1343.2.2.2.2.1.length cp1357, .slice ad1360 x1343.2.2.2.2.2.1.length cp1361, .slice ad1364 x1343.2.2.2.2.2.2.length cp1365]) Tryz.underlying70 sz70 rfl (Rd.cls 0 0 rfl rfl))) ?_
     obtain ⟨r1369, hr1370, h1338⟩ := ob h1338
     refine J.front 1 rfl <| J.op rfl (A.call (L1 := [Bld b694 s1300]) Tryz.call58 rfl (body_putBlock_p0a_s_ok f1355 f1359 f1363 f1367 hr1370) rfl rfl) ?_
     rintro _ _ _ ⟨v1373, _, rfl, ⟨⟨i1371, s1372, rfl, rfl, rfl⟩, rfl⟩, _, rfl⟩
     refine ja (ii i1371) rfl <| J.nil <| cr <| jm (ii i1371) rfl <| jv (.bool (!decide (i1371 = 0))) (V.neq rfl rfl) <| J.nil ?_
     refine cc rfl h1338 (fun hc1376 h1338 => ?_) fun hc1376 h1338 => ?_
     · refine cr <| jm (ii i1371) rfl <| ja (.string ⟨([] : List UInt8).toArray⟩) rfl <| ja (ii i1371) rfl <| J.nil <| CJ.ret ?_
       obtain rfl := si h1338
       refine ⟨nofun, fun e => ?_⟩
       subst e
       refine .inr ⟨nofun, ?_⟩
       obtain rfl := si h
       exact ⟨_, _, Res.two rfl rfl rfl, ⟨([] : List UInt8), i1371, rfl, rfl, rfl⟩, (Hp.le_refl _), fun w hs => (Sep.dropAt 0 rfl (Sep.dropAt 0 rfl hs))⟩
     refine CJ.skip <| CJ.region <| jv (ii (IntKind.wrap .i64 (i1299 + 1))) (V.add rfl rfl) <| jm (ii (IntKind.wrap .i64 (i1299 + 1))) rfl <| J.dropAt 1 rfl <| J.nil ?_
     obtain rfl := si h1338
     exact ⟨rfl, ⟨IntKind.wrap .i64 (i1299 + 1), s1372, rfl, ⟨rfl, rfl, rfl, rfl, trivial⟩, rfl, rfl⟩⟩
   refine CJ.exit ?_
   obtain rfl := si h1338
   refine ⟨nofun, fun e => ?_⟩
   subst e
   exact .inl ⟨rfl, _, rfl, ⟨s1300, rfl, ⟨rfl, trivial⟩, rfl, rfl⟩⟩
 rintro s ρ _ _ ho1377 ⟨s1259, rfl, hf1378, rfl, rfl⟩
 subst ho1377
 obtain ⟨ρ, rfl⟩ := hf1378.ex
 refine PJ.done <| CJ.seq <| CJ.region ?_
 obtain ⟨s1380, hs1381, h⟩ := ob h
 refine J.op rfl (A.call (L1 := [Bld b694 s1259]) Tryz.call59 rfl (BString_ok hs1381) rfl rfl) ?_
 rintro _ _ _ ⟨v1382, _, rfl, ⟨⟨s1380, rfl, rfl, rfl⟩, rfl⟩, _, rfl⟩
 refine ja (.string ⟨s1380.toArray⟩) rfl <| ja (ii 0) rfl <| J.nil <| CJ.ret ?_
 obtain rfl := si h
 exact ⟨_, _, Res.two rfl rfl rfl, ⟨s1380, 0, rfl, rfl, rfl⟩, (Hp.le_refl _), fun w hs => hs⟩

noncomputable def fn_internal_stringslite_HasPrefix (xa : (List UInt8)) (xb : (List UInt8)) : Option Bool :=
  (cond (decide ((((xb.length : Nat) : Int)) ≤ (((xa.length : Nat) : Int)))) ((subL xa 0 (((xb.length : Nat) : Int))).bind fun y16 => some (decide (y16 = xb))) (some (false))).bind fun t13 => some (t13)
set_option maxRecDepth 100000 in
set_option maxHeartbeats 4000000 in
theorem internal_stringslite_HasPrefix_ok {K : Hp} {xa : (List UInt8)} {xb : (List UInt8)}   {r : Bool} (h : fn_internal_stringslite_HasPrefix xa xb = some r) :
    Tr Tryz.prog 98 #[.string ⟨xa.toArray⟩, .string ⟨xb.toArray⟩] K [] (fun v K' L' => (∃ (t9 : Bool), t9 = r ∧ .bool t9 = v ∧ L' = []) ∧ K = K') := by
 refine Tr.k <| Tr.of Tryz.func98 rfl Tryz.ntmps98 rfl fun E F => ?_
 unfold fn_internal_stringslite_HasPrefix at h
 refine cr <| ja (.bool false) rfl <| J.nil <| cr <| jm (.string ⟨xa.toArray⟩) rfl ?_
 refine jv (ii (((xa.length : Nat) : Int))) (V.lens Tryz.underlying9 rfl) <| jm (.string ⟨xb.toArray⟩) rfl <| jv (ii (((xb.length : Nat) : Int))) (V.lens Tryz.underlying9 rfl) <| jv (.bool (decide ((((xb.length : Nat) : Int)) ≤ (((xa.length : Nat) : Int))))) (V.geq rfl rfl) <| jm (.bool (decide ((((xb.length : Nat) : Int)) ≤ (((xa.length : Nat) : Int))))) rfl <| J.cut 7 ?_
 obtain ⟨t13, ht14, h⟩ := ob h
 refine jmeet [(17, .bool t13)] ?_ ?_
 · rcases bt (decide ((((xb.length : Nat) : Int)) ≤ (((xa.length : Nat) : Int)))) with hc15 | hc15
   · have ht14 := ct hc15 ht14
     refine J.run rfl rfl rfl hc15 <| jm (.string ⟨xa.toArray⟩) rfl <| J.run rfl rfl rfl hc15 <| jm (.string ⟨xb.toArray⟩) rfl <| J.run rfl rfl rfl hc15 <| jv (ii (((xb.length : Nat) : Int))) (V.lens Tryz.underlying9 rfl) <| J.run rfl rfl rfl hc15 ?_
     obtain ⟨y16, hy17, ht14⟩ := ob ht14
     refine jv (.string ⟨y16.toArray⟩) (V.subs Tryz.underlying9 rfl nofun (fun _ => rfl) (fun _ h => by cases h; exact ⟨_, rfl⟩) nofun hy17) <| J.run rfl rfl rfl hc15 <| jm (.string ⟨xb.toArray⟩) rfl <| J.run rfl rfl rfl hc15 <| jv (.bool (decide (y16 = xb))) (V.eqs rfl rfl) <| jv (.bool (decide (y16 = xb))) (V.pickT rfl hc15 rfl) <| J.nil ?_
     obtain rfl := si ht14
     exact ⟨rfl, ⟨rfl, trivial⟩, rfl, rfl⟩
   have ht14 := cf hc15 ht14
   refine J.skip rfl rfl rfl rfl hc15 <| J.skip rfl rfl rfl rfl hc15 <| J.skip rfl rfl rfl rfl hc15 <| J.skip rfl rfl rfl rfl hc15 <| J.skip rfl rfl rfl rfl hc15 <| J.skip rfl rfl rfl rfl hc15 <| jv (.bool false) (V.pickF rfl hc15 rfl) ?_
   refine J.nil ?_
   obtain rfl := si ht14
   exact ⟨rfl, ⟨rfl, trivial⟩, rfl, rfl⟩
 intro ρ
 refine ja (.bool t13) rfl <| J.nil <| CJ.ret ?_
 obtain rfl := si h
 exact ⟨_, _, Res.one rfl rfl, ⟨t13, rfl, rfl, rfl⟩, (Hp.le_refl _), fun w hs => hs⟩

noncomputable def fn_internal_stringslite_CutPrefix (xa : (List UInt8)) (xb : (List UInt8)) : Option (List UInt8 × Bool) :=
  (fn_internal_stringslite_HasPrefix xa xb).bind fun t14 => cond (!t14) (some ((xa, false))) ((subL xa (((xb.length : Nat) : Int)) (((xa.length : Nat) : Int))).bind fun y19 => some ((y19, true)))
set_option maxRecDepth 100000 in
set_option maxHeartbeats 4000000 in
theorem internal_stringslite_CutPrefix_ok {K : Hp} {xa : (List UInt8)} {xb : (List UInt8)}   {r : (List UInt8 × Bool)} (h : fn_internal_stringslite_CutPrefix xa xb = some r) :
    Tr Tryz.prog 61 #[.string ⟨xa.toArray⟩, .string ⟨xb.toArray⟩] K [] (fun v K' L' => (∃ (s10 : List UInt8) (t11 : Bool), (s10, t11) = r ∧ .tuple #[.string ⟨s10.toArray⟩, .bool t11] = v ∧ L' = []) ∧ K = K') := by
 refine Tr.k <| Tr.of Tryz.func61 rfl Tryz.ntmps61 rfl fun E F => ?_
 unfold fn_internal_stringslite_CutPrefix at h
 refine cr <| ja (.string ⟨([] : List UInt8).toArray⟩) rfl <| ja (.bool false) rfl <| J.nil <| CJ.seq <| CJ.seq ?_
 refine CJ.region <| jm (.string ⟨xa.toArray⟩) rfl <| jm (.string ⟨xb.toArray⟩) rfl ?_
 obtain ⟨r12, hr13, h⟩ := ob h
 refine J.op rfl (A.call (L1 := []) Tryz.call98 rfl (internal_stringslite_HasPrefix_ok hr13) rfl rfl) ?_
 rintro _ _ _ ⟨v15, _, rfl, ⟨⟨t14, rfl, rfl, rfl⟩, rfl⟩, _, rfl⟩
 refine jv (.bool (!t14)) (V.not rfl) <| J.nil <| cc rfl h (fun hc18 h => ?_) fun hc18 h => ?_
 · refine cr <| jm (.string ⟨xa.toArray⟩) rfl <| ja (.string ⟨xa.toArray⟩) rfl <| ja (.bool false) rfl <| J.nil <| CJ.ret ?_
   obtain rfl := si h
   exact ⟨_, _, Res.two rfl rfl rfl, ⟨xa, false, rfl, rfl, rfl⟩, (Hp.le_refl _), fun w hs => hs⟩
 refine CJ.skip <| cr <| jm (.string ⟨xa.toArray⟩) rfl <| jm (.string ⟨xb.toArray⟩) rfl <| jv (ii (((xb.length : Nat) : Int))) (V.lens Tryz.underlying9 rfl) ?_
 obtain ⟨y19, hy20, h⟩ := ob h
 refine jv (.string ⟨y19.toArray⟩) (V.subs Tryz.underlying9 rfl (fun _ h => by cases h; exact ⟨_, rfl⟩) nofun nofun (fun _ => rfl) hy20) <| ja (.string ⟨y19.toArray⟩) rfl <| ja (.bool true) rfl <| J.nil <| CJ.ret ?_
 obtain rfl := si h
 exact ⟨_, _, Res.two rfl rfl rfl, ⟨y19, true, rfl, rfl, rfl⟩, (Hp.le_refl _), fun w hs => hs⟩

noncomputable def fn_strings_CutPrefix (xa : (List UInt8)) (xb : (List UInt8)) : Option (List UInt8 × Bool) :=
  (fn_internal_stringslite_CutPrefix xa xb).bind fun (s12, t13) => some ((s12, t13))
set_option maxRecDepth 100000 in
set_option maxHeartbeats 4000000 in
theorem strings_CutPrefix_ok {K : Hp} {xa : (List UInt8)} {xb : (List UInt8)}   {r : (List UInt8 × Bool)} (h : fn_strings_CutPrefix xa xb = some r) :
    Tr Tryz.prog 16 #[.string ⟨xa.toArray⟩, .string ⟨xb.toArray⟩] K [] (fun v K' L' => (∃ (s8 : List UInt8) (t9 : Bool), (s8, t9) = r ∧ .tuple #[.string ⟨s8.toArray⟩, .bool t9] = v ∧ L' = []) ∧ K = K') := by
 refine Tr.k <| Tr.of Tryz.func16 rfl Tryz.ntmps16 rfl fun E F => ?_
 unfold fn_strings_CutPrefix at h
 refine cr <| ja (.string ⟨([] : List UInt8).toArray⟩) rfl <| ja (.bool false) rfl <| J.nil <| CJ.seq <| CJ.region ?_
 refine jm (.string ⟨xa.toArray⟩) rfl <| jm (.string ⟨xb.toArray⟩) rfl ?_
 obtain ⟨r10, hr11, h⟩ := ob h
 refine J.op rfl (A.call (L1 := []) Tryz.call61 rfl (internal_stringslite_CutPrefix_ok hr11) rfl rfl) ?_
 rintro _ _ _ ⟨v14, _, rfl, ⟨⟨s12, t13, rfl, rfl, rfl⟩, rfl⟩, _, rfl⟩
 refine jx (.string ⟨s12.toArray⟩) rfl rfl <| jx (.bool t13) rfl rfl <| ja (.string ⟨s12.toArray⟩) rfl <| ja (.bool t13) rfl <| J.nil <| CJ.ret ?_
 obtain rfl := si h
 exact ⟨_, _, Res.two rfl rfl rfl, ⟨s12, t13, rfl, rfl, rfl⟩, (Hp.le_refl _), fun w hs => hs⟩
end Go.Proofs.YtmdmdmaekjpfjaaGreat
