/- What Go functions answer: generated. -/
import Derived.Test.YtmdmdmaekjpfjaaGreatF2
namespace Go.Proofs.YtmdmdmaekjpfjaaGreat
open Go.RowKit
set_option linter.unusedVariables false
set_option linter.unnecessarySimpa false
set_option linter.unusedSimpArgs false
set_option maxRecDepth 20000
noncomputable def fn_ref17_Bounds_l1 (xa : (List (Int × Int))) (xb : (List (Int × Int))) : Int → Option (Int ⊕ (Unit ⊕ Bool)) := fun (i413 : Int) => cond (decide (i413 < (((xa.length : Nat) : Int)))) ((getI xa i413).bind fun x476 => (getI xb i413).bind fun x485 => cond (!((decide (x476.1 = x485.1)) && ((decide (x476.2 = x485.2))))) (some (.inr ((.inr (false))))) (some (.inl (IntKind.wrap .i64 (i413 + 1))))) (some (.inr ((.inl ()))))
noncomputable def fn_ref17_Bounds (xa : (List (Int × Int))) (xb : (List (Int × Int))) : Option Bool :=
  cond (!decide ((((xa.length : Nat) : Int)) = (((xb.length : Nat) : Int)))) (some (false)) ((loop (fn_ref17_Bounds_l1 xa xb) 0 : Option (Unit ⊕ Bool)).bind fun o => match o with | .inr r => some r | .inl () => some (true))
set_option maxRecDepth 100000 in
set_option maxHeartbeats 4000000 in
theorem ref17_Bounds_ok {K : Hp} {xa : (List (Int × Int))} {xb : (List (Int × Int))} {adxa_0 : Option Addr} {cpxa_0 : Nat} {adxb_0 : Option Addr} {cpxb_0 : Nat} (fxa_0 : Is K (.sl (.cons (.int .i64) (.one (.int .i64)))) [.slice adxa_0 xa.length cpxa_0] xa) (fxb_0 : Is K (.sl (.cons (.int .i64) (.one (.int .i64)))) [.slice adxb_0 xb.length cpxb_0] xb) {r : Bool} (h : fn_ref17_Bounds xa xb = some r) :
    Tr Tryz.prog 36 #[.slice adxa_0 xa.length cpxa_0, .slice adxb_0 xb.length cpxb_0] K [] (fun v K' L' => (∃ (t249 : Bool), t249 = r ∧ .bool t249 = v ∧ L' = []) ∧ K = K') := by
 refine Tr.k <| Tr.of Tryz.func36 rfl Tryz.ntmps36 rfl fun E F => ?_
 unfold fn_ref17_Bounds at h
 refine CJ.seq <| CJ.region <| ja (.bool false) rfl <| J.nil <| CJ.seq <| CJ.seq <| CJ.region ?_
 refine jm (.slice adxa_0 xa.length cpxa_0) rfl <| jv (ii (((xa.length : Nat) : Int))) (V.len Tryz.underlying26 rfl) <| jm (.slice adxb_0 xb.length cpxb_0) rfl <| jv (ii (((xb.length : Nat) : Int))) (V.len Tryz.underlying26 rfl) <| jv (.bool (!decide ((((xa.length : Nat) : Int)) = (((xb.length : Nat) : Int))))) (V.neq rfl rfl) <| J.nil <| cc rfl h (fun hc250 h => ?_) fun hc250 h => ?_
 · refine CJ.seq <| CJ.region <| ja (.bool false) rfl <| J.nil <| CJ.ret ?_
   obtain rfl := si h
   exact ⟨_, _, Res.one rfl rfl, ⟨false, rfl, rfl, rfl⟩, (Hp.le_refl _), fun w hs => hs⟩
 refine CJ.skip <| CJ.seq <| CJ.seq <| CJ.region <| ja (ii 0) rfl <| J.nil ?_
 obtain ⟨o372, ho373, h⟩ := ob h
 refine CJ.joinN (o := o372) (fun s ρ K' L' => () = s ∧ Fits [] ρ ∧ K = K' ∧ F = L') ?_ ?_
 · refine CJ.block <| CJ.loop (fun s ρ K' L' => ∃ (i413 : Int), i413 = s ∧ Fits [(0, .slice adxa_0 xa.length cpxa_0), (1, .slice adxb_0 xb.length cpxb_0), (5, ii i413)] ρ ∧ K = K' ∧ F = L') ho373 ⟨0, rfl, ⟨rfl, rfl, rfl, trivial⟩, rfl, rfl⟩ ?_
   rintro s ρ _ _ r456 ⟨i413, rfl, hf454, rfl, rfl⟩ h453
   obtain ⟨ρ, rfl⟩ := hf454.ex
   refine CJ.seq <| CJ.seq <| CJ.region <| jm (ii i413) rfl <| jm (.slice adxa_0 xa.length cpxa_0) rfl <| jv (ii (((xa.length : Nat) : Int))) (V.len Tryz.underlying26 rfl) <| jv (.bool (decide (i413 < (((xa.length : Nat) : Int))))) (V.lss rfl rfl) ?_
   refine J.nil <| cc rfl h453 (fun hc457 h453 => ?_) fun hc457 h453 => ?_
   · refine CJ.skip <| CJ.seq <| CJ.block <| CJ.seq <| CJ.mix [] [] [0, 1, 2, 3, 4, 5, 6, 7, 8] [] mixO (by decide +kernel) trivial rfl rfl rfl <| JM.nil <| qm (.slice adxa_0 xa.length cpxa_0) rfl ?_
     refine qm (ii i413) rfl ?_
     obtain ⟨x476, hx477, h453⟩ := ob h453
     obtain ⟨p478, p479, p480⟩ := getI_some hx477
     obtain ⟨b481, o482, e483, a484⟩ := (fxa_0).at p479
     refine qv _ (V.iad Tryz.underlying26 sz95 rfl e483 rfl p478 p480) <| qv (.agg #[ii x476.1, ii x476.2]) (V.ld rfl (Ld.aggK (cs := [ii x476.1, ii x476.2]) Tryz.underlying95 sz95 rfl ⟨((a484).fst).int, (((a484).snd).one).int, trivial⟩ (Hp.le_refl _))) <| qm (.slice adxb_0 xb.length cpxb_0) rfl <| qm (ii i413) rfl ?_
     obtain ⟨x485, hx486, h453⟩ := ob h453
     obtain ⟨p487, p488, p489⟩ := getI_some hx486
     obtain ⟨b490, o491, e492, a493⟩ := (fxb_0).at p488
     refine qv _ (V.iad Tryz.underlying26 sz95 rfl e492 rfl p487 p489) <| qv (.agg #[ii x485.1, ii x485.2]) (V.ld rfl (Ld.aggK (cs := [ii x485.1, ii x485.2]) Tryz.underlying95 sz95 rfl ⟨((a493).fst).int, (((a493).snd).one).int, trivial⟩ (Hp.le_refl _))) <| qv (.bool (!((decide (x476.1 = x485.1)) && ((decide (x476.2 = x485.2)))))) (V.nest eqg95 (EqIn.st (d := 9999) rfl Tryz.underlying95 sih95 (EqFs.cons (by decide) (Ld0.sc sc3 rfl) (Ld0.sc sc3 rfl) (EqIn.int (d := 9998) rfl Tryz.underlying3) (EqFs.last (by decide) (Ld0.sc sc3 rfl) (Ld0.sc sc3 rfl) (EqIn.int (d := 9998) rfl Tryz.underlying3)))) rfl rfl) <| JQ.nil <| J.nil <| cc rfl h453 (fun hc494 h453 => ?_) fun hc494 h453 => ?_
     · refine CJ.seq <| CJ.region <| ja (.bool false) rfl <| J.nil <| CJ.ret ?_
       obtain rfl := si h453
       refine ⟨nofun, fun e => ?_⟩
       subst e
       refine .inr ⟨nofun, ?_⟩
       obtain rfl := si h
       exact ⟨_, _, Res.one rfl rfl, ⟨false, rfl, rfl, rfl⟩, (Hp.le_refl _), fun w hs => hs⟩
     refine CJ.skip <| CJ.region <| jm (ii i413) rfl <| jv (ii (IntKind.wrap .i64 (i413 + 1))) (V.add rfl rfl) <| ja (ii (IntKind.wrap .i64 (i413 + 1))) rfl <| J.nil ?_
     obtain rfl := si h453
     exact ⟨rfl, ⟨IntKind.wrap .i64 (i413 + 1), rfl, ⟨rfl, rfl, rfl, trivial⟩, rfl, rfl⟩⟩
   refine CJ.exit ?_
   obtain rfl := si h453
   refine ⟨nofun, fun e => ?_⟩
   subst e
   exact .inl ⟨rfl, _, rfl, ⟨rfl, trivial, rfl, rfl⟩⟩
 rintro s ρ _ _ ho495 ⟨rfl, hf496, rfl, rfl⟩
 subst ho495
 obtain ⟨ρ, rfl⟩ := hf496.ex
 refine PJ.done <| CJ.seq <| CJ.region <| ja (.bool true) rfl <| J.nil <| CJ.ret ?_
 obtain rfl := si h
 exact ⟨_, _, Res.one rfl rfl, ⟨true, rfl, rfl, rfl⟩, (Hp.le_refl _), fun w hs => hs⟩
noncomputable def fn_ref15_Shape_l1 (xa : (List (Int × Bool))) (xb : (List (Int × Bool))) : Int → Option (Int ⊕ (Unit ⊕ Bool)) := fun (i417 : Int) => cond (decide (i417 < (((xa.length : Nat) : Int)))) ((getI xa i417).bind fun x480 => (getI xb i417).bind fun x489 => cond (!(x480.2 == x489.2)) (some (.inr ((.inr (false))))) (some (.inl (IntKind.wrap .i64 (i417 + 1))))) (some (.inr ((.inl ()))))
noncomputable def fn_ref15_Shape (xa : (List (Int × Bool))) (xb : (List (Int × Bool))) : Option Bool :=
  cond (!decide ((((xa.length : Nat) : Int)) = (((xb.length : Nat) : Int)))) (some (false)) ((loop (fn_ref15_Shape_l1 xa xb) 0 : Option (Unit ⊕ Bool)).bind fun o => match o with | .inr r => some r | .inl () => some (true))
set_option maxRecDepth 100000 in
set_option maxHeartbeats 4000000 in
theorem ref15_Shape_ok {K : Hp} {xa : (List (Int × Bool))} {xb : (List (Int × Bool))} {adxa_0 : Option Addr} {cpxa_0 : Nat} {adxb_0 : Option Addr} {cpxb_0 : Nat} (fxa_0 : Is K (.sl (.cons (.int .i64) (.one .bool))) [.slice adxa_0 xa.length cpxa_0] xa) (fxb_0 : Is K (.sl (.cons (.int .i64) (.one .bool))) [.slice adxb_0 xb.length cpxb_0] xb) {r : Bool} (h : fn_ref15_Shape xa xb = some r) :
    Tr Tryz.prog 82 #[.agg #[.slice adxa_0 xa.length cpxa_0], .agg #[.slice adxb_0 xb.length cpxb_0]] K [] (fun v K' L' => (∃ (t251 : Bool), t251 = r ∧ .bool t251 = v ∧ L' = []) ∧ K = K') := by
 refine Tr.k <| Tr.of Tryz.func82 rfl Tryz.ntmps82 rfl fun E F => ?_
 unfold fn_ref15_Shape at h
 refine CJ.seq <| CJ.region <| jbx [.slice adxa_0 xa.length cpxa_0] rfl rfl fun b252 => jbx [.slice adxb_0 xb.length cpxb_0] rfl rfl fun b253 => ja (.bool false) rfl <| J.nil <| CJ.seq ?_
 refine CJ.seq <| CJ.region <| jv _ (V.fad Tryz.underlying30 rfl nz28 rfl) <| jv (.slice adxa_0 xa.length cpxa_0) (V.ld rfl (Ld.sc sc28 (Rd.cl 1 rfl rfl))) <| jv (ii (((xa.length : Nat) : Int))) (V.len Tryz.underlying28 rfl) <| jv _ (V.fad Tryz.underlying30 rfl nz28 rfl) <| jv (.slice adxb_0 xb.length cpxb_0) (V.ld rfl (Ld.sc sc28 (Rd.cl 0 rfl rfl))) ?_
 refine jv (ii (((xb.length : Nat) : Int))) (V.len Tryz.underlying28 rfl) <| jv (.bool (!decide ((((xa.length : Nat) : Int)) = (((xb.length : Nat) : Int))))) (V.neq rfl rfl) <| J.nil <| cc rfl h (fun hc254 h => ?_) fun hc254 h => ?_
 · refine CJ.seq <| CJ.region <| ja (.bool false) rfl <| J.nil <| CJ.ret ?_
   obtain rfl := si h
   exact ⟨_, _, Res.one rfl rfl, ⟨false, rfl, rfl, rfl⟩, (Hp.le_refl _), fun w hs => (Sep.dropAt 0 rfl (Sep.dropAt 0 rfl hs))⟩
 refine CJ.skip <| CJ.seq <| CJ.seq <| CJ.region <| ja (ii 0) rfl <| J.nil ?_
 obtain ⟨o376, ho377, h⟩ := ob h
 refine CJ.joinN (o := o376) (fun s ρ K' L' => () = s ∧ Fits [] ρ ∧ K = K' ∧ F = L') ?_ ?_
 · refine CJ.block <| CJ.front 1 rfl <| CJ.loop (fun s ρ K' L' => ∃ (i417 : Int), i417 = s ∧ Fits [(2, .pointer (some ⟨b252, 0, none⟩)), (3, .pointer (some ⟨b253, 0, none⟩)), (5, ii i417)] ρ ∧ K = K' ∧ L' = Cl b252 30 [.slice adxa_0 xa.length cpxa_0] :: Cl b253 30 [.slice adxb_0 xb.length cpxb_0] :: F) ho377 ⟨0, rfl, ⟨rfl, rfl, rfl, trivial⟩, rfl, rfl⟩ ?_
   rintro s ρ _ _ r460 ⟨i417, rfl, hf458, rfl, rfl⟩ h457
   obtain ⟨ρ, rfl⟩ := hf458.ex
   refine CJ.seq <| CJ.seq <| CJ.region <| jm (ii i417) rfl <| jv _ (V.fad Tryz.underlying30 rfl nz28 rfl) <| jv (.slice adxa_0 xa.length cpxa_0) (V.ld rfl (Ld.sc sc28 (Rd.cl 0 rfl rfl))) <| jv (ii (((xa.length : Nat) : Int))) (V.len Tryz.underlying28 rfl) ?_
   refine jv (.bool (decide (i417 < (((xa.length : Nat) : Int))))) (V.lss rfl rfl) <| J.nil <| cc rfl h457 (fun hc461 h457 => ?_) fun hc461 h457 => ?_
   · refine CJ.skip <| CJ.seq <| CJ.block <| CJ.seq <| CJ.mix [Cl b252 30 [.slice adxa_0 xa.length cpxa_0], Cl b253 30 [.slice adxb_0 xb.length cpxb_0]] [] [0, 1, 2, 3, 4, 5, 6, 7, 8, 9, 10, 11, 12] [] mixO (by decide +kernel) ⟨0, rfl, 0, rfl, trivial⟩ rfl rfl rfl <| JM.nil <| qv _ (V.fad Tryz.underlying30 rfl nz28 rfl) ?_
     refine qv (.slice adxa_0 xa.length cpxa_0) (V.ld rfl (Ld.sc sc28 (Rd.cl 0 rfl rfl))) <| qm (ii i417) rfl ?_
     obtain ⟨x480, hx481, h457⟩ := ob h457
     obtain ⟨p482, p483, p484⟩ := getI_some hx481
     obtain ⟨b485, o486, e487, a488⟩ := (fxa_0).at p483
     refine qv _ (V.iad Tryz.underlying28 sz146 rfl e487 rfl p482 p484) <| qv _ (V.fad Tryz.underlying146 rfl nz4 rfl) <| qv (.bool x480.2) (V.ld rfl (Ld.sc sc4 (Rd.k (((a488).snd).one).bool (Hp.le_refl _)))) <| qv _ (V.fad Tryz.underlying30 rfl nz28 rfl) <| qv (.slice adxb_0 xb.length cpxb_0) (V.ld rfl (Ld.sc sc28 (Rd.cl 1 rfl rfl))) <| qm (ii i417) rfl ?_
     obtain ⟨x489, hx490, h457⟩ := ob h457
     obtain ⟨p491, p492, p493⟩ := getI_some hx490
     obtain ⟨b494, o495, e496, a497⟩ := (fxb_0).at p492
     refine qv _ (V.iad Tryz.underlying28 sz146 rfl e496 rfl p491 p493) <| qv _ (V.fad Tryz.underlying146 rfl nz4 rfl) <| qv (.bool x489.2) (V.ld rfl (Ld.sc sc4 (Rd.k (((a497).snd).one).bool (Hp.le_refl _)))) <| qv (.bool (!(x480.2 == x489.2))) (V.neb Tryz.underlying4 rfl rfl) <| JQ.nil <| J.nil <| cc rfl h457 (fun hc498 h457 => ?_) fun hc498 h457 => ?_
     · refine CJ.seq <| CJ.region <| ja (.bool false) rfl <| J.nil <| CJ.ret ?_
       obtain rfl := si h457
       refine ⟨nofun, fun e => ?_⟩
       subst e
       refine .inr ⟨nofun, ?_⟩
       obtain rfl := si h
       exact ⟨_, _, Res.one rfl rfl, ⟨false, rfl, rfl, rfl⟩, (Hp.le_refl _), fun w hs => (Sep.dropAt 0 rfl (Sep.dropAt 0 rfl hs))⟩
     refine CJ.skip <| CJ.region <| jm (ii i417) rfl <| jv (ii (IntKind.wrap .i64 (i417 + 1))) (V.add rfl rfl) <| ja (ii (IntKind.wrap .i64 (i417 + 1))) rfl <| J.nil ?_
     obtain rfl := si h457
     exact ⟨rfl, ⟨IntKind.wrap .i64 (i417 + 1), rfl, ⟨rfl, rfl, rfl, trivial⟩, rfl, rfl⟩⟩
   refine CJ.dropAt 0 rfl <| CJ.dropAt 0 rfl <| CJ.exit ?_
   obtain rfl := si h457
   refine ⟨nofun, fun e => ?_⟩
   subst e
   exact .inl ⟨rfl, _, rfl, ⟨rfl, trivial, rfl, rfl⟩⟩
 rintro s ρ _ _ ho499 ⟨rfl, hf500, rfl, rfl⟩
 subst ho499
 obtain ⟨ρ, rfl⟩ := hf500.ex
 refine PJ.done <| CJ.seq <| CJ.region <| ja (.bool true) rfl <| J.nil <| CJ.ret ?_
 obtain rfl := si h
 exact ⟨_, _, Res.one rfl rfl, ⟨true, rfl, rfl, rfl⟩, (Hp.le_refl _), fun w hs => hs⟩
noncomputable def fn_ref15_Same_l1 (xa : (List (Int × Bool))) (xb : (List (Int × Bool))) : Int → Option (Int ⊕ (Unit ⊕ Bool)) := fun (i429 : Int) => cond (decide (i429 < (((xa.length : Nat) : Int)))) ((getI xa i429).bind fun x492 => (getI xb i429).bind fun x501 => cond (!decide (x492.1 = x501.1)) (some (.inr ((.inr (false))))) (some (.inl (IntKind.wrap .i64 (i429 + 1))))) (some (.inr ((.inl ()))))
noncomputable def fn_ref15_Same (xa : (List (Int × Bool))) (xb : (List (Int × Bool))) : Option Bool :=
  (fn_ref15_Shape xa xb).bind fun t262 => cond (!t262) (some (false)) ((loop (fn_ref15_Same_l1 xa xb) 0 : Option (Unit ⊕ Bool)).bind fun o => match o with | .inr r => some r | .inl () => some (true))
set_option maxRecDepth 100000 in
set_option maxHeartbeats 4000000 in
theorem ref15_Same_ok {K : Hp} {xa : (List (Int × Bool))} {xb : (List (Int × Bool))} {adxa_0 : Option Addr} {cpxa_0 : Nat} {adxb_0 : Option Addr} {cpxb_0 : Nat} (fxa_0 : Is K (.sl (.cons (.int .i64) (.one .bool))) [.slice adxa_0 xa.length cpxa_0] xa) (fxb_0 : Is K (.sl (.cons (.int .i64) (.one .bool))) [.slice adxb_0 xb.length cpxb_0] xb) {r : Bool} (h : fn_ref15_Same xa xb = some r) :
    Tr Tryz.prog 38 #[.agg #[.slice adxa_0 xa.length cpxa_0], .agg #[.slice adxb_0 xb.length cpxb_0]] K [] (fun v K' L' => (∃ (t257 : Bool), t257 = r ∧ .bool t257 = v ∧ L' = []) ∧ K = K') := by
 refine Tr.k <| Tr.of Tryz.func38 rfl Tryz.ntmps38 rfl fun E F => ?_
 unfold fn_ref15_Same at h
 refine CJ.seq <| CJ.region <| jbx [.slice adxa_0 xa.length cpxa_0] rfl rfl fun b258 => jbx [.slice adxb_0 xb.length cpxb_0] rfl rfl fun b259 => ja (.bool false) rfl <| J.nil <| CJ.seq ?_
 refine CJ.seq <| CJ.region <| jv (.agg #[.slice adxa_0 xa.length cpxa_0]) (V.ld rfl (Ld.agg (cs := [.slice adxa_0 xa.length cpxa_0]) Tryz.underlying30 sz30 rfl (Rd.cls 1 0 rfl rfl))) <| jv (.agg #[.slice adxb_0 xb.length cpxb_0]) (V.ld rfl (Ld.agg (cs := [.slice adxb_0 xb.length cpxb_0]) Tryz.underlying30 sz30 rfl (Rd.cls 0 0 rfl rfl))) ?_
 obtain ⟨r260, hr261, h⟩ := ob h
 refine J.op rfl (A.call (L1 := []) Tryz.call82 rfl (ref15_Shape_ok fxa_0 fxb_0 hr261) rfl rfl) ?_
 rintro _ _ _ ⟨v263, _, rfl, ⟨⟨t262, rfl, rfl, rfl⟩, rfl⟩, _, rfl⟩
 refine jv (.bool (!t262)) (V.not rfl) <| J.nil <| cc rfl h (fun hc266 h => ?_) fun hc266 h => ?_
 · refine CJ.seq <| CJ.region <| ja (.bool false) rfl <| J.nil <| CJ.ret ?_
   obtain rfl := si h
   exact ⟨_, _, Res.one rfl rfl, ⟨false, rfl, rfl, rfl⟩, (Hp.le_refl _), fun w hs => (Sep.dropAt 0 rfl (Sep.dropAt 0 rfl hs))⟩
 refine CJ.skip <| CJ.seq <| CJ.seq <| CJ.region <| ja (ii 0) rfl <| J.nil ?_
 obtain ⟨o388, ho389, h⟩ := ob h
 refine CJ.joinN (o := o388) (fun s ρ K' L' => () = s ∧ Fits [] ρ ∧ K = K' ∧ F = L') ?_ ?_
 · refine CJ.block <| CJ.front 1 rfl <| CJ.loop (fun s ρ K' L' => ∃ (i429 : Int), i429 = s ∧ Fits [(2, .pointer (some ⟨b258, 0, none⟩)), (3, .pointer (some ⟨b259, 0, none⟩)), (5, ii i429)] ρ ∧ K = K' ∧ L' = Cl b258 30 [.slice adxa_0 xa.length cpxa_0] :: Cl b259 30 [.slice adxb_0 xb.length cpxb_0] :: F) ho389 ⟨0, rfl, ⟨rfl, rfl, rfl, trivial⟩, rfl, rfl⟩ ?_
   rintro s ρ _ _ r472 ⟨i429, rfl, hf470, rfl, rfl⟩ h469
   obtain ⟨ρ, rfl⟩ := hf470.ex
   refine CJ.seq <| CJ.seq <| CJ.region <| jm (ii i429) rfl <| jv _ (V.fad Tryz.underlying30 rfl nz28 rfl) <| jv (.slice adxa_0 xa.length cpxa_0) (V.ld rfl (Ld.sc sc28 (Rd.cl 0 rfl rfl))) <| jv (ii (((xa.length : Nat) : Int))) (V.len Tryz.underlying28 rfl) ?_
   refine jv (.bool (decide (i429 < (((xa.length : Nat) : Int))))) (V.lss rfl rfl) <| J.nil <| cc rfl h469 (fun hc473 h469 => ?_) fun hc473 h469 => ?_
   · refine CJ.skip <| CJ.seq <| CJ.block <| CJ.seq <| CJ.mix [Cl b258 30 [.slice adxa_0 xa.length cpxa_0], Cl b259 30 [.slice adxb_0 xb.length cpxb_0]] [] [0, 1, 2, 3, 4, 5, 6, 7, 8, 9, 10, 11, 12] [] mixO (by decide +kernel) ⟨0, rfl, 0, rfl, trivial⟩ rfl rfl rfl <| JM.nil <| qv _ (V.fad Tryz.underlying30 rfl nz28 rfl) ?_
     refine qv (.slice adxa_0 xa.length cpxa_0) (V.ld rfl (Ld.sc sc28 (Rd.cl 0 rfl rfl))) <| qm (ii i429) rfl ?_
     obtain ⟨x492, hx493, h469⟩ := ob h469
     obtain ⟨p494, p495, p496⟩ := getI_some hx493
     obtain ⟨b497, o498, e499, a500⟩ := (fxa_0).at p495
     refine qv _ (V.iad Tryz.underlying28 sz146 rfl e499 rfl p494 p496) <| qv _ (V.fad Tryz.underlying146 rfl nz3 rfl) <| qv (ii x492.1) (V.ld rfl (Ld.sc sc3 (Rd.k ((a500).fst).int (Hp.le_refl _)))) <| qv _ (V.fad Tryz.underlying30 rfl nz28 rfl) <| qv (.slice adxb_0 xb.length cpxb_0) (V.ld rfl (Ld.sc sc28 (Rd.cl 1 rfl rfl))) <| qm (ii i429) rfl ?_
     obtain ⟨x501, hx502, h469⟩ := ob h469
     obtain ⟨p503, p504, p505⟩ := getI_some hx502
     obtain ⟨b506, o507, e508, a509⟩ := (fxb_0).at p504
     refine qv _ (V.iad Tryz.underlying28 sz146 rfl e508 rfl p503 p505) <| qv _ (V.fad Tryz.underlying146 rfl nz3 rfl) <| qv (ii x501.1) (V.ld rfl (Ld.sc sc3 (Rd.k ((a509).fst).int (Hp.le_refl _)))) <| qv (.bool (!decide (x492.1 = x501.1))) (V.neq rfl rfl) <| JQ.nil <| J.nil <| cc rfl h469 (fun hc510 h469 => ?_) fun hc510 h469 => ?_
     · refine CJ.seq <| CJ.region <| ja (.bool false) rfl <| J.nil <| CJ.ret ?_
       obtain rfl := si h469
       refine ⟨nofun, fun e => ?_⟩
       subst e
       refine .inr ⟨nofun, ?_⟩
       obtain rfl := si h
       exact ⟨_, _, Res.one rfl rfl, ⟨false, rfl, rfl, rfl⟩, (Hp.le_refl _), fun w hs => (Sep.dropAt 0 rfl (Sep.dropAt 0 rfl hs))⟩
     refine CJ.skip <| CJ.region <| jm (ii i429) rfl <| jv (ii (IntKind.wrap .i64 (i429 + 1))) (V.add rfl rfl) <| ja (ii (IntKind.wrap .i64 (i429 + 1))) rfl <| J.nil ?_
     obtain rfl := si h469
     exact ⟨rfl, ⟨IntKind.wrap .i64 (i429 + 1), rfl, ⟨rfl, rfl, rfl, trivial⟩, rfl, rfl⟩⟩
   refine CJ.dropAt 0 rfl <| CJ.dropAt 0 rfl <| CJ.exit ?_
   obtain rfl := si h469
   refine ⟨nofun, fun e => ?_⟩
   subst e
   exact .inl ⟨rfl, _, rfl, ⟨rfl, trivial, rfl, rfl⟩⟩
 rintro s ρ _ _ ho511 ⟨rfl, hf512, rfl, rfl⟩
 subst ho511
 obtain ⟨ρ, rfl⟩ := hf512.ex
 refine PJ.done <| CJ.seq <| CJ.region <| ja (.bool true) rfl <| J.nil <| CJ.ret ?_
 obtain rfl := si h
 exact ⟨_, _, Res.one rfl rfl, ⟨true, rfl, rfl, rfl⟩, (Hp.le_refl _), fun w hs => hs⟩
noncomputable def fn_ref17_Types_l1 (xa : (List (List (Int × Bool)))) (xb : (List (List (Int × Bool)))) : Int → Option (Int ⊕ (Unit ⊕ Bool)) := fun (i693 : Int) => cond (decide (i693 < (((xa.length : Nat) : Int)))) ((getI xa i693).bind fun x798 => (getI xb i693).bind fun x811 => (fn_ref15_Same x798 x811).bind fun t826 => cond (!t826) (some (.inr ((.inr (false))))) (some (.inl (IntKind.wrap .i64 (i693 + 1))))) (some (.inr ((.inl ()))))
noncomputable def fn_ref17_Types (xa : (List (List (Int × Bool)))) (xb : (List (List (Int × Bool)))) : Option Bool :=
  cond (!decide ((((xa.length : Nat) : Int)) = (((xb.length : Nat) : Int)))) (some (false)) ((loop (fn_ref17_Types_l1 xa xb) 0 : Option (Unit ⊕ Bool)).bind fun o => match o with | .inr r => some r | .inl () => some (true))
set_option maxRecDepth 100000 in
set_option maxHeartbeats 4000000 in
theorem ref17_Types_ok {K : Hp} {xa : (List (List (Int × Bool)))} {xb : (List (List (Int × Bool)))} {adxa_0 : Option Addr} {cpxa_0 : Nat} {adxb_0 : Option Addr} {cpxb_0 : Nat} (fxa_0 : Is K (.sl (.one (.sl (.cons (.int .i64) (.one .bool))))) [.slice adxa_0 xa.length cpxa_0] xa) (fxb_0 : Is K (.sl (.one (.sl (.cons (.int .i64) (.one .bool))))) [.slice adxb_0 xb.length cpxb_0] xb) {r : Bool} (h : fn_ref17_Types xa xb = some r) :
    Tr Tryz.prog 37 #[.slice adxa_0 xa.length cpxa_0, .slice adxb_0 xb.length cpxb_0] K [] (fun v K' L' => (∃ (t417 : Bool), t417 = r ∧ .bool t417 = v ∧ L' = []) ∧ K = K') := by
 refine Tr.k <| Tr.of Tryz.func37 rfl Tryz.ntmps37 rfl fun E F => ?_
 unfold fn_ref17_Types at h
 refine CJ.seq <| CJ.region <| ja (.bool false) rfl <| J.nil <| CJ.seq <| CJ.seq <| CJ.region ?_
 refine jm (.slice adxa_0 xa.length cpxa_0) rfl <| jv (ii (((xa.length : Nat) : Int))) (V.len Tryz.underlying27 rfl) <| jm (.slice adxb_0 xb.length cpxb_0) rfl <| jv (ii (((xb.length : Nat) : Int))) (V.len Tryz.underlying27 rfl) <| jv (.bool (!decide ((((xa.length : Nat) : Int)) = (((xb.length : Nat) : Int))))) (V.neq rfl rfl) <| J.nil <| cc rfl h (fun hc418 h => ?_) fun hc418 h => ?_
 · refine CJ.seq <| CJ.region <| ja (.bool false) rfl <| J.nil <| CJ.ret ?_
   obtain rfl := si h
   exact ⟨_, _, Res.one rfl rfl, ⟨false, rfl, rfl, rfl⟩, (Hp.le_refl _), fun w hs => hs⟩
 refine CJ.skip <| CJ.seq <| CJ.seq <| CJ.region <| ja (ii 0) rfl <| J.nil ?_
 obtain ⟨o624, ho625, h⟩ := ob h
 refine CJ.joinN (o := o624) (fun s ρ K' L' => () = s ∧ Fits [] ρ ∧ K = K' ∧ F = L') ?_ ?_
 · refine CJ.block <| CJ.loop (fun s ρ K' L' => ∃ (i693 : Int), i693 = s ∧ Fits [(0, .slice adxa_0 xa.length cpxa_0), (1, .slice adxb_0 xb.length cpxb_0), (5, ii i693)] ρ ∧ K = K' ∧ F = L') ho625 ⟨0, rfl, ⟨rfl, rfl, rfl, trivial⟩, rfl, rfl⟩ ?_
   rintro s ρ _ _ r764 ⟨i693, rfl, hf762, rfl, rfl⟩ h761
   obtain ⟨ρ, rfl⟩ := hf762.ex
   refine CJ.seq <| CJ.seq <| CJ.region <| jm (ii i693) rfl <| jm (.slice adxa_0 xa.length cpxa_0) rfl <| jv (ii (((xa.length : Nat) : Int))) (V.len Tryz.underlying27 rfl) <| jv (.bool (decide (i693 < (((xa.length : Nat) : Int))))) (V.lss rfl rfl) ?_
   refine J.nil <| cc rfl h761 (fun hc765 h761 => ?_) fun hc765 h761 => ?_
   · refine CJ.skip <| CJ.seq <| CJ.block <| CJ.seq <| CJ.mix [] [([0, 1, 2, 3, 4, 5, 6, 7], 8)] [9] [] mixO (by decide +kernel) trivial rfl rfl rfl <| JM.cons <| qm (.slice adxa_0 xa.length cpxa_0) rfl ?_
     refine qm (ii i693) rfl ?_
     obtain ⟨x798, hx799, h761⟩ := ob h761
     obtain ⟨p800, p801, p802⟩ := getI_some hx799
     obtain ⟨b803, o804, e805, a806⟩ := (fxa_0).at p801
     refine qv _ (V.iad Tryz.underlying27 sz30 rfl e805 rfl p800 p802) ?_
     obtain ⟨ad807, cp808, c809, f810⟩ := ((a806).one).sl
     refine qv (.agg #[.slice ad807 x798.length cp808]) (V.ld rfl (Ld.aggK (cs := [.slice ad807 x798.length cp808]) Tryz.underlying30 sz30 rfl ⟨c809, trivial⟩ (Hp.le_refl _))) <| qm (.slice adxb_0 xb.length cpxb_0) rfl <| qm (ii i693) rfl ?_
     obtain ⟨x811, hx812, h761⟩ := ob h761
     obtain ⟨p813, p814, p815⟩ := getI_some hx812
     obtain ⟨b816, o817, e818, a819⟩ := (fxb_0).at p814
     refine qv _ (V.iad Tryz.underlying27 sz30 rfl e818 rfl p813 p815) ?_
     obtain ⟨ad820, cp821, c822, f823⟩ := ((a819).one).sl
     refine qv (.agg #[.slice ad820 x811.length cp821]) (V.ld rfl (Ld.aggK (cs := [.slice ad820 x811.length cp821]) Tryz.underlying30 sz30 rfl ⟨c822, trivial⟩ (Hp.le_refl _))) <| JQ.nil ?_
     obtain ⟨r824, hr825, h761⟩ := ob h761
     refine JA.op rfl (A.call (L1 := []) Tryz.call38 rfl (ref15_Same_ok f810 f823 hr825) rfl rfl) ?_
     rintro _ _ _ ⟨v827, _, rfl, ⟨⟨t826, rfl, rfl, rfl⟩, rfl⟩, _, rfl⟩
     refine ⟨fun w hs => Hold.sub (Hp.le_refl _) trivial hs, ?_⟩
     refine JM.nil <| qv (.bool (!t826)) (V.not rfl) <| JQ.nil <| J.nil <| cc rfl h761 (fun hc830 h761 => ?_) fun hc830 h761 => ?_
     · refine CJ.seq <| CJ.region <| ja (.bool false) rfl <| J.nil <| CJ.ret ?_
       obtain rfl := si h761
       refine ⟨nofun, fun e => ?_⟩
       subst e
       refine .inr ⟨nofun, ?_⟩
       obtain rfl := si h
       exact ⟨_, _, Res.one rfl rfl, ⟨false, rfl, rfl, rfl⟩, (Hp.le_refl _), fun w hs => hs⟩
     refine CJ.skip <| CJ.region <| jm (ii i693) rfl <| jv (ii (IntKind.wrap .i64 (i693 + 1))) (V.add rfl rfl) <| ja (ii (IntKind.wrap .i64 (i693 + 1))) rfl <| J.nil ?_
     obtain rfl := si h761
     exact ⟨rfl, ⟨IntKind.wrap .i64 (i693 + 1), rfl, ⟨rfl, rfl, rfl, trivial⟩, rfl, rfl⟩⟩
   refine CJ.exit ?_
   obtain rfl := si h761
   refine ⟨nofun, fun e => ?_⟩
   subst e
   exact .inl ⟨rfl, _, rfl, ⟨rfl, trivial, rfl, rfl⟩⟩
 rintro s ρ _ _ ho831 ⟨rfl, hf832, rfl, rfl⟩
 subst ho831
 obtain ⟨ρ, rfl⟩ := hf832.ex
 refine PJ.done <| CJ.seq <| CJ.region <| ja (.bool true) rfl <| J.nil <| CJ.ret ?_
 obtain rfl := si h
 exact ⟨_, _, Res.one rfl rfl, ⟨true, rfl, rfl, rfl⟩, (Hp.le_refl _), fun w hs => hs⟩

noncomputable def fn_ref17_Same (xa : (Int × (List (Int × Int)) × (List (List (Int × Bool))) × (List (Int × Bool)))) (xb : (Int × (List (Int × Int)) × (List (List (Int × Bool))) × (List (Int × Bool)))) : Option Bool :=
  (cond (decide (xa.1 = xb.1)) ((fn_ref17_Bounds xa.2.1 xb.2.1).bind fun t66 => some (t66)) (some (false))).bind fun t61 => (cond (t61) ((fn_ref17_Types xa.2.2.1 xb.2.2.1).bind fun t82 => some (t82)) (some (false))).bind fun t77 => (cond (t77) ((fn_ref15_Same xa.2.2.2 xb.2.2.2).bind fun t98 => some (t98)) (some (false))).bind fun t93 => some (t93)
set_option maxRecDepth 100000 in
set_option maxHeartbeats 4000000 in
theorem ref17_Same_ok {K : Hp} {xa : (Int × (List (Int × Int)) × (List (List (Int × Bool))) × (List (Int × Bool)))} {xb : (Int × (List (Int × Int)) × (List (List (Int × Bool))) × (List (Int × Bool)))} {adxa_1 : Option Addr} {cpxa_1 : Nat} {adxa_2 : Option Addr} {cpxa_2 : Nat} {adxa_3 : Option Addr} {cpxa_3 : Nat} {adxb_1 : Option Addr} {cpxb_1 : Nat} {adxb_2 : Option Addr} {cpxb_2 : Nat} {adxb_3 : Option Addr} {cpxb_3 : Nat} (fxa_1 : Is K (.sl (.cons (.int .i64) (.one (.int .i64)))) [.slice adxa_1 xa.2.1.length cpxa_1] xa.2.1) (fxa_2 : Is K (.sl (.one (.sl (.cons (.int .i64) (.one .bool))))) [.slice adxa_2 xa.2.2.1.length cpxa_2] xa.2.2.1) (fxa_3 : Is K (.sl (.cons (.int .i64) (.one .bool))) [.slice adxa_3 xa.2.2.2.length cpxa_3] xa.2.2.2) (fxb_1 : Is K (.sl (.cons (.int .i64) (.one (.int .i64)))) [.slice adxb_1 xb.2.1.length cpxb_1] xb.2.1) (fxb_2 : Is K (.sl (.one (.sl (.cons (.int .i64) (.one .bool))))) [.slice adxb_2 xb.2.2.1.length cpxb_2] xb.2.2.1) (fxb_3 : Is K (.sl (.cons (.int .i64) (.one .bool))) [.slice adxb_3 xb.2.2.2.length cpxb_3] xb.2.2.2) {r : Bool} (h : fn_ref17_Same xa xb = some r) :
    Tr Tryz.prog 39 #[.agg #[ii xa.1, .slice adxa_1 xa.2.1.length cpxa_1, .slice adxa_2 xa.2.2.1.length cpxa_2, .slice adxa_3 xa.2.2.2.length cpxa_3], .agg #[ii xb.1, .slice adxb_1 xb.2.1.length cpxb_1, .slice adxb_2 xb.2.2.1.length cpxb_2, .slice adxb_3 xb.2.2.2.length cpxb_3]] K [] (fun v K' L' => (∃ (t51 : Bool), t51 = r ∧ .bool t51 = v ∧ L' = []) ∧ K = K') := by
 refine Tr.k <| Tr.of Tryz.func39 rfl Tryz.ntmps39 rfl fun E F => ?_
 unfold fn_ref17_Same at h
 refine CJ.seq <| CJ.region <| jbx [ii xa.1, .slice adxa_1 xa.2.1.length cpxa_1, .slice adxa_2 xa.2.2.1.length cpxa_2, .slice adxa_3 xa.2.2.2.length cpxa_3] rfl rfl fun b52 => jbx [ii xb.1, .slice adxb_1 xb.2.1.length cpxb_1, .slice adxb_2 xb.2.2.1.length cpxb_2, .slice adxb_3 xb.2.2.2.length cpxb_3] rfl rfl fun b53 => ja (.bool false) rfl <| J.nil <| CJ.seq ?_
 refine CJ.region <| jv _ (V.fad Tryz.underlying63 rfl nz3 rfl) <| jv (ii xa.1) (V.ld rfl (Ld.sc sc3 (Rd.cl 1 rfl rfl))) <| jv _ (V.fad Tryz.underlying63 rfl nz3 rfl) <| jv (ii xb.1) (V.ld rfl (Ld.sc sc3 (Rd.cl 0 rfl rfl))) <| jv (.bool (decide (xa.1 = xb.1))) (V.eql rfl rfl) <| jm (.bool (decide (xa.1 = xb.1))) rfl ?_
 refine J.cut 6 ?_
 obtain ⟨t61, ht62, h⟩ := ob h
 refine jmeet [(16, .bool t61), (2, .pointer (some ⟨b52, 0, none⟩)), (3, .pointer (some ⟨b53, 0, none⟩))] ?_ ?_
 · rcases bt (decide (xa.1 = xb.1)) with hc63 | hc63
   · have ht62 := ct hc63 ht62
     refine J.run rfl rfl rfl hc63 <| jv _ (V.fad Tryz.underlying63 rfl nz26 rfl) <| J.run rfl rfl rfl hc63 <| jv (.slice adxa_1 xa.2.1.length cpxa_1) (V.ld rfl (Ld.sc sc26 (Rd.cl 1 rfl rfl))) <| J.run rfl rfl rfl hc63 <| jv _ (V.fad Tryz.underlying63 rfl nz26 rfl) <| J.run rfl rfl rfl hc63 ?_
     refine jv (.slice adxb_1 xb.2.1.length cpxb_1) (V.ld rfl (Ld.sc sc26 (Rd.cl 0 rfl rfl))) <| J.run rfl rfl rfl hc63 ?_
     obtain ⟨r64, hr65, ht62⟩ := ob ht62
     refine J.op rfl (A.call (L1 := []) Tryz.call36 rfl (ref17_Bounds_ok fxa_1 fxb_1 hr65) rfl rfl) ?_
     rintro _ _ _ ⟨v67, _, rfl, ⟨⟨t66, rfl, rfl, rfl⟩, rfl⟩, _, rfl⟩
     refine jv (.bool t66) (V.pickT rfl hc63 rfl) <| J.nil ?_
     obtain rfl := si ht62
     exact ⟨rfl, ⟨rfl, rfl, rfl, trivial⟩, rfl, rfl⟩
   have ht62 := cf hc63 ht62
   refine J.skip rfl rfl rfl rfl hc63 <| J.skip rfl rfl rfl rfl hc63 <| J.skip rfl rfl rfl rfl hc63 <| J.skip rfl rfl rfl rfl hc63 <| J.skip rfl rfl rfl rfl hc63 <| jv (.bool false) (V.pickF rfl hc63 rfl) <| J.nil ?_
   obtain rfl := si ht62
   exact ⟨rfl, ⟨rfl, rfl, rfl, trivial⟩, rfl, rfl⟩
 intro ρ
 refine jm (.bool t61) rfl <| J.cut 6 ?_
 obtain ⟨t77, ht78, h⟩ := ob h
 refine jmeet [(23, .bool t77), (2, .pointer (some ⟨b52, 0, none⟩)), (3, .pointer (some ⟨b53, 0, none⟩))] ?_ ?_
 · rcases bt (t61) with hc79 | hc79
   · have ht78 := ct hc79 ht78
     refine J.run rfl rfl rfl hc79 <| jv _ (V.fad Tryz.underlying63 rfl nz27 rfl) <| J.run rfl rfl rfl hc79 <| jv (.slice adxa_2 xa.2.2.1.length cpxa_2) (V.ld rfl (Ld.sc sc27 (Rd.cl 1 rfl rfl))) <| J.run rfl rfl rfl hc79 <| jv _ (V.fad Tryz.underlying63 rfl nz27 rfl) <| J.run rfl rfl rfl hc79 ?_
     refine jv (.slice adxb_2 xb.2.2.1.length cpxb_2) (V.ld rfl (Ld.sc sc27 (Rd.cl 0 rfl rfl))) <| J.run rfl rfl rfl hc79 ?_
     obtain ⟨r80, hr81, ht78⟩ := ob ht78
     refine J.op rfl (A.call (L1 := []) Tryz.call37 rfl (ref17_Types_ok fxa_2 fxb_2 hr81) rfl rfl) ?_
     rintro _ _ _ ⟨v83, _, rfl, ⟨⟨t82, rfl, rfl, rfl⟩, rfl⟩, _, rfl⟩
     refine jv (.bool t82) (V.pickT rfl hc79 rfl) <| J.nil ?_
     obtain rfl := si ht78
     exact ⟨rfl, ⟨rfl, rfl, rfl, trivial⟩, rfl, rfl⟩
   have ht78 := cf hc79 ht78
   refine J.skip rfl rfl rfl rfl hc79 <| J.skip rfl rfl rfl rfl hc79 <| J.skip rfl rfl rfl rfl hc79 <| J.skip rfl rfl rfl rfl hc79 <| J.skip rfl rfl rfl rfl hc79 <| jv (.bool false) (V.pickF rfl hc79 rfl) <| J.nil ?_
   obtain rfl := si ht78
   exact ⟨rfl, ⟨rfl, rfl, rfl, trivial⟩, rfl, rfl⟩
 intro ρ
 refine jm (.bool t77) rfl <| J.cut 6 ?_
 obtain ⟨t93, ht94, h⟩ := ob h
 refine jmeet [(30, .bool t93)] ?_ ?_
 · rcases bt (t77) with hc95 | hc95
   · have ht94 := ct hc95 ht94
     refine J.run rfl rfl rfl hc95 <| jv _ (V.fad Tryz.underlying63 rfl nz30 rfl) <| J.run rfl rfl rfl hc95 <| jv (.agg #[.slice adxa_3 xa.2.2.2.length cpxa_3]) (V.ld rfl (Ld.agg (cs := [.slice adxa_3 xa.2.2.2.length cpxa_3]) Tryz.underlying30 sz30 rfl (Rd.cls 1 3 rfl rfl))) <| J.run rfl rfl rfl hc95 <| jv _ (V.fad Tryz.underlying63 rfl nz30 rfl) <| J.run rfl rfl rfl hc95 ?_
     refine jv (.agg #[.slice adxb_3 xb.2.2.2.length cpxb_3]) (V.ld rfl (Ld.agg (cs := [.slice adxb_3 xb.2.2.2.length cpxb_3]) Tryz.underlying30 sz30 rfl (Rd.cls 0 3 rfl rfl))) <| J.run rfl rfl rfl hc95 ?_
     obtain ⟨r96, hr97, ht94⟩ := ob ht94
     refine J.op rfl (A.call (L1 := []) Tryz.call38 rfl (ref15_Same_ok fxa_3 fxb_3 hr97) rfl rfl) ?_
     rintro _ _ _ ⟨v99, _, rfl, ⟨⟨t98, rfl, rfl, rfl⟩, rfl⟩, _, rfl⟩
     refine jv (.bool t98) (V.pickT rfl hc95 rfl) <| J.nil ?_
     obtain rfl := si ht94
     exact ⟨rfl, ⟨rfl, trivial⟩, rfl, rfl⟩
   have ht94 := cf hc95 ht94
   refine J.skip rfl rfl rfl rfl hc95 <| J.skip rfl rfl rfl rfl hc95 <| J.skip rfl rfl rfl rfl hc95 <| J.skip rfl rfl rfl rfl hc95 <| J.skip rfl rfl rfl rfl hc95 <| jv (.bool false) (V.pickF rfl hc95 rfl) <| J.nil ?_
   obtain rfl := si ht94
   exact ⟨rfl, ⟨rfl, trivial⟩, rfl, rfl⟩
 intro ρ
 refine ja (.bool t93) rfl <| J.nil <| CJ.ret ?_
 obtain rfl := si h
 exact ⟨_, _, Res.one rfl rfl, ⟨t93, rfl, rfl, rfl⟩, (Hp.le_refl _), fun w hs => (Sep.dropAt 0 rfl (Sep.dropAt 0 rfl hs))⟩
noncomputable def fn_ref01_Same_l1 (xa : (List Int)) (xb : (List Int)) : Int → Option (Int ⊕ (Unit ⊕ Bool)) := fun (i413 : Int) => cond (decide (i413 < (((xa.length : Nat) : Int)))) ((getI xa i413).bind fun x476 => (getI xb i413).bind fun x485 => cond (!decide (x476 = x485)) (some (.inr ((.inr (false))))) (some (.inl (IntKind.wrap .i64 (i413 + 1))))) (some (.inr ((.inl ()))))
noncomputable def fn_ref01_Same (xa : (List Int)) (xb : (List Int)) : Option Bool :=
  cond (!decide ((((xa.length : Nat) : Int)) = (((xb.length : Nat) : Int)))) (some (false)) ((loop (fn_ref01_Same_l1 xa xb) 0 : Option (Unit ⊕ Bool)).bind fun o => match o with | .inr r => some r | .inl () => some (true))
set_option maxRecDepth 100000 in
set_option maxHeartbeats 4000000 in
theorem ref01_Same_ok {K : Hp} {xa : (List Int)} {xb : (List Int)} {adxa_0 : Option Addr} {cpxa_0 : Nat} {adxb_0 : Option Addr} {cpxb_0 : Nat} (fxa_0 : Is K (.sl (.int .i64)) [.slice adxa_0 xa.length cpxa_0] xa) (fxb_0 : Is K (.sl (.int .i64)) [.slice adxb_0 xb.length cpxb_0] xb) {r : Bool} (h : fn_ref01_Same xa xb = some r) :
    Tr Tryz.prog 83 #[.slice adxa_0 xa.length cpxa_0, .slice adxb_0 xb.length cpxb_0] K [] (fun v K' L' => (∃ (t249 : Bool), t249 = r ∧ .bool t249 = v ∧ L' = []) ∧ K = K') := by
 refine Tr.k <| Tr.of Tryz.func83 rfl Tryz.ntmps83 rfl fun E F => ?_
 unfold fn_ref01_Same at h
 refine CJ.seq <| CJ.region <| ja (.bool false) rfl <| J.nil <| CJ.seq <| CJ.seq <| CJ.region ?_
 refine jm (.slice adxa_0 xa.length cpxa_0) rfl <| jv (ii (((xa.length : Nat) : Int))) (V.len Tryz.underlying66 rfl) <| jm (.slice adxb_0 xb.length cpxb_0) rfl <| jv (ii (((xb.length : Nat) : Int))) (V.len Tryz.underlying66 rfl) <| jv (.bool (!decide ((((xa.length : Nat) : Int)) = (((xb.length : Nat) : Int))))) (V.neq rfl rfl) <| J.nil <| cc rfl h (fun hc250 h => ?_) fun hc250 h => ?_
 · refine CJ.seq <| CJ.region <| ja (.bool false) rfl <| J.nil <| CJ.ret ?_
   obtain rfl := si h
   exact ⟨_, _, Res.one rfl rfl, ⟨false, rfl, rfl, rfl⟩, (Hp.le_refl _), fun w hs => hs⟩
 refine CJ.skip <| CJ.seq <| CJ.seq <| CJ.region <| ja (ii 0) rfl <| J.nil ?_
 obtain ⟨o372, ho373, h⟩ := ob h
 refine CJ.joinN (o := o372) (fun s ρ K' L' => () = s ∧ Fits [] ρ ∧ K = K' ∧ F = L') ?_ ?_
 · refine CJ.block <| CJ.loop (fun s ρ K' L' => ∃ (i413 : Int), i413 = s ∧ Fits [(0, .slice adxa_0 xa.length cpxa_0), (1, .slice adxb_0 xb.length cpxb_0), (5, ii i413)] ρ ∧ K = K' ∧ F = L') ho373 ⟨0, rfl, ⟨rfl, rfl, rfl, trivial⟩, rfl, rfl⟩ ?_
   rintro s ρ _ _ r456 ⟨i413, rfl, hf454, rfl, rfl⟩ h453
   obtain ⟨ρ, rfl⟩ := hf454.ex
   refine CJ.seq <| CJ.seq <| CJ.region <| jm (ii i413) rfl <| jm (.slice adxa_0 xa.length cpxa_0) rfl <| jv (ii (((xa.length : Nat) : Int))) (V.len Tryz.underlying66 rfl) <| jv (.bool (decide (i413 < (((xa.length : Nat) : Int))))) (V.lss rfl rfl) ?_
   refine J.nil <| cc rfl h453 (fun hc457 h453 => ?_) fun hc457 h453 => ?_
   · refine CJ.skip <| CJ.seq <| CJ.block <| CJ.seq <| CJ.mix [] [] [0, 1, 2, 3, 4, 5, 6, 7, 8] [] mixO (by decide +kernel) trivial rfl rfl rfl <| JM.nil <| qm (.slice adxa_0 xa.length cpxa_0) rfl ?_
     refine qm (ii i413) rfl ?_
     obtain ⟨x476, hx477, h453⟩ := ob h453
     obtain ⟨p478, p479, p480⟩ := getI_some hx477
     obtain ⟨b481, o482, e483, a484⟩ := (fxa_0).at p479
     refine qv _ (V.iad Tryz.underlying66 sz3 rfl e483 rfl p478 p480) <| qv (ii x476) (V.ld rfl (Ld.sc sc3 (Rd.k (a484).int (Hp.le_refl _)))) <| qm (.slice adxb_0 xb.length cpxb_0) rfl <| qm (ii i413) rfl ?_
     obtain ⟨x485, hx486, h453⟩ := ob h453
     obtain ⟨p487, p488, p489⟩ := getI_some hx486
     obtain ⟨b490, o491, e492, a493⟩ := (fxb_0).at p488
     refine qv _ (V.iad Tryz.underlying66 sz3 rfl e492 rfl p487 p489) <| qv (ii x485) (V.ld rfl (Ld.sc sc3 (Rd.k (a493).int (Hp.le_refl _)))) <| qv (.bool (!decide (x476 = x485))) (V.neq rfl rfl) <| JQ.nil <| J.nil <| cc rfl h453 (fun hc494 h453 => ?_) fun hc494 h453 => ?_
     · refine CJ.seq <| CJ.region <| ja (.bool false) rfl <| J.nil <| CJ.ret ?_
       obtain rfl := si h453
       refine ⟨nofun, fun e => ?_⟩
       subst e
       refine .inr ⟨nofun, ?_⟩
       obtain rfl := si h
       exact ⟨_, _, Res.one rfl rfl, ⟨false, rfl, rfl, rfl⟩, (Hp.le_refl _), fun w hs => hs⟩
     refine CJ.skip <| CJ.region <| jm (ii i413) rfl <| jv (ii (IntKind.wrap .i64 (i413 + 1))) (V.add rfl rfl) <| ja (ii (IntKind.wrap .i64 (i413 + 1))) rfl <| J.nil ?_
     obtain rfl := si h453
     exact ⟨rfl, ⟨IntKind.wrap .i64 (i413 + 1), rfl, ⟨rfl, rfl, rfl, trivial⟩, rfl, rfl⟩⟩
   refine CJ.exit ?_
   obtain rfl := si h453
   refine ⟨nofun, fun e => ?_⟩
   subst e
   exact .inl ⟨rfl, _, rfl, ⟨rfl, trivial, rfl, rfl⟩⟩
 rintro s ρ _ _ ho495 ⟨rfl, hf496, rfl, rfl⟩
 subst ho495
 obtain ⟨ρ, rfl⟩ := hf496.ex
 refine PJ.done <| CJ.seq <| CJ.region <| ja (.bool true) rfl <| J.nil <| CJ.ret ?_
 obtain rfl := si h
 exact ⟨_, _, Res.one rfl rfl, ⟨true, rfl, rfl, rfl⟩, (Hp.le_refl _), fun w hs => hs⟩

noncomputable def fn_ref19_Same (xa : (Int × Int × Int × (List Int) × (List Int) × (List Int))) (xb : (Int × Int × Int × (List Int) × (List Int) × (List Int))) : Option Bool :=
  (cond (((decide (xa.1 = xb.1)) && (decide (xa.2.1 = xb.2.1))) && (decide (xa.2.2.1 = xb.2.2.1))) ((fn_ref01_Same xa.2.2.2.1 xb.2.2.2.1).bind fun t78 => some (t78)) (some (false))).bind fun t73 => (cond (t73) ((fn_ref01_Same xa.2.2.2.2.1 xb.2.2.2.2.1).bind fun t94 => some (t94)) (some (false))).bind fun t89 => (cond (t89) ((fn_ref01_Same xa.2.2.2.2.2 xb.2.2.2.2.2).bind fun t110 => some (t110)) (some (false))).bind fun t105 => some (t105)
set_option maxRecDepth 100000 in
set_option maxHeartbeats 4000000 in
theorem ref19_Same_ok {K : Hp} {xa : (Int × Int × Int × (List Int) × (List Int) × (List Int))} {xb : (Int × Int × Int × (List Int) × (List Int) × (List Int))} {adxa_3 : Option Addr} {cpxa_3 : Nat} {adxa_4 : Option Addr} {cpxa_4 : Nat} {adxa_5 : Option Addr} {cpxa_5 : Nat} {adxb_3 : Option Addr} {cpxb_3 : Nat} {adxb_4 : Option Addr} {cpxb_4 : Nat} {adxb_5 : Option Addr} {cpxb_5 : Nat} (fxa_3 : Is K (.sl (.int .i64)) [.slice adxa_3 xa.2.2.2.1.length cpxa_3] xa.2.2.2.1) (fxa_4 : Is K (.sl (.int .i64)) [.slice adxa_4 xa.2.2.2.2.1.length cpxa_4] xa.2.2.2.2.1) (fxa_5 : Is K (.sl (.int .i64)) [.slice adxa_5 xa.2.2.2.2.2.length cpxa_5] xa.2.2.2.2.2) (fxb_3 : Is K (.sl (.int .i64)) [.slice adxb_3 xb.2.2.2.1.length cpxb_3] xb.2.2.2.1) (fxb_4 : Is K (.sl (.int .i64)) [.slice adxb_4 xb.2.2.2.2.1.length cpxb_4] xb.2.2.2.2.1) (fxb_5 : Is K (.sl (.int .i64)) [.slice adxb_5 xb.2.2.2.2.2.length cpxb_5] xb.2.2.2.2.2) {r : Bool} (h : fn_ref19_Same xa xb = some r) :
    Tr Tryz.prog 40 #[.agg #[ii xa.1, ii xa.2.1, ii xa.2.2.1, .slice adxa_3 xa.2.2.2.1.length cpxa_3, .slice adxa_4 xa.2.2.2.2.1.length cpxa_4, .slice adxa_5 xa.2.2.2.2.2.length cpxa_5], .agg #[ii xb.1, ii xb.2.1, ii xb.2.2.1, .slice adxb_3 xb.2.2.2.1.length cpxb_3, .slice adxb_4 xb.2.2.2.2.1.length cpxb_4, .slice adxb_5 xb.2.2.2.2.2.length cpxb_5]] K [] (fun v K' L' => (∃ (t57 : Bool), t57 = r ∧ .bool t57 = v ∧ L' = []) ∧ K = K') := by
 refine Tr.k <| Tr.of Tryz.func40 rfl Tryz.ntmps40 rfl fun E F => ?_
 unfold fn_ref19_Same at h
 refine CJ.seq <| CJ.region <| jbx [ii xa.1, ii xa.2.1, ii xa.2.2.1, .slice adxa_3 xa.2.2.2.1.length cpxa_3, .slice adxa_4 xa.2.2.2.2.1.length cpxa_4, .slice adxa_5 xa.2.2.2.2.2.length cpxa_5] rfl rfl fun b58 => jbx [ii xb.1, ii xb.2.1, ii xb.2.2.1, .slice adxb_3 xb.2.2.2.1.length cpxb_3, .slice adxb_4 xb.2.2.2.2.1.length cpxb_4, .slice adxb_5 xb.2.2.2.2.2.length cpxb_5] rfl rfl fun b59 => ja (.bool false) rfl <| J.nil <| CJ.seq ?_
 refine CJ.region <| jv _ (V.fad Tryz.underlying68 rfl nz3 rfl) <| jv (ii xa.1) (V.ld rfl (Ld.sc sc3 (Rd.cl 1 rfl rfl))) <| jv _ (V.fad Tryz.underlying68 rfl nz3 rfl) <| jv (ii xb.1) (V.ld rfl (Ld.sc sc3 (Rd.cl 0 rfl rfl))) <| jv (.bool (decide (xa.1 = xb.1))) (V.eql rfl rfl) <| jm (.bool (decide (xa.1 = xb.1))) rfl ?_
 refine J.cut 6 <| jmeet [(16, .bool ((decide (xa.1 = xb.1)) && (decide (xa.2.1 = xb.2.1)))), (2, .pointer (some ⟨b58, 0, none⟩)), (3, .pointer (some ⟨b59, 0, none⟩))] ?_ ?_
 · rcases bt (decide (xa.1 = xb.1)) with hc62 | hc62
   · refine J.run rfl rfl rfl hc62 <| jv _ (V.fad Tryz.underlying68 rfl nz3 rfl) <| J.run rfl rfl rfl hc62 <| jv (ii xa.2.1) (V.ld rfl (Ld.sc sc3 (Rd.cl 1 rfl rfl))) <| J.run rfl rfl rfl hc62 <| jv _ (V.fad Tryz.underlying68 rfl nz3 rfl) <| J.run rfl rfl rfl hc62 ?_
     refine jv (ii xb.2.1) (V.ld rfl (Ld.sc sc3 (Rd.cl 0 rfl rfl))) <| J.run rfl rfl rfl hc62 <| jv (.bool (decide (xa.2.1 = xb.2.1))) (V.eql rfl rfl) <| jv (.bool (decide (xa.2.1 = xb.2.1))) (V.pickT rfl hc62 rfl) <| J.nil ?_
     exact ⟨rfl, ⟨(by simp only [hc62]; rfl), rfl, rfl, trivial⟩, rfl, rfl⟩
   refine J.skip rfl rfl rfl rfl hc62 <| J.skip rfl rfl rfl rfl hc62 <| J.skip rfl rfl rfl rfl hc62 <| J.skip rfl rfl rfl rfl hc62 <| J.skip rfl rfl rfl rfl hc62 <| jv (.bool false) (V.pickF rfl hc62 rfl) <| J.nil ?_
   exact ⟨rfl, ⟨(by simp only [hc62]; rfl), rfl, rfl, trivial⟩, rfl, rfl⟩
 intro ρ
 refine jm (.bool ((decide (xa.1 = xb.1)) && (decide (xa.2.1 = xb.2.1)))) rfl <| J.cut 6 <| jmeet [(23, .bool (((decide (xa.1 = xb.1)) && (decide (xa.2.1 = xb.2.1))) && (decide (xa.2.2.1 = xb.2.2.1)))), (2, .pointer (some ⟨b58, 0, none⟩)), (3, .pointer (some ⟨b59, 0, none⟩))] ?_ ?_
 · rcases bt ((decide (xa.1 = xb.1)) && (decide (xa.2.1 = xb.2.1))) with hc65 | hc65
   · refine J.run rfl rfl rfl hc65 <| jv _ (V.fad Tryz.underlying68 rfl nz3 rfl) <| J.run rfl rfl rfl hc65 <| jv (ii xa.2.2.1) (V.ld rfl (Ld.sc sc3 (Rd.cl 1 rfl rfl))) <| J.run rfl rfl rfl hc65 <| jv _ (V.fad Tryz.underlying68 rfl nz3 rfl) <| J.run rfl rfl rfl hc65 ?_
     refine jv (ii xb.2.2.1) (V.ld rfl (Ld.sc sc3 (Rd.cl 0 rfl rfl))) <| J.run rfl rfl rfl hc65 <| jv (.bool (decide (xa.2.2.1 = xb.2.2.1))) (V.eql rfl rfl) <| jv (.bool (decide (xa.2.2.1 = xb.2.2.1))) (V.pickT rfl hc65 rfl) <| J.nil ?_
     exact ⟨rfl, ⟨(by simp only [hc65]; rfl), rfl, rfl, trivial⟩, rfl, rfl⟩
   refine J.skip rfl rfl rfl rfl hc65 <| J.skip rfl rfl rfl rfl hc65 <| J.skip rfl rfl rfl rfl hc65 <| J.skip rfl rfl rfl rfl hc65 <| J.skip rfl rfl rfl rfl hc65 <| jv (.bool false) (V.pickF rfl hc65 rfl) <| J.nil ?_
   exact ⟨rfl, ⟨(by simp only [hc65]; rfl), rfl, rfl, trivial⟩, rfl, rfl⟩
 intro ρ
 refine jm (.bool (((decide (xa.1 = xb.1)) && (decide (xa.2.1 = xb.2.1))) && (decide (xa.2.2.1 = xb.2.2.1)))) rfl <| J.cut 6 ?_
 obtain ⟨t73, ht74, h⟩ := ob h
 refine jmeet [(30, .bool t73), (2, .pointer (some ⟨b58, 0, none⟩)), (3, .pointer (some ⟨b59, 0, none⟩))] ?_ ?_
 · rcases bt (((decide (xa.1 = xb.1)) && (decide (xa.2.1 = xb.2.1))) && (decide (xa.2.2.1 = xb.2.2.1))) with hc75 | hc75
   · have ht74 := ct hc75 ht74
     refine J.run rfl rfl rfl hc75 <| jv _ (V.fad Tryz.underlying68 rfl nz66 rfl) <| J.run rfl rfl rfl hc75 <| jv (.slice adxa_3 xa.2.2.2.1.length cpxa_3) (V.ld rfl (Ld.sc sc66 (Rd.cl 1 rfl rfl))) <| J.run rfl rfl rfl hc75 <| jv _ (V.fad Tryz.underlying68 rfl nz66 rfl) <| J.run rfl rfl rfl hc75 ?_
     refine jv (.slice adxb_3 xb.2.2.2.1.length cpxb_3) (V.ld rfl (Ld.sc sc66 (Rd.cl 0 rfl rfl))) <| J.run rfl rfl rfl hc75 ?_
     obtain ⟨r76, hr77, ht74⟩ := ob ht74
     refine J.op rfl (A.call (L1 := []) Tryz.call83 rfl (ref01_Same_ok fxa_3 fxb_3 hr77) rfl rfl) ?_
     rintro _ _ _ ⟨v79, _, rfl, ⟨⟨t78, rfl, rfl, rfl⟩, rfl⟩, _, rfl⟩
     refine jv (.bool t78) (V.pickT rfl hc75 rfl) <| J.nil ?_
     obtain rfl := si ht74
     exact ⟨rfl, ⟨rfl, rfl, rfl, trivial⟩, rfl, rfl⟩
   have ht74 := cf hc75 ht74
   refine J.skip rfl rfl rfl rfl hc75 <| J.skip rfl rfl rfl rfl hc75 <| J.skip rfl rfl rfl rfl hc75 <| J.skip rfl rfl rfl rfl hc75 <| J.skip rfl rfl rfl rfl hc75 <| jv (.bool false) (V.pickF rfl hc75 rfl) <| J.nil ?_
   obtain rfl := si ht74
   exact ⟨rfl, ⟨rfl, rfl, rfl, trivial⟩, rfl, rfl⟩
 intro ρ
 refine jm (.bool t73) rfl <| J.cut 6 ?_
 obtain ⟨t89, ht90, h⟩ := ob h
 refine jmeet [(37, .bool t89), (2, .pointer (some ⟨b58, 0, none⟩)), (3, .pointer (some ⟨b59, 0, none⟩))] ?_ ?_
 · rcases bt (t73) with hc91 | hc91
   · have ht90 := ct hc91 ht90
     refine J.run rfl rfl rfl hc91 <| jv _ (V.fad Tryz.underlying68 rfl nz66 rfl) <| J.run rfl rfl rfl hc91 <| jv (.slice adxa_4 xa.2.2.2.2.1.length cpxa_4) (V.ld rfl (Ld.sc sc66 (Rd.cl 1 rfl rfl))) <| J.run rfl rfl rfl hc91 <| jv _ (V.fad Tryz.underlying68 rfl nz66 rfl) <| J.run rfl rfl rfl hc91 ?_
     refine jv (.slice adxb_4 xb.2.2.2.2.1.length cpxb_4) (V.ld rfl (Ld.sc sc66 (Rd.cl 0 rfl rfl))) <| J.run rfl rfl rfl hc91 ?_
     obtain ⟨r92, hr93, ht90⟩ := ob ht90
     refine J.op rfl (A.call (L1 := []) Tryz.call83 rfl (ref01_Same_ok fxa_4 fxb_4 hr93) rfl rfl) ?_
     rintro _ _ _ ⟨v95, _, rfl, ⟨⟨t94, rfl, rfl, rfl⟩, rfl⟩, _, rfl⟩
     refine jv (.bool t94) (V.pickT rfl hc91 rfl) <| J.nil ?_
     obtain rfl := si ht90
     exact ⟨rfl, ⟨rfl, rfl, rfl, trivial⟩, rfl, rfl⟩
   have ht90 := cf hc91 ht90
   refine J.skip rfl rfl rfl rfl hc91 <| J.skip rfl rfl rfl rfl hc91 <| J.skip rfl rfl rfl rfl hc91 <| J.skip rfl rfl rfl rfl hc91 <| J.skip rfl rfl rfl rfl hc91 <| jv (.bool false) (V.pickF rfl hc91 rfl) <| J.nil ?_
   obtain rfl := si ht90
   exact ⟨rfl, ⟨rfl, rfl, rfl, trivial⟩, rfl, rfl⟩
 intro ρ
 refine jm (.bool t89) rfl <| J.cut 6 ?_
 obtain ⟨t105, ht106, h⟩ := ob h
 refine jmeet [(44, .bool t105)] ?_ ?_
 · rcases bt (t89) with hc107 | hc107
   · have ht106 := ct hc107 ht106
     refine J.run rfl rfl rfl hc107 <| jv _ (V.fad Tryz.underlying68 rfl nz66 rfl) <| J.run rfl rfl rfl hc107 <| jv (.slice adxa_5 xa.2.2.2.2.2.length cpxa_5) (V.ld rfl (Ld.sc sc66 (Rd.cl 1 rfl rfl))) <| J.run rfl rfl rfl hc107 <| jv _ (V.fad Tryz.underlying68 rfl nz66 rfl) <| J.run rfl rfl rfl hc107 ?_
     refine jv (.slice adxb_5 xb.2.2.2.2.2.length cpxb_5) (V.ld rfl (Ld.sc sc66 (Rd.cl 0 rfl rfl))) <| J.run rfl rfl rfl hc107 ?_
     obtain ⟨r108, hr109, ht106⟩ := ob ht106
     refine J.op rfl (A.call (L1 := []) Tryz.call83 rfl (ref01_Same_ok fxa_5 fxb_5 hr109) rfl rfl) ?_
     rintro _ _ _ ⟨v111, _, rfl, ⟨⟨t110, rfl, rfl, rfl⟩, rfl⟩, _, rfl⟩
     refine jv (.bool t110) (V.pickT rfl hc107 rfl) <| J.nil ?_
     obtain rfl := si ht106
     exact ⟨rfl, ⟨rfl, trivial⟩, rfl, rfl⟩
   have ht106 := cf hc107 ht106
   refine J.skip rfl rfl rfl rfl hc107 <| J.skip rfl rfl rfl rfl hc107 <| J.skip rfl rfl rfl rfl hc107 <| J.skip rfl rfl rfl rfl hc107 <| J.skip rfl rfl rfl rfl hc107 <| jv (.bool false) (V.pickF rfl hc107 rfl) <| J.nil ?_
   obtain rfl := si ht106
   exact ⟨rfl, ⟨rfl, trivial⟩, rfl, rfl⟩
 intro ρ
 refine ja (.bool t105) rfl <| J.nil <| CJ.ret ?_
 obtain rfl := si h
 exact ⟨_, _, Res.one rfl rfl, ⟨t105, rfl, rfl, rfl⟩, (Hp.le_refl _), fun w hs => (Sep.dropAt 0 rfl (Sep.dropAt 0 rfl hs))⟩
noncomputable def fn_ref20_Same_l1 (xa : (Int × Int × (List (Int × Int)) × (List (List (Int × Bool))) × (List (Int × Bool)) × (List (Int × (List (Int × Int)) × (List (List (Int × Bool))) × (List (Int × Bool)))) × (List ((List (Int × Int × Int × Int × Bool)) × (Int × Int × Int × (List Int) × (List Int) × (List Int)))))) (xb : (Int × Int × (List (Int × Int)) × (List (List (Int × Bool))) × (List (Int × Bool)) × (List (Int × (List (Int × Int)) × (List (List (Int × Bool))) × (List (Int × Bool)))) × (List ((List (Int × Int × Int × Int × Bool)) × (Int × Int × Int × (List Int) × (List Int) × (List Int)))))) : Int → Option (Int ⊕ (Unit ⊕ Bool)) := fun (i3544 : Int) => cond (decide (i3544 < (((xa.2.2.2.2.2.1.length : Nat) : Int)))) ((getI xa.2.2.2.2.2.1 i3544).bind fun x3697 => (getI xb.2.2.2.2.2.1 i3544).bind fun x3718 => (fn_ref17_Same (x3697.1, x3697.2.1, x3697.2.2.1, x3697.2.2.2) (x3718.1, x3718.2.1, x3718.2.2.1, x3718.2.2.2)).bind fun t3741 => cond (!t3741) (some (.inr ((.inr (false))))) (some (.inl (IntKind.wrap .i64 (i3544 + 1))))) (some (.inr ((.inl ()))))
noncomputable def fn_ref20_Same_l2 (x5787 : ((List (Int × Int × Int × Int × Bool)) × (Int × Int × Int × (List Int) × (List Int) × (List Int)))) (x5800 : ((List (Int × Int × Int × Int × Bool)) × (Int × Int × Int × (List Int) × (List Int) × (List Int)))) : Int → Option (Int ⊕ (Unit ⊕ (Int ⊕ (Unit ⊕ Bool)))) := fun (i6074 : Int) => cond (decide (i6074 < (((x5787.1.length : Nat) : Int)))) ((getI x5787.1 i6074).bind fun x6137 => (getI x5800.1 i6074).bind fun x6146 => cond (!((decide (x6137.1 = x6146.1)) && ((decide (x6137.2.1 = x6146.2.1)) && ((decide (x6137.2.2.1 = x6146.2.2.1)) && ((decide (x6137.2.2.2.1 = x6146.2.2.2.1)) && (x6137.2.2.2.2 == x6146.2.2.2.2)))))) (some (.inr ((.inr (.inr ((.inr (false)))))))) (some (.inl (IntKind.wrap .i64 (i6074 + 1))))) (some (.inr ((.inl ()))))
noncomputable def fn_ref20_Same_l3 (xa : (Int × Int × (List (Int × Int)) × (List (List (Int × Bool))) × (List (Int × Bool)) × (List (Int × (List (Int × Int)) × (List (List (Int × Bool))) × (List (Int × Bool)))) × (List ((List (Int × Int × Int × Int × Bool)) × (Int × Int × Int × (List Int) × (List Int) × (List Int)))))) (xb : (Int × Int × (List (Int × Int)) × (List (List (Int × Bool))) × (List (Int × Bool)) × (List (Int × (List (Int × Int)) × (List (List (Int × Bool))) × (List (Int × Bool)))) × (List ((List (Int × Int × Int × Int × Bool)) × (Int × Int × Int × (List Int) × (List Int) × (List Int)))))) : Int → Option (Int ⊕ (Unit ⊕ Bool)) := fun (i5355 : Int) => cond (decide (i5355 < (((xa.2.2.2.2.2.2.length : Nat) : Int)))) ((getI xa.2.2.2.2.2.2 i5355).bind fun x5787 => (getI xb.2.2.2.2.2.2 i5355).bind fun x5800 => cond (!decide ((((x5787.1.length : Nat) : Int)) = (((x5800.1.length : Nat) : Int)))) (some (.inr ((.inr (false))))) ((getI xa.2.2.2.2.2.2 i5355).bind fun x5863 => (getI xb.2.2.2.2.2.2 i5355).bind fun x5884 => (fn_ref19_Same (x5863.2.1, x5863.2.2.1, x5863.2.2.2.1, x5863.2.2.2.2.1, x5863.2.2.2.2.2.1, x5863.2.2.2.2.2.2) (x5884.2.1, x5884.2.2.1, x5884.2.2.2.1, x5884.2.2.2.2.1, x5884.2.2.2.2.2.1, x5884.2.2.2.2.2.2)).bind fun t5907 => cond (!t5907) (some (.inr ((.inr (false))))) ((loop (fn_ref20_Same_l2 x5787 x5800) 0 : Option (Unit ⊕ (Int ⊕ (Unit ⊕ Bool)))).bind fun o => match o with | .inr r => some r | .inl () => some (.inl (IntKind.wrap .i64 (i5355 + 1)))))) (some (.inr ((.inl ()))))
noncomputable def fn_ref20_Same (xa : (Int × Int × (List (Int × Int)) × (List (List (Int × Bool))) × (List (Int × Bool)) × (List (Int × (List (Int × Int)) × (List (List (Int × Bool))) × (List (Int × Bool)))) × (List ((List (Int × Int × Int × Int × Bool)) × (Int × Int × Int × (List Int) × (List Int) × (List Int)))))) (xb : (Int × Int × (List (Int × Int)) × (List (List (Int × Bool))) × (List (Int × Bool)) × (List (Int × (List (Int × Int)) × (List (List (Int × Bool))) × (List (Int × Bool)))) × (List ((List (Int × Int × Int × Int × Bool)) × (Int × Int × Int × (List Int) × (List Int) × (List Int)))))) : Option Bool :=
  (cond ((!decide (xa.1 = xb.1)) || (!decide (xa.2.1 = xb.2.1))) (some (true)) ((fn_ref17_Bounds xa.2.2.1 xb.2.2.1).bind fun t3099 => some (!t3099))).bind fun t3094 => (cond (t3094) (some (true)) ((fn_ref17_Types xa.2.2.2.1 xb.2.2.2.1).bind fun t3115 => some (!t3115))).bind fun t3110 => (cond (t3110) (some (true)) ((fn_ref15_Same xa.2.2.2.2.1 xb.2.2.2.2.1).bind fun t3131 => some (!t3131))).bind fun t3126 => cond ((t3126 || (!decide ((((xa.2.2.2.2.2.1.length : Nat) : Int)) = (((xb.2.2.2.2.2.1.length : Nat) : Int))))) || (!decide ((((xa.2.2.2.2.2.2.length : Nat) : Int)) = (((xb.2.2.2.2.2.2.length : Nat) : Int))))) (some (false)) ((loop (fn_ref20_Same_l1 xa xb) 0 : Option (Unit ⊕ Bool)).bind fun o => match o with | .inr r => some r | .inl () => (loop (fn_ref20_Same_l3 xa xb) 0 : Option (Unit ⊕ Bool)).bind fun o => match o with | .inr r => some r | .inl () => some (true))
set_option maxRecDepth 100000 in
set_option maxHeartbeats 4000000 in
theorem ref20_Same_ok {K : Hp} {xa : (Int × Int × (List (Int × Int)) × (List (List (Int × Bool))) × (List (Int × Bool)) × (List (Int × (List (Int × Int)) × (List (List (Int × Bool))) × (List (Int × Bool)))) × (List ((List (Int × Int × Int × Int × Bool)) × (Int × Int × Int × (List Int) × (List Int) × (List Int)))))} {xb : (Int × Int × (List (Int × Int)) × (List (List (Int × Bool))) × (List (Int × Bool)) × (List (Int × (List (Int × Int)) × (List (List (Int × Bool))) × (List (Int × Bool)))) × (List ((List (Int × Int × Int × Int × Bool)) × (Int × Int × Int × (List Int) × (List Int) × (List Int)))))} {adxa_2 : Option Addr} {cpxa_2 : Nat} {adxa_3 : Option Addr} {cpxa_3 : Nat} {adxa_4 : Option Addr} {cpxa_4 : Nat} {adxa_5 : Option Addr} {cpxa_5 : Nat} {adxa_6 : Option Addr} {cpxa_6 : Nat} {adxb_2 : Option Addr} {cpxb_2 : Nat} {adxb_3 : Option Addr} {cpxb_3 : Nat} {adxb_4 : Option Addr} {cpxb_4 : Nat} {adxb_5 : Option Addr} {cpxb_5 : Nat} {adxb_6 : Option Addr} {cpxb_6 : Nat} (fxa_2 : Is K (.sl (.cons (.int .i64) (.one (.int .i64)))) [.slice adxa_2 xa.2.2.1.length cpxa_2] xa.2.2.1) (fxa_3 : Is K (.sl (.one (.sl (.cons (.int .i64) (.one .bool))))) [.slice adxa_3 xa.2.2.2.1.length cpxa_3] xa.2.2.2.1) (fxa_4 : Is K (.sl (.cons (.int .i64) (.one .bool))) [.slice adxa_4 xa.2.2.2.2.1.length cpxa_4] xa.2.2.2.2.1) (fxa_5 : Is K (.sl (.cons (.int .i64) (.cons (.sl (.cons (.int .i64) (.one (.int .i64)))) (.cons (.sl (.one (.sl (.cons (.int .i64) (.one .bool))))) (.one (.one (.sl (.cons (.int .i64) (.one .bool))))))))) [.slice adxa_5 xa.2.2.2.2.2.1.length cpxa_5] xa.2.2.2.2.2.1) (fxa_6 : Is K (.sl (.cons (.sl (.cons (.int .i64) (.cons (.int .i64) (.cons (.int .i64) (.cons (.int .i64) (.one .bool)))))) (.one (.cons (.int .i64) (.cons (.int .i64) (.cons (.int .i64) (.cons (.sl (.int .i64)) (.cons (.sl (.int .i64)) (.one (.sl (.int .i64))))))))))) [.slice adxa_6 xa.2.2.2.2.2.2.length cpxa_6] xa.2.2.2.2.2.2) (fxb_2 : Is K (.sl (.cons (.int .i64) (.one (.int .i64)))) [.slice adxb_2 xb.2.2.1.length cpxb_2] xb.2.2.1) (fxb_3 : Is K (.sl (.one (.sl (.cons (.int .i64) (.one .bool))))) [.slice adxb_3 xb.2.2.2.1.length cpxb_3] xb.2.2.2.1) (fxb_4 : Is K (.sl (.cons (.int .i64) (.one .bool))) [.slice adxb_4 xb.2.2.2.2.1.length cpxb_4] xb.2.2.2.2.1) (fxb_5 : Is K (.sl (.cons (.int .i64) (.cons (.sl (.cons (.int .i64) (.one (.int .i64)))) (.cons (.sl (.one (.sl (.cons (.int .i64) (.one .bool))))) (.one (.one (.sl (.cons (.int .i64) (.one .bool))))))))) [.slice adxb_5 xb.2.2.2.2.2.1.length cpxb_5] xb.2.2.2.2.2.1) (fxb_6 : Is K (.sl (.cons (.sl (.cons (.int .i64) (.cons (.int .i64) (.cons (.int .i64) (.cons (.int .i64) (.one .bool)))))) (.one (.cons (.int .i64) (.cons (.int .i64) (.cons (.int .i64) (.cons (.sl (.int .i64)) (.cons (.sl (.int .i64)) (.one (.sl (.int .i64))))))))))) [.slice adxb_6 xb.2.2.2.2.2.2.length cpxb_6] xb.2.2.2.2.2.2) {r : Bool} (h : fn_ref20_Same xa xb = some r) :
    Tr Tryz.prog 8 #[.agg #[ii xa.1, ii xa.2.1, .slice adxa_2 xa.2.2.1.length cpxa_2, .slice adxa_3 xa.2.2.2.1.length cpxa_3, .slice adxa_4 xa.2.2.2.2.1.length cpxa_4, .slice adxa_5 xa.2.2.2.2.2.1.length cpxa_5, .slice adxa_6 xa.2.2.2.2.2.2.length cpxa_6], .agg #[ii xb.1, ii xb.2.1, .slice adxb_2 xb.2.2.1.length cpxb_2, .slice adxb_3 xb.2.2.2.1.length cpxb_3, .slice adxb_4 xb.2.2.2.2.1.length cpxb_4, .slice adxb_5 xb.2.2.2.2.2.1.length cpxb_5, .slice adxb_6 xb.2.2.2.2.2.2.length cpxb_6]] K [] (fun v K' L' => (∃ (t3081 : Bool), t3081 = r ∧ .bool t3081 = v ∧ L' = []) ∧ K = K') := by
 refine Tr.k <| Tr.of Tryz.func8 rfl Tryz.ntmps8 rfl fun E F => ?_
 unfold fn_ref20_Same at h
 refine CJ.seq <| CJ.region <| jbx [ii xa.1, ii xa.2.1, .slice adxa_2 xa.2.2.1.length cpxa_2, .slice adxa_3 xa.2.2.2.1.length cpxa_3, .slice adxa_4 xa.2.2.2.2.1.length cpxa_4, .slice adxa_5 xa.2.2.2.2.2.1.length cpxa_5, .slice adxa_6 xa.2.2.2.2.2.2.length cpxa_6] rfl rfl fun b3082 => jbx [ii xb.1, ii xb.2.1, .slice adxb_2 xb.2.2.1.length cpxb_2, .slice adxb_3 xb.2.2.2.1.length cpxb_3, .slice adxb_4 xb.2.2.2.2.1.length cpxb_4, .slice adxb_5 xb.2.2.2.2.2.1.length cpxb_5, .slice adxb_6 xb.2.2.2.2.2.2.length cpxb_6] rfl rfl fun b3083 => ja (.bool false) rfl <| J.nil <| CJ.seq ?_
 refine CJ.seq <| CJ.region <| jv _ (V.fad Tryz.underlying34 rfl nz3 rfl) <| jv (ii xa.1) (V.ld rfl (Ld.sc sc3 (Rd.cl 1 rfl rfl))) <| jv _ (V.fad Tryz.underlying34 rfl nz3 rfl) <| jv (ii xb.1) (V.ld rfl (Ld.sc sc3 (Rd.cl 0 rfl rfl))) <| jv (.bool (!decide (xa.1 = xb.1))) (V.neq rfl rfl) ?_
 refine jm (.bool (!decide (xa.1 = xb.1))) rfl <| J.cut 6 <| jmeet [(21, .bool ((!decide (xa.1 = xb.1)) || (!decide (xa.2.1 = xb.2.1)))), (2, .pointer (some ⟨b3082, 0, none⟩)), (3, .pointer (some ⟨b3083, 0, none⟩))] ?_ ?_
 · rcases bt (!decide (xa.1 = xb.1)) with hc3086 | hc3086
   · refine J.skip rfl rfl rfl rfl hc3086 <| J.skip rfl rfl rfl rfl hc3086 <| J.skip rfl rfl rfl rfl hc3086 <| J.skip rfl rfl rfl rfl hc3086 <| J.skip rfl rfl rfl rfl hc3086 <| jv (.bool true) (V.pickT rfl hc3086 rfl) <| J.nil ?_
     exact ⟨rfl, ⟨(by simp only [hc3086]; rfl), rfl, rfl, trivial⟩, rfl, rfl⟩
   refine J.run rfl rfl rfl hc3086 <| jv _ (V.fad Tryz.underlying34 rfl nz3 rfl) <| J.run rfl rfl rfl hc3086 <| jv (ii xa.2.1) (V.ld rfl (Ld.sc sc3 (Rd.cl 1 rfl rfl))) <| J.run rfl rfl rfl hc3086 <| jv _ (V.fad Tryz.underlying34 rfl nz3 rfl) <| J.run rfl rfl rfl hc3086 ?_
   refine jv (ii xb.2.1) (V.ld rfl (Ld.sc sc3 (Rd.cl 0 rfl rfl))) <| J.run rfl rfl rfl hc3086 <| jv (.bool (!decide (xa.2.1 = xb.2.1))) (V.neq rfl rfl) <| jv (.bool (!decide (xa.2.1 = xb.2.1))) (V.pickF rfl hc3086 rfl) <| J.nil ?_
   exact ⟨rfl, ⟨(by simp only [hc3086]; rfl), rfl, rfl, trivial⟩, rfl, rfl⟩
 intro ρ
 refine jm (.bool ((!decide (xa.1 = xb.1)) || (!decide (xa.2.1 = xb.2.1)))) rfl <| J.cut 7 ?_
 obtain ⟨t3094, ht3095, h⟩ := ob h
 refine jmeet [(29, .bool t3094), (2, .pointer (some ⟨b3082, 0, none⟩)), (3, .pointer (some ⟨b3083, 0, none⟩))] ?_ ?_
 · rcases bt ((!decide (xa.1 = xb.1)) || (!decide (xa.2.1 = xb.2.1))) with hc3096 | hc3096
   · have ht3095 := ct hc3096 ht3095
     refine J.skip rfl rfl rfl rfl hc3096 <| J.skip rfl rfl rfl rfl hc3096 <| J.skip rfl rfl rfl rfl hc3096 <| J.skip rfl rfl rfl rfl hc3096 <| J.skip rfl rfl rfl rfl hc3096 <| J.skip rfl rfl rfl rfl hc3096 <| jv (.bool true) (V.pickT rfl hc3096 rfl) ?_
     refine J.nil ?_
     obtain rfl := si ht3095
     exact ⟨rfl, ⟨rfl, rfl, rfl, trivial⟩, rfl, rfl⟩
   have ht3095 := cf hc3096 ht3095
   refine J.run rfl rfl rfl hc3096 <| jv _ (V.fad Tryz.underlying34 rfl nz26 rfl) <| J.run rfl rfl rfl hc3096 <| jv (.slice adxa_2 xa.2.2.1.length cpxa_2) (V.ld rfl (Ld.sc sc26 (Rd.cl 1 rfl rfl))) <| J.run rfl rfl rfl hc3096 <| jv _ (V.fad Tryz.underlying34 rfl nz26 rfl) <| J.run rfl rfl rfl hc3096 ?_
   refine jv (.slice adxb_2 xb.2.2.1.length cpxb_2) (V.ld rfl (Ld.sc sc26 (Rd.cl 0 rfl rfl))) <| J.run rfl rfl rfl hc3096 ?_
   obtain ⟨r3097, hr3098, ht3095⟩ := ob ht3095
   refine J.op rfl (A.call (L1 := []) Tryz.call36 rfl (ref17_Bounds_ok fxa_2 fxb_2 hr3098) rfl rfl) ?_
   rintro _ _ _ ⟨v3100, _, rfl, ⟨⟨t3099, rfl, rfl, rfl⟩, rfl⟩, _, rfl⟩
   refine J.run rfl rfl rfl hc3096 <| jv (.bool (!t3099)) (V.not rfl) <| jv (.bool (!t3099)) (V.pickF rfl hc3096 rfl) <| J.nil ?_
   obtain rfl := si ht3095
   exact ⟨rfl, ⟨rfl, rfl, rfl, trivial⟩, rfl, rfl⟩
 intro ρ
 refine jm (.bool t3094) rfl <| J.cut 7 ?_
 obtain ⟨t3110, ht3111, h⟩ := ob h
 refine jmeet [(37, .bool t3110), (2, .pointer (some ⟨b3082, 0, none⟩)), (3, .pointer (some ⟨b3083, 0, none⟩))] ?_ ?_
 · rcases bt (t3094) with hc3112 | hc3112
   · have ht3111 := ct hc3112 ht3111
     refine J.skip rfl rfl rfl rfl hc3112 <| J.skip rfl rfl rfl rfl hc3112 <| J.skip rfl rfl rfl rfl hc3112 <| J.skip rfl rfl rfl rfl hc3112 <| J.skip rfl rfl rfl rfl hc3112 <| J.skip rfl rfl rfl rfl hc3112 <| jv (.bool true) (V.pickT rfl hc3112 rfl) ?_
     refine J.nil ?_
     obtain rfl := si ht3111
     exact ⟨rfl, ⟨rfl, rfl, rfl, trivial⟩, rfl, rfl⟩
   have ht3111 := cf hc3112 ht3111
   refine J.run rfl rfl rfl hc3112 <| jv _ (V.fad Tryz.underlying34 rfl nz27 rfl) <| J.run rfl rfl rfl hc3112 <| jv (.slice adxa_3 xa.2.2.2.1.length cpxa_3) (V.ld rfl (Ld.sc sc27 (Rd.cl 1 rfl rfl))) <| J.run rfl rfl rfl hc3112 <| jv _ (V.fad Tryz.underlying34 rfl nz27 rfl) <| J.run rfl rfl rfl hc3112 ?_
   refine jv (.slice adxb_3 xb.2.2.2.1.length cpxb_3) (V.ld rfl (Ld.sc sc27 (Rd.cl 0 rfl rfl))) <| J.run rfl rfl rfl hc3112 ?_
   obtain ⟨r3113, hr3114, ht3111⟩ := ob ht3111
   refine J.op rfl (A.call (L1 := []) Tryz.call37 rfl (ref17_Types_ok fxa_3 fxb_3 hr3114) rfl rfl) ?_
   rintro _ _ _ ⟨v3116, _, rfl, ⟨⟨t3115, rfl, rfl, rfl⟩, rfl⟩, _, rfl⟩
   refine J.run rfl rfl rfl hc3112 <| jv (.bool (!t3115)) (V.not rfl) <| jv (.bool (!t3115)) (V.pickF rfl hc3112 rfl) <| J.nil ?_
   obtain rfl := si ht3111
   exact ⟨rfl, ⟨rfl, rfl, rfl, trivial⟩, rfl, rfl⟩
 intro ρ
 refine jm (.bool t3110) rfl <| J.cut 7 ?_
 obtain ⟨t3126, ht3127, h⟩ := ob h
 refine jmeet [(45, .bool t3126), (2, .pointer (some ⟨b3082, 0, none⟩)), (3, .pointer (some ⟨b3083, 0, none⟩))] ?_ ?_
 · rcases bt (t3110) with hc3128 | hc3128
   · have ht3127 := ct hc3128 ht3127
     refine J.skip rfl rfl rfl rfl hc3128 <| J.skip rfl rfl rfl rfl hc3128 <| J.skip rfl rfl rfl rfl hc3128 <| J.skip rfl rfl rfl rfl hc3128 <| J.skip rfl rfl rfl rfl hc3128 <| J.skip rfl rfl rfl rfl hc3128 <| jv (.bool true) (V.pickT rfl hc3128 rfl) ?_
     refine J.nil ?_
     obtain rfl := si ht3127
     exact ⟨rfl, ⟨rfl, rfl, rfl, trivial⟩, rfl, rfl⟩
   have ht3127 := cf hc3128 ht3127
   refine J.run rfl rfl rfl hc3128 <| jv _ (V.fad Tryz.underlying34 rfl nz30 rfl) <| J.run rfl rfl rfl hc3128 <| jv (.agg #[.slice adxa_4 xa.2.2.2.2.1.length cpxa_4]) (V.ld rfl (Ld.agg (cs := [.slice adxa_4 xa.2.2.2.2.1.length cpxa_4]) Tryz.underlying30 sz30 rfl (Rd.cls 1 4 rfl rfl))) <| J.run rfl rfl rfl hc3128 <| jv _ (V.fad Tryz.underlying34 rfl nz30 rfl) <| J.run rfl rfl rfl hc3128 ?_
   refine jv (.agg #[.slice adxb_4 xb.2.2.2.2.1.length cpxb_4]) (V.ld rfl (Ld.agg (cs := [.slice adxb_4 xb.2.2.2.2.1.length cpxb_4]) Tryz.underlying30 sz30 rfl (Rd.cls 0 4 rfl rfl))) <| J.run rfl rfl rfl hc3128 ?_
   obtain ⟨r3129, hr3130, ht3127⟩ := ob ht3127
   refine J.op rfl (A.call (L1 := []) Tryz.call38 rfl (ref15_Same_ok fxa_4 fxb_4 hr3130) rfl rfl) ?_
   rintro _ _ _ ⟨v3132, _, rfl, ⟨⟨t3131, rfl, rfl, rfl⟩, rfl⟩, _, rfl⟩
   refine J.run rfl rfl rfl hc3128 <| jv (.bool (!t3131)) (V.not rfl) <| jv (.bool (!t3131)) (V.pickF rfl hc3128 rfl) <| J.nil ?_
   obtain rfl := si ht3127
   exact ⟨rfl, ⟨rfl, rfl, rfl, trivial⟩, rfl, rfl⟩
 intro ρ
 refine jm (.bool t3126) rfl <| J.cut 8 <| jmeet [(54, .bool (t3126 || (!decide ((((xa.2.2.2.2.2.1.length : Nat) : Int)) = (((xb.2.2.2.2.2.1.length : Nat) : Int)))))), (2, .pointer (some ⟨b3082, 0, none⟩)), (3, .pointer (some ⟨b3083, 0, none⟩))] ?_ ?_
 · rcases bt (t3126) with hc3137 | hc3137
   · refine J.skip rfl rfl rfl rfl hc3137 <| J.skip rfl rfl rfl rfl hc3137 <| J.skip rfl rfl rfl rfl hc3137 <| J.skip rfl rfl rfl rfl hc3137 <| J.skip rfl rfl rfl rfl hc3137 <| J.skip rfl rfl rfl rfl hc3137 <| J.skip rfl rfl rfl rfl hc3137 ?_
     refine jv (.bool true) (V.pickT rfl hc3137 rfl) <| J.nil ?_
     exact ⟨rfl, ⟨(by simp only [hc3137]; rfl), rfl, rfl, trivial⟩, rfl, rfl⟩
   refine J.run rfl rfl rfl hc3137 <| jv _ (V.fad Tryz.underlying34 rfl nz31 rfl) <| J.run rfl rfl rfl hc3137 <| jv (.slice adxa_5 xa.2.2.2.2.2.1.length cpxa_5) (V.ld rfl (Ld.sc sc31 (Rd.cl 1 rfl rfl))) <| J.run rfl rfl rfl hc3137 <| jv (ii (((xa.2.2.2.2.2.1.length : Nat) : Int))) (V.len Tryz.underlying31 rfl) <| J.run rfl rfl rfl hc3137 ?_
   refine jv _ (V.fad Tryz.underlying34 rfl nz31 rfl) <| J.run rfl rfl rfl hc3137 <| jv (.slice adxb_5 xb.2.2.2.2.2.1.length cpxb_5) (V.ld rfl (Ld.sc sc31 (Rd.cl 0 rfl rfl))) <| J.run rfl rfl rfl hc3137 <| jv (ii (((xb.2.2.2.2.2.1.length : Nat) : Int))) (V.len Tryz.underlying31 rfl) <| J.run rfl rfl rfl hc3137 <| jv (.bool (!decide ((((xa.2.2.2.2.2.1.length : Nat) : Int)) = (((xb.2.2.2.2.2.1.length : Nat) : Int))))) (V.neq rfl rfl) ?_
   refine jv (.bool (!decide ((((xa.2.2.2.2.2.1.length : Nat) : Int)) = (((xb.2.2.2.2.2.1.length : Nat) : Int))))) (V.pickF rfl hc3137 rfl) <| J.nil ?_
   exact ⟨rfl, ⟨(by simp only [hc3137]; rfl), rfl, rfl, trivial⟩, rfl, rfl⟩
 intro ρ
 refine jm (.bool (t3126 || (!decide ((((xa.2.2.2.2.2.1.length : Nat) : Int)) = (((xb.2.2.2.2.2.1.length : Nat) : Int)))))) rfl <| J.cut 8 <| jmeet [(63, .bool ((t3126 || (!decide ((((xa.2.2.2.2.2.1.length : Nat) : Int)) = (((xb.2.2.2.2.2.1.length : Nat) : Int))))) || (!decide ((((xa.2.2.2.2.2.2.length : Nat) : Int)) = (((xb.2.2.2.2.2.2.length : Nat) : Int)))))), (2, .pointer (some ⟨b3082, 0, none⟩)), (3, .pointer (some ⟨b3083, 0, none⟩))] ?_ ?_
 · rcases bt (t3126 || (!decide ((((xa.2.2.2.2.2.1.length : Nat) : Int)) = (((xb.2.2.2.2.2.1.length : Nat) : Int))))) with hc3140 | hc3140
   · refine J.skip rfl rfl rfl rfl hc3140 <| J.skip rfl rfl rfl rfl hc3140 <| J.skip rfl rfl rfl rfl hc3140 <| J.skip rfl rfl rfl rfl hc3140 <| J.skip rfl rfl rfl rfl hc3140 <| J.skip rfl rfl rfl rfl hc3140 <| J.skip rfl rfl rfl rfl hc3140 ?_
     refine jv (.bool true) (V.pickT rfl hc3140 rfl) <| J.nil ?_
     exact ⟨rfl, ⟨(by simp only [hc3140]; rfl), rfl, rfl, trivial⟩, rfl, rfl⟩
   refine J.run rfl rfl rfl hc3140 <| jv _ (V.fad Tryz.underlying34 rfl nz32 rfl) <| J.run rfl rfl rfl hc3140 <| jv (.slice adxa_6 xa.2.2.2.2.2.2.length cpxa_6) (V.ld rfl (Ld.sc sc32 (Rd.cl 1 rfl rfl))) <| J.run rfl rfl rfl hc3140 <| jv (ii (((xa.2.2.2.2.2.2.length : Nat) : Int))) (V.len Tryz.underlying32 rfl) <| J.run rfl rfl rfl hc3140 ?_
   refine jv _ (V.fad Tryz.underlying34 rfl nz32 rfl) <| J.run rfl rfl rfl hc3140 <| jv (.slice adxb_6 xb.2.2.2.2.2.2.length cpxb_6) (V.ld rfl (Ld.sc sc32 (Rd.cl 0 rfl rfl))) <| J.run rfl rfl rfl hc3140 <| jv (ii (((xb.2.2.2.2.2.2.length : Nat) : Int))) (V.len Tryz.underlying32 rfl) <| J.run rfl rfl rfl hc3140 <| jv (.bool (!decide ((((xa.2.2.2.2.2.2.length : Nat) : Int)) = (((xb.2.2.2.2.2.2.length : Nat) : Int))))) (V.neq rfl rfl) ?_
   refine jv (.bool (!decide ((((xa.2.2.2.2.2.2.length : Nat) : Int)) = (((xb.2.2.2.2.2.2.length : Nat) : Int))))) (V.pickF rfl hc3140 rfl) <| J.nil ?_
   exact ⟨rfl, ⟨(by simp only [hc3140]; rfl), rfl, rfl, trivial⟩, rfl, rfl⟩
 intro ρ
 refine J.nil <| cc rfl h (fun hc3141 h => ?_) fun hc3141 h => ?_
 · refine CJ.seq <| CJ.region <| ja (.bool false) rfl <| J.nil <| CJ.ret ?_
   obtain rfl := si h
   exact ⟨_, _, Res.one rfl rfl, ⟨false, rfl, rfl, rfl⟩, (Hp.le_refl _), fun w hs => (Sep.dropAt 0 rfl (Sep.dropAt 0 rfl hs))⟩
 refine CJ.skip <| CJ.seq <| CJ.seq <| CJ.region <| ja (ii 0) rfl <| J.nil ?_
 obtain ⟨o3443, ho3444, h⟩ := ob h
 refine CJ.joinN (o := o3443) (fun s ρ K' L' => () = s ∧ Fits [(2, .pointer (some ⟨b3082, 0, none⟩)), (3, .pointer (some ⟨b3083, 0, none⟩))] ρ ∧ K = K' ∧ L' = Cl b3082 34 [ii xa.1, ii xa.2.1, .slice adxa_2 xa.2.2.1.length cpxa_2, .slice adxa_3 xa.2.2.2.1.length cpxa_3, .slice adxa_4 xa.2.2.2.2.1.length cpxa_4, .slice adxa_5 xa.2.2.2.2.2.1.length cpxa_5, .slice adxa_6 xa.2.2.2.2.2.2.length cpxa_6] :: Cl b3083 34 [ii xb.1, ii xb.2.1, .slice adxb_2 xb.2.2.1.length cpxb_2, .slice adxb_3 xb.2.2.2.1.length cpxb_3, .slice adxb_4 xb.2.2.2.2.1.length cpxb_4, .slice adxb_5 xb.2.2.2.2.2.1.length cpxb_5, .slice adxb_6 xb.2.2.2.2.2.2.length cpxb_6] :: F) ?_ ?_
 · refine CJ.block <| CJ.front 1 rfl <| CJ.loop (fun s ρ K' L' => ∃ (i3544 : Int), i3544 = s ∧ Fits [(2, .pointer (some ⟨b3082, 0, none⟩)), (3, .pointer (some ⟨b3083, 0, none⟩)), (5, ii i3544)] ρ ∧ K = K' ∧ L' = Cl b3082 34 [ii xa.1, ii xa.2.1, .slice adxa_2 xa.2.2.1.length cpxa_2, .slice adxa_3 xa.2.2.2.1.length cpxa_3, .slice adxa_4 xa.2.2.2.2.1.length cpxa_4, .slice adxa_5 xa.2.2.2.2.2.1.length cpxa_5, .slice adxa_6 xa.2.2.2.2.2.2.length cpxa_6] :: Cl b3083 34 [ii xb.1, ii xb.2.1, .slice adxb_2 xb.2.2.1.length cpxb_2, .slice adxb_3 xb.2.2.2.1.length cpxb_3, .slice adxb_4 xb.2.2.2.2.1.length cpxb_4, .slice adxb_5 xb.2.2.2.2.2.1.length cpxb_5, .slice adxb_6 xb.2.2.2.2.2.2.length cpxb_6] :: F) ho3444 ⟨0, rfl, ⟨rfl, rfl, rfl, trivial⟩, rfl, rfl⟩ ?_
   rintro s ρ _ _ r3647 ⟨i3544, rfl, hf3645, rfl, rfl⟩ h3644
   obtain ⟨ρ, rfl⟩ := hf3645.ex
   refine CJ.seq <| CJ.seq <| CJ.region <| jm (ii i3544) rfl <| jv _ (V.fad Tryz.underlying34 rfl nz31 rfl) <| jv (.slice adxa_5 xa.2.2.2.2.2.1.length cpxa_5) (V.ld rfl (Ld.sc sc31 (Rd.cl 0 rfl rfl))) <| jv (ii (((xa.2.2.2.2.2.1.length : Nat) : Int))) (V.len Tryz.underlying31 rfl) ?_
   refine jv (.bool (decide (i3544 < (((xa.2.2.2.2.2.1.length : Nat) : Int))))) (V.lss rfl rfl) <| J.nil <| cc rfl h3644 (fun hc3648 h3644 => ?_) fun hc3648 h3644 => ?_
   · refine CJ.skip <| CJ.seq <| CJ.block <| CJ.seq <| CJ.mix [Cl b3082 34 [ii xa.1, ii xa.2.1, .slice adxa_2 xa.2.2.1.length cpxa_2, .slice adxa_3 xa.2.2.2.1.length cpxa_3, .slice adxa_4 xa.2.2.2.2.1.length cpxa_4, .slice adxa_5 xa.2.2.2.2.2.1.length cpxa_5, .slice adxa_6 xa.2.2.2.2.2.2.length cpxa_6], Cl b3083 34 [ii xb.1, ii xb.2.1, .slice adxb_2 xb.2.2.1.length cpxb_2, .slice adxb_3 xb.2.2.2.1.length cpxb_3, .slice adxb_4 xb.2.2.2.2.1.length cpxb_4, .slice adxb_5 xb.2.2.2.2.2.1.length cpxb_5, .slice adxb_6 xb.2.2.2.2.2.2.length cpxb_6]] [([0, 1, 2, 3, 4, 5, 6, 7, 8, 9], 10)] [11] [] mixO (by decide +kernel) ⟨0, rfl, 0, rfl, trivial⟩ rfl rfl rfl <| JM.cons <| qv _ (V.fad Tryz.underlying34 rfl nz31 rfl) ?_
     refine qv (.slice adxa_5 xa.2.2.2.2.2.1.length cpxa_5) (V.ld rfl (Ld.sc sc31 (Rd.cl 0 rfl rfl))) <| qm (ii i3544) rfl ?_
     obtain ⟨x3697, hx3698, h3644⟩ := ob h3644
     obtain ⟨p3699, p3700, p3701⟩ := getI_some hx3698
     obtain ⟨b3702, o3703, e3704, a3705⟩ := (fxa_5).at p3700
     refine qv _ (V.iad Tryz.underlying31 sz63 rfl e3704 rfl p3699 p3701) ?_
     obtain ⟨ad3706, cp3707, c3708, f3709⟩ := (((a3705).snd).fst).sl
     obtain ⟨ad3710, cp3711, c3712, f3713⟩ := ((((a3705).snd).snd).fst).sl
     obtain ⟨ad3714, cp3715, c3716, f3717⟩ := ((((((a3705).snd).snd).snd).one).one).sl
     refine qv (.agg #[ii x3697.1, .slice ad3706 x3697.2.1.length cp3707, .slice ad3710 x3697.2.2.1.length cp3711, .slice ad3714 x3697.2.2.2.length cp3715]) (V.ld rfl (Ld.aggK (cs := [ii x3697.1, .slice ad3706 x3697.2.1.length cp3707, .slice ad3710 x3697.2.2.1.length cp3711, .slice ad3714 x3697.2.2.2.length cp3715]) Tryz.underlying63 sz63 rfl ⟨((a3705).fst).int, c3708, c3712, c3716, trivial⟩ (Hp.le_refl _))) <| qv _ (V.fad Tryz.underlying34 rfl nz31 rfl) <| qv (.slice adxb_5 xb.2.2.2.2.2.1.length cpxb_5) (V.ld rfl (Ld.sc sc31 (Rd.cl 1 rfl rfl))) <| qm (ii i3544) rfl ?_
     obtain ⟨x3718, hx3719, h3644⟩ := ob h3644
     obtain ⟨p3720, p3721, p3722⟩ := getI_some hx3719
     obtain ⟨b3723, o3724, e3725, a3726⟩ := (fxb_5).at p3721
     refine qv _ (V.iad Tryz.underlying31 sz63 rfl e3725 rfl p3720 p3722) ?_
     obtain ⟨ad3727, cp3728, c3729, f3730⟩ := (((a3726).snd).fst).sl
     obtain ⟨ad3731, cp3732, c3733, f3734⟩ := ((((a3726).snd).snd).fst).sl
     obtain ⟨ad3735, cp3736, c3737, f3738⟩ := ((((((a3726).snd).snd).snd).one).one).sl
     refine qv (.agg #[ii x3718.1, .slice ad3727 x3718.2.1.length cp3728, .slice ad3731 x3718.2.2.1.length cp3732, .slice ad3735 x3718.2.2.2.length cp3736]) (V.ld rfl (Ld.aggK (cs := [ii x3718.1, .slice ad3727 x3718.2.1.length cp3728, .slice ad3731 x3718.2.2.1.length cp3732, .slice ad3735 x3718.2.2.2.length cp3736]) Tryz.underlying63 sz63 rfl ⟨((a3726).fst).int, c3729, c3733, c3737, trivial⟩ (Hp.le_refl _))) <| JQ.nil ?_
     obtain ⟨r3739, hr3740, h3644⟩ := ob h3644
     refine JA.op rfl (A.call (L1 := []) Tryz.call39 rfl (ref17_Same_ok f3709 f3713 f3717 f3730 f3734 f3738 hr3740) rfl rfl) ?_
     rintro _ _ _ ⟨v3742, _, rfl, ⟨⟨t3741, rfl, rfl, rfl⟩, rfl⟩, _, rfl⟩
     refine ⟨fun w hs => Hold.sub (Hp.le_refl _) ⟨0, rfl, 0, rfl, trivial⟩ hs, ?_⟩
     refine JM.nil <| qv (.bool (!t3741)) (V.not rfl) <| JQ.nil <| J.nil <| cc rfl h3644 (fun hc3745 h3644 => ?_) fun hc3745 h3644 => ?_
     · refine CJ.seq <| CJ.region <| ja (.bool false) rfl <| J.nil <| CJ.ret ?_
       obtain rfl := si h3644
       refine ⟨nofun, fun e => ?_⟩
       subst e
       refine .inr ⟨nofun, ?_⟩
       obtain rfl := si h
       exact ⟨_, _, Res.one rfl rfl, ⟨false, rfl, rfl, rfl⟩, (Hp.le_refl _), fun w hs => (Sep.dropAt 0 rfl (Sep.dropAt 0 rfl hs))⟩
     refine CJ.skip <| CJ.region <| jm (ii i3544) rfl <| jv (ii (IntKind.wrap .i64 (i3544 + 1))) (V.add rfl rfl) <| ja (ii (IntKind.wrap .i64 (i3544 + 1))) rfl <| J.nil ?_
     obtain rfl := si h3644
     exact ⟨rfl, ⟨IntKind.wrap .i64 (i3544 + 1), rfl, ⟨rfl, rfl, rfl, trivial⟩, rfl, rfl⟩⟩
   refine CJ.exit ?_
   obtain rfl := si h3644
   refine ⟨nofun, fun e => ?_⟩
   subst e
   exact .inl ⟨rfl, _, rfl, ⟨rfl, ⟨rfl, rfl, trivial⟩, rfl, rfl⟩⟩
 rintro s ρ _ _ ho3746 ⟨rfl, hf3747, rfl, rfl⟩
 subst ho3746
 obtain ⟨ρ, rfl⟩ := hf3747.ex
 refine PJ.done <| CJ.seq <| CJ.seq <| CJ.region <| ja (ii 0) rfl <| J.nil ?_
 obtain ⟨o4953, ho4954, h⟩ := ob h
 refine CJ.joinN (o := o4953) (fun s ρ K' L' => () = s ∧ Fits [] ρ ∧ K = K' ∧ F = L') ?_ ?_
 · refine CJ.block <| CJ.loop (fun s ρ K' L' => ∃ (i5355 : Int), i5355 = s ∧ Fits [(2, .pointer (some ⟨b3082, 0, none⟩)), (3, .pointer (some ⟨b3083, 0, none⟩)), (6, ii i5355)] ρ ∧ K = K' ∧ L' = Cl b3082 34 [ii xa.1, ii xa.2.1, .slice adxa_2 xa.2.2.1.length cpxa_2, .slice adxa_3 xa.2.2.2.1.length cpxa_3, .slice adxa_4 xa.2.2.2.2.1.length cpxa_4, .slice adxa_5 xa.2.2.2.2.2.1.length cpxa_5, .slice adxa_6 xa.2.2.2.2.2.2.length cpxa_6] :: Cl b3083 34 [ii xb.1, ii xb.2.1, .slice adxb_2 xb.2.2.1.length cpxb_2, .slice adxb_3 xb.2.2.2.1.length cpxb_3, .slice adxb_4 xb.2.2.2.2.1.length cpxb_4, .slice adxb_5 xb.2.2.2.2.2.1.length cpxb_5, .slice adxb_6 xb.2.2.2.2.2.2.length cpxb_6] :: F) ho4954 ⟨0, rfl, ⟨rfl, rfl, rfl, trivial⟩, rfl, rfl⟩ ?_
   rintro s ρ _ _ r5759 ⟨i5355, rfl, hf5757, rfl, rfl⟩ h5756
   obtain ⟨ρ, rfl⟩ := hf5757.ex
   refine CJ.seq <| CJ.seq <| CJ.region <| jm (ii i5355) rfl <| jv _ (V.fad Tryz.underlying34 rfl nz32 rfl) <| jv (.slice adxa_6 xa.2.2.2.2.2.2.length cpxa_6) (V.ld rfl (Ld.sc sc32 (Rd.cl 0 rfl rfl))) <| jv (ii (((xa.2.2.2.2.2.2.length : Nat) : Int))) (V.len Tryz.underlying32 rfl) ?_
   refine jv (.bool (decide (i5355 < (((xa.2.2.2.2.2.2.length : Nat) : Int))))) (V.lss rfl rfl) <| J.nil <| cc rfl h5756 (fun hc5760 h5756 => ?_) fun hc5760 h5756 => ?_
   · refine CJ.skip <| CJ.seq <| CJ.block <| CJ.seq <| CJ.mix [Cl b3082 34 [ii xa.1, ii xa.2.1, .slice adxa_2 xa.2.2.1.length cpxa_2, .slice adxa_3 xa.2.2.2.1.length cpxa_3, .slice adxa_4 xa.2.2.2.2.1.length cpxa_4, .slice adxa_5 xa.2.2.2.2.2.1.length cpxa_5, .slice adxa_6 xa.2.2.2.2.2.2.length cpxa_6], Cl b3083 34 [ii xb.1, ii xb.2.1, .slice adxb_2 xb.2.2.1.length cpxb_2, .slice adxb_3 xb.2.2.2.1.length cpxb_3, .slice adxb_4 xb.2.2.2.2.1.length cpxb_4, .slice adxb_5 xb.2.2.2.2.2.1.length cpxb_5, .slice adxb_6 xb.2.2.2.2.2.2.length cpxb_6]] [] [0, 1, 2, 3, 4, 5, 6, 7, 8, 9, 10, 11, 12, 13] [] mixO (by decide +kernel) ⟨0, rfl, 0, rfl, trivial⟩ rfl rfl rfl <| JM.nil <| qv _ (V.fad Tryz.underlying34 rfl nz32 rfl) ?_
     refine qv (.slice adxa_6 xa.2.2.2.2.2.2.length cpxa_6) (V.ld rfl (Ld.sc sc32 (Rd.cl 0 rfl rfl))) <| qm (ii i5355) rfl ?_
     obtain ⟨x5787, hx5788, h5756⟩ := ob h5756
     obtain ⟨p5789, p5790, p5791⟩ := getI_some hx5788
     obtain ⟨b5792, o5793, e5794, a5795⟩ := (fxa_6).at p5790
     refine qv _ (V.iad Tryz.underlying32 sz70 rfl e5794 rfl p5789 p5791) <| qv _ (V.fad Tryz.underlying70 rfl nz65 rfl) ?_
     obtain ⟨ad5796, cp5797, c5798, f5799⟩ := ((a5795).fst).sl
     refine qv (.slice ad5796 x5787.1.length cp5797) (V.ld rfl (Ld.sc sc65 (Rd.k c5798 (Hp.le_refl _)))) <| qv _ (V.fad Tryz.underlying34 rfl nz32 rfl) <| qv (.slice adxb_6 xb.2.2.2.2.2.2.length cpxb_6) (V.ld rfl (Ld.sc sc32 (Rd.cl 1 rfl rfl))) <| qm (ii i5355) rfl ?_
     obtain ⟨x5800, hx5801, h5756⟩ := ob h5756
     obtain ⟨p5802, p5803, p5804⟩ := getI_some hx5801
     obtain ⟨b5805, o5806, e5807, a5808⟩ := (fxb_6).at p5803
     refine qv _ (V.iad Tryz.underlying32 sz70 rfl e5807 rfl p5802 p5804) <| qv _ (V.fad Tryz.underlying70 rfl nz65 rfl) ?_
     obtain ⟨ad5809, cp5810, c5811, f5812⟩ := ((a5808).fst).sl
     refine qv (.slice ad5809 x5800.1.length cp5810) (V.ld rfl (Ld.sc sc65 (Rd.k c5811 (Hp.le_refl _)))) <| qa (.slice ad5796 x5787.1.length cp5797) rfl <| qa (.slice ad5809 x5800.1.length cp5810) rfl <| JQ.nil <| J.nil <| CJ.seq <| CJ.seq ?_
     refine CJ.mix [Cl b3082 34 [ii xa.1, ii xa.2.1, .slice adxa_2 xa.2.2.1.length cpxa_2, .slice adxa_3 xa.2.2.2.1.length cpxa_3, .slice adxa_4 xa.2.2.2.2.1.length cpxa_4, .slice adxa_5 xa.2.2.2.2.2.1.length cpxa_5, .slice adxa_6 xa.2.2.2.2.2.2.length cpxa_6], Cl b3083 34 [ii xb.1, ii xb.2.1, .slice adxb_2 xb.2.2.1.length cpxb_2, .slice adxb_3 xb.2.2.2.1.length cpxb_3, .slice adxb_4 xb.2.2.2.2.1.length cpxb_4, .slice adxb_5 xb.2.2.2.2.2.1.length cpxb_5, .slice adxb_6 xb.2.2.2.2.2.2.length cpxb_6]] [([0, 1, 2, 3, 4, 5, 6, 7, 8, 9, 10, 11, 12, 13, 14, 15, 16, 17], 18)] [19, 20] [] mixO (by decide +kernel) ⟨0, rfl, 0, rfl, trivial⟩ rfl rfl rfl <| JM.cons <| qm (.slice ad5796 x5787.1.length cp5797) rfl <| qv (ii (((x5787.1.length : Nat) : Int))) (V.len Tryz.underlying65 rfl) <| qm (.slice ad5809 x5800.1.length cp5810) rfl <| qv (ii (((x5800.1.length : Nat) : Int))) (V.len Tryz.underlying65 rfl) <| qv (.bool (!decide ((((x5787.1.length : Nat) : Int)) = (((x5800.1.length : Nat) : Int))))) (V.neq rfl rfl) ?_
     refine qm (.bool (!decide ((((x5787.1.length : Nat) : Int)) = (((x5800.1.length : Nat) : Int))))) rfl ?_
     rcases bt (!decide ((((x5787.1.length : Nat) : Int)) = (((x5800.1.length : Nat) : Int)))) with hc5862 | hc5862
     · have h5756 := ct hc5862 h5756
       refine JQ.skip rfl rfl rfl rfl hc5862 <| JQ.skip rfl rfl rfl rfl hc5862 <| JQ.skip rfl rfl rfl rfl hc5862 <| JQ.skip rfl rfl rfl rfl hc5862 <| JQ.skip rfl rfl rfl rfl hc5862 <| JQ.skip rfl rfl rfl rfl hc5862 <| JQ.skip rfl rfl rfl rfl hc5862 ?_
       refine JQ.skip rfl rfl rfl rfl hc5862 <| JQ.skip rfl rfl rfl rfl hc5862 <| JQ.skip rfl rfl rfl rfl hc5862 <| JQ.skip rfl rfl rfl rfl hc5862 <| JQ.skip rfl rfl rfl rfl hc5862 <| JQ.nil <| JA.skip rfl rfl rfl rfl hc5862 ?_
       refine JM.nil <| JQ.skip rfl rfl rfl rfl hc5862 <| qv (.bool true) (V.pickT rfl hc5862 rfl) <| JQ.nil <| J.nil <| CJ.condK (b := true) rfl rfl <| CJ.seq ?_
       refine CJ.region <| ja (.bool false) rfl <| J.nil <| CJ.ret ?_
       obtain rfl := si h5756
       refine ⟨nofun, fun e => ?_⟩
       subst e
       refine .inr ⟨nofun, ?_⟩
       obtain rfl := si h
       exact ⟨_, _, Res.one rfl rfl, ⟨false, rfl, rfl, rfl⟩, (Hp.le_refl _), fun w hs => (Sep.dropAt 0 rfl (Sep.dropAt 0 rfl hs))⟩
     have h5756 := cf hc5862 h5756
     refine JQ.run rfl rfl rfl hc5862 <| qv _ (V.fad Tryz.underlying34 rfl nz32 rfl) <| JQ.run rfl rfl rfl hc5862 <| qv (.slice adxa_6 xa.2.2.2.2.2.2.length cpxa_6) (V.ld rfl (Ld.sc sc32 (Rd.cl 0 rfl rfl))) <| JQ.run rfl rfl rfl hc5862 <| qm (ii i5355) rfl <| JQ.run rfl rfl rfl hc5862 ?_
     obtain ⟨x5863, hx5864, h5756⟩ := ob h5756
     obtain ⟨p5865, p5866, p5867⟩ := getI_some hx5864
     obtain ⟨b5868, o5869, e5870, a5871⟩ := (fxa_6).at p5866
     refine qv _ (V.iad Tryz.underlying32 sz70 rfl e5870 rfl p5865 p5867) <| JQ.run rfl rfl rfl hc5862 <| qv _ (V.fad Tryz.underlying70 rfl nz68 rfl) <| JQ.run rfl rfl rfl hc5862 ?_
     obtain ⟨ad5872, cp5873, c5874, f5875⟩ := (((((((a5871).snd).one).snd).snd).snd).fst).sl
     obtain ⟨ad5876, cp5877, c5878, f5879⟩ := ((((((((a5871).snd).one).snd).snd).snd).snd).fst).sl
     obtain ⟨ad5880, cp5881, c5882, f5883⟩ := (((((((((a5871).snd).one).snd).snd).snd).snd).snd).one).sl
     refine qv (.agg #[ii x5863.2.1, ii x5863.2.2.1, ii x5863.2.2.2.1, .slice ad5872 x5863.2.2.2.2.1.length cp5873, .slice ad5876 x5863.2.2.2.2.2.1.length cp5877, .slice ad5880 x5863.2.2.2.2.2.2.length cp5881]) (V.ld rfl (Ld.aggK (cs := [ii x5863.2.1, ii x5863.2.2.1, ii x5863.2.2.2.1, .slice ad5872 x5863.2.2.2.2.1.length cp5873, .slice ad5876 x5863.2.2.2.2.2.1.length cp5877, .slice ad5880 x5863.2.2.2.2.2.2.length cp5881]) Tryz.underlying68 sz68 rfl ⟨((((a5871).snd).one).fst).int, (((((a5871).snd).one).snd).fst).int, ((((((a5871).snd).one).snd).snd).fst).int, c5874, c5878, c5882, trivial⟩ (Hp.le_refl _))) <| JQ.run rfl rfl rfl hc5862 <| qv _ (V.fad Tryz.underlying34 rfl nz32 rfl) <| JQ.run rfl rfl rfl hc5862 <| qv (.slice adxb_6 xb.2.2.2.2.2.2.length cpxb_6) (V.ld rfl (Ld.sc sc32 (Rd.cl 1 rfl rfl))) <| JQ.run rfl rfl rfl hc5862 <| qm (ii i5355) rfl ?_
     refine JQ.run rfl rfl rfl hc5862 ?_
     obtain ⟨x5884, hx5885, h5756⟩ := ob h5756
     obtain ⟨p5886, p5887, p5888⟩ := getI_some hx5885
     obtain ⟨b5889, o5890, e5891, a5892⟩ := (fxb_6).at p5887
     refine qv _ (V.iad Tryz.underlying32 sz70 rfl e5891 rfl p5886 p5888) <| JQ.run rfl rfl rfl hc5862 <| qv _ (V.fad Tryz.underlying70 rfl nz68 rfl) <| JQ.run rfl rfl rfl hc5862 ?_
     obtain ⟨ad5893, cp5894, c5895, f5896⟩ := (((((((a5892).snd).one).snd).snd).snd).fst).sl
     obtain ⟨ad5897, cp5898, c5899, f5900⟩ := ((((((((a5892).snd).one).snd).snd).snd).snd).fst).sl
     obtain ⟨ad5901, cp5902, c5903, f5904⟩ := (((((((((a5892).snd).one).snd).snd).snd).snd).snd).one).sl
     refine qv (.agg #[ii x5884.2.1, ii x5884.2.2.1, ii x5884.2.2.2.1, .slice ad5893 x5884.2.2.2.2.1.length cp5894, .slice ad5897 x5884.2.2.2.2.2.1.length cp5898, .slice ad5901 x5884.2.2.2.2.2.2.length cp5902]) (V.ld rfl (Ld.aggK (cs := [ii x5884.2.1, ii x5884.2.2.1, ii x5884.2.2.2.1, .slice ad5893 x5884.2.2.2.2.1.length cp5894, .slice ad5897 x5884.2.2.2.2.2.1.length cp5898, .slice ad5901 x5884.2.2.2.2.2.2.length cp5902]) Tryz.underlying68 sz68 rfl ⟨((((a5892).snd).one).fst).int, (((((a5892).snd).one).snd).fst).int, ((((((a5892).snd).one).snd).snd).fst).int, c5895, c5899, c5903, trivial⟩ (Hp.le_refl _))) <| JQ.nil <| JA.run rfl rfl rfl hc5862 ?_
     obtain ⟨r5905, hr5906, h5756⟩ := ob h5756
     refine JA.op rfl (A.call (L1 := []) Tryz.call40 rfl (ref19_Same_ok f5875 f5879 f5883 f5896 f5900 f5904 hr5906) rfl rfl) ?_
     rintro _ _ _ ⟨v5908, _, rfl, ⟨⟨t5907, rfl, rfl, rfl⟩, rfl⟩, _, rfl⟩
     refine ⟨fun w hs => Hold.sub (Hp.le_refl _) ⟨0, rfl, 0, rfl, trivial⟩ hs, ?_⟩
     refine JM.nil <| JQ.run rfl rfl rfl hc5862 <| qv (.bool (!t5907)) (V.not rfl) <| qv (.bool (!t5907)) (V.pickF rfl hc5862 rfl) <| JQ.nil <| J.nil <| cc rfl h5756 (fun hc5911 h5756 => ?_) fun hc5911 h5756 => ?_
     · refine CJ.seq <| CJ.region <| ja (.bool false) rfl <| J.nil <| CJ.ret ?_
       obtain rfl := si h5756
       refine ⟨nofun, fun e => ?_⟩
       subst e
       refine .inr ⟨nofun, ?_⟩
       obtain rfl := si h
       exact ⟨_, _, Res.one rfl rfl, ⟨false, rfl, rfl, rfl⟩, (Hp.le_refl _), fun w hs => (Sep.dropAt 0 rfl (Sep.dropAt 0 rfl hs))⟩
     refine CJ.skip <| CJ.seq <| CJ.region <| ja (ii 0) rfl <| J.nil ?_
     obtain ⟨o6033, ho6034, h5756⟩ := ob h5756
     refine CJ.joinN (o := o6033) (fun s ρ K' L' => () = s ∧ Fits [(2, .pointer (some ⟨b3082, 0, none⟩)), (3, .pointer (some ⟨b3083, 0, none⟩)), (6, ii i5355)] ρ ∧ K = K' ∧ L' = Cl b3082 34 [ii xa.1, ii xa.2.1, .slice adxa_2 xa.2.2.1.length cpxa_2, .slice adxa_3 xa.2.2.2.1.length cpxa_3, .slice adxa_4 xa.2.2.2.2.1.length cpxa_4, .slice adxa_5 xa.2.2.2.2.2.1.length cpxa_5, .slice adxa_6 xa.2.2.2.2.2.2.length cpxa_6] :: Cl b3083 34 [ii xb.1, ii xb.2.1, .slice adxb_2 xb.2.2.1.length cpxb_2, .slice adxb_3 xb.2.2.2.1.length cpxb_3, .slice adxb_4 xb.2.2.2.2.1.length cpxb_4, .slice adxb_5 xb.2.2.2.2.2.1.length cpxb_5, .slice adxb_6 xb.2.2.2.2.2.2.length cpxb_6] :: F) ?_ ?_
     · refine CJ.block <| CJ.loop (fun s ρ K' L' => ∃ (i6074 : Int), i6074 = s ∧ Fits [(2, .pointer (some ⟨b3082, 0, none⟩)), (3, .pointer (some ⟨b3083, 0, none⟩)), (6, ii i5355), (7, .slice ad5796 x5787.1.length cp5797), (8, .slice ad5809 x5800.1.length cp5810), (9, ii i6074)] ρ ∧ K = K' ∧ L' = Cl b3082 34 [ii xa.1, ii xa.2.1, .slice adxa_2 xa.2.2.1.length cpxa_2, .slice adxa_3 xa.2.2.2.1.length cpxa_3, .slice adxa_4 xa.2.2.2.2.1.length cpxa_4, .slice adxa_5 xa.2.2.2.2.2.1.length cpxa_5, .slice adxa_6 xa.2.2.2.2.2.2.length cpxa_6] :: Cl b3083 34 [ii xb.1, ii xb.2.1, .slice adxb_2 xb.2.2.1.length cpxb_2, .slice adxb_3 xb.2.2.2.1.length cpxb_3, .slice adxb_4 xb.2.2.2.2.1.length cpxb_4, .slice adxb_5 xb.2.2.2.2.2.1.length cpxb_5, .slice adxb_6 xb.2.2.2.2.2.2.length cpxb_6] :: F) ho6034 ⟨0, rfl, ⟨rfl, rfl, rfl, rfl, rfl, rfl, trivial⟩, rfl, rfl⟩ ?_
       rintro s ρ _ _ r6117 ⟨i6074, rfl, hf6115, rfl, rfl⟩ h6114
       obtain ⟨ρ, rfl⟩ := hf6115.ex
       refine CJ.seq <| CJ.seq <| CJ.region <| jm (ii i6074) rfl <| jm (.slice ad5796 x5787.1.length cp5797) rfl <| jv (ii (((x5787.1.length : Nat) : Int))) (V.len Tryz.underlying65 rfl) <| jv (.bool (decide (i6074 < (((x5787.1.length : Nat) : Int))))) (V.lss rfl rfl) ?_
       refine J.nil <| cc rfl h6114 (fun hc6118 h6114 => ?_) fun hc6118 h6114 => ?_
       · refine CJ.skip <| CJ.seq <| CJ.block <| CJ.seq <| CJ.mix [Cl b3082 34 [ii xa.1, ii xa.2.1, .slice adxa_2 xa.2.2.1.length cpxa_2, .slice adxa_3 xa.2.2.2.1.length cpxa_3, .slice adxa_4 xa.2.2.2.2.1.length cpxa_4, .slice adxa_5 xa.2.2.2.2.2.1.length cpxa_5, .slice adxa_6 xa.2.2.2.2.2.2.length cpxa_6], Cl b3083 34 [ii xb.1, ii xb.2.1, .slice adxb_2 xb.2.2.1.length cpxb_2, .slice adxb_3 xb.2.2.2.1.length cpxb_3, .slice adxb_4 xb.2.2.2.2.1.length cpxb_4, .slice adxb_5 xb.2.2.2.2.2.1.length cpxb_5, .slice adxb_6 xb.2.2.2.2.2.2.length cpxb_6]] [] [0, 1, 2, 3, 4, 5, 6, 7, 8] [] mixO (by decide +kernel) ⟨0, rfl, 0, rfl, trivial⟩ rfl rfl rfl <| JM.nil <| qm (.slice ad5796 x5787.1.length cp5797) rfl ?_
         refine qm (ii i6074) rfl ?_
         obtain ⟨x6137, hx6138, h6114⟩ := ob h6114
         obtain ⟨p6139, p6140, p6141⟩ := getI_some hx6138
         obtain ⟨b6142, o6143, e6144, a6145⟩ := (f5799).at p6140
         refine qv _ (V.iad Tryz.underlying65 sz73 rfl e6144 rfl p6139 p6141) <| qv (.agg #[ii x6137.1, ii x6137.2.1, ii x6137.2.2.1, ii x6137.2.2.2.1, .bool x6137.2.2.2.2]) (V.ld rfl (Ld.aggK (cs := [ii x6137.1, ii x6137.2.1, ii x6137.2.2.1, ii x6137.2.2.2.1, .bool x6137.2.2.2.2]) Tryz.underlying73 sz73 rfl ⟨((a6145).fst).int, (((a6145).snd).fst).int, ((((a6145).snd).snd).fst).int, (((((a6145).snd).snd).snd).fst).int, ((((((a6145).snd).snd).snd).snd).one).bool, trivial⟩ (Hp.le_refl _))) <| qm (.slice ad5809 x5800.1.length cp5810) rfl <| qm (ii i6074) rfl ?_
         obtain ⟨x6146, hx6147, h6114⟩ := ob h6114
         obtain ⟨p6148, p6149, p6150⟩ := getI_some hx6147
         obtain ⟨b6151, o6152, e6153, a6154⟩ := (f5812).at p6149
         refine qv _ (V.iad Tryz.underlying65 sz73 rfl e6153 rfl p6148 p6150) <| qv (.agg #[ii x6146.1, ii x6146.2.1, ii x6146.2.2.1, ii x6146.2.2.2.1, .bool x6146.2.2.2.2]) (V.ld rfl (Ld.aggK (cs := [ii x6146.1, ii x6146.2.1, ii x6146.2.2.1, ii x6146.2.2.2.1, .bool x6146.2.2.2.2]) Tryz.underlying73 sz73 rfl ⟨((a6154).fst).int, (((a6154).snd).fst).int, ((((a6154).snd).snd).fst).int, (((((a6154).snd).snd).snd).fst).int, ((((((a6154).snd).snd).snd).snd).one).bool, trivial⟩ (Hp.le_refl _))) <| qv (.bool (!((decide (x6137.1 = x6146.1)) && ((decide (x6137.2.1 = x6146.2.1)) && ((decide (x6137.2.2.1 = x6146.2.2.1)) && ((decide (x6137.2.2.2.1 = x6146.2.2.2.1)) && (x6137.2.2.2.2 == x6146.2.2.2.2))))))) (V.nest eqg73 (EqIn.st (d := 9999) rfl Tryz.underlying73 sih73 (EqFs.cons (by decide) (Ld0.sc sc3 rfl) (Ld0.sc sc3 rfl) (EqIn.int (d := 9998) rfl Tryz.underlying3) (EqFs.cons (by decide) (Ld0.sc sc3 rfl) (Ld0.sc sc3 rfl) (EqIn.int (d := 9998) rfl Tryz.underlying3) (EqFs.cons (by decide) (Ld0.sc sc3 rfl) (Ld0.sc sc3 rfl) (EqIn.int (d := 9998) rfl Tryz.underlying3) (EqFs.cons (by decide) (Ld0.sc sc3 rfl) (Ld0.sc sc3 rfl) (EqIn.int (d := 9998) rfl Tryz.underlying3) (EqFs.last (by decide) (Ld0.sc sc4 rfl) (Ld0.sc sc4 rfl) (EqIn.bool (d := 9998) rfl Tryz.underlying4))))))) rfl rfl) <| JQ.nil <| J.nil <| cc rfl h6114 (fun hc6155 h6114 => ?_) fun hc6155 h6114 => ?_
         · refine CJ.seq <| CJ.region <| ja (.bool false) rfl <| J.nil <| CJ.ret ?_
           obtain rfl := si h6114
           refine ⟨nofun, fun e => ?_⟩
           subst e
           refine .inr ⟨nofun, ?_⟩
           obtain rfl := si h5756
           refine ⟨nofun, fun e => ?_⟩
           subst e
           refine .inr ⟨nofun, ?_⟩
           obtain rfl := si h
           exact ⟨_, _, Res.one rfl rfl, ⟨false, rfl, rfl, rfl⟩, (Hp.le_refl _), fun w hs => (Sep.dropAt 0 rfl (Sep.dropAt 0 rfl hs))⟩
         refine CJ.skip <| CJ.region <| jm (ii i6074) rfl <| jv (ii (IntKind.wrap .i64 (i6074 + 1))) (V.add rfl rfl) <| ja (ii (IntKind.wrap .i64 (i6074 + 1))) rfl <| J.nil ?_
         obtain rfl := si h6114
         exact ⟨rfl, ⟨IntKind.wrap .i64 (i6074 + 1), rfl, ⟨rfl, rfl, rfl, rfl, rfl, rfl, trivial⟩, rfl, rfl⟩⟩
       refine CJ.exit ?_
       obtain rfl := si h6114
       refine ⟨nofun, fun e => ?_⟩
       subst e
       exact .inl ⟨rfl, _, rfl, ⟨rfl, ⟨rfl, rfl, rfl, trivial⟩, rfl, rfl⟩⟩
     rintro s ρ _ _ ho6156 ⟨rfl, hf6157, rfl, rfl⟩
     subst ho6156
     obtain ⟨ρ, rfl⟩ := hf6157.ex
     refine PJ.done <| CJ.region <| jm (ii i5355) rfl <| jv (ii (IntKind.wrap .i64 (i5355 + 1))) (V.add rfl rfl) <| ja (ii (IntKind.wrap .i64 (i5355 + 1))) rfl <| J.nil ?_
     obtain rfl := si h5756
     exact ⟨rfl, ⟨IntKind.wrap .i64 (i5355 + 1), rfl, ⟨rfl, rfl, rfl, trivial⟩, rfl, rfl⟩⟩
   refine CJ.dropAt 0 rfl <| CJ.dropAt 0 rfl <| CJ.exit ?_
   obtain rfl := si h5756
   refine ⟨nofun, fun e => ?_⟩
   subst e
   exact .inl ⟨rfl, _, rfl, ⟨rfl, trivial, rfl, rfl⟩⟩
 rintro s ρ _ _ ho6159 ⟨rfl, hf6160, rfl, rfl⟩
 subst ho6159
 obtain ⟨ρ, rfl⟩ := hf6160.ex
 refine PJ.done <| CJ.seq <| CJ.region <| ja (.bool true) rfl <| J.nil <| CJ.ret ?_
 obtain rfl := si h
 exact ⟨_, _, Res.one rfl rfl, ⟨true, rfl, rfl, rfl⟩, (Hp.le_refl _), fun w hs => hs⟩

noncomputable def fn_law20_awake  : Option Bool :=
  (fn_law20_one).bind fun (i185, i186, l187, l188, l189, l190, l191, s192) => (fn_body_Put (i185, i186, l187, l188, l189, l190, l191)).bind fun (s222, i223) => (fn_body_Take_sz s192).bind fun (i229, i230, l231, l232, l233, l234, l235, i236) => (app s192 ([120] : List UInt8)).bind fun z261 => (fn_body_Take_sz z261).bind fun (i265, i266, l267, l268, l269, l270, l271, i272) => (cond ((decide (s222 = s192)) && (decide (i223 = 0))) ((fn_ref20_Same (i185, i186, l187, l188, l189, l190, l191) (i229, i230, l231, l232, l233, l234, l235)).bind fun t354 => some (t354)) (some (false))).bind fun t328 => some ((t328 && (decide (i236 = 0))) && (decide (i272 = 13)))
set_option maxRecDepth 100000 in
set_option maxHeartbeats 4000000 in
theorem law20_awake_ok {K : Hp}    {r : Bool} (h : fn_law20_awake = some r) :
    Tr Tryz.prog 5 #[] K [] (fun v K' L' => (∃ (t182 : Bool), t182 = r ∧ .bool t182 = v ∧ L' = []) ∧ K = K') := by
 refine Tr.k <| Tr.of Tryz.func5 rfl Tryz.ntmps5 rfl fun E F => ?_
 unfold fn_law20_awake at h
 refine CJ.seq <| CJ.region <| ja (.bool false) rfl <| J.nil <| CJ.seq <| CJ.region ?_
 obtain ⟨r183, hr184, h⟩ := ob h
 refine J.op rfl (A.call (L1 := []) Tryz.call15 rfl (law20_one_ok hr184) rfl rfl) ?_
 rintro _ K209 _ ⟨v208, _, rfl, ⟨i185, i186, l187, l188, l189, l190, l191, s192, ad193, cp194, ad195, cp196, ad197, cp198, ad199, cp200, ad201, cp202, rfl, rfl, f203, f204, f205, rfl⟩, hK210, rfl⟩
 refine J.wit Row.hn fun hn206 => J.front 1 rfl <| J.wit Row.hn fun hn207 => jm (.tuple #[.agg #[ii i185, ii i186, .slice ad193 l187.length cp194, .slice ad195 l188.length cp196, .slice ad197 l189.length cp198, .slice ad199 l190.length cp200, .slice ad201 l191.length cp202], .string ⟨s192.toArray⟩]) rfl <| jx (.agg #[ii i185, ii i186, .slice ad193 l187.length cp194, .slice ad195 l188.length cp196, .slice ad197 l189.length cp198, .slice ad199 l190.length cp200, .slice ad201 l191.length cp202]) rfl rfl <| jx (.string ⟨s192.toArray⟩) rfl rfl <| jal inf34 [ii 0, ii 0, .slice none 0 0, .slice none 0 0, .slice none 0 0, .slice none 0 0, .slice none 0 0] rfl fun b213 => ?_
 refine js [ii i185, ii i186, .slice ad193 l187.length cp194, .slice ad195 l188.length cp196, .slice ad197 l189.length cp198, .slice ad199 l190.length cp200, .slice ad201 l191.length cp202] sz34 rfl rfl rfl rfl rfl rfl <| ja (.string ⟨s192.toArray⟩) rfl <| J.nil <| CJ.seq <| CJ.region <| jv (.agg #[ii i185, ii i186, .slice ad193 l187.length cp194, .slice ad195 l188.length cp196, .slice ad197 l189.length cp198, .slice ad199 l190.length cp200, .slice ad201 l191.length cp202]) (V.ld rfl (Ld.agg (cs := [ii i185, ii i186, .slice ad193 l187.length cp194, .slice ad195 l188.length cp196, .slice ad197 l189.length cp198, .slice ad199 l190.length cp200, .slice ad201 l191.length cp202]) Tryz.underlying34 sz34 rfl (Rd.cls 0 0 rfl rfl))) ?_
 obtain ⟨r214, hr215, h⟩ := ob h
 refine J.front 1 rfl <| J.front 2 rfl <| J.op rfl (A.call (L1 := [Row K209 30 (.one (.sl (.cons (.int .i64) (.one .bool)))) (.slice ad195 l188.length cp196) l188, Row K209 70 (.cons (.sl (.cons (.int .i64) (.cons (.int .i64) (.cons (.int .i64) (.cons (.int .i64) (.one .bool)))))) (.one (.cons (.int .i64) (.cons (.int .i64) (.cons (.int .i64) (.cons (.sl (.int .i64)) (.cons (.sl (.int .i64)) (.one (.sl (.int .i64)))))))))) (.slice ad201 l191.length cp202) l191]) Tryz.call13 rfl (Tr.lend (Hp.le_refl _) (by decide) (fun K216 hK217 f218 => Tr.lend (Hp.le.trans (Hp.le_refl _) hK217) (by decide) (fun K219 hK220 f221 => body_Put_ok ((f203.mono hK217).mono hK220) (f218.mono hK220) ((f204.mono hK217).mono hK220) ((f205.mono hK217).mono hK220) f221 hr215))) rfl rfl) ?_
 rintro _ _ _ ⟨v224, _, rfl, ⟨⟨_, ⟨_, ⟨s222, i223, rfl, rfl, rfl⟩, rfl⟩, rfl⟩, rfl⟩, _, rfl⟩
 refine jm (.tuple #[.string ⟨s222.toArray⟩, ii i223]) rfl <| jx (.string ⟨s222.toArray⟩) rfl rfl <| jx (ii i223) rfl rfl <| ja (.string ⟨s222.toArray⟩) rfl <| ja (ii i223) rfl <| J.nil <| CJ.seq ?_
 refine CJ.region <| jm (.string ⟨s192.toArray⟩) rfl ?_
 obtain ⟨r227, hr228, h⟩ := ob h
 refine J.op rfl (A.call (L1 := []) Tryz.call6 rfl (body_Take_sz_ok hr228) rfl rfl) ?_
 rintro _ K253 _ ⟨v252, _, rfl, ⟨i229, i230, l231, l232, l233, l234, l235, i236, ad237, cp238, ad239, cp240, ad241, cp242, ad243, cp244, ad245, cp246, rfl, rfl, rfl⟩, hK254, rfl⟩
 refine J.wit Row.hn fun hn247 => J.front 1 rfl <| J.wit Row.hn fun hn248 => J.front 2 rfl <| J.wit Row.hn fun hn249 => J.front 3 rfl <| J.wit Row.hn fun hn250 => ?_
 refine J.front 4 rfl <| J.wit Row.hn fun hn251 => jm (.tuple #[.agg #[ii i229, ii i230, .slice ad237 l231.length cp238, .slice ad239 l232.length cp240, .slice ad241 l233.length cp242, .slice ad243 l234.length cp244, .slice ad245 l235.length cp246], ii i236]) rfl <| jx (.agg #[ii i229, ii i230, .slice ad237 l231.length cp238, .slice ad239 l232.length cp240, .slice ad241 l233.length cp242, .slice ad243 l234.length cp244, .slice ad245 l235.length cp246]) rfl rfl <| jx (ii i236) rfl rfl <| jal inf34 [ii 0, ii 0, .slice none 0 0, .slice none 0 0, .slice none 0 0, .slice none 0 0, .slice none 0 0] rfl fun b260 => js [ii i229, ii i230, .slice ad237 l231.length cp238, .slice ad239 l232.length cp240, .slice ad241 l233.length cp242, .slice ad243 l234.length cp244, .slice ad245 l235.length cp246] sz34 rfl rfl rfl rfl rfl rfl ?_
 refine ja (ii i236) rfl <| J.nil <| CJ.seq <| CJ.region <| jm (.string ⟨s192.toArray⟩) rfl ?_
 obtain ⟨z261, hz262, h⟩ := ob h
 refine jv (.string ⟨z261.toArray⟩) (V.cat rfl rfl hz262) ?_
 obtain ⟨r263, hr264, h⟩ := ob h
 refine J.op rfl (A.call (L1 := []) Tryz.call6 rfl (body_Take_sz_ok hr264) rfl rfl) ?_
 rintro _ K289 _ ⟨v288, _, rfl, ⟨i265, i266, l267, l268, l269, l270, l271, i272, ad273, cp274, ad275, cp276, ad277, cp278, ad279, cp280, ad281, cp282, rfl, rfl, rfl⟩, hK290, rfl⟩
 refine J.wit Row.hn fun hn283 => J.front 1 rfl <| J.wit Row.hn fun hn284 => J.front 2 rfl <| J.wit Row.hn fun hn285 => J.front 3 rfl <| J.wit Row.hn fun hn286 => ?_
 refine J.front 4 rfl <| J.wit Row.hn fun hn287 => jm (.tuple #[.agg #[ii i265, ii i266, .slice ad273 l267.length cp274, .slice ad275 l268.length cp276, .slice ad277 l269.length cp278, .slice ad279 l270.length cp280, .slice ad281 l271.length cp282], ii i272]) rfl <| jx (.agg #[ii i265, ii i266, .slice ad273 l267.length cp274, .slice ad275 l268.length cp276, .slice ad277 l269.length cp278, .slice ad279 l270.length cp280, .slice ad281 l271.length cp282]) rfl rfl <| jx (ii i272) rfl rfl <| jal inf34 [ii 0, ii 0, .slice none 0 0, .slice none 0 0, .slice none 0 0, .slice none 0 0, .slice none 0 0] rfl fun b296 => js [ii i265, ii i266, .slice ad273 l267.length cp274, .slice ad275 l268.length cp276, .slice ad277 l269.length cp278, .slice ad279 l270.length cp280, .slice ad281 l271.length cp282] sz34 rfl rfl rfl rfl rfl rfl ?_
 refine ja (ii i272) rfl <| J.nil <| CJ.seq <| CJ.region <| jm (.string ⟨s222.toArray⟩) rfl <| jm (.string ⟨s192.toArray⟩) rfl <| jv (.bool (decide (s222 = s192))) (V.eqs rfl rfl) ?_
 refine jm (.bool (decide (s222 = s192))) rfl <| J.cut 3 <| jmeet [(35, .bool ((decide (s222 = s192)) && (decide (i223 = 0)))), (1, .pointer (some ⟨b213, 0, none⟩)), (5, .pointer (some ⟨b260, 0, none⟩)), (6, ii i236), (8, ii i272)] ?_ ?_
 · rcases bt (decide (s222 = s192)) with hc299 | hc299
   · refine J.run rfl rfl rfl hc299 <| jm (ii i223) rfl <| J.run rfl rfl rfl hc299 <| jv (.bool (decide (i223 = 0))) (V.eql rfl rfl) <| jv (.bool (decide (i223 = 0))) (V.pickT rfl hc299 rfl) <| J.nil ?_
     exact ⟨rfl, ⟨(by simp only [hc299]; rfl), rfl, rfl, rfl, rfl, trivial⟩, rfl, rfl⟩
   refine J.skip rfl rfl rfl rfl hc299 <| J.skip rfl rfl rfl rfl hc299 <| jv (.bool false) (V.pickF rfl hc299 rfl) <| J.nil ?_
   exact ⟨rfl, ⟨(by simp only [hc299]; rfl), rfl, rfl, rfl, rfl, trivial⟩, rfl, rfl⟩
 intro ρ
 refine jm (.bool ((decide (s222 = s192)) && (decide (i223 = 0)))) rfl <| J.cut 4 ?_
 obtain ⟨t328, ht329, h⟩ := ob h
 refine jmeet [(40, .bool t328), (6, ii i236), (8, ii i272)] ?_ ?_
 · rcases bt ((decide (s222 = s192)) && (decide (i223 = 0))) with hc330 | hc330
   · have ht329 := ct hc330 ht329
     refine J.run rfl rfl rfl hc330 <| jv (.agg #[ii i185, ii i186, .slice ad193 l187.length cp194, .slice ad195 l188.length cp196, .slice ad197 l189.length cp198, .slice ad199 l190.length cp200, .slice ad201 l191.length cp202]) (V.ld rfl (Ld.agg (cs := [ii i185, ii i186, .slice ad193 l187.length cp194, .slice ad195 l188.length cp196, .slice ad197 l189.length cp198, .slice ad199 l190.length cp200, .slice ad201 l191.length cp202]) Tryz.underlying34 sz34 rfl (Rd.cls 14 0 rfl rfl))) <| J.run rfl rfl rfl hc330 <| jv (.agg #[ii i229, ii i230, .slice ad237 l231.length cp238, .slice ad239 l232.length cp240, .slice ad241 l233.length cp242, .slice ad243 l234.length cp244, .slice ad245 l235.length cp246]) (V.ld rfl (Ld.agg (cs := [ii i229, ii i230, .slice ad237 l231.length cp238, .slice ad239 l232.length cp240, .slice ad241 l233.length cp242, .slice ad243 l234.length cp244, .slice ad245 l235.length cp246]) Tryz.underlying34 sz34 rfl (Rd.cls 6 0 rfl rfl))) <| J.run rfl rfl rfl hc330 ?_
     obtain ⟨r331, hr332, ht329⟩ := ob ht329
     refine J.front 7 rfl <| J.front 8 rfl <| J.front 9 rfl <| J.front 10 rfl <| J.front 11 rfl <| J.front 13 rfl <| J.front 13 rfl ?_
     refine J.op rfl (A.call (L1 := [Row K209 30 (.one (.sl (.cons (.int .i64) (.one .bool)))) (.slice ad195 l188.length cp196) l188, Row K209 70 (.cons (.sl (.cons (.int .i64) (.cons (.int .i64) (.cons (.int .i64) (.cons (.int .i64) (.one .bool)))))) (.one (.cons (.int .i64) (.cons (.int .i64) (.cons (.int .i64) (.cons (.sl (.int .i64)) (.cons (.sl (.int .i64)) (.one (.sl (.int .i64)))))))))) (.slice ad201 l191.length cp202) l191, Row Hp.nil 95 (.cons (.int .i64) (.one (.int .i64))) (.slice ad237 l231.length cp238) l231, Row K253 30 (.one (.sl (.cons (.int .i64) (.one .bool)))) (.slice ad239 l232.length cp240) l232, Row Hp.nil 146 (.cons (.int .i64) (.one .bool)) (.slice ad241 l233.length cp242) l233, Row K253 63 (.cons (.int .i64) (.cons (.sl (.cons (.int .i64) (.one (.int .i64)))) (.cons (.sl (.one (.sl (.cons (.int .i64) (.one .bool))))) (.one (.one (.sl (.cons (.int .i64) (.one .bool)))))))) (.slice ad243 l234.length cp244) l234, Row K253 70 (.cons (.sl (.cons (.int .i64) (.cons (.int .i64) (.cons (.int .i64) (.cons (.int .i64) (.one .bool)))))) (.one (.cons (.int .i64) (.cons (.int .i64) (.cons (.int .i64) (.cons (.sl (.int .i64)) (.cons (.sl (.int .i64)) (.one (.sl (.int .i64)))))))))) (.slice ad245 l235.length cp246) l235]) Tryz.call8 rfl (Tr.lend (hK254.trans hK290) (by decide) (fun K333 hK334 f335 => Tr.lend (Hp.le.trans (hK254.trans hK290) hK334) (by decide) (fun K336 hK337 f338 => Tr.lend (Hp.nil_le _) (by decide) (fun K339 hK340 f341 => Tr.lend (Hp.le.trans (Hp.le.trans (Hp.le.trans hK290 hK334) hK337) hK340) (by decide) (fun K342 hK343 f344 => Tr.lend (Hp.nil_le _) (by decide) (fun K345 hK346 f347 => Tr.lend (Hp.le.trans (Hp.le.trans (Hp.le.trans (Hp.le.trans (Hp.le.trans hK290 hK334) hK337) hK340) hK343) hK346) (by decide) (fun K348 hK349 f350 => Tr.lend (Hp.le.trans (Hp.le.trans (Hp.le.trans (Hp.le.trans (Hp.le.trans (Hp.le.trans hK290 hK334) hK337) hK340) hK343) hK346) hK349) (by decide) (fun K351 hK352 f353 => ref20_Same_ok ((((((((f203.mono (hK254.trans hK290)).mono hK334).mono hK337).mono hK340).mono hK343).mono hK346).mono hK349).mono hK352) ((((((f335.mono hK337).mono hK340).mono hK343).mono hK346).mono hK349).mono hK352) ((((((((f204.mono (hK254.trans hK290)).mono hK334).mono hK337).mono hK340).mono hK343).mono hK346).mono hK349).mono hK352) ((((((((f205.mono (hK254.trans hK290)).mono hK334).mono hK337).mono hK340).mono hK343).mono hK346).mono hK349).mono hK352) (((((f338.mono hK340).mono hK343).mono hK346).mono hK349).mono hK352) ((((f341.mono hK343).mono hK346).mono hK349).mono hK352) (((f344.mono hK346).mono hK349).mono hK352) ((f347.mono hK349).mono hK352) (f350.mono hK352) f353 hr332)))))))) rfl rfl) ?_
     rintro _ _ _ ⟨v355, _, rfl, ⟨⟨_, ⟨_, ⟨_, ⟨_, ⟨_, ⟨_, ⟨_, ⟨t354, rfl, rfl, rfl⟩, rfl⟩, rfl⟩, rfl⟩, rfl⟩, rfl⟩, rfl⟩, rfl⟩, rfl⟩, _, rfl⟩
     refine jv (.bool t354) (V.pickT rfl hc330 rfl) <| J.front 14 rfl <| J.front 2 rfl <| J.front 2 rfl <| J.front 3 rfl <| J.front 4 rfl <| J.front 5 rfl ?_
     refine J.front 6 rfl <| J.front 7 rfl <| J.front 14 rfl <| J.front 14 rfl <| J.front 14 rfl <| J.front 14 rfl <| J.front 14 rfl ?_
     refine J.front 14 rfl <| J.front 14 rfl <| J.nil ?_
     obtain rfl := si ht329
     exact ⟨rfl, ⟨rfl, rfl, rfl, trivial⟩, rfl, rfl⟩
   have ht329 := cf hc330 ht329
   refine J.skip rfl rfl rfl rfl hc330 <| J.skip rfl rfl rfl rfl hc330 <| J.skip rfl rfl rfl rfl hc330 <| jv (.bool false) (V.pickF rfl hc330 rfl) <| J.nil ?_
   obtain rfl := si ht329
   exact ⟨rfl, ⟨rfl, rfl, rfl, trivial⟩, rfl, rfl⟩
 intro ρ
 refine jm (.bool t328) rfl <| J.cut 3 <| jmeet [(44, .bool (t328 && (decide (i236 = 0)))), (8, ii i272)] ?_ ?_
 · rcases bt (t328) with hc360 | hc360
   · refine J.run rfl rfl rfl hc360 <| jm (ii i236) rfl <| J.run rfl rfl rfl hc360 <| jv (.bool (decide (i236 = 0))) (V.eql rfl rfl) <| jv (.bool (decide (i236 = 0))) (V.pickT rfl hc360 rfl) <| J.nil ?_
     exact ⟨rfl, ⟨(by simp only [hc360]; rfl), rfl, trivial⟩, rfl, rfl⟩
   refine J.skip rfl rfl rfl rfl hc360 <| J.skip rfl rfl rfl rfl hc360 <| jv (.bool false) (V.pickF rfl hc360 rfl) <| J.nil ?_
   exact ⟨rfl, ⟨(by simp only [hc360]; rfl), rfl, trivial⟩, rfl, rfl⟩
 intro ρ
 refine jm (.bool (t328 && (decide (i236 = 0)))) rfl <| J.cut 3 <| jmeet [(48, .bool ((t328 && (decide (i236 = 0))) && (decide (i272 = 13))))] ?_ ?_
 · rcases bt (t328 && (decide (i236 = 0))) with hc363 | hc363
   · refine J.run rfl rfl rfl hc363 <| jm (ii i272) rfl <| J.run rfl rfl rfl hc363 <| jv (.bool (decide (i272 = 13))) (V.eql rfl rfl) <| jv (.bool (decide (i272 = 13))) (V.pickT rfl hc363 rfl) <| J.nil ?_
     exact ⟨rfl, ⟨(by simp only [hc363]; rfl), trivial⟩, rfl, rfl⟩
   refine J.skip rfl rfl rfl rfl hc363 <| J.skip rfl rfl rfl rfl hc363 <| jv (.bool false) (V.pickF rfl hc363 rfl) <| J.nil ?_
   exact ⟨rfl, ⟨(by simp only [hc363]; rfl), trivial⟩, rfl, rfl⟩
 intro ρ
 refine ja (.bool ((t328 && (decide (i236 = 0))) && (decide (i272 = 13)))) rfl <| J.nil <| CJ.ret ?_
 obtain rfl := si h
 exact ⟨_, _, Res.one rfl rfl, ⟨(t328 && (decide (i236 = 0))) && (decide (i272 = 13)), rfl, rfl, rfl⟩, ((hK210.trans hK254).trans hK290), fun w hs => (Sep.dropAt 0 rfl (Sep.dropAt 0 rfl (Sep.dropAt 0 rfl (Sep.dropAt 0 rfl (Sep.dropAt 0 rfl (Sep.dropAt 0 rfl (Sep.dropAt 0 rfl (Sep.dropAt 0 rfl (Sep.dropAt 0 rfl (Sep.dropAt 0 rfl (Sep.dropAt 0 rfl (Sep.dropAt 0 rfl (Sep.dropAt 0 rfl (Sep.dropAt 0 rfl (Sep.dropAt 0 rfl hs)))))))))))))))⟩

noncomputable def fn_tick_isPart (xa : Int) : Option Bool :=
  some ((decide (0 ≤ xa)) && (decide (xa < 7)))
set_option maxRecDepth 100000 in
set_option maxHeartbeats 4000000 in
theorem tick_isPart_ok {K : Hp} {xa : Int}   {r : Bool} (h : fn_tick_isPart xa = some r) :
    Tr Tryz.prog 48 #[ii xa] K [] (fun v K' L' => (∃ (t4 : Bool), t4 = r ∧ .bool t4 = v ∧ L' = []) ∧ K = K') := by
 refine Tr.k <| Tr.of Tryz.func48 rfl Tryz.ntmps48 rfl fun E F => ?_
 unfold fn_tick_isPart at h
 refine CJ.seq <| CJ.region <| ja (.bool false) rfl <| J.nil <| CJ.seq <| CJ.region <| jm (ii xa) rfl ?_
 refine jv (.bool (decide (0 ≤ xa))) (V.geq rfl rfl) <| jm (.bool (decide (0 ≤ xa))) rfl <| J.cut 3 <| jmeet [(8, .bool ((decide (0 ≤ xa)) && (decide (xa < 7))))] ?_ ?_
 · rcases bt (decide (0 ≤ xa)) with hc7 | hc7
   · refine J.run rfl rfl rfl hc7 <| jm (ii xa) rfl <| J.run rfl rfl rfl hc7 <| jv (.bool (decide (xa < 7))) (V.lss rfl rfl) <| jv (.bool (decide (xa < 7))) (V.pickT rfl hc7 rfl) <| J.nil ?_
     exact ⟨rfl, ⟨(by simp only [hc7]; rfl), trivial⟩, rfl, rfl⟩
   refine J.skip rfl rfl rfl rfl hc7 <| J.skip rfl rfl rfl rfl hc7 <| jv (.bool false) (V.pickF rfl hc7 rfl) <| J.nil ?_
   exact ⟨rfl, ⟨(by simp only [hc7]; rfl), trivial⟩, rfl, rfl⟩
 intro ρ
 refine ja (.bool ((decide (0 ≤ xa)) && (decide (xa < 7)))) rfl <| J.nil <| CJ.ret ?_
 obtain rfl := si h
 exact ⟨_, _, Res.one rfl rfl, ⟨(decide (0 ≤ xa)) && (decide (xa < 7)), rfl, rfl, rfl⟩, (Hp.le_refl _), fun w hs => hs⟩

noncomputable def fn_tick_sum (xa : Int) (xb : Int) : Option Int :=
  cond (decide ((IntKind.wrap .i64 (9223372036854775807 - xb)) < xa)) (some (9223372036854775807)) (some (IntKind.wrap .i64 (xa + xb)))
set_option maxRecDepth 100000 in
set_option maxHeartbeats 4000000 in
theorem tick_sum_ok {K : Hp} {xa : Int} {xb : Int}   {r : Int} (h : fn_tick_sum xa xb = some r) :
    Tr Tryz.prog 49 #[ii xa, ii xb] K [] (fun v K' L' => (∃ (i2 : Int), i2 = r ∧ ii i2 = v ∧ L' = []) ∧ K = K') := by
 refine Tr.k <| Tr.of Tryz.func49 rfl Tryz.ntmps49 rfl fun E F => ?_
 unfold fn_tick_sum at h
 refine CJ.seq <| CJ.region <| ja (ii 0) rfl <| J.nil <| CJ.seq <| CJ.seq <| CJ.region ?_
 refine jm (ii xa) rfl <| jm (ii xb) rfl <| jv (ii (IntKind.wrap .i64 (9223372036854775807 - xb))) (V.sub rfl rfl) <| jv (.bool (decide ((IntKind.wrap .i64 (9223372036854775807 - xb)) < xa))) (V.gtr rfl rfl) <| J.nil <| cc rfl h (fun hc3 h => ?_) fun hc3 h => ?_
 · refine CJ.seq <| CJ.region <| ja (ii 9223372036854775807) rfl <| J.nil <| CJ.ret ?_
   obtain rfl := si h
   exact ⟨_, _, Res.one rfl rfl, ⟨9223372036854775807, rfl, rfl, rfl⟩, (Hp.le_refl _), fun w hs => hs⟩
 refine CJ.skip <| CJ.seq <| CJ.region <| jm (ii xa) rfl <| jm (ii xb) rfl <| jv (ii (IntKind.wrap .i64 (xa + xb))) (V.add rfl rfl) <| ja (ii (IntKind.wrap .i64 (xa + xb))) rfl ?_
 refine J.nil <| CJ.ret ?_
 obtain rfl := si h
 exact ⟨_, _, Res.one rfl rfl, ⟨IntKind.wrap .i64 (xa + xb), rfl, rfl, rfl⟩, (Hp.le_refl _), fun w hs => hs⟩

noncomputable def fn_tick_Counter_Add_p0c0i_iiiiiii (xc : Int) (qa0 : Int) (qa1 : Int) (qa2 : Int) (qa3 : Int) (qa4 : Int) (qa5 : Int) (qa6 : Int) : Option Int :=
  (fn_tick_isPart 0).bind fun t26 => cond (t26 && (decide (0 ≤ xc))) ((fn_tick_sum qa0 xc).bind fun i42 => some (i42)) (some (qa0))
set_option maxRecDepth 100000 in
set_option maxHeartbeats 4000000 in
theorem tick_Counter_Add_p0c0i_iiiiiii_ok {K : Hp} {xc : Int} {qa0 : Int} {qa1 : Int} {qa2 : Int} {qa3 : Int} {qa4 : Int} {qa5 : Int} {qa6 : Int} {pba : Nat}  {r : Int} (h : fn_tick_Counter_Add_p0c0i_iiiiiii xc qa0 qa1 qa2 qa3 qa4 qa5 qa6 = some r) :
    Tr Tryz.prog 29 #[.pointer (some ⟨pba, 0, none⟩), ii 0, ii xc] K [Cl pba 25 [ii qa0, ii qa1, ii qa2, ii qa3, ii qa4, ii qa5, ii qa6]] (fun v K' L' => (∃ (i23 : Int), i23 = r ∧ .tuple #[] = v ∧ L' = [Cl pba 25 [ii i23, ii qa1, ii qa2, ii qa3, ii qa4, ii qa5, ii qa6]]) ∧ K = K') := by
 refine Tr.k <| Tr.of Tryz.func29 rfl Tryz.ntmps29 rfl fun E F => ?_
 unfold fn_tick_Counter_Add_p0c0i_iiiiiii at h
 refine CJ.seq <| CJ.region <| jm _ rfl <| jv (.bool true) (Val.eq (V.pn_neq Tryz.underlying38 rfl rfl) rfl) <| jm (.bool true) rfl <| J.run rfl rfl rfl rfl <| jm (ii 0) rfl ?_
 refine J.run rfl rfl rfl rfl ?_
 obtain ⟨r24, hr25, h⟩ := ob h
 refine J.op rfl (A.call (L1 := []) Tryz.call48 rfl (tick_isPart_ok hr25) rfl rfl) ?_
 rintro _ _ _ ⟨v27, _, rfl, ⟨⟨t26, rfl, rfl, rfl⟩, rfl⟩, _, rfl⟩
 refine jv (.bool t26) (V.pickT rfl rfl rfl) <| jm (.bool t26) rfl <| J.cut 3 <| jmeet [(15, .bool (t26 && (decide (0 ≤ xc)))), (0, .pointer (some ⟨pba, 0, none⟩)), (1, ii 0), (2, ii xc)] ?_ ?_
 · rcases bt (t26) with hc32 | hc32
   · refine J.run rfl rfl rfl hc32 <| jm (ii xc) rfl <| J.run rfl rfl rfl hc32 <| jv (.bool (decide (0 ≤ xc))) (V.geq rfl rfl) <| jv (.bool (decide (0 ≤ xc))) (V.pickT rfl hc32 rfl) <| J.nil ?_
     exact ⟨rfl, ⟨(by simp only [hc32]; rfl), rfl, rfl, rfl, trivial⟩, rfl, rfl⟩
   refine J.skip rfl rfl rfl rfl hc32 <| J.skip rfl rfl rfl rfl hc32 <| jv (.bool false) (V.pickF rfl hc32 rfl) <| J.nil ?_
   exact ⟨rfl, ⟨(by simp only [hc32]; rfl), rfl, rfl, rfl, trivial⟩, rfl, rfl⟩
 intro ρ
 refine J.nil <| cc rfl h (fun hc33 h => ?_) fun hc33 h => ?_
 · refine CJ.mix [Cl pba 25 [ii qa0, ii qa1, ii qa2, ii qa3, ii qa4, ii qa5, ii qa6]] [([0, 1, 2, 3, 4, 5, 6, 7, 8, 10, 11], 9)] [12] [13] mixO (by decide +kernel) ⟨0, rfl, trivial⟩ rfl rfl rfl <| JM.cons <| qm _ rfl <| qm (ii 0) rfl <| qm _ rfl <| qm (ii 0) rfl <| qv _ (V.nck rfl) ?_
   refine qv _ (V.fad Tryz.underlying25 rfl nz23 rfl) <| qv _ (V.iadA Tryz.underlying23 sz3 rfl rfl (by decide) (by decide)) <| qv (ii qa0) (V.ld rfl (Ld.sc sc3 (Rd.cl 0 rfl rfl))) <| qm (ii xc) rfl <| qv _ (V.nck rfl) <| qv _ (V.fad Tryz.underlying25 rfl nz23 rfl) <| JQ.nil ?_
   obtain ⟨r40, hr41, h⟩ := ob h
   refine JA.op rfl (A.call (L1 := []) Tryz.call49 rfl (tick_sum_ok hr41) rfl rfl) ?_
   rintro _ _ _ ⟨v43, _, rfl, ⟨⟨i42, rfl, rfl, rfl⟩, rfl⟩, _, rfl⟩
   refine ⟨fun w hs => Hold.sub (Hp.le_refl _) ⟨0, rfl, trivial⟩ hs, ?_⟩
   refine JM.nil <| qv _ (V.iadA Tryz.underlying23 sz3 rfl rfl (by decide) (by decide)) <| JQ.nil <| js1 [ii i42, ii qa1, ii qa2, ii qa3, ii qa4, ii qa5, ii qa6] sz3 rfl rfl rfl rfl rfl rfl <| J.nil ?_
   obtain rfl := si h
   exact ⟨_, _, Res.zero rfl, ⟨i42, rfl, rfl, rfl⟩, (Hp.le_refl _), fun w hs => hs⟩
 refine CJ.skip ?_
 obtain rfl := si h
 exact ⟨_, _, Res.zero rfl, ⟨qa0, rfl, rfl, rfl⟩, (Hp.le_refl _), fun w hs => hs⟩
noncomputable def fn_body_Take_sp0_iiiiiii_l1 (i704 : Int) : (Int × List UInt8 × Int × Int × (List ((List (Int × Int × Int × Int × Bool)) × (Int × Int × Int × (List Int) × (List Int) × (List Int))))) → Option ((Int × List UInt8 × Int × Int × (List ((List (Int × Int × Int × Int × Bool)) × (Int × Int × Int × (List Int) × (List Int) × (List Int))))) ⊕ (List UInt8 × Int × Int × (List ((List (Int × Int × Int × Int × Bool)) × (Int × Int × Int × (List Int) × (List Int) × (List Int)))))) := fun ((i1030, s1031, i1032, i1033, l1034) : (Int × List UInt8 × Int × Int × (List ((List (Int × Int × Int × Int × Bool)) × (Int × Int × Int × (List Int) × (List Int) × (List Int)))))) => cond ((decide (i1030 < i704)) && (decide (i1033 = 0))) ((fn_body_list_api_Stmt_p0_stmt_Take__sii s1031 i1032 i1033).bind fun (l1126, s1127, i1128, i1129) => (fn_body_one_api_Term_p0_term_Take__sii s1127 i1128 i1129).bind fun (i1139, i1140, i1141, l1142, l1143, l1144, s1145, i1146, i1147) => (app l1034 (([(l1126, (i1139, i1140, i1141, l1142, l1143, l1144))] : List ((List (Int × Int × Int × Int × Bool)) × (Int × Int × Int × (List Int) × (List Int) × (List Int)))))).bind fun z1178 => some (.inl ((IntKind.wrap .i64 (i1030 + 1), s1145, i1146, i1147, z1178)))) (some (.inr (((s1031, i1032, i1033, l1034)))))
noncomputable def fn_body_Take_sp0_iiiiiii (xa : (List UInt8)) (qa0 : Int) (qa1 : Int) (qa2 : Int) (qa3 : Int) (qa4 : Int) (qa5 : Int) (qa6 : Int) : Option ((Int × Int × (List (Int × Int)) × (List (List (Int × Bool))) × (List (Int × Bool)) × (List (Int × (List (Int × Int)) × (List (List (Int × Bool))) × (List (Int × Bool)))) × (List ((List (Int × Int × Int × Int × Bool)) × (Int × Int × Int × (List Int) × (List Int) × (List Int)))) × Int × Int)) :=
  (fn_strings_CutPrefix xa ([109, 105, 114, 1] : List UInt8)).bind fun (s619, t620) => cond (!t620) (some ((0, 0, [], [], [], [], [], 12, qa0))) ((fn_body_count_p0_sii s619 0 0).bind fun (i634, s635, i636, i637) => (fn_body_count_p0_sii s635 i636 i637).bind fun (i643, s644, i645, i646) => (fn_body_one_api_Bound_p0_body_takeBounds__sii s644 i645 i646).bind fun (l652, s653, i654, i655) => (fn_body_list_api_Type_p0_sig_TakeType__sii s653 i654 i655).bind fun (l665, s666, i667, i668) => (fn_body_one_api_Type_p0_sig_TakeType__sii s666 i667 i668).bind fun (l678, s679, i680, i681) => (fn_body_list_api_Sig_p0_sig_Take__sii s679 i680 i681).bind fun (l691, s692, i693, i694) => (fn_body_count_p0_sii s692 i693 i694).bind fun (i704, s705, i706, i707) => (loop (fn_body_Take_sp0_iiiiiii_l1 i704) (0, s705, i706, i707, []) : Option ((List UInt8 × Int × Int × (List ((List (Int × Int × Int × Int × Bool)) × (Int × Int × Int × (List Int) × (List Int) × (List Int))))))).bind fun (s943, i944, i945, l946) => (cond ((decide (i945 = 0)) && (!decide (s943 = ([] : List UInt8)))) (some (13)) (some (i945)) : Option Int).bind fun i1190 => cond (!decide (i1190 = 0)) (some ((0, 0, [], [], [], [], [], i1190, qa0))) ((fn_tick_Counter_Add_p0c0i_iiiiiii i944 qa0 qa1 qa2 qa3 qa4 qa5 qa6).bind fun i1207 => some ((i634, i643, l652, l665, l678, l691, l946, 0, i1207))))
set_option maxRecDepth 100000 in
set_option maxHeartbeats 4000000 in
theorem body_Take_sp0_iiiiiii_ok {K : Hp} {xa : (List UInt8)} {qa0 : Int} {qa1 : Int} {qa2 : Int} {qa3 : Int} {qa4 : Int} {qa5 : Int} {qa6 : Int} {pba : Nat}  {r : (Int × Int × (List (Int × Int)) × (List (List (Int × Bool))) × (List (Int × Bool)) × (List (Int × (List (Int × Int)) × (List (List (Int × Bool))) × (List (Int × Bool)))) × (List ((List (Int × Int × Int × Int × Bool)) × (Int × Int × Int × (List Int) × (List Int) × (List Int)))) × Int × Int)} (h : fn_body_Take_sp0_iiiiiii xa qa0 qa1 qa2 qa3 qa4 qa5 qa6 = some r) :
    Tr Tryz.prog 6 #[.string ⟨xa.toArray⟩, .pointer (some ⟨pba, 0, none⟩)] K [Cl pba 25 [ii qa0, ii qa1, ii qa2, ii qa3, ii qa4, ii qa5, ii qa6]] (fun v K' L' => (∃ (i587 : Int) (i588 : Int) (l589 : (List (Int × Int))) (l594 : (List (List (Int × Bool)))) (l599 : (List (Int × Bool))) (l604 : (List (Int × (List (Int × Int)) × (List (List (Int × Bool))) × (List (Int × Bool))))) (l609 : (List ((List (Int × Int × Int × Int × Bool)) × (Int × Int × Int × (List Int) × (List Int) × (List Int))))) (i614 : Int) (i615 : Int) (ad590 : Option Addr) (cp591 : Nat) (ad595 : Option Addr) (cp596 : Nat) (ad600 : Option Addr) (cp601 : Nat) (ad605 : Option Addr) (cp606 : Nat) (ad610 : Option Addr) (cp611 : Nat), (i587, i588, l589, l594, l599, l604, l609, i614, i615) = r ∧ .tuple #[.agg #[ii i587, ii i588, .slice ad590 l589.length cp591, .slice ad595 l594.length cp596, .slice ad600 l599.length cp601, .slice ad605 l604.length cp606, .slice ad610 l609.length cp611], ii i614] = v ∧ L' = [Cl pba 25 [ii i615, ii qa1, ii qa2, ii qa3, ii qa4, ii qa5, ii qa6], Row Hp.nil 95 (.cons (.int .i64) (.one (.int .i64))) (.slice ad590 l589.length cp591) l589, Row K' 30 (.one (.sl (.cons (.int .i64) (.one .bool)))) (.slice ad595 l594.length cp596) l594, Row Hp.nil 146 (.cons (.int .i64) (.one .bool)) (.slice ad600 l599.length cp601) l599, Row K' 63 (.cons (.int .i64) (.cons (.sl (.cons (.int .i64) (.one (.int .i64)))) (.cons (.sl (.one (.sl (.cons (.int .i64) (.one .bool))))) (.one (.one (.sl (.cons (.int .i64) (.one .bool)))))))) (.slice ad605 l604.length cp606) l604, Row K' 70 (.cons (.sl (.cons (.int .i64) (.cons (.int .i64) (.cons (.int .i64) (.cons (.int .i64) (.one .bool)))))) (.one (.cons (.int .i64) (.cons (.int .i64) (.cons (.int .i64) (.cons (.sl (.int .i64)) (.cons (.sl (.int .i64)) (.one (.sl (.int .i64)))))))))) (.slice ad610 l609.length cp611) l609])) := by
 refine Tr.of Tryz.func6 rfl Tryz.ntmps6 rfl fun E F => ?_
 unfold fn_body_Take_sp0_iiiiiii at h
 refine CJ.seq <| CJ.region <| jal inf34 [ii 0, ii 0, .slice none 0 0, .slice none 0 0, .slice none 0 0, .slice none 0 0, .slice none 0 0] rfl fun b616 => ja (ii 0) rfl <| J.nil <| CJ.seq <| CJ.region ?_
 refine jm (.string ⟨xa.toArray⟩) rfl ?_
 obtain ⟨r617, hr618, h⟩ := ob h
 refine J.op rfl (A.call (L1 := []) Tryz.call16 rfl (strings_CutPrefix_ok hr618) rfl rfl) ?_
 rintro _ _ _ ⟨v621, _, rfl, ⟨⟨s619, t620, rfl, rfl, rfl⟩, rfl⟩, _, rfl⟩
 refine jm (.tuple #[.string ⟨s619.toArray⟩, .bool t620]) rfl <| jx (.string ⟨s619.toArray⟩) rfl rfl <| jx (.bool t620) rfl rfl <| ja (.string ⟨s619.toArray⟩) rfl <| ja (.bool t620) rfl <| J.nil <| CJ.seq ?_
 refine CJ.seq <| CJ.region <| jm (.bool t620) rfl <| jv (.bool (!t620)) (V.not rfl) <| J.nil <| cc rfl h (fun hc624 h => ?_) fun hc624 h => ?_
 · refine CJ.seq <| CJ.region <| jv (.agg #[ii 0, ii 0, .slice none 0 0, .slice none 0 0, .slice none 0 0, .slice none 0 0, .slice none 0 0]) (V.build inf34 places34 rfl rfl) <| js [ii 0, ii 0, .slice none 0 0, .slice none 0 0, .slice none 0 0, .slice none 0 0, .slice none 0 0] sz34 rfl rfl rfl rfl rfl rfl <| ja (ii 12) rfl <| J.nil <| CJ.by (fun w hs => Sep.rowNil (e := 95) (t := (.cons (.int .i64) (.one (.int .i64)))) hs) ?_
   refine CJ.by (fun w hs => Sep.rowNil (e := 30) (t := (.one (.sl (.cons (.int .i64) (.one .bool))))) hs) <| CJ.by (fun w hs => Sep.rowNil (e := 146) (t := (.cons (.int .i64) (.one .bool))) hs) <| CJ.by (fun w hs => Sep.rowNil (e := 63) (t := (.cons (.int .i64) (.cons (.sl (.cons (.int .i64) (.one (.int .i64)))) (.cons (.sl (.one (.sl (.cons (.int .i64) (.one .bool))))) (.one (.one (.sl (.cons (.int .i64) (.one .bool))))))))) hs) <| CJ.by (fun w hs => Sep.rowNil (e := 70) (t := (.cons (.sl (.cons (.int .i64) (.cons (.int .i64) (.cons (.int .i64) (.cons (.int .i64) (.one .bool)))))) (.one (.cons (.int .i64) (.cons (.int .i64) (.cons (.int .i64) (.cons (.sl (.int .i64)) (.cons (.sl (.int .i64)) (.one (.sl (.int .i64))))))))))) hs) <| CJ.ret ?_
   obtain rfl := si h
   exact ⟨_, _, Res.two rfl ⟨_, _, rfl, Ld.agg (cs := [ii 0, ii 0, .slice none 0 0, .slice none 0 0, .slice none 0 0, .slice none 0 0, .slice none 0 0]) Tryz.underlying34 sz34 rfl (Rd.cls 5 0 rfl rfl)⟩ rfl, ⟨0, 0, [], [], [], [], [], 12, qa0, none, 0, none, 0, none, 0, none, 0, none, 0, rfl, rfl, rfl⟩, (Hp.le_refl _), fun w hs => (Sep.front 5 rfl (Sep.front 4 rfl (Sep.front 3 rfl (Sep.front 2 rfl (Sep.front 1 rfl (Sep.dropAt 5 rfl hs))))))⟩
 refine CJ.skip <| CJ.seq <| CJ.region <| jm (.string ⟨s619.toArray⟩) rfl <| jv (.agg #[.string ⟨s619.toArray⟩, ii 0, ii 0]) (V.build inf54 places54 rfl rfl) <| jbx [.string ⟨s619.toArray⟩, ii 0, ii 0] rfl rfl fun b630 => ja _ rfl ?_
 refine J.nil <| CJ.seq <| CJ.region <| jal inf34 [ii 0, ii 0, .slice none 0 0, .slice none 0 0, .slice none 0 0, .slice none 0 0, .slice none 0 0] rfl fun b631 => J.nil <| CJ.seq <| CJ.region ?_
 refine jm _ rfl ?_
 obtain ⟨r632, hr633, h⟩ := ob h
 refine J.front 1 rfl <| J.op rfl (A.call (L1 := [Cl b630 54 [.string ⟨s619.toArray⟩, ii 0, ii 0]]) Tryz.call17 rfl (body_count_p0_sii_ok hr633) rfl rfl) ?_
 rintro _ _ _ ⟨v638, _, rfl, ⟨⟨i634, s635, i636, i637, rfl, rfl, rfl⟩, rfl⟩, _, rfl⟩
 refine jv _ (V.fad Tryz.underlying34 rfl nz3 rfl) <| J.front 1 rfl <| js1 [ii i634, ii 0, .slice none 0 0, .slice none 0 0, .slice none 0 0, .slice none 0 0, .slice none 0 0] sz3 rfl rfl rfl rfl rfl rfl <| J.nil <| CJ.seq <| CJ.region <| jm _ rfl ?_
 obtain ⟨r641, hr642, h⟩ := ob h
 refine J.front 1 rfl <| J.op rfl (A.call (L1 := [Cl b630 54 [.string ⟨s635.toArray⟩, ii i636, ii i637]]) Tryz.call17 rfl (body_count_p0_sii_ok hr642) rfl rfl) ?_
 rintro _ _ _ ⟨v647, _, rfl, ⟨⟨i643, s644, i645, i646, rfl, rfl, rfl⟩, rfl⟩, _, rfl⟩
 refine jv _ (V.fad Tryz.underlying34 rfl nz3 rfl) <| J.front 1 rfl <| js1 [ii i634, ii i643, .slice none 0 0, .slice none 0 0, .slice none 0 0, .slice none 0 0, .slice none 0 0] sz3 rfl rfl rfl rfl rfl rfl <| J.nil <| CJ.seq <| CJ.region <| jm _ rfl ?_
 obtain ⟨r650, hr651, h⟩ := ob h
 refine J.front 1 rfl <| J.op rfl (A.call (L1 := [Cl b630 54 [.string ⟨s644.toArray⟩, ii i645, ii i646]]) Tryz.call18 rfl (body_one_api_Bound_p0_body_takeBounds__sii_ok hr651) rfl rfl) ?_
 rintro _ _ _ ⟨v659, _, rfl, ⟨⟨l652, s653, i654, i655, ad656, cp657, rfl, rfl, rfl⟩, rfl⟩, _, rfl⟩
 refine J.front 1 rfl <| J.wit Row.hn fun hn658 => jv _ (V.fad Tryz.underlying34 rfl nz26 rfl) <| J.front 2 rfl <| js1 [ii i634, ii i643, .slice ad656 l652.length cp657, .slice none 0 0, .slice none 0 0, .slice none 0 0, .slice none 0 0] sz26 rfl rfl rfl rfl rfl rfl <| J.nil <| CJ.seq ?_
 refine CJ.region <| jm _ rfl ?_
 obtain ⟨r663, hr664, h⟩ := ob h
 refine J.front 2 rfl <| J.op rfl (A.call (L1 := [Cl b630 54 [.string ⟨s653.toArray⟩, ii i654, ii i655]]) Tryz.call20 rfl (body_list_api_Type_p0_sig_TakeType__sii_ok hr664) rfl rfl) ?_
 rintro _ K673 _ ⟨v672, _, rfl, ⟨l665, s666, i667, i668, ad669, cp670, rfl, rfl, rfl⟩, hK674, rfl⟩
 refine J.front 1 rfl <| J.wit Row.hn fun hn671 => jv _ (V.fad Tryz.underlying34 rfl nz27 rfl) <| J.front 2 rfl <| js1 [ii i634, ii i643, .slice ad656 l652.length cp657, .slice ad669 l665.length cp670, .slice none 0 0, .slice none 0 0, .slice none 0 0] sz27 rfl rfl rfl rfl rfl rfl <| J.nil <| CJ.seq ?_
 refine CJ.region <| jm _ rfl ?_
 obtain ⟨r676, hr677, h⟩ := ob h
 refine J.front 2 rfl <| J.op rfl (A.call (L1 := [Cl b630 54 [.string ⟨s666.toArray⟩, ii i667, ii i668]]) Tryz.call22 rfl (body_one_api_Type_p0_sig_TakeType__sii_ok hr677) rfl rfl) ?_
 rintro _ _ _ ⟨v685, _, rfl, ⟨⟨l678, s679, i680, i681, ad682, cp683, rfl, rfl, rfl⟩, rfl⟩, _, rfl⟩
 refine J.front 1 rfl <| J.wit Row.hn fun hn684 => jv _ (V.fad Tryz.underlying34 rfl nz30 rfl) <| J.front 2 rfl <| js [ii i634, ii i643, .slice ad656 l652.length cp657, .slice ad669 l665.length cp670, .slice ad682 l678.length cp683, .slice none 0 0, .slice none 0 0] sz30 rfl rfl rfl rfl rfl rfl <| J.nil <| CJ.seq ?_
 refine CJ.region <| jm _ rfl ?_
 obtain ⟨r689, hr690, h⟩ := ob h
 refine J.front 2 rfl <| J.op rfl (A.call (L1 := [Cl b630 54 [.string ⟨s679.toArray⟩, ii i680, ii i681]]) Tryz.call23 rfl (body_list_api_Sig_p0_sig_Take__sii_ok hr690) rfl rfl) ?_
 rintro _ K699 _ ⟨v698, _, rfl, ⟨l691, s692, i693, i694, ad695, cp696, rfl, rfl, rfl⟩, hK700, rfl⟩
 refine J.front 1 rfl <| J.wit Row.hn fun hn697 => jv _ (V.fad Tryz.underlying34 rfl nz31 rfl) <| J.front 2 rfl <| js1 [ii i634, ii i643, .slice ad656 l652.length cp657, .slice ad669 l665.length cp670, .slice ad682 l678.length cp683, .slice ad695 l691.length cp696, .slice none 0 0] sz31 rfl rfl rfl rfl rfl rfl <| J.nil <| CJ.seq ?_
 refine CJ.region <| jm _ rfl ?_
 obtain ⟨r702, hr703, h⟩ := ob h
 refine J.front 2 rfl <| J.op rfl (A.call (L1 := [Cl b630 54 [.string ⟨s692.toArray⟩, ii i693, ii i694]]) Tryz.call17 rfl (body_count_p0_sii_ok hr703) rfl rfl) ?_
 rintro _ _ _ ⟨v708, _, rfl, ⟨⟨i704, s705, i706, i707, rfl, rfl, rfl⟩, rfl⟩, _, rfl⟩
 refine ja (ii i704) rfl <| J.nil <| CJ.seq <| CJ.seq <| CJ.region <| ja (ii 0) rfl <| J.nil ?_
 obtain ⟨o951, ho952, h⟩ := ob h
 refine CJ.meetN (fun ρ K' L' => ∃ (s943 : List UInt8) (i944 : Int) (i945 : Int) (l946 : (List ((List (Int × Int × Int × Int × Bool)) × (Int × Int × Int × (List Int) × (List Int) × (List Int))))) (ad947 : Option Addr) (cp948 : Nat), (s943, i944, i945, l946) = o951 ∧ Fits [(1, .pointer (some ⟨pba, 0, none⟩)), (4, .pointer (some ⟨b616, 0, none⟩)), (8, .pointer (some ⟨b630, 0, none⟩)), (9, .pointer (some ⟨b631, 0, none⟩))] ρ ∧ Hp.le K699 K' ∧ L' = Cl pba 25 [ii qa0, ii qa1, ii qa2, ii qa3, ii qa4, ii qa5, ii qa6] :: Cl b616 34 [ii 0, ii 0, .slice none 0 0, .slice none 0 0, .slice none 0 0, .slice none 0 0, .slice none 0 0] :: Cl b630 54 [.string ⟨s943.toArray⟩, ii i944, ii i945] :: Cl b631 34 [ii i634, ii i643, .slice ad656 l652.length cp657, .slice ad669 l665.length cp670, .slice ad682 l678.length cp683, .slice ad695 l691.length cp696, .slice ad947 l946.length cp948] :: Row Hp.nil 95 (.cons (.int .i64) (.one (.int .i64))) (.slice ad656 l652.length cp657) l652 :: Row K673 30 (.one (.sl (.cons (.int .i64) (.one .bool)))) (.slice ad669 l665.length cp670) l665 :: Row Hp.nil 146 (.cons (.int .i64) (.one .bool)) (.slice ad682 l678.length cp683) l678 :: Row K699 63 (.cons (.int .i64) (.cons (.sl (.cons (.int .i64) (.one (.int .i64)))) (.cons (.sl (.one (.sl (.cons (.int .i64) (.one .bool))))) (.one (.one (.sl (.cons (.int .i64) (.one .bool)))))))) (.slice ad695 l691.length cp696) l691 :: Row K' 70 (.cons (.sl (.cons (.int .i64) (.cons (.int .i64) (.cons (.int .i64) (.cons (.int .i64) (.one .bool)))))) (.one (.cons (.int .i64) (.cons (.int .i64) (.cons (.int .i64) (.cons (.sl (.int .i64)) (.cons (.sl (.int .i64)) (.one (.sl (.int .i64)))))))))) (.slice ad947 l946.length cp948) l946 :: F) ?_ ?_
 · refine CJ.block <| CJ.by (fun w hs => Sep.rowNil (e := 70) (t := (.cons (.sl (.cons (.int .i64) (.cons (.int .i64) (.cons (.int .i64) (.cons (.int .i64) (.one .bool)))))) (.one (.cons (.int .i64) (.cons (.int .i64) (.cons (.int .i64) (.cons (.sl (.int .i64)) (.cons (.sl (.int .i64)) (.one (.sl (.int .i64))))))))))) hs) <| CJ.by (fun w hs => hs.mono (Row.mono (Hp.nil_le K699))) <| CJ.front 3 rfl <| CJ.front 4 rfl <| CJ.front 5 rfl <| CJ.front 6 rfl ?_
   refine CJ.front 6 rfl <| CJ.front 6 rfl <| CJ.front 7 rfl <| CJ.front 8 rfl <| CJ.loop (fun s ρ K' L' => ∃ (i1030 : Int) (s1031 : List UInt8) (i1032 : Int) (i1033 : Int) (l1034 : (List ((List (Int × Int × Int × Int × Bool)) × (Int × Int × Int × (List Int) × (List Int) × (List Int))))) (ad1035 : Option Addr) (cp1036 : Nat), (i1030, s1031, i1032, i1033, l1034) = s ∧ Fits [(1, .pointer (some ⟨pba, 0, none⟩)), (4, .pointer (some ⟨b616, 0, none⟩)), (8, .pointer (some ⟨b630, 0, none⟩)), (9, .pointer (some ⟨b631, 0, none⟩)), (10, ii i704), (11, ii i1030)] ρ ∧ Hp.le K699 K' ∧ L' = Cl pba 25 [ii qa0, ii qa1, ii qa2, ii qa3, ii qa4, ii qa5, ii qa6] :: Cl b616 34 [ii 0, ii 0, .slice none 0 0, .slice none 0 0, .slice none 0 0, .slice none 0 0, .slice none 0 0] :: Cl b630 54 [.string ⟨s1031.toArray⟩, ii i1032, ii i1033] :: Cl b631 34 [ii i634, ii i643, .slice ad656 l652.length cp657, .slice ad669 l665.length cp670, .slice ad682 l678.length cp683, .slice ad695 l691.length cp696, .slice ad1035 l1034.length cp1036] :: Row Hp.nil 95 (.cons (.int .i64) (.one (.int .i64))) (.slice ad656 l652.length cp657) l652 :: Row K673 30 (.one (.sl (.cons (.int .i64) (.one .bool)))) (.slice ad669 l665.length cp670) l665 :: Row Hp.nil 146 (.cons (.int .i64) (.one .bool)) (.slice ad682 l678.length cp683) l678 :: Row K699 63 (.cons (.int .i64) (.cons (.sl (.cons (.int .i64) (.one (.int .i64)))) (.cons (.sl (.one (.sl (.cons (.int .i64) (.one .bool))))) (.one (.one (.sl (.cons (.int .i64) (.one .bool)))))))) (.slice ad695 l691.length cp696) l691 :: Row K' 70 (.cons (.sl (.cons (.int .i64) (.cons (.int .i64) (.cons (.int .i64) (.cons (.int .i64) (.one .bool)))))) (.one (.cons (.int .i64) (.cons (.int .i64) (.cons (.int .i64) (.cons (.sl (.int .i64)) (.cons (.sl (.int .i64)) (.one (.sl (.int .i64)))))))))) (.slice ad1035 l1034.length cp1036) l1034 :: F) ho952 ⟨0, s705, i706, i707, [], none, 0, rfl, ⟨rfl, rfl, rfl, rfl, rfl, rfl, trivial⟩, (Hp.le_refl _), rfl⟩ ?_
   rintro s ρ K1029 _ r1118 ⟨i1030, s1031, i1032, i1033, l1034, ad1035, cp1036, rfl, hf1116, hk1117, rfl⟩ h1114
   obtain ⟨ρ, rfl⟩ := hf1116.ex
   refine CJ.front 8 rfl <| CJ.wit Row.hn fun hn1038 => CJ.seq <| CJ.seq <| CJ.region <| jm (ii i1030) rfl <| jm (ii i704) rfl ?_
   refine jv (.bool (decide (i1030 < i704))) (V.lss rfl rfl) <| jm (.bool (decide (i1030 < i704))) rfl <| J.cut 6 <| jmeet [(53, .bool ((decide (i1030 < i704)) && (decide (i1033 = 0)))), (1, .pointer (some ⟨pba, 0, none⟩)), (4, .pointer (some ⟨b616, 0, none⟩)), (8, .pointer (some ⟨b630, 0, none⟩)), (9, .pointer (some ⟨b631, 0, none⟩)), (10, ii i704), (11, ii i1030)] ?_ ?_
   · rcases bt (decide (i1030 < i704)) with hc1121 | hc1121
     · refine J.run rfl rfl rfl hc1121 <| jm _ rfl <| J.run rfl rfl rfl hc1121 <| jv _ (V.nck rfl) <| J.run rfl rfl rfl hc1121 <| jv _ (V.fad Tryz.underlying54 rfl nz35 rfl) <| J.run rfl rfl rfl hc1121 ?_
       refine jv (ii i1033) (V.ld rfl (Ld.sc sc35 (Rd.cl 3 rfl rfl))) <| J.run rfl rfl rfl hc1121 <| jv (.bool (decide (i1033 = 0))) (V.eql rfl rfl) <| jv (.bool (decide (i1033 = 0))) (V.pickT rfl hc1121 rfl) <| J.nil ?_
       exact ⟨rfl, ⟨(by simp only [hc1121]; rfl), rfl, rfl, rfl, rfl, rfl, rfl, trivial⟩, rfl, rfl⟩
     refine J.skip rfl rfl rfl rfl hc1121 <| J.skip rfl rfl rfl rfl hc1121 <| J.skip rfl rfl rfl rfl hc1121 <| J.skip rfl rfl rfl rfl hc1121 <| J.skip rfl rfl rfl rfl hc1121 <| jv (.bool false) (V.pickF rfl hc1121 rfl) <| J.nil ?_
     exact ⟨rfl, ⟨(by simp only [hc1121]; rfl), rfl, rfl, rfl, rfl, rfl, rfl, trivial⟩, rfl, rfl⟩
   intro ρ
   refine J.nil <| cc rfl h1114 (fun hc1122 h1114 => ?_) fun hc1122 h1114 => ?_
   · refine CJ.skip <| CJ.seq <| CJ.block <| CJ.seq <| CJ.region <| jal inf70 [.slice none 0 0, ii 0, ii 0, ii 0, .slice none 0 0, .slice none 0 0, .slice none 0 0] rfl fun b1123 => J.nil ?_
     refine CJ.seq <| CJ.region <| jm _ rfl ?_
     obtain ⟨r1124, hr1125, h1114⟩ := ob h1114
     refine J.front 4 rfl <| J.op rfl (A.call (L1 := [Cl b630 54 [.string ⟨s1031.toArray⟩, ii i1032, ii i1033]]) Tryz.call25 rfl (body_list_api_Stmt_p0_stmt_Take__sii_ok hr1125) rfl rfl) ?_
     rintro _ _ _ ⟨v1133, _, rfl, ⟨⟨l1126, s1127, i1128, i1129, ad1130, cp1131, rfl, rfl, rfl⟩, rfl⟩, _, rfl⟩
     refine J.front 1 rfl <| J.wit Row.hn fun hn1132 => jv _ (V.fad Tryz.underlying70 rfl nz65 rfl) <| J.front 2 rfl <| js1 [.slice ad1130 l1126.length cp1131, ii 0, ii 0, ii 0, .slice none 0 0, .slice none 0 0, .slice none 0 0] sz65 rfl rfl rfl rfl rfl rfl <| J.nil <| CJ.seq ?_
     refine CJ.region <| jm _ rfl ?_
     obtain ⟨r1137, hr1138, h1114⟩ := ob h1114
     refine J.front 2 rfl <| J.op rfl (A.call (L1 := [Cl b630 54 [.string ⟨s1127.toArray⟩, ii i1128, ii i1129]]) Tryz.call27 rfl (body_one_api_Term_p0_term_Take__sii_ok hr1138) rfl rfl) ?_
     rintro _ _ _ ⟨v1157, _, rfl, ⟨⟨i1139, i1140, i1141, l1142, l1143, l1144, s1145, i1146, i1147, ad1148, cp1149, ad1150, cp1151, ad1152, cp1153, rfl, rfl, rfl⟩, rfl⟩, _, rfl⟩
     refine J.front 1 rfl <| J.wit Row.hn fun hn1154 => J.front 2 rfl <| J.wit Row.hn fun hn1155 => J.front 3 rfl <| J.wit Row.hn fun hn1156 => jv _ (V.fad Tryz.underlying70 rfl nz68 rfl) ?_
     refine J.front 4 rfl <| js [.slice ad1130 l1126.length cp1131, ii i1139, ii i1140, ii i1141, .slice ad1148 l1142.length cp1149, .slice ad1150 l1143.length cp1151, .slice ad1152 l1144.length cp1153] sz68 rfl rfl rfl rfl rfl rfl <| J.nil <| CJ.region <| jv _ (V.fad Tryz.underlying34 rfl nz32 rfl) <| jv (.slice ad1035 l1034.length cp1036) (V.ld rfl (Ld.sc sc32 (Rd.cl 9 rfl rfl))) <| jv (.agg #[.slice ad1130 l1126.length cp1131, ii i1139, ii i1140, ii i1141, .slice ad1148 l1142.length cp1149, .slice ad1150 l1143.length cp1151, .slice ad1152 l1144.length cp1153]) (V.ld rfl (Ld.agg (cs := [.slice ad1130 l1126.length cp1131, ii i1139, ii i1140, ii i1141, .slice ad1148 l1142.length cp1149, .slice ad1150 l1143.length cp1151, .slice ad1152 l1144.length cp1153]) Tryz.underlying70 sz70 rfl (Rd.cls 0 0 rfl rfl))) ?_
     refine J.front 5 rfl <| J.persist (Hp.nil_le _) (by decide) fun K1163 hK1164 f1165 => J.front 3 rfl <| J.persist (Hp.nil_le _) (by decide) fun K1166 hK1167 f1168 => J.front 2 rfl <| J.persist (Hp.nil_le _) (by decide) fun K1169 hK1170 f1171 => J.front 1 rfl ?_
     refine J.persist (Hp.nil_le _) (by decide) fun K1172 hK1173 f1174 => ?_
     refine J.op rfl (A.lit (K0 := K1172) (ty := (.cons (.sl (.cons (.int .i64) (.cons (.int .i64) (.cons (.int .i64) (.cons (.int .i64) (.one .bool)))))) (.one (.cons (.int .i64) (.cons (.int .i64) (.cons (.int .i64) (.cons (.sl (.int .i64)) (.cons (.sl (.int .i64)) (.one (.sl (.int .i64))))))))))) (xs := ([(l1126, (i1139, i1140, i1141, l1142, l1143, l1144))] : List ((List (Int × Int × Int × Int × Bool)) × (Int × Int × Int × (List Int) × (List Int) × (List Int))))) Tryz.underlying32 inf70 rfl (by decide) rfl rfl rfl ⟨_, _, rfl, ⟨_, _, rfl, rfl, (f1165.mono ((hK1167.trans hK1170).trans hK1173)), ⟨_, _, rfl, rfl, rfl, ⟨_, _, rfl, rfl, rfl, ⟨_, _, rfl, rfl, rfl, ⟨_, _, rfl, rfl, (f1168.mono (hK1170.trans hK1173)), ⟨_, _, rfl, rfl, (f1171.mono hK1173), f1174⟩⟩⟩⟩⟩⟩, rfl⟩ rfl (by decide)) ?_
     rintro _ _ _ ⟨b1175, rfl, rfl, rfl⟩
     have hn1176 : ([(l1126, (i1139, i1140, i1141, l1142, l1143, l1144))] : List ((List (Int × Int × Int × Int × Bool)) × (Int × Int × Int × (List Int) × (List Int) × (List Int)))) ≠ [] → ∃ g, (some ⟨b1175, 0, none⟩ : Option Addr) = some ⟨g, 0, none⟩ := fun _ => ⟨b1175, rfl⟩
     obtain ⟨z1178, hz1179, h1114⟩ := ob h1114
     refine J.front 3 rfl <| J.op rfl (A.appR (Kr := K1172) Tryz.underlying32 inf70 rfl rfl (by decide) (by decide) rfl rfl (Els.mono (((hK1164.trans hK1167).trans hK1170).trans hK1173)) (Els.mono (Hp.le_refl _)) hz1179) ?_
     rintro _ _ _ ⟨v1180, rfl, rfl, rfl⟩
     refine J.wit Row.form ?_
     rintro ⟨ad1181, cp1182, rfl, _, _, hn1183⟩
     refine jv _ (V.fad Tryz.underlying34 rfl nz32 rfl) <| J.front 5 rfl <| js1 [ii i634, ii i643, .slice ad656 l652.length cp657, .slice ad669 l665.length cp670, .slice ad682 l678.length cp683, .slice ad695 l691.length cp696, .slice ad1181 z1178.length cp1182] sz32 rfl rfl rfl rfl rfl rfl <| J.nil <| CJ.region <| jm (ii i1030) rfl <| jv (ii (IntKind.wrap .i64 (i1030 + 1))) (V.add rfl rfl) ?_
     refine ja (ii (IntKind.wrap .i64 (i1030 + 1))) rfl <| J.dropAt 2 rfl <| J.front 1 rfl <| J.front 8 rfl <| J.front 8 rfl <| J.front 8 rfl <| J.front 8 rfl ?_
     refine J.front 5 rfl <| J.front 6 rfl <| J.front 8 rfl <| J.front 8 rfl <| J.nil ?_
     obtain rfl := si h1114
     exact ⟨rfl, ⟨IntKind.wrap .i64 (i1030 + 1), s1145, i1146, i1147, z1178, ad1181, cp1182, rfl, ⟨rfl, rfl, rfl, rfl, rfl, rfl, trivial⟩, ((((hk1117.trans hK1164).trans hK1167).trans hK1170).trans hK1173), rfl⟩⟩
   refine CJ.front 8 rfl <| CJ.front 8 rfl <| CJ.front 8 rfl <| CJ.front 8 rfl <| CJ.front 8 rfl <| CJ.front 8 rfl <| CJ.front 8 rfl ?_
   refine CJ.front 8 rfl <| CJ.exit ?_
   obtain rfl := si h1114
   refine ⟨nofun, fun e => ?_⟩
   subst e
   exact ⟨rfl, ⟨s1031, i1032, i1033, l1034, ad1035, cp1036, rfl, ⟨rfl, rfl, rfl, rfl, trivial⟩, hk1117, rfl⟩⟩
 rintro ρ K942 _ ⟨s943, i944, i945, l946, ad947, cp948, rfl, hf1184, hk1185, rfl⟩
 obtain ⟨ρ, rfl⟩ := hf1184.ex
 refine PJ.front 8 rfl <| PJ.wit Row.hn fun hn950 => PJ.done <| CJ.seq ?_
 obtain ⟨o1191, ho1192, h⟩ := ob h
 refine CJ.meetN (fun ρ K' L' => ∃ (i1190 : Int), i1190 = o1191 ∧ Fits [(1, .pointer (some ⟨pba, 0, none⟩)), (4, .pointer (some ⟨b616, 0, none⟩)), (8, .pointer (some ⟨b630, 0, none⟩)), (9, .pointer (some ⟨b631, 0, none⟩))] ρ ∧ K942 = K' ∧ L' = Cl pba 25 [ii qa0, ii qa1, ii qa2, ii qa3, ii qa4, ii qa5, ii qa6] :: Cl b616 34 [ii 0, ii 0, .slice none 0 0, .slice none 0 0, .slice none 0 0, .slice none 0 0, .slice none 0 0] :: Cl b630 54 [.string ⟨s943.toArray⟩, ii i944, ii i1190] :: Cl b631 34 [ii i634, ii i643, .slice ad656 l652.length cp657, .slice ad669 l665.length cp670, .slice ad682 l678.length cp683, .slice ad695 l691.length cp696, .slice ad947 l946.length cp948] :: Row Hp.nil 95 (.cons (.int .i64) (.one (.int .i64))) (.slice ad656 l652.length cp657) l652 :: Row K673 30 (.one (.sl (.cons (.int .i64) (.one .bool)))) (.slice ad669 l665.length cp670) l665 :: Row Hp.nil 146 (.cons (.int .i64) (.one .bool)) (.slice ad682 l678.length cp683) l678 :: Row K699 63 (.cons (.int .i64) (.cons (.sl (.cons (.int .i64) (.one (.int .i64)))) (.cons (.sl (.one (.sl (.cons (.int .i64) (.one .bool))))) (.one (.one (.sl (.cons (.int .i64) (.one .bool)))))))) (.slice ad695 l691.length cp696) l691 :: Row K942 70 (.cons (.sl (.cons (.int .i64) (.cons (.int .i64) (.cons (.int .i64) (.cons (.int .i64) (.one .bool)))))) (.one (.cons (.int .i64) (.cons (.int .i64) (.cons (.int .i64) (.cons (.sl (.int .i64)) (.cons (.sl (.int .i64)) (.one (.sl (.int .i64)))))))))) (.slice ad947 l946.length cp948) l946 :: F) ?_ ?_
 · refine CJ.seq <| CJ.region <| jm _ rfl <| jv _ (V.nck rfl) <| jv _ (V.fad Tryz.underlying54 rfl nz35 rfl) <| jv (ii i945) (V.ld rfl (Ld.sc sc35 (Rd.cl 3 rfl rfl))) <| jv (.bool (decide (i945 = 0))) (V.eql rfl rfl) ?_
   refine jm (.bool (decide (i945 = 0))) rfl <| J.cut 6 <| jmeet [(79, .bool ((decide (i945 = 0)) && (!decide (s943 = ([] : List UInt8))))), (1, .pointer (some ⟨pba, 0, none⟩)), (4, .pointer (some ⟨b616, 0, none⟩)), (8, .pointer (some ⟨b630, 0, none⟩)), (9, .pointer (some ⟨b631, 0, none⟩))] ?_ ?_
   · rcases bt (decide (i945 = 0)) with hc1195 | hc1195
     · refine J.run rfl rfl rfl hc1195 <| jm _ rfl <| J.run rfl rfl rfl hc1195 <| jv _ (V.nck rfl) <| J.run rfl rfl rfl hc1195 <| jv _ (V.fad Tryz.underlying54 rfl nz9 rfl) <| J.run rfl rfl rfl hc1195 ?_
       refine jv (.string ⟨s943.toArray⟩) (V.ld rfl (Ld.sc sc9 (Rd.cl 3 rfl rfl))) <| J.run rfl rfl rfl hc1195 <| jv (.bool (!decide (s943 = ([] : List UInt8)))) (V.nes rfl rfl) <| jv (.bool (!decide (s943 = ([] : List UInt8)))) (V.pickT rfl hc1195 rfl) <| J.nil ?_
       exact ⟨rfl, ⟨(by simp only [hc1195]; rfl), rfl, rfl, rfl, rfl, trivial⟩, rfl, rfl⟩
     refine J.skip rfl rfl rfl rfl hc1195 <| J.skip rfl rfl rfl rfl hc1195 <| J.skip rfl rfl rfl rfl hc1195 <| J.skip rfl rfl rfl rfl hc1195 <| J.skip rfl rfl rfl rfl hc1195 <| jv (.bool false) (V.pickF rfl hc1195 rfl) <| J.nil ?_
     exact ⟨rfl, ⟨(by simp only [hc1195]; rfl), rfl, rfl, rfl, rfl, trivial⟩, rfl, rfl⟩
   intro ρ
   refine J.nil <| cc rfl ho1192 (fun hc1196 ho1192 => ?_) fun hc1196 ho1192 => ?_
   · refine CJ.region <| jm _ rfl <| jv _ (V.nck rfl) <| jv _ (V.fad Tryz.underlying54 rfl nz35 rfl) <| J.front 3 rfl <| js1 [.string ⟨s943.toArray⟩, ii i944, ii 13] sz35 rfl rfl rfl rfl rfl rfl <| J.front 1 rfl ?_
     refine J.front 8 rfl <| J.front 8 rfl <| J.front 8 rfl <| J.front 8 rfl <| J.front 8 rfl <| J.front 6 rfl <| J.front 8 rfl ?_
     refine J.front 8 rfl <| J.nil ?_
     obtain rfl := si ho1192
     exact ⟨rfl, ⟨13, rfl, ⟨rfl, rfl, rfl, rfl, trivial⟩, rfl, rfl⟩⟩
   refine CJ.front 8 rfl <| CJ.front 8 rfl <| CJ.front 8 rfl <| CJ.front 8 rfl <| CJ.front 8 rfl <| CJ.front 8 rfl <| CJ.front 8 rfl ?_
   refine CJ.front 8 rfl <| CJ.skip ?_
   obtain rfl := si ho1192
   exact ⟨rfl, ⟨i945, rfl, ⟨rfl, rfl, rfl, rfl, trivial⟩, rfl, rfl⟩⟩
 rintro ρ _ _ ⟨i1190, rfl, hf1197, rfl, rfl⟩
 obtain ⟨ρ, rfl⟩ := hf1197.ex
 refine PJ.done <| CJ.seq <| CJ.seq <| CJ.region <| jm _ rfl <| jv _ (V.nck rfl) <| jv _ (V.fad Tryz.underlying54 rfl nz35 rfl) ?_
 refine jv (ii i1190) (V.ld rfl (Ld.sc sc35 (Rd.cl 2 rfl rfl))) <| jv (.bool (!decide (i1190 = 0))) (V.neq rfl rfl) <| J.nil <| cc rfl h (fun hc1199 h => ?_) fun hc1199 h => ?_
 · refine CJ.seq <| CJ.mix [Cl pba 25 [ii qa0, ii qa1, ii qa2, ii qa3, ii qa4, ii qa5, ii qa6], Cl b616 34 [ii 0, ii 0, .slice none 0 0, .slice none 0 0, .slice none 0 0, .slice none 0 0, .slice none 0 0], Cl b630 54 [.string ⟨s943.toArray⟩, ii i944, ii i1190], Cl b631 34 [ii i634, ii i643, .slice ad656 l652.length cp657, .slice ad669 l665.length cp670, .slice ad682 l678.length cp683, .slice ad695 l691.length cp696, .slice ad947 l946.length cp948], Row Hp.nil 95 (.cons (.int .i64) (.one (.int .i64))) (.slice ad656 l652.length cp657) l652, Row K673 30 (.one (.sl (.cons (.int .i64) (.one .bool)))) (.slice ad669 l665.length cp670) l665, Row Hp.nil 146 (.cons (.int .i64) (.one .bool)) (.slice ad682 l678.length cp683) l678, Row K699 63 (.cons (.int .i64) (.cons (.sl (.cons (.int .i64) (.one (.int .i64)))) (.cons (.sl (.one (.sl (.cons (.int .i64) (.one .bool))))) (.one (.one (.sl (.cons (.int .i64) (.one .bool)))))))) (.slice ad695 l691.length cp696) l691, Row K942 70 (.cons (.sl (.cons (.int .i64) (.cons (.int .i64) (.cons (.int .i64) (.cons (.int .i64) (.one .bool)))))) (.one (.cons (.int .i64) (.cons (.int .i64) (.cons (.int .i64) (.cons (.sl (.int .i64)) (.cons (.sl (.int .i64)) (.one (.sl (.int .i64)))))))))) (.slice ad947 l946.length cp948) l946] [([0, 1, 2, 3, 4], 5)] [6] [] mixO (by decide +kernel) ⟨0, rfl, 0, rfl, 0, rfl, 0, rfl, 0, rfl, 0, rfl, 0, rfl, 0, rfl, 0, rfl, trivial⟩ rfl rfl rfl <| JM.cons <| qv (.agg #[ii 0, ii 0, .slice none 0 0, .slice none 0 0, .slice none 0 0, .slice none 0 0, .slice none 0 0]) (V.build inf34 places34 rfl rfl) <| qm _ rfl <| qv _ (V.nck rfl) <| qv _ (V.fad Tryz.underlying54 rfl nz35 rfl) ?_
   refine qv (ii i1190) (V.ld rfl (Ld.sc sc35 (Rd.cl 2 rfl rfl))) <| JQ.nil <| JA.front 1 rfl <| JA.op rfl (A.store (v := .agg #[ii 0, ii 0, .slice none 0 0, .slice none 0 0, .slice none 0 0, .slice none 0 0, .slice none 0 0]) (cs' := [ii 0, ii 0, .slice none 0 0, .slice none 0 0, .slice none 0 0, .slice none 0 0, .slice none 0 0]) sz34 rfl rfl rfl rfl rfl rfl) ?_
   rintro _ _ _ ⟨rfl, rfl, rfl⟩
   refine ⟨fun w hs => Hold.sub (Hp.le_refl _) ⟨1, rfl, 0, rfl, 0, rfl, 0, rfl, 0, rfl, 0, rfl, 0, rfl, 0, rfl, 0, rfl, trivial⟩ hs, ?_⟩
   refine JM.nil <| qa (ii i1190) rfl <| JQ.nil <| J.nil <| CJ.by (fun w hs => Sep.rowNil (e := 95) (t := (.cons (.int .i64) (.one (.int .i64)))) hs) <| CJ.by (fun w hs => Sep.rowNil (e := 30) (t := (.one (.sl (.cons (.int .i64) (.one .bool))))) hs) <| CJ.by (fun w hs => Sep.rowNil (e := 146) (t := (.cons (.int .i64) (.one .bool))) hs) ?_
   refine CJ.by (fun w hs => Sep.rowNil (e := 63) (t := (.cons (.int .i64) (.cons (.sl (.cons (.int .i64) (.one (.int .i64)))) (.cons (.sl (.one (.sl (.cons (.int .i64) (.one .bool))))) (.one (.one (.sl (.cons (.int .i64) (.one .bool))))))))) hs) <| CJ.by (fun w hs => Sep.rowNil (e := 70) (t := (.cons (.sl (.cons (.int .i64) (.cons (.int .i64) (.cons (.int .i64) (.cons (.int .i64) (.one .bool)))))) (.one (.cons (.int .i64) (.cons (.int .i64) (.cons (.int .i64) (.cons (.sl (.int .i64)) (.cons (.sl (.int .i64)) (.one (.sl (.int .i64))))))))))) hs) <| CJ.ret ?_
   obtain rfl := si h
   exact ⟨_, _, Res.two rfl ⟨_, _, rfl, Ld.agg (cs := [ii 0, ii 0, .slice none 0 0, .slice none 0 0, .slice none 0 0, .slice none 0 0, .slice none 0 0]) Tryz.underlying34 sz34 rfl (Rd.cls 5 0 rfl rfl)⟩ rfl, ⟨0, 0, [], [], [], [], [], i1190, qa0, none, 0, none, 0, none, 0, none, 0, none, 0, rfl, rfl, rfl⟩, ((hK674.trans hK700).trans hk1185), fun w hs => (Sep.front 5 rfl (Sep.front 4 rfl (Sep.front 3 rfl (Sep.front 2 rfl (Sep.front 1 rfl (Sep.dropAt 6 rfl (Sep.dropAt 6 rfl (Sep.dropAt 6 rfl (Sep.dropAt 6 rfl (Sep.dropAt 6 rfl (Sep.dropAt 6 rfl (Sep.dropAt 6 rfl (Sep.dropAt 5 rfl hs)))))))))))))⟩
 refine CJ.skip <| CJ.seq <| CJ.region <| jm _ rfl <| jm _ rfl <| jv _ (V.nck rfl) <| jv _ (V.fad Tryz.underlying54 rfl nz3 rfl) ?_
 refine jv (ii i944) (V.ld rfl (Ld.sc sc3 (Rd.cl 2 rfl rfl))) ?_
 obtain ⟨r1205, hr1206, h⟩ := ob h
 refine J.op rfl (A.call (L1 := [Cl pba 25 [ii qa0, ii qa1, ii qa2, ii qa3, ii qa4, ii qa5, ii qa6]]) Tryz.call29 rfl (tick_Counter_Add_p0c0i_iiiiiii_ok hr1206) rfl rfl) ?_
 rintro _ _ _ ⟨v1208, _, rfl, ⟨⟨i1207, rfl, rfl, rfl⟩, rfl⟩, _, rfl⟩
 refine J.nil <| CJ.seq <| CJ.region <| jv (.agg #[ii i634, ii i643, .slice ad656 l652.length cp657, .slice ad669 l665.length cp670, .slice ad682 l678.length cp683, .slice ad695 l691.length cp696, .slice ad947 l946.length cp948]) (V.ld rfl (Ld.agg (cs := [ii i634, ii i643, .slice ad656 l652.length cp657, .slice ad669 l665.length cp670, .slice ad682 l678.length cp683, .slice ad695 l691.length cp696, .slice ad947 l946.length cp948]) Tryz.underlying34 sz34 rfl (Rd.cls 3 0 rfl rfl))) <| J.front 1 rfl <| js [ii i634, ii i643, .slice ad656 l652.length cp657, .slice ad669 l665.length cp670, .slice ad682 l678.length cp683, .slice ad695 l691.length cp696, .slice ad947 l946.length cp948] sz34 rfl rfl rfl rfl rfl rfl <| ja (ii 0) rfl ?_
 refine J.nil <| CJ.front 5 rfl <| CJ.by (fun w hs => hs.mono (Row.mono (hK700.trans hk1185))) <| CJ.front 7 rfl <| CJ.by (fun w hs => hs.mono (Row.mono hk1185)) <| CJ.ret ?_
 obtain rfl := si h
 exact ⟨_, _, Res.two rfl ⟨_, _, rfl, Ld.agg (cs := [ii i634, ii i643, .slice ad656 l652.length cp657, .slice ad669 l665.length cp670, .slice ad682 l678.length cp683, .slice ad695 l691.length cp696, .slice ad947 l946.length cp948]) Tryz.underlying34 sz34 rfl (Rd.cls 2 0 rfl rfl)⟩ rfl, ⟨i634, i643, l652, l665, l678, l691, l946, 0, i1207, ad656, cp657, ad669, cp670, ad682, cp683, ad695, cp696, ad947, cp948, rfl, rfl, rfl⟩, ((hK674.trans hK700).trans hk1185), fun w hs => (Sep.front 5 rfl (Sep.front 5 rfl (Sep.front 3 rfl (Sep.front 5 rfl (Sep.front 1 rfl (Sep.front 5 rfl (Sep.dropAt 3 rfl (Sep.dropAt 3 rfl (Sep.dropAt 2 rfl hs)))))))))⟩

noncomputable def fnr_ref02_digits : Nat → Int → Option (List UInt8)
  | 0, _ => none
  | fuel + 1, xa => cond (decide (xa < 256)) (some (toU8 ([IntKind.wrap .u8 xa] : List Int))) (((fnr_ref02_digits fuel (IntKind.wrap .i64 (Int.tdiv xa 256))).bind fun s212 => (app s212 (toU8 (([IntKind.wrap .u8 (Int.tmod xa 256)] : List Int)))).bind fun z222 => some (z222) : Option (List UInt8)).bind fun s182 => some (s182))
noncomputable def fn_ref02_digits (xa : Int) : Option (List UInt8) := lev (fun n => fnr_ref02_digits n xa)
set_option maxRecDepth 100000 in
set_option maxHeartbeats 4000000 in
theorem ref02_digits_okr : ∀ (fuel : Nat) {K : Hp} {xa : Int}   {r : List UInt8} (h : fnr_ref02_digits fuel xa = some r),
    Tr Tryz.prog 109 #[ii xa] K [] (fun v K' L' => (∃ (s123 : List UInt8), s123 = r ∧ .string ⟨s123.toArray⟩ = v ∧ L' = []) ∧ K = K') := by
  intro fuel
  induction fuel with
  | zero => intro K xa r h; rw [fnr_ref02_digits] at h; cases h
  | succ fuel ih =>
    intro K xa r h
    refine Tr.k <| Tr.of Tryz.func109 rfl Tryz.ntmps109 rfl fun E F => ?_
    rw [fnr_ref02_digits] at h
    refine CJ.seq <| CJ.region <| ja (.string ⟨([] : List UInt8).toArray⟩) rfl <| J.nil <| CJ.seq <| CJ.seq <| CJ.region ?_
    refine jm (ii xa) rfl <| jv (.bool (decide (xa < 256))) (V.lss rfl rfl) <| J.nil <| cc rfl h (fun hc124 h => ?_) fun hc124 h => ?_
    · refine CJ.seq <| CJ.region <| jm (ii xa) rfl <| jv (.int .u8 (IntKind.wrap .u8 xa)) (V.conv Tryz.underlying3 Tryz.underlying5 rfl) ?_
      refine J.op rfl (A.lit (K0 := Hp.nil) (ty := (.int .u8)) (xs := ([IntKind.wrap .u8 xa] : List Int)) Tryz.underlying105 inf5 rfl (by decide) rfl rfl rfl ⟨_, _, rfl, rfl, rfl⟩ rfl (by decide)) ?_
      rintro _ _ _ ⟨b125, rfl, rfl, rfl⟩
      have hn126 : ([IntKind.wrap .u8 xa] : List Int) ≠ [] → ∃ g, (some ⟨b125, 0, none⟩ : Option Addr) = some ⟨g, 0, none⟩ := fun _ => ⟨b125, rfl⟩
      refine jv (.string ⟨(toU8 ([IntKind.wrap .u8 xa] : List Int)).toArray⟩) (V.b2sR 0 rfl Tryz.underlying105 Tryz.underlying5 Tryz.underlying9 rfl) <| ja (.string ⟨(toU8 ([IntKind.wrap .u8 xa] : List Int)).toArray⟩) rfl <| J.nil <| CJ.ret ?_
      obtain rfl := si h
      exact ⟨_, _, Res.one rfl rfl, ⟨toU8 ([IntKind.wrap .u8 xa] : List Int), rfl, rfl, rfl⟩, (Hp.le_refl _), fun w hs => (Sep.dropAt 0 rfl hs)⟩
    refine CJ.skip <| CJ.seq ?_
    obtain ⟨o183, ho184, h⟩ := ob h
    refine CJ.meetN (fun ρ K' L' => ∃ (s182 : List UInt8), s182 = o183 ∧ Fits [(2, .string ⟨s182.toArray⟩)] ρ ∧ K = K' ∧ F = L') ?_ ?_
    · refine CJ.tree [] (.still [0, 1, 3, 4, 5] (.alt 2 (.alt 6 (.alt 7 (.leaf [8, 9]) .done) .done) (.alt 6 (.alt 2 (.alt 7 (.leaf [8, 9]) .done) (.alt 7 (.alt 2 (.leaf [8, 9]) .done) .done)) .done))) [] mixO (by decide +kernel) trivial rfl <| JT.still rfl <| qm (ii xa) rfl <| qv (ii (IntKind.wrap .i64 (Int.tdiv xa 256))) (V.quo rfl rfl (by decide)) <| qm (ii xa) rfl <| qv (ii (Int.tmod xa 256)) (V.rem rfl rfl (by decide)) <| qv (.int .u8 (IntKind.wrap .u8 (Int.tmod xa 256))) (V.conv Tryz.underlying3 Tryz.underlying5 rfl) ?_
      refine JQ.nil ?_
      obtain ⟨r213, hr214, ho184⟩ := ob ho184
      refine JT.alt rfl ?_ ?_
      · refine JB.op rfl (A.call (L1 := []) Tryz.call109 rfl (ih hr214) rfl rfl) ?_
        rintro _ _ _ ⟨v216, _, rfl, ⟨⟨s212, rfl, rfl, rfl⟩, rfl⟩, _, rfl⟩
        refine ⟨fun w hs => Hold.sub (Hp.le_refl _) trivial hs, ?_⟩
        refine JT.alt rfl ?_ JT.done
        refine JB.op rfl (A.lit (K0 := Hp.nil) (ty := (.int .u8)) (xs := ([IntKind.wrap .u8 (Int.tmod xa 256)] : List Int)) Tryz.underlying105 inf5 rfl (by decide) rfl rfl rfl ⟨_, _, rfl, rfl, rfl⟩ rfl (by decide)) ?_
        rintro _ _ _ ⟨b219, rfl, rfl, rfl⟩
        have hn220 : ([IntKind.wrap .u8 (Int.tmod xa 256)] : List Int) ≠ [] → ∃ g, (some ⟨b219, 0, none⟩ : Option Addr) = some ⟨g, 0, none⟩ := fun _ => ⟨b219, rfl⟩
        refine ⟨fun w hs => Hold.sub (Hp.le_refl _) trivial hs, ?_⟩
        refine JT.alt rfl ?_ JT.done
        refine JB.op rfl (A.val (v := .string ⟨(toU8 (([IntKind.wrap .u8 (Int.tmod xa 256)] : List Int))).toArray⟩) rfl (V.b2sR 0 rfl Tryz.underlying105 Tryz.underlying5 Tryz.underlying9 rfl)) ?_
        rintro _ _ _ ⟨rfl, rfl, rfl⟩
        refine ⟨fun w hs => Hold.sub (Hp.le_refl _) trivial hs, ?_⟩
        refine JT.leaf rfl ?_
        obtain ⟨z222, hz223, ho184⟩ := ob ho184
        refine qv (.string ⟨z222.toArray⟩) (V.cat rfl rfl hz223) <| qa (.string ⟨z222.toArray⟩) rfl <| JQ.nil <| J.dropAt 0 rfl <| J.nil ?_
        obtain rfl := si ho184
        exact ⟨rfl, ⟨z222, rfl, ⟨rfl, trivial⟩, rfl, rfl⟩⟩
      refine JT.alt rfl ?_ JT.done
      refine JB.op rfl (A.lit (K0 := Hp.nil) (ty := (.int .u8)) (xs := ([IntKind.wrap .u8 (Int.tmod xa 256)] : List Int)) Tryz.underlying105 inf5 rfl (by decide) rfl rfl rfl ⟨_, _, rfl, rfl, rfl⟩ rfl (by decide)) ?_
      rintro _ _ _ ⟨b224, rfl, rfl, rfl⟩
      have hn225 : ([IntKind.wrap .u8 (Int.tmod xa 256)] : List Int) ≠ [] → ∃ g, (some ⟨b224, 0, none⟩ : Option Addr) = some ⟨g, 0, none⟩ := fun _ => ⟨b224, rfl⟩
      refine ⟨fun w hs => Hold.sub (Hp.le_refl _) trivial hs, ?_⟩
      refine JT.alt rfl ?_ ?_
      · refine JB.op rfl (A.call (L1 := []) Tryz.call109 rfl (ih hr214) rfl rfl) ?_
        rintro _ _ _ ⟨v228, _, rfl, ⟨⟨s212, rfl, rfl, rfl⟩, rfl⟩, _, rfl⟩
        refine ⟨fun w hs => Hold.sub (Hp.le_refl _) trivial hs, ?_⟩
        refine JT.alt rfl ?_ JT.done
        refine JB.op rfl (A.val (v := .string ⟨(toU8 (([IntKind.wrap .u8 (Int.tmod xa 256)] : List Int))).toArray⟩) rfl (V.b2sR 0 rfl Tryz.underlying105 Tryz.underlying5 Tryz.underlying9 rfl)) ?_
        rintro _ _ _ ⟨rfl, rfl, rfl⟩
        refine ⟨fun w hs => Hold.sub (Hp.le_refl _) trivial hs, ?_⟩
        refine JT.leaf rfl ?_
        obtain ⟨z231, hz232, ho184⟩ := ob ho184
        refine qv (.string ⟨z231.toArray⟩) (V.cat rfl rfl hz232) <| qa (.string ⟨z231.toArray⟩) rfl <| JQ.nil <| J.dropAt 0 rfl <| J.nil ?_
        obtain rfl := si ho184
        exact ⟨rfl, ⟨z231, rfl, ⟨rfl, trivial⟩, rfl, rfl⟩⟩
      refine JT.alt rfl ?_ JT.done
      refine JB.op rfl (A.val (v := .string ⟨(toU8 (([IntKind.wrap .u8 (Int.tmod xa 256)] : List Int))).toArray⟩) rfl (V.b2sR 0 rfl Tryz.underlying105 Tryz.underlying5 Tryz.underlying9 rfl)) ?_
      rintro _ _ _ ⟨rfl, rfl, rfl⟩
      refine ⟨fun w hs => Hold.sub (Hp.le_refl _) trivial hs, ?_⟩
      refine JT.alt rfl ?_ JT.done
      refine JB.op rfl (A.call (L1 := []) Tryz.call109 rfl (ih hr214) rfl rfl) ?_
      rintro _ _ _ ⟨v234, _, rfl, ⟨⟨s212, rfl, rfl, rfl⟩, rfl⟩, _, rfl⟩
      refine ⟨fun w hs => Hold.sub (Hp.le_refl _) trivial hs, ?_⟩
      refine JT.leaf rfl ?_
      obtain ⟨z237, hz238, ho184⟩ := ob ho184
      refine qv (.string ⟨z237.toArray⟩) (V.cat rfl rfl hz238) <| qa (.string ⟨z237.toArray⟩) rfl <| JQ.nil <| J.dropAt 0 rfl <| J.nil ?_
      obtain rfl := si ho184
      exact ⟨rfl, ⟨z237, rfl, ⟨rfl, trivial⟩, rfl, rfl⟩⟩
    rintro ρ _ _ ⟨s182, rfl, hf239, rfl, rfl⟩
    obtain ⟨ρ, rfl⟩ := hf239.ex
    refine PJ.done <| CJ.ret ?_
    obtain rfl := si h
    exact ⟨_, _, Res.one rfl rfl, ⟨s182, rfl, rfl, rfl⟩, (Hp.le_refl _), fun w hs => hs⟩
set_option maxRecDepth 100000 in
set_option maxHeartbeats 4000000 in
theorem ref02_digits_ok {K : Hp} {xa : Int}   {r : List UInt8} (h : fn_ref02_digits xa = some r) :
    Tr Tryz.prog 109 #[ii xa] K [] (fun v K' L' => (∃ (s123 : List UInt8), s123 = r ∧ .string ⟨s123.toArray⟩ = v ∧ L' = []) ∧ K = K') := by
  obtain ⟨n, hn⟩ := lev_some h
  exact ref02_digits_okr n  hn

noncomputable def fn_ref02_Put (xa : Int) : Option (List UInt8) :=
  cond ((decide (xa < 0)) || (decide (4294967295 < xa))) (some (([] : List UInt8))) (cond (decide (xa < 248)) (some (toU8 ([IntKind.wrap .u8 xa] : List Int))) ((fn_ref02_digits xa).bind fun s31 => (app (toU8 (([IntKind.wrap .u8 (IntKind.wrap .i64 (247 + (((s31.length : Nat) : Int))))] : List Int))) s31).bind fun z38 => some (z38)))
set_option maxRecDepth 100000 in
set_option maxHeartbeats 4000000 in
theorem ref02_Put_ok {K : Hp} {xa : Int}   {r : List UInt8} (h : fn_ref02_Put xa = some r) :
    Tr Tryz.prog 92 #[ii xa] K [] (fun v K' L' => (∃ (s20 : List UInt8), s20 = r ∧ .string ⟨s20.toArray⟩ = v ∧ L' = []) ∧ K = K') := by
 refine Tr.k <| Tr.of Tryz.func92 rfl Tryz.ntmps92 rfl fun E F => ?_
 unfold fn_ref02_Put at h
 refine CJ.seq <| CJ.region <| ja (.string ⟨([] : List UInt8).toArray⟩) rfl <| J.nil <| CJ.seq <| CJ.seq <| CJ.region ?_
 refine jm (ii xa) rfl <| jv (.bool (decide (xa < 0))) (V.lss rfl rfl) <| jm (.bool (decide (xa < 0))) rfl <| J.cut 3 <| jmeet [(9, .bool ((decide (xa < 0)) || (decide (4294967295 < xa)))), (0, ii xa)] ?_ ?_
 · rcases bt (decide (xa < 0)) with hc23 | hc23
   · refine J.skip rfl rfl rfl rfl hc23 <| J.skip rfl rfl rfl rfl hc23 <| jv (.bool true) (V.pickT rfl hc23 rfl) <| J.nil ?_
     exact ⟨rfl, ⟨(by simp only [hc23]; rfl), rfl, trivial⟩, rfl, rfl⟩
   refine J.run rfl rfl rfl hc23 <| jm (ii xa) rfl <| J.run rfl rfl rfl hc23 <| jv (.bool (decide (4294967295 < xa))) (V.gtr rfl rfl) <| jv (.bool (decide (4294967295 < xa))) (V.pickF rfl hc23 rfl) <| J.nil ?_
   exact ⟨rfl, ⟨(by simp only [hc23]; rfl), rfl, trivial⟩, rfl, rfl⟩
 intro ρ
 refine J.nil <| cc rfl h (fun hc24 h => ?_) fun hc24 h => ?_
 · refine CJ.seq <| CJ.region <| ja (.string ⟨([] : List UInt8).toArray⟩) rfl <| J.nil <| CJ.ret ?_
   obtain rfl := si h
   exact ⟨_, _, Res.one rfl rfl, ⟨([] : List UInt8), rfl, rfl, rfl⟩, (Hp.le_refl _), fun w hs => hs⟩
 refine CJ.skip <| CJ.seq <| CJ.seq <| CJ.region <| jm (ii xa) rfl <| jv (.bool (decide (xa < 248))) (V.lss rfl rfl) <| J.nil ?_
 refine cc rfl h (fun hc25 h => ?_) fun hc25 h => ?_
 · refine CJ.seq <| CJ.region <| jm (ii xa) rfl <| jv (.int .u8 (IntKind.wrap .u8 xa)) (V.conv Tryz.underlying3 Tryz.underlying5 rfl) ?_
   refine J.op rfl (A.lit (K0 := Hp.nil) (ty := (.int .u8)) (xs := ([IntKind.wrap .u8 xa] : List Int)) Tryz.underlying105 inf5 rfl (by decide) rfl rfl rfl ⟨_, _, rfl, rfl, rfl⟩ rfl (by decide)) ?_
   rintro _ _ _ ⟨b26, rfl, rfl, rfl⟩
   have hn27 : ([IntKind.wrap .u8 xa] : List Int) ≠ [] → ∃ g, (some ⟨b26, 0, none⟩ : Option Addr) = some ⟨g, 0, none⟩ := fun _ => ⟨b26, rfl⟩
   refine jv (.string ⟨(toU8 ([IntKind.wrap .u8 xa] : List Int)).toArray⟩) (V.b2sR 0 rfl Tryz.underlying105 Tryz.underlying5 Tryz.underlying9 rfl) <| ja (.string ⟨(toU8 ([IntKind.wrap .u8 xa] : List Int)).toArray⟩) rfl <| J.nil <| CJ.ret ?_
   obtain rfl := si h
   exact ⟨_, _, Res.one rfl rfl, ⟨toU8 ([IntKind.wrap .u8 xa] : List Int), rfl, rfl, rfl⟩, (Hp.le_refl _), fun w hs => (Sep.dropAt 0 rfl hs)⟩
 refine CJ.skip <| CJ.seq <| CJ.region <| jm (ii xa) rfl ?_
 obtain ⟨r29, hr30, h⟩ := ob h
 refine J.op rfl (A.call (L1 := []) Tryz.call109 rfl (ref02_digits_ok hr30) rfl rfl) ?_
 rintro _ _ _ ⟨v32, _, rfl, ⟨⟨s31, rfl, rfl, rfl⟩, rfl⟩, _, rfl⟩
 refine ja (.string ⟨s31.toArray⟩) rfl <| J.nil <| CJ.seq <| CJ.region <| jm (.string ⟨s31.toArray⟩) rfl <| jv (ii (((s31.length : Nat) : Int))) (V.lens Tryz.underlying9 rfl) <| jv (ii (IntKind.wrap .i64 (247 + (((s31.length : Nat) : Int))))) (V.add rfl rfl) ?_
 refine jv (.int .u8 (IntKind.wrap .u8 (IntKind.wrap .i64 (247 + (((s31.length : Nat) : Int)))))) (V.conv Tryz.underlying3 Tryz.underlying5 rfl) ?_
 refine J.op rfl (A.lit (K0 := Hp.nil) (ty := (.int .u8)) (xs := ([IntKind.wrap .u8 (IntKind.wrap .i64 (247 + (((s31.length : Nat) : Int))))] : List Int)) Tryz.underlying105 inf5 rfl (by decide) rfl rfl rfl ⟨_, _, rfl, rfl, rfl⟩ rfl (by decide)) ?_
 rintro _ _ _ ⟨b35, rfl, rfl, rfl⟩
 have hn36 : ([IntKind.wrap .u8 (IntKind.wrap .i64 (247 + (((s31.length : Nat) : Int))))] : List Int) ≠ [] → ∃ g, (some ⟨b35, 0, none⟩ : Option Addr) = some ⟨g, 0, none⟩ := fun _ => ⟨b35, rfl⟩
 refine jv (.string ⟨(toU8 (([IntKind.wrap .u8 (IntKind.wrap .i64 (247 + (((s31.length : Nat) : Int))))] : List Int))).toArray⟩) (V.b2sR 0 rfl Tryz.underlying105 Tryz.underlying5 Tryz.underlying9 rfl) <| jm (.string ⟨s31.toArray⟩) rfl ?_
 obtain ⟨z38, hz39, h⟩ := ob h
 refine jv (.string ⟨z38.toArray⟩) (V.cat rfl rfl hz39) <| ja (.string ⟨z38.toArray⟩) rfl <| J.nil <| CJ.ret ?_
 obtain rfl := si h
 exact ⟨_, _, Res.one rfl rfl, ⟨z38, rfl, rfl, rfl⟩, (Hp.le_refl _), fun w hs => (Sep.dropAt 0 rfl hs)⟩
noncomputable def fn_ref02_Take_l1 (xa : (List UInt8)) (x93 : UInt8) : (Int × Int) → Option ((Int × Int) ⊕ Int) := fun ((i140, i141) : (Int × Int)) => cond (decide (i141 ≤ (IntKind.wrap .i64 ((IntKind.wrap .i64 (((x93.toNat : Nat) : Int))) - 247)))) ((getI xa i141).bind fun x155 => some (.inl ((IntKind.wrap .i64 ((IntKind.wrap .i64 (i140 * 256)) + (IntKind.wrap .i64 (((x155.toNat : Nat) : Int)))), IntKind.wrap .i64 (i141 + 1))))) (some (.inr (i140)))
noncomputable def fn_ref02_Take (xa : (List UInt8)) : Option (Int × Int × Int) :=
  cond (decide (xa = ([] : List UInt8))) (some ((0, 0, 4))) ((getI xa 0).bind fun x93 => cond (decide ((IntKind.wrap .i64 (((x93.toNat : Nat) : Int))) < 248)) (some ((IntKind.wrap .i64 (((x93.toNat : Nat) : Int)), 1, 0))) (cond (decide (251 < (IntKind.wrap .i64 (((x93.toNat : Nat) : Int))))) (some ((0, 0, 3))) (cond (decide ((((xa.length : Nat) : Int)) < (IntKind.wrap .i64 (1 + (IntKind.wrap .i64 ((IntKind.wrap .i64 (((x93.toNat : Nat) : Int))) - 247)))))) (some ((0, 0, 4))) ((loop (fn_ref02_Take_l1 xa x93) (0, 1) : Option Int).bind fun i129 => (subL xa 0 (IntKind.wrap .i64 (1 + (IntKind.wrap .i64 ((IntKind.wrap .i64 (((x93.toNat : Nat) : Int))) - 247))))).bind fun y170 => (fn_ref02_Put i129).bind fun s174 => cond (!decide (s174 = y170)) (some ((0, 0, 3))) (some ((i129, IntKind.wrap .i64 (1 + (IntKind.wrap .i64 ((IntKind.wrap .i64 (((x93.toNat : Nat) : Int))) - 247))), 0)))))))
set_option maxRecDepth 100000 in
set_option maxHeartbeats 4000000 in
theorem ref02_Take_ok {K : Hp} {xa : (List UInt8)}   {r : (Int × Int × Int)} (h : fn_ref02_Take xa = some r) :
    Tr Tryz.prog 79 #[.string ⟨xa.toArray⟩] K [] (fun v K' L' => (∃ (i89 : Int) (i90 : Int) (i91 : Int), (i89, i90, i91) = r ∧ .tuple #[ii i89, ii i90, ii i91] = v ∧ L' = []) ∧ K = K') := by
 refine Tr.k <| Tr.of Tryz.func79 rfl Tryz.ntmps79 rfl fun E F => ?_
 unfold fn_ref02_Take at h
 refine CJ.seq <| CJ.region <| ja (ii 0) rfl <| ja (ii 0) rfl <| ja (ii 0) rfl <| J.nil <| CJ.seq ?_
 refine CJ.seq <| CJ.region <| jm (.string ⟨xa.toArray⟩) rfl <| jv (.bool (decide (xa = ([] : List UInt8)))) (V.eqs rfl rfl) <| J.nil <| cc rfl h (fun hc92 h => ?_) fun hc92 h => ?_
 · refine CJ.seq <| CJ.region <| ja (ii 0) rfl <| ja (ii 0) rfl <| ja (ii 4) rfl <| J.nil <| CJ.ret ?_
   obtain rfl := si h
   exact ⟨_, _, Res.three rfl rfl rfl rfl, ⟨0, 0, 4, rfl, rfl, rfl⟩, (Hp.le_refl _), fun w hs => hs⟩
 refine CJ.skip <| CJ.seq <| CJ.region <| jm (.string ⟨xa.toArray⟩) rfl ?_
 obtain ⟨x93, hx94, h⟩ := ob h
 obtain ⟨p95, p96, p97⟩ := getI_some hx94
 refine jv (.int .u8 (((x93.toNat : Nat) : Int))) (V.ixs Tryz.underlying9 rfl rfl p95 p96) <| jv (ii (IntKind.wrap .i64 (((x93.toNat : Nat) : Int)))) (V.conv Tryz.underlying5 Tryz.underlying3 rfl) <| ja (ii (IntKind.wrap .i64 (((x93.toNat : Nat) : Int)))) rfl <| J.nil <| CJ.seq <| CJ.seq <| CJ.region ?_
 refine jm (ii (IntKind.wrap .i64 (((x93.toNat : Nat) : Int)))) rfl <| jv (.bool (decide ((IntKind.wrap .i64 (((x93.toNat : Nat) : Int))) < 248))) (V.lss rfl rfl) <| J.nil <| cc rfl h (fun hc98 h => ?_) fun hc98 h => ?_
 · refine CJ.seq <| CJ.region <| jm (ii (IntKind.wrap .i64 (((x93.toNat : Nat) : Int)))) rfl <| ja (ii (IntKind.wrap .i64 (((x93.toNat : Nat) : Int)))) rfl <| ja (ii 1) rfl <| ja (ii 0) rfl <| J.nil ?_
   refine CJ.ret ?_
   obtain rfl := si h
   exact ⟨_, _, Res.three rfl rfl rfl rfl, ⟨IntKind.wrap .i64 (((x93.toNat : Nat) : Int)), 1, 0, rfl, rfl, rfl⟩, (Hp.le_refl _), fun w hs => hs⟩
 refine CJ.skip <| CJ.seq <| CJ.seq <| CJ.region <| jm (ii (IntKind.wrap .i64 (((x93.toNat : Nat) : Int)))) rfl <| jv (.bool (decide (251 < (IntKind.wrap .i64 (((x93.toNat : Nat) : Int)))))) (V.gtr rfl rfl) <| J.nil ?_
 refine cc rfl h (fun hc99 h => ?_) fun hc99 h => ?_
 · refine CJ.seq <| CJ.region <| ja (ii 0) rfl <| ja (ii 0) rfl <| ja (ii 3) rfl <| J.nil <| CJ.ret ?_
   obtain rfl := si h
   exact ⟨_, _, Res.three rfl rfl rfl rfl, ⟨0, 0, 3, rfl, rfl, rfl⟩, (Hp.le_refl _), fun w hs => hs⟩
 refine CJ.skip <| CJ.seq <| CJ.region <| jm (ii (IntKind.wrap .i64 (((x93.toNat : Nat) : Int)))) rfl <| jv (ii (IntKind.wrap .i64 ((IntKind.wrap .i64 (((x93.toNat : Nat) : Int))) - 247))) (V.sub rfl rfl) <| ja (ii (IntKind.wrap .i64 ((IntKind.wrap .i64 (((x93.toNat : Nat) : Int))) - 247))) rfl <| J.nil ?_
 refine CJ.seq <| CJ.seq <| CJ.region <| jm (.string ⟨xa.toArray⟩) rfl <| jv (ii (((xa.length : Nat) : Int))) (V.lens Tryz.underlying9 rfl) <| jm (ii (IntKind.wrap .i64 ((IntKind.wrap .i64 (((x93.toNat : Nat) : Int))) - 247))) rfl <| jv (ii (IntKind.wrap .i64 (1 + (IntKind.wrap .i64 ((IntKind.wrap .i64 (((x93.toNat : Nat) : Int))) - 247))))) (V.add rfl rfl) ?_
 refine jv (.bool (decide ((((xa.length : Nat) : Int)) < (IntKind.wrap .i64 (1 + (IntKind.wrap .i64 ((IntKind.wrap .i64 (((x93.toNat : Nat) : Int))) - 247))))))) (V.lss rfl rfl) <| J.nil <| cc rfl h (fun hc100 h => ?_) fun hc100 h => ?_
 · refine CJ.seq <| CJ.region <| ja (ii 0) rfl <| ja (ii 0) rfl <| ja (ii 4) rfl <| J.nil <| CJ.ret ?_
   obtain rfl := si h
   exact ⟨_, _, Res.three rfl rfl rfl rfl, ⟨0, 0, 4, rfl, rfl, rfl⟩, (Hp.le_refl _), fun w hs => hs⟩
 refine CJ.skip <| CJ.seq <| CJ.region <| ja (ii 0) rfl <| J.nil <| CJ.seq <| CJ.seq ?_
 refine CJ.region <| ja (ii 1) rfl <| J.nil ?_
 obtain ⟨o130, ho131, h⟩ := ob h
 refine CJ.meetN (fun ρ K' L' => ∃ (i129 : Int), i129 = o130 ∧ Fits [(0, .string ⟨xa.toArray⟩), (6, ii (IntKind.wrap .i64 ((IntKind.wrap .i64 (((x93.toNat : Nat) : Int))) - 247))), (7, ii i129)] ρ ∧ K = K' ∧ F = L') ?_ ?_
 · refine CJ.block <| CJ.loop (fun s ρ K' L' => ∃ (i140 : Int) (i141 : Int), (i140, i141) = s ∧ Fits [(0, .string ⟨xa.toArray⟩), (6, ii (IntKind.wrap .i64 ((IntKind.wrap .i64 (((x93.toNat : Nat) : Int))) - 247))), (7, ii i140), (8, ii i141)] ρ ∧ K = K' ∧ F = L') ho131 ⟨0, 1, rfl, ⟨rfl, rfl, rfl, rfl, trivial⟩, rfl, rfl⟩ ?_
   rintro s ρ _ _ r153 ⟨i140, i141, rfl, hf151, rfl, rfl⟩ h150
   obtain ⟨ρ, rfl⟩ := hf151.ex
   refine CJ.seq <| CJ.seq <| CJ.region <| jm (ii i141) rfl <| jm (ii (IntKind.wrap .i64 ((IntKind.wrap .i64 (((x93.toNat : Nat) : Int))) - 247))) rfl <| jv (.bool (decide (i141 ≤ (IntKind.wrap .i64 ((IntKind.wrap .i64 (((x93.toNat : Nat) : Int))) - 247))))) (V.leq rfl rfl) <| J.nil ?_
   refine cc rfl h150 (fun hc154 h150 => ?_) fun hc154 h150 => ?_
   · refine CJ.skip <| CJ.seq <| CJ.block <| CJ.region <| jm (ii i140) rfl <| jv (ii (IntKind.wrap .i64 (i140 * 256))) (V.mul rfl rfl) <| jm (.string ⟨xa.toArray⟩) rfl ?_
     refine jm (ii i141) rfl ?_
     obtain ⟨x155, hx156, h150⟩ := ob h150
     obtain ⟨p157, p158, p159⟩ := getI_some hx156
     refine jv (.int .u8 (((x155.toNat : Nat) : Int))) (V.ixs Tryz.underlying9 rfl rfl p157 p158) <| jv (ii (IntKind.wrap .i64 (((x155.toNat : Nat) : Int)))) (V.conv Tryz.underlying5 Tryz.underlying3 rfl) <| jv (ii (IntKind.wrap .i64 ((IntKind.wrap .i64 (i140 * 256)) + (IntKind.wrap .i64 (((x155.toNat : Nat) : Int)))))) (V.add rfl rfl) <| ja (ii (IntKind.wrap .i64 ((IntKind.wrap .i64 (i140 * 256)) + (IntKind.wrap .i64 (((x155.toNat : Nat) : Int)))))) rfl <| J.nil <| CJ.region <| jm (ii i141) rfl ?_
     refine jv (ii (IntKind.wrap .i64 (i141 + 1))) (V.add rfl rfl) <| ja (ii (IntKind.wrap .i64 (i141 + 1))) rfl <| J.nil ?_
     obtain rfl := si h150
     exact ⟨rfl, ⟨IntKind.wrap .i64 ((IntKind.wrap .i64 (i140 * 256)) + (IntKind.wrap .i64 (((x155.toNat : Nat) : Int)))), IntKind.wrap .i64 (i141 + 1), rfl, ⟨rfl, rfl, rfl, rfl, trivial⟩, rfl, rfl⟩⟩
   refine CJ.exit ?_
   obtain rfl := si h150
   refine ⟨nofun, fun e => ?_⟩
   subst e
   exact ⟨rfl, ⟨i140, rfl, ⟨rfl, rfl, rfl, trivial⟩, rfl, rfl⟩⟩
 rintro ρ _ _ ⟨i129, rfl, hf160, rfl, rfl⟩
 obtain ⟨ρ, rfl⟩ := hf160.ex
 refine PJ.done <| CJ.seq <| CJ.seq <| CJ.mix [] [([0, 2, 3, 4, 5], 1)] [6] [] mixO (by decide +kernel) trivial rfl rfl rfl <| JM.cons <| qm (ii i129) rfl <| qm (.string ⟨xa.toArray⟩) rfl ?_
 refine qm (ii (IntKind.wrap .i64 ((IntKind.wrap .i64 (((x93.toNat : Nat) : Int))) - 247))) rfl <| qv (ii (IntKind.wrap .i64 (1 + (IntKind.wrap .i64 ((IntKind.wrap .i64 (((x93.toNat : Nat) : Int))) - 247))))) (V.add rfl rfl) ?_
 obtain ⟨y170, hy171, h⟩ := ob h
 refine qv (.string ⟨y170.toArray⟩) (V.subs Tryz.underlying9 rfl nofun (fun _ => rfl) (fun _ h => by cases h; exact ⟨_, rfl⟩) nofun hy171) <| JQ.nil ?_
 obtain ⟨r172, hr173, h⟩ := ob h
 refine JA.op rfl (A.call (L1 := []) Tryz.call92 rfl (ref02_Put_ok hr173) rfl rfl) ?_
 rintro _ _ _ ⟨v175, _, rfl, ⟨⟨s174, rfl, rfl, rfl⟩, rfl⟩, _, rfl⟩
 refine ⟨fun w hs => Hold.sub (Hp.le_refl _) trivial hs, ?_⟩
 refine JM.nil <| qv (.bool (!decide (s174 = y170))) (V.nes rfl rfl) <| JQ.nil <| J.nil <| cc rfl h (fun hc178 h => ?_) fun hc178 h => ?_
 · refine CJ.seq <| CJ.region <| ja (ii 0) rfl <| ja (ii 0) rfl <| ja (ii 3) rfl <| J.nil <| CJ.ret ?_
   obtain rfl := si h
   exact ⟨_, _, Res.three rfl rfl rfl rfl, ⟨0, 0, 3, rfl, rfl, rfl⟩, (Hp.le_refl _), fun w hs => hs⟩
 refine CJ.skip <| CJ.seq <| CJ.region <| jm (ii i129) rfl <| jm (ii (IntKind.wrap .i64 ((IntKind.wrap .i64 (((x93.toNat : Nat) : Int))) - 247))) rfl <| jv (ii (IntKind.wrap .i64 (1 + (IntKind.wrap .i64 ((IntKind.wrap .i64 (((x93.toNat : Nat) : Int))) - 247))))) (V.add rfl rfl) <| ja (ii i129) rfl ?_
 refine ja (ii (IntKind.wrap .i64 (1 + (IntKind.wrap .i64 ((IntKind.wrap .i64 (((x93.toNat : Nat) : Int))) - 247))))) rfl <| ja (ii 0) rfl <| J.nil <| CJ.ret ?_
 obtain rfl := si h
 exact ⟨_, _, Res.three rfl rfl rfl rfl, ⟨i129, IntKind.wrap .i64 (1 + (IntKind.wrap .i64 ((IntKind.wrap .i64 (((x93.toNat : Nat) : Int))) - 247))), 0, rfl, rfl, rfl⟩, (Hp.le_refl _), fun w hs => hs⟩

noncomputable def fn_ref20_count (xa : (List UInt8)) : Option (Int × List UInt8 × Int) :=
  (fn_ref02_Take xa).bind fun (i20, i21, i22) => cond (!decide (i22 = 0)) (some ((0, xa, i22))) (cond (decide (65536 < i20)) (some ((0, xa, 6))) ((subL xa i21 (((xa.length : Nat) : Int))).bind fun y30 => some ((i20, y30, 0))))
set_option maxRecDepth 100000 in
set_option maxHeartbeats 4000000 in
theorem ref20_count_ok {K : Hp} {xa : (List UInt8)}   {r : (Int × List UInt8 × Int)} (h : fn_ref20_count xa = some r) :
    Tr Tryz.prog 30 #[.string ⟨xa.toArray⟩] K [] (fun v K' L' => (∃ (i15 : Int) (s16 : List UInt8) (i17 : Int), (i15, s16, i17) = r ∧ .tuple #[ii i15, .string ⟨s16.toArray⟩, ii i17] = v ∧ L' = []) ∧ K = K') := by
 refine Tr.k <| Tr.of Tryz.func30 rfl Tryz.ntmps30 rfl fun E F => ?_
 unfold fn_ref20_count at h
 refine CJ.seq <| CJ.region <| ja (ii 0) rfl <| ja (.string ⟨([] : List UInt8).toArray⟩) rfl <| ja (ii 0) rfl <| J.nil <| CJ.seq ?_
 refine CJ.region <| jm (.string ⟨xa.toArray⟩) rfl ?_
 obtain ⟨r18, hr19, h⟩ := ob h
 refine J.op rfl (A.call (L1 := []) Tryz.call79 rfl (ref02_Take_ok hr19) rfl rfl) ?_
 rintro _ _ _ ⟨v23, _, rfl, ⟨⟨i20, i21, i22, rfl, rfl, rfl⟩, rfl⟩, _, rfl⟩
 refine jm (.tuple #[ii i20, ii i21, ii i22]) rfl <| jx (ii i20) rfl rfl <| jx (ii i21) rfl rfl <| jx (ii i22) rfl rfl <| ja (ii i20) rfl <| ja (ii i21) rfl <| ja (ii i22) rfl ?_
 refine J.nil <| CJ.seq <| CJ.seq <| CJ.region <| jm (ii i22) rfl <| jv (.bool (!decide (i22 = 0))) (V.neq rfl rfl) <| J.nil ?_
 refine cc rfl h (fun hc26 h => ?_) fun hc26 h => ?_
 · refine CJ.seq <| CJ.region <| jm (.string ⟨xa.toArray⟩) rfl <| jm (ii i22) rfl <| ja (ii 0) rfl <| ja (.string ⟨xa.toArray⟩) rfl <| ja (ii i22) rfl ?_
   refine J.nil <| CJ.ret ?_
   obtain rfl := si h
   exact ⟨_, _, Res.three rfl rfl rfl rfl, ⟨0, xa, i22, rfl, rfl, rfl⟩, (Hp.le_refl _), fun w hs => hs⟩
 refine CJ.skip <| CJ.seq <| CJ.seq <| CJ.region <| jm (ii i20) rfl <| jv (.bool (decide (65536 < i20))) (V.gtr rfl rfl) <| J.nil ?_
 refine cc rfl h (fun hc27 h => ?_) fun hc27 h => ?_
 · refine CJ.seq <| CJ.region <| jm (.string ⟨xa.toArray⟩) rfl <| ja (ii 0) rfl <| ja (.string ⟨xa.toArray⟩) rfl <| ja (ii 6) rfl <| J.nil ?_
   refine CJ.ret ?_
   obtain rfl := si h
   exact ⟨_, _, Res.three rfl rfl rfl rfl, ⟨0, xa, 6, rfl, rfl, rfl⟩, (Hp.le_refl _), fun w hs => hs⟩
 refine CJ.skip <| CJ.seq <| CJ.mix [] [] [0, 1, 2, 3, 4, 5, 6] [] mixO (by decide +kernel) trivial rfl rfl rfl <| JM.nil <| qm (ii i20) rfl <| qm (.string ⟨xa.toArray⟩) rfl <| qm (ii i21) rfl ?_
 obtain ⟨y30, hy31, h⟩ := ob h
 refine qv (.string ⟨y30.toArray⟩) (V.subs Tryz.underlying9 rfl (fun _ h => by cases h; exact ⟨_, rfl⟩) nofun nofun (fun _ => rfl) hy31) <| qa (ii i20) rfl <| qa (.string ⟨y30.toArray⟩) rfl <| qa (ii 0) rfl <| JQ.nil <| J.nil <| CJ.ret ?_
 obtain rfl := si h
 exact ⟨_, _, Res.three rfl rfl rfl rfl, ⟨i20, y30, 0, rfl, rfl, rfl⟩, (Hp.le_refl _), fun w hs => hs⟩
noncomputable def fn_ref17_TakeBounds_l1 (xa : (List UInt8)) (i277 : Int) : (Int × (List (Int × Int)) × Int) → Option ((Int × (List (Int × Int)) × Int) ⊕ ((Int × (List (Int × Int))) ⊕ ((List (Int × Int)) × Int × Int))) := fun ((i458, l459, i464) : (Int × (List (Int × Int)) × Int)) => cond (decide (i464 < i277)) ((subL xa i458 (((xa.length : Nat) : Int))).bind fun y509 => (fn_ref02_Take y509).bind fun (i513, i514, i515) => cond (!decide (i515 = 0)) (some (.inr ((.inr (([], 0, i515)))))) ((subL xa (IntKind.wrap .i64 (i458 + i514)) (((xa.length : Nat) : Int))).bind fun y521 => (fn_ref02_Take y521).bind fun (i525, i526, i527) => cond (!decide (i527 = 0)) (some (.inr ((.inr (([], 0, i527)))))) ((app l459 (([(i513, i525)] : List (Int × Int)))).bind fun z536 => some (.inl ((IntKind.wrap .i64 ((IntKind.wrap .i64 (i458 + i514)) + i526), z536, IntKind.wrap .i64 (i464 + 1))))))) (some (.inr ((.inl (i458, l459)))))
noncomputable def fn_ref17_TakeBounds (xa : (List UInt8)) (xb : Int) : Option (((List (Int × Int)) × Int × Int)) :=
  (fn_ref02_Take xa).bind fun (i277, i278, i279) => cond (!decide (i279 = 0)) (some (([], 0, i279))) (cond (decide (xb < i277)) (some (([], 0, 6))) ((loop (fn_ref17_TakeBounds_l1 xa i277) ((i278, ([] : List (Int × Int)), 0)) : Option ((Int × (List (Int × Int))) ⊕ ((List (Int × Int)) × Int × Int))).bind fun o => match o with | .inr r => some r | .inl (i411, l412) => some ((l412, i411, 0))))
set_option maxRecDepth 100000 in
set_option maxHeartbeats 4000000 in
theorem ref17_TakeBounds_ok {K : Hp} {xa : (List UInt8)} {xb : Int}   {r : ((List (Int × Int)) × Int × Int)} (h : fn_ref17_TakeBounds xa xb = some r) :
    Tr Tryz.prog 31 #[.string ⟨xa.toArray⟩, ii xb] K [] (fun v K' L' => (∃ (l268 : (List (Int × Int))) (i273 : Int) (i274 : Int) (ad269 : Option Addr) (cp270 : Nat), (l268, i273, i274) = r ∧ .tuple #[.slice ad269 l268.length cp270, ii i273, ii i274] = v ∧ L' = [Row Hp.nil 95 (.cons (.int .i64) (.one (.int .i64))) (.slice ad269 l268.length cp270) l268]) ∧ K = K') := by
 refine Tr.k <| Tr.of Tryz.func31 rfl Tryz.ntmps31 rfl fun E F => ?_
 unfold fn_ref17_TakeBounds at h
 refine CJ.seq <| CJ.region <| ja (.slice none 0 0) rfl <| ja (ii 0) rfl <| ja (ii 0) rfl <| J.nil <| CJ.seq ?_
 refine CJ.region <| jm (.string ⟨xa.toArray⟩) rfl ?_
 obtain ⟨r275, hr276, h⟩ := ob h
 refine J.op rfl (A.call (L1 := []) Tryz.call79 rfl (ref02_Take_ok hr276) rfl rfl) ?_
 rintro _ _ _ ⟨v280, _, rfl, ⟨⟨i277, i278, i279, rfl, rfl, rfl⟩, rfl⟩, _, rfl⟩
 refine jm (.tuple #[ii i277, ii i278, ii i279]) rfl <| jx (ii i277) rfl rfl <| jx (ii i278) rfl rfl <| jx (ii i279) rfl rfl <| ja (ii i277) rfl <| ja (ii i278) rfl <| ja (ii i279) rfl ?_
 refine J.nil <| CJ.seq <| CJ.seq <| CJ.region <| jm (ii i279) rfl <| jv (.bool (!decide (i279 = 0))) (V.neq rfl rfl) <| J.nil ?_
 refine cc rfl h (fun hc283 h => ?_) fun hc283 h => ?_
 · refine CJ.seq <| CJ.region <| jm (ii i279) rfl <| ja (.slice none 0 0) rfl <| ja (ii 0) rfl <| ja (ii i279) rfl <| J.nil ?_
   refine CJ.by (fun w hs => Sep.rowNil (e := 95) (t := (.cons (.int .i64) (.one (.int .i64)))) hs) <| CJ.ret ?_
   obtain rfl := si h
   exact ⟨_, _, Res.three rfl rfl rfl rfl, ⟨[], 0, i279, none, 0, rfl, rfl, rfl⟩, (Hp.le_refl _), fun w hs => hs⟩
 refine CJ.skip <| CJ.seq <| CJ.seq <| CJ.region <| jm (ii i277) rfl <| jm (ii xb) rfl <| jv (.bool (decide (xb < i277))) (V.gtr rfl rfl) ?_
 refine J.nil <| cc rfl h (fun hc285 h => ?_) fun hc285 h => ?_
 · refine CJ.seq <| CJ.region <| ja (.slice none 0 0) rfl <| ja (ii 0) rfl <| ja (ii 6) rfl <| J.nil <| CJ.by (fun w hs => Sep.rowNil (e := 95) (t := (.cons (.int .i64) (.one (.int .i64)))) hs) ?_
   refine CJ.ret ?_
   obtain rfl := si h
   exact ⟨_, _, Res.three rfl rfl rfl rfl, ⟨[], 0, 6, none, 0, rfl, rfl, rfl⟩, (Hp.le_refl _), fun w hs => hs⟩
 refine CJ.skip <| CJ.seq <| CJ.region ?_
 refine J.op rfl (A.lit (K0 := Hp.nil) (ty := (.cons (.int .i64) (.one (.int .i64)))) (xs := ([] : List (Int × Int))) Tryz.underlying26 inf95 rfl (by decide) rfl rfl rfl rfl rfl (by decide)) ?_
 rintro _ _ _ ⟨b287, rfl, rfl, rfl⟩
 have hn288 : ([] : List (Int × Int)) ≠ [] → ∃ g, (some ⟨b287, 0, none⟩ : Option Addr) = some ⟨g, 0, none⟩ := fun _ => ⟨b287, rfl⟩
 refine ja (.slice (some ⟨b287, 0, none⟩) ((([] : List (Int × Int))).length) 0) rfl <| J.nil <| CJ.seq <| CJ.seq <| CJ.region <| ja (ii 0) rfl <| J.nil ?_
 obtain ⟨o417, ho418, h⟩ := ob h
 refine CJ.joinN (o := o417) (fun s ρ K' L' => ∃ (i411 : Int) (l412 : (List (Int × Int))) (ad413 : Option Addr) (cp414 : Nat), (i411, l412) = s ∧ Fits [(8, ii i411), (10, .slice ad413 l412.length cp414)] ρ ∧ K = K' ∧ L' = Row Hp.nil 95 (.cons (.int .i64) (.one (.int .i64))) (.slice ad413 l412.length cp414) l412 :: F) ?_ ?_
 · refine CJ.block <| CJ.loop (fun s ρ K' L' => ∃ (i458 : Int) (l459 : (List (Int × Int))) (i464 : Int) (ad460 : Option Addr) (cp461 : Nat), (i458, l459, i464) = s ∧ Fits [(0, .string ⟨xa.toArray⟩), (7, ii i277), (8, ii i458), (10, .slice ad460 l459.length cp461), (11, ii i464)] ρ ∧ K = K' ∧ L' = Row Hp.nil 95 (.cons (.int .i64) (.one (.int .i64))) (.slice ad460 l459.length cp461) l459 :: F) ho418 ⟨i278, ([] : List (Int × Int)), 0, (some ⟨b287, 0, none⟩), 0, rfl, ⟨rfl, rfl, rfl, rfl, rfl, trivial⟩, rfl, rfl⟩ ?_
   rintro s ρ _ _ r507 ⟨i458, l459, i464, ad460, cp461, rfl, hf505, rfl, rfl⟩ h504
   obtain ⟨ρ, rfl⟩ := hf505.ex
   refine CJ.wit Row.hn fun hn463 => CJ.seq <| CJ.seq <| CJ.region <| jm (ii i464) rfl <| jm (ii i277) rfl <| jv (.bool (decide (i464 < i277))) (V.lss rfl rfl) ?_
   refine J.nil <| cc rfl h504 (fun hc508 h504 => ?_) fun hc508 h504 => ?_
   · refine CJ.skip <| CJ.seq <| CJ.block <| CJ.seq <| CJ.region <| jm (.string ⟨xa.toArray⟩) rfl <| jm (ii i458) rfl ?_
     obtain ⟨y509, hy510, h504⟩ := ob h504
     refine jv (.string ⟨y509.toArray⟩) (V.subs Tryz.underlying9 rfl (fun _ h => by cases h; exact ⟨_, rfl⟩) nofun nofun (fun _ => rfl) hy510) ?_
     obtain ⟨r511, hr512, h504⟩ := ob h504
     refine J.op rfl (A.call (L1 := []) Tryz.call79 rfl (ref02_Take_ok hr512) rfl rfl) ?_
     rintro _ _ _ ⟨v516, _, rfl, ⟨⟨i513, i514, i515, rfl, rfl, rfl⟩, rfl⟩, _, rfl⟩
     refine jm (.tuple #[ii i513, ii i514, ii i515]) rfl <| jx (ii i513) rfl rfl <| jx (ii i514) rfl rfl <| jx (ii i515) rfl rfl <| ja (ii i513) rfl <| ja (ii i514) rfl <| ja (ii i515) rfl ?_
     refine J.nil <| CJ.seq <| CJ.seq <| CJ.region <| jm (ii i515) rfl <| jv (.bool (!decide (i515 = 0))) (V.neq rfl rfl) <| J.nil ?_
     refine cc rfl h504 (fun hc519 h504 => ?_) fun hc519 h504 => ?_
     · refine CJ.seq <| CJ.region <| jm (ii i515) rfl <| ja (.slice none 0 0) rfl <| ja (ii 0) rfl <| ja (ii i515) rfl <| J.nil ?_
       refine CJ.by (fun w hs => Sep.rowNil (e := 95) (t := (.cons (.int .i64) (.one (.int .i64)))) hs) <| CJ.ret ?_
       obtain rfl := si h504
       refine ⟨nofun, fun e => ?_⟩
       subst e
       refine .inr ⟨nofun, ?_⟩
       obtain rfl := si h
       exact ⟨_, _, Res.three rfl rfl rfl rfl, ⟨[], 0, i515, none, 0, rfl, rfl, rfl⟩, (Hp.le_refl _), fun w hs => (Sep.dropAt 1 rfl hs)⟩
     refine CJ.skip <| CJ.seq <| CJ.region <| jm (.string ⟨xa.toArray⟩) rfl <| jm (ii i458) rfl <| jm (ii i514) rfl <| jv (ii (IntKind.wrap .i64 (i458 + i514))) (V.add rfl rfl) ?_
     obtain ⟨y521, hy522, h504⟩ := ob h504
     refine jv (.string ⟨y521.toArray⟩) (V.subs Tryz.underlying9 rfl (fun _ h => by cases h; exact ⟨_, rfl⟩) nofun nofun (fun _ => rfl) hy522) ?_
     obtain ⟨r523, hr524, h504⟩ := ob h504
     refine J.op rfl (A.call (L1 := []) Tryz.call79 rfl (ref02_Take_ok hr524) rfl rfl) ?_
     rintro _ _ _ ⟨v528, _, rfl, ⟨⟨i525, i526, i527, rfl, rfl, rfl⟩, rfl⟩, _, rfl⟩
     refine jm (.tuple #[ii i525, ii i526, ii i527]) rfl <| jx (ii i525) rfl rfl <| jx (ii i526) rfl rfl <| jx (ii i527) rfl rfl <| ja (ii i525) rfl <| ja (ii i526) rfl <| ja (ii i527) rfl ?_
     refine J.nil <| CJ.seq <| CJ.seq <| CJ.region <| jm (ii i527) rfl <| jv (.bool (!decide (i527 = 0))) (V.neq rfl rfl) <| J.nil ?_
     refine cc rfl h504 (fun hc531 h504 => ?_) fun hc531 h504 => ?_
     · refine CJ.seq <| CJ.region <| jm (ii i527) rfl <| ja (.slice none 0 0) rfl <| ja (ii 0) rfl <| ja (ii i527) rfl <| J.nil ?_
       refine CJ.by (fun w hs => Sep.rowNil (e := 95) (t := (.cons (.int .i64) (.one (.int .i64)))) hs) <| CJ.ret ?_
       obtain rfl := si h504
       refine ⟨nofun, fun e => ?_⟩
       subst e
       refine .inr ⟨nofun, ?_⟩
       obtain rfl := si h
       exact ⟨_, _, Res.three rfl rfl rfl rfl, ⟨[], 0, i527, none, 0, rfl, rfl, rfl⟩, (Hp.le_refl _), fun w hs => (Sep.dropAt 1 rfl hs)⟩
     refine CJ.skip <| CJ.seq <| CJ.region <| jm (.slice ad460 l459.length cp461) rfl <| jm (ii i513) rfl <| jm (ii i525) rfl <| jv (.agg #[ii i513, ii i525]) (V.build inf95 places95 rfl rfl) ?_
     refine J.op rfl (A.lit (K0 := Hp.nil) (ty := (.cons (.int .i64) (.one (.int .i64)))) (xs := ([(i513, i525)] : List (Int × Int))) Tryz.underlying26 inf95 rfl (by decide) rfl rfl rfl ⟨_, _, rfl, ⟨_, _, rfl, rfl, rfl, rfl⟩, rfl⟩ rfl (by decide)) ?_
     rintro _ _ _ ⟨b533, rfl, rfl, rfl⟩
     have hn534 : ([(i513, i525)] : List (Int × Int)) ≠ [] → ∃ g, (some ⟨b533, 0, none⟩ : Option Addr) = some ⟨g, 0, none⟩ := fun _ => ⟨b533, rfl⟩
     obtain ⟨z536, hz537, h504⟩ := ob h504
     refine J.front 1 rfl <| J.op rfl (A.appR (Kr := Hp.nil) Tryz.underlying26 inf95 rfl rfl (by decide) (by decide) rfl rfl (Els.flat rfl) (Els.flat rfl) hz537) ?_
     rintro _ _ _ ⟨v538, rfl, rfl, rfl⟩
     refine J.wit Row.form ?_
     rintro ⟨ad539, cp540, rfl, _, _, hn541⟩
     refine ja (.slice ad539 z536.length cp540) rfl <| J.nil <| CJ.region <| jm (ii i458) rfl <| jm (ii i514) rfl <| jv (ii (IntKind.wrap .i64 (i458 + i514))) (V.add rfl rfl) <| jm (ii i526) rfl ?_
     refine jv (ii (IntKind.wrap .i64 ((IntKind.wrap .i64 (i458 + i514)) + i526))) (V.add rfl rfl) <| ja (ii (IntKind.wrap .i64 ((IntKind.wrap .i64 (i458 + i514)) + i526))) rfl <| J.nil <| CJ.region <| jm (ii i464) rfl <| jv (ii (IntKind.wrap .i64 (i464 + 1))) (V.add rfl rfl) <| ja (ii (IntKind.wrap .i64 (i464 + 1))) rfl ?_
     refine J.nil ?_
     obtain rfl := si h504
     exact ⟨rfl, ⟨IntKind.wrap .i64 ((IntKind.wrap .i64 (i458 + i514)) + i526), z536, IntKind.wrap .i64 (i464 + 1), ad539, cp540, rfl, ⟨rfl, rfl, rfl, rfl, rfl, trivial⟩, rfl, rfl⟩⟩
   refine CJ.exit ?_
   obtain rfl := si h504
   refine ⟨nofun, fun e => ?_⟩
   subst e
   exact .inl ⟨rfl, _, rfl, ⟨i458, l459, ad460, cp461, rfl, ⟨rfl, rfl, trivial⟩, rfl, rfl⟩⟩
 rintro s ρ _ _ ho542 ⟨i411, l412, ad413, cp414, rfl, hf543, rfl, rfl⟩
 subst ho542
 obtain ⟨ρ, rfl⟩ := hf543.ex
 refine PJ.wit Row.hn fun hn416 => PJ.done <| CJ.seq <| CJ.region <| jm (.slice ad413 l412.length cp414) rfl <| jm (ii i411) rfl <| ja (.slice ad413 l412.length cp414) rfl ?_
 refine ja (ii i411) rfl <| ja (ii 0) rfl <| J.nil <| CJ.ret ?_
 obtain rfl := si h
 exact ⟨_, _, Res.three rfl rfl rfl rfl, ⟨l412, i411, 0, ad413, cp414, rfl, rfl, rfl⟩, (Hp.le_refl _), fun w hs => hs⟩
noncomputable def fn_ref17_TakeType_l1 (xa : (List UInt8)) (i212 : Int) : (Int × (List (Int × Bool)) × Int) → Option ((Int × (List (Int × Bool)) × Int) ⊕ ((Int × (List (Int × Bool))) ⊕ ((List (Int × Bool)) × Int × Int))) := fun ((i349, l350, i355) : (Int × (List (Int × Bool)) × Int)) => cond (decide (i355 < i212)) ((subL xa i349 (((xa.length : Nat) : Int))).bind fun y389 => (fn_ref02_Take y389).bind fun (i393, i394, i395) => cond (!decide (i395 = 0)) (some (.inr ((.inr (([], 0, i395)))))) ((app l350 (([(IntKind.wrap .i64 (Int.tdiv i393 2), decide ((Int.tmod i393 2) = 1))] : List (Int × Bool)))).bind fun z404 => some (.inl ((IntKind.wrap .i64 (i349 + i394), z404, IntKind.wrap .i64 (i355 + 1)))))) (some (.inr ((.inl (i349, l350)))))
noncomputable def fn_ref17_TakeType (xa : (List UInt8)) : Option (((List (Int × Bool)) × Int × Int)) :=
  (fn_ref02_Take xa).bind fun (i212, i213, i214) => cond (!decide (i214 = 0)) (some (([], 0, i214))) (cond (decide (16 < i212)) (some (([], 0, 6))) ((loop (fn_ref17_TakeType_l1 xa i212) ((i213, ([] : List (Int × Bool)), 0)) : Option ((Int × (List (Int × Bool))) ⊕ ((List (Int × Bool)) × Int × Int))).bind fun o => match o with | .inr r => some r | .inl (i313, l314) => some ((l314, i313, 0))))
set_option maxRecDepth 100000 in
set_option maxHeartbeats 4000000 in
theorem ref17_TakeType_ok {K : Hp} {xa : (List UInt8)}   {r : ((List (Int × Bool)) × Int × Int)} (h : fn_ref17_TakeType xa = some r) :
    Tr Tryz.prog 33 #[.string ⟨xa.toArray⟩] K [] (fun v K' L' => (∃ (l202 : (List (Int × Bool))) (i207 : Int) (i208 : Int) (ad203 : Option Addr) (cp204 : Nat), (l202, i207, i208) = r ∧ .tuple #[.agg #[.slice ad203 l202.length cp204], ii i207, ii i208] = v ∧ L' = [Row Hp.nil 146 (.cons (.int .i64) (.one .bool)) (.slice ad203 l202.length cp204) l202]) ∧ K = K') := by
 refine Tr.k <| Tr.of Tryz.func33 rfl Tryz.ntmps33 rfl fun E F => ?_
 unfold fn_ref17_TakeType at h
 refine CJ.seq <| CJ.region <| jal inf30 [.slice none 0 0] rfl fun b209 => ja (ii 0) rfl <| ja (ii 0) rfl <| J.nil <| CJ.seq ?_
 refine CJ.region <| jm (.string ⟨xa.toArray⟩) rfl ?_
 obtain ⟨r210, hr211, h⟩ := ob h
 refine J.op rfl (A.call (L1 := []) Tryz.call79 rfl (ref02_Take_ok hr211) rfl rfl) ?_
 rintro _ _ _ ⟨v215, _, rfl, ⟨⟨i212, i213, i214, rfl, rfl, rfl⟩, rfl⟩, _, rfl⟩
 refine jm (.tuple #[ii i212, ii i213, ii i214]) rfl <| jx (ii i212) rfl rfl <| jx (ii i213) rfl rfl <| jx (ii i214) rfl rfl <| ja (ii i212) rfl <| ja (ii i213) rfl <| ja (ii i214) rfl ?_
 refine J.nil <| CJ.seq <| CJ.seq <| CJ.region <| jm (ii i214) rfl <| jv (.bool (!decide (i214 = 0))) (V.neq rfl rfl) <| J.nil ?_
 refine cc rfl h (fun hc218 h => ?_) fun hc218 h => ?_
 · refine CJ.seq <| CJ.region <| jv (.agg #[.slice none 0 0]) (V.build inf30 places30 rfl rfl) <| jm (ii i214) rfl <| js [.slice none 0 0] sz30 rfl rfl rfl rfl rfl rfl <| ja (ii 0) rfl <| ja (ii i214) rfl ?_
   refine J.nil <| CJ.by (fun w hs => Sep.rowNil (e := 146) (t := (.cons (.int .i64) (.one .bool))) hs) <| CJ.ret ?_
   obtain rfl := si h
   exact ⟨_, _, Res.three rfl ⟨_, _, rfl, Ld.agg (cs := [.slice none 0 0]) Tryz.underlying30 sz30 rfl (Rd.cls 1 0 rfl rfl)⟩ rfl rfl, ⟨[], 0, i214, none, 0, rfl, rfl, rfl⟩, (Hp.le_refl _), fun w hs => (Sep.dropAt 1 rfl hs)⟩
 refine CJ.skip <| CJ.seq <| CJ.seq <| CJ.region <| jm (ii i212) rfl <| jv (.bool (decide (16 < i212))) (V.gtr rfl rfl) <| J.nil ?_
 refine cc rfl h (fun hc220 h => ?_) fun hc220 h => ?_
 · refine CJ.seq <| CJ.region <| jv (.agg #[.slice none 0 0]) (V.build inf30 places30 rfl rfl) <| js [.slice none 0 0] sz30 rfl rfl rfl rfl rfl rfl <| ja (ii 0) rfl <| ja (ii 6) rfl <| J.nil ?_
   refine CJ.by (fun w hs => Sep.rowNil (e := 146) (t := (.cons (.int .i64) (.one .bool))) hs) <| CJ.ret ?_
   obtain rfl := si h
   exact ⟨_, _, Res.three rfl ⟨_, _, rfl, Ld.agg (cs := [.slice none 0 0]) Tryz.underlying30 sz30 rfl (Rd.cls 1 0 rfl rfl)⟩ rfl rfl, ⟨[], 0, 6, none, 0, rfl, rfl, rfl⟩, (Hp.le_refl _), fun w hs => (Sep.dropAt 1 rfl hs)⟩
 refine CJ.skip <| CJ.seq <| CJ.region ?_
 refine J.op rfl (A.lit (K0 := Hp.nil) (ty := (.cons (.int .i64) (.one .bool))) (xs := ([] : List (Int × Bool))) Tryz.underlying28 inf146 rfl (by decide) rfl rfl rfl rfl rfl (by decide)) ?_
 rintro _ _ _ ⟨b222, rfl, rfl, rfl⟩
 have hn223 : ([] : List (Int × Bool)) ≠ [] → ∃ g, (some ⟨b222, 0, none⟩ : Option Addr) = some ⟨g, 0, none⟩ := fun _ => ⟨b222, rfl⟩
 refine ja (.slice (some ⟨b222, 0, none⟩) ((([] : List (Int × Bool))).length) 0) rfl <| J.nil <| CJ.seq <| CJ.seq <| CJ.region <| ja (ii 0) rfl <| J.nil ?_
 obtain ⟨o319, ho320, h⟩ := ob h
 refine CJ.joinN (o := o319) (fun s ρ K' L' => ∃ (i313 : Int) (l314 : (List (Int × Bool))) (ad315 : Option Addr) (cp316 : Nat), (i313, l314) = s ∧ Fits [(2, .pointer (some ⟨b209, 0, none⟩)), (6, ii i313), (8, .slice ad315 l314.length cp316)] ρ ∧ K = K' ∧ L' = Cl b209 30 [.slice none 0 0] :: Row Hp.nil 146 (.cons (.int .i64) (.one .bool)) (.slice ad315 l314.length cp316) l314 :: F) ?_ ?_
 · refine CJ.block <| CJ.front 1 rfl <| CJ.loop (fun s ρ K' L' => ∃ (i349 : Int) (l350 : (List (Int × Bool))) (i355 : Int) (ad351 : Option Addr) (cp352 : Nat), (i349, l350, i355) = s ∧ Fits [(0, .string ⟨xa.toArray⟩), (2, .pointer (some ⟨b209, 0, none⟩)), (5, ii i212), (6, ii i349), (8, .slice ad351 l350.length cp352), (9, ii i355)] ρ ∧ K = K' ∧ L' = Cl b209 30 [.slice none 0 0] :: Row Hp.nil 146 (.cons (.int .i64) (.one .bool)) (.slice ad351 l350.length cp352) l350 :: F) ho320 ⟨i213, ([] : List (Int × Bool)), 0, (some ⟨b222, 0, none⟩), 0, rfl, ⟨rfl, rfl, rfl, rfl, rfl, rfl, trivial⟩, rfl, rfl⟩ ?_
   rintro s ρ _ _ r387 ⟨i349, l350, i355, ad351, cp352, rfl, hf385, rfl, rfl⟩ h384
   obtain ⟨ρ, rfl⟩ := hf385.ex
   refine CJ.front 1 rfl <| CJ.wit Row.hn fun hn354 => CJ.seq <| CJ.seq <| CJ.region <| jm (ii i355) rfl <| jm (ii i212) rfl ?_
   refine jv (.bool (decide (i355 < i212))) (V.lss rfl rfl) <| J.nil <| cc rfl h384 (fun hc388 h384 => ?_) fun hc388 h384 => ?_
   · refine CJ.skip <| CJ.seq <| CJ.block <| CJ.seq <| CJ.region <| jm (.string ⟨xa.toArray⟩) rfl <| jm (ii i349) rfl ?_
     obtain ⟨y389, hy390, h384⟩ := ob h384
     refine jv (.string ⟨y389.toArray⟩) (V.subs Tryz.underlying9 rfl (fun _ h => by cases h; exact ⟨_, rfl⟩) nofun nofun (fun _ => rfl) hy390) ?_
     obtain ⟨r391, hr392, h384⟩ := ob h384
     refine J.op rfl (A.call (L1 := []) Tryz.call79 rfl (ref02_Take_ok hr392) rfl rfl) ?_
     rintro _ _ _ ⟨v396, _, rfl, ⟨⟨i393, i394, i395, rfl, rfl, rfl⟩, rfl⟩, _, rfl⟩
     refine jm (.tuple #[ii i393, ii i394, ii i395]) rfl <| jx (ii i393) rfl rfl <| jx (ii i394) rfl rfl <| jx (ii i395) rfl rfl <| ja (ii i393) rfl <| ja (ii i394) rfl <| ja (ii i395) rfl ?_
     refine J.nil <| CJ.seq <| CJ.seq <| CJ.region <| jm (ii i395) rfl <| jv (.bool (!decide (i395 = 0))) (V.neq rfl rfl) <| J.nil ?_
     refine cc rfl h384 (fun hc399 h384 => ?_) fun hc399 h384 => ?_
     · refine CJ.seq <| CJ.region <| jv (.agg #[.slice none 0 0]) (V.build inf30 places30 rfl rfl) <| jm (ii i395) rfl <| J.front 1 rfl <| js [.slice none 0 0] sz30 rfl rfl rfl rfl rfl rfl <| ja (ii 0) rfl ?_
       refine ja (ii i395) rfl <| J.nil <| CJ.by (fun w hs => Sep.rowNil (e := 146) (t := (.cons (.int .i64) (.one .bool))) hs) <| CJ.ret ?_
       obtain rfl := si h384
       refine ⟨nofun, fun e => ?_⟩
       subst e
       refine .inr ⟨nofun, ?_⟩
       obtain rfl := si h
       exact ⟨_, _, Res.three rfl ⟨_, _, rfl, Ld.agg (cs := [.slice none 0 0]) Tryz.underlying30 sz30 rfl (Rd.cls 1 0 rfl rfl)⟩ rfl rfl, ⟨[], 0, i395, none, 0, rfl, rfl, rfl⟩, (Hp.le_refl _), fun w hs => (Sep.dropAt 1 rfl (Sep.dropAt 1 rfl hs))⟩
     refine CJ.skip <| CJ.seq <| CJ.region <| jm (.slice ad351 l350.length cp352) rfl <| jm (ii i393) rfl <| jv (ii (IntKind.wrap .i64 (Int.tdiv i393 2))) (V.quo rfl rfl (by decide)) <| jm (ii i393) rfl ?_
     refine jv (ii (Int.tmod i393 2)) (V.rem rfl rfl (by decide)) <| jv (.bool (decide ((Int.tmod i393 2) = 1))) (V.eql rfl rfl) <| jv (.agg #[ii (IntKind.wrap .i64 (Int.tdiv i393 2)), .bool (decide ((Int.tmod i393 2) = 1))]) (V.build inf146 places146 rfl rfl) ?_
     refine J.op rfl (A.lit (K0 := Hp.nil) (ty := (.cons (.int .i64) (.one .bool))) (xs := ([(IntKind.wrap .i64 (Int.tdiv i393 2), decide ((Int.tmod i393 2) = 1))] : List (Int × Bool))) Tryz.underlying28 inf146 rfl (by decide) rfl rfl rfl ⟨_, _, rfl, ⟨_, _, rfl, rfl, rfl, rfl⟩, rfl⟩ rfl (by decide)) ?_
     rintro _ _ _ ⟨b401, rfl, rfl, rfl⟩
     have hn402 : ([(IntKind.wrap .i64 (Int.tdiv i393 2), decide ((Int.tmod i393 2) = 1))] : List (Int × Bool)) ≠ [] → ∃ g, (some ⟨b401, 0, none⟩ : Option Addr) = some ⟨g, 0, none⟩ := fun _ => ⟨b401, rfl⟩
     obtain ⟨z404, hz405, h384⟩ := ob h384
     refine J.front 1 rfl <| J.op rfl (A.appR (Kr := Hp.nil) Tryz.underlying28 inf146 rfl rfl (by decide) (by decide) rfl rfl (Els.flat rfl) (Els.flat rfl) hz405) ?_
     rintro _ _ _ ⟨v406, rfl, rfl, rfl⟩
     refine J.wit Row.form ?_
     rintro ⟨ad407, cp408, rfl, _, _, hn409⟩
     refine ja (.slice ad407 z404.length cp408) rfl <| J.nil <| CJ.region <| jm (ii i349) rfl <| jm (ii i394) rfl <| jv (ii (IntKind.wrap .i64 (i349 + i394))) (V.add rfl rfl) <| ja (ii (IntKind.wrap .i64 (i349 + i394))) rfl ?_
     refine J.nil <| CJ.region <| jm (ii i355) rfl <| jv (ii (IntKind.wrap .i64 (i355 + 1))) (V.add rfl rfl) <| ja (ii (IntKind.wrap .i64 (i355 + 1))) rfl <| J.front 1 rfl <| J.nil ?_
     obtain rfl := si h384
     exact ⟨rfl, ⟨IntKind.wrap .i64 (i349 + i394), z404, IntKind.wrap .i64 (i355 + 1), ad407, cp408, rfl, ⟨rfl, rfl, rfl, rfl, rfl, rfl, trivial⟩, rfl, rfl⟩⟩
   refine CJ.front 1 rfl <| CJ.exit ?_
   obtain rfl := si h384
   refine ⟨nofun, fun e => ?_⟩
   subst e
   exact .inl ⟨rfl, _, rfl, ⟨i349, l350, ad351, cp352, rfl, ⟨rfl, rfl, rfl, trivial⟩, rfl, rfl⟩⟩
 rintro s ρ _ _ ho410 ⟨i313, l314, ad315, cp316, rfl, hf411, rfl, rfl⟩
 subst ho410
 obtain ⟨ρ, rfl⟩ := hf411.ex
 refine PJ.front 1 rfl <| PJ.wit Row.hn fun hn318 => PJ.done <| CJ.seq <| CJ.region <| jm (.slice ad315 l314.length cp316) rfl <| jv (.agg #[.slice ad315 l314.length cp316]) (V.build inf30 places30 rfl rfl) ?_
 refine jm (ii i313) rfl <| J.front 1 rfl <| js [.slice ad315 l314.length cp316] sz30 rfl rfl rfl rfl rfl rfl <| ja (ii i313) rfl <| ja (ii 0) rfl <| J.nil <| CJ.ret ?_
 obtain rfl := si h
 exact ⟨_, _, Res.three rfl ⟨_, _, rfl, Ld.agg (cs := [.slice ad315 l314.length cp316]) Tryz.underlying30 sz30 rfl (Rd.cls 0 0 rfl rfl)⟩ rfl rfl, ⟨l314, i313, 0, ad315, cp316, rfl, rfl, rfl⟩, (Hp.le_refl _), fun w hs => (Sep.dropAt 0 rfl hs)⟩
end Go.Proofs.YtmdmdmaekjpfjaaGreat
