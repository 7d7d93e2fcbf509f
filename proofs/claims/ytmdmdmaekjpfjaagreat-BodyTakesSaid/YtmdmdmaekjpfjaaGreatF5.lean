/- What Go functions answer: generated. -/
import Derived.Test.YtmdmdmaekjpfjaaGreatF4
namespace Go.Proofs.YtmdmdmaekjpfjaaGreat
open Go.RowKit
set_option linter.unusedVariables false
set_option linter.unnecessarySimpa false
set_option linter.unusedSimpArgs false
set_option maxRecDepth 20000
noncomputable def fn_slices_EqualFunc_api_Sig_api_Sig_api_Sig_api_Sig_kk_body_sameSig_l1 (xa : (List (Int × (List (Int × Int)) × (List (List (Int × Bool))) × (List (Int × Bool))))) (xb : (List (Int × (List (Int × Int)) × (List (List (Int × Bool))) × (List (Int × Bool))))) : Int → Option (Int ⊕ (Unit ⊕ Bool)) := fun (i553 : Int) => cond (decide (i553 < (((xa.length : Nat) : Int)))) ((getI xa i553).bind fun x612 => (getI xb i553).bind fun x634 => (fn_body_sameSig (x612.1, x612.2.1, x612.2.2.1, x612.2.2.2) (x634.1, x634.2.1, x634.2.2.1, x634.2.2.2)).bind fun t658 => cond (!t658) (some (.inr ((.inr (false))))) (some (.inl (IntKind.wrap .i64 (i553 + 1))))) (some (.inr ((.inl ()))))
noncomputable def fn_slices_EqualFunc_api_Sig_api_Sig_api_Sig_api_Sig_kk_body_sameSig (xa : (List (Int × (List (Int × Int)) × (List (List (Int × Bool))) × (List (Int × Bool))))) (xb : (List (Int × (List (Int × Int)) × (List (List (Int × Bool))) × (List (Int × Bool))))) : Option Bool :=
  cond (!decide ((((xa.length : Nat) : Int)) = (((xb.length : Nat) : Int)))) (some (false)) ((loop (fn_slices_EqualFunc_api_Sig_api_Sig_api_Sig_api_Sig_kk_body_sameSig_l1 xa xb) 0 : Option (Unit ⊕ Bool)).bind fun o => match o with | .inr r => some r | .inl () => some (true))
set_option maxRecDepth 100000 in
set_option maxHeartbeats 4000000 in
theorem slices_EqualFunc_api_Sig_api_Sig_api_Sig_api_Sig_kk_body_sameSig_ok {K : Hp} {xa : (List (Int × (List (Int × Int)) × (List (List (Int × Bool))) × (List (Int × Bool))))} {xb : (List (Int × (List (Int × Int)) × (List (List (Int × Bool))) × (List (Int × Bool))))} {adxa_0 : Option Addr} {cpxa_0 : Nat} {adxb_0 : Option Addr} {cpxb_0 : Nat} (fxa_0 : Is K (.sl (.cons (.int .i64) (.cons (.sl (.cons (.int .i64) (.one (.int .i64)))) (.cons (.sl (.one (.sl (.cons (.int .i64) (.one .bool))))) (.one (.one (.sl (.cons (.int .i64) (.one .bool))))))))) [.slice adxa_0 xa.length cpxa_0] xa) (fxb_0 : Is K (.sl (.cons (.int .i64) (.cons (.sl (.cons (.int .i64) (.one (.int .i64)))) (.cons (.sl (.one (.sl (.cons (.int .i64) (.one .bool))))) (.one (.one (.sl (.cons (.int .i64) (.one .bool))))))))) [.slice adxb_0 xb.length cpxb_0] xb) {r : Bool} (h : fn_slices_EqualFunc_api_Sig_api_Sig_api_Sig_api_Sig_kk_body_sameSig xa xb = some r) :
    Tr Tryz.prog 44 #[.slice adxa_0 xa.length cpxa_0, .slice adxb_0 xb.length cpxb_0, .func (.func 45) #[] #[]] K [] (fun v K' L' => (∃ (t333 : Bool), t333 = r ∧ .bool t333 = v ∧ L' = []) ∧ K = K') := by
 refine Tr.k <| Tr.of Tryz.func44 rfl Tryz.ntmps44 rfl fun E F => ?_
 unfold fn_slices_EqualFunc_api_Sig_api_Sig_api_Sig_api_Sig_kk_body_sameSig at h
 refine CJ.seq <| CJ.region <| ja (.bool false) rfl <| J.nil <| CJ.seq <| CJ.seq <| CJ.region ?_
 refine jm (.slice adxa_0 xa.length cpxa_0) rfl <| jv (ii (((xa.length : Nat) : Int))) (V.len Tryz.underlying31 rfl) <| jm (.slice adxb_0 xb.length cpxb_0) rfl <| jv (ii (((xb.length : Nat) : Int))) (V.len Tryz.underlying31 rfl) <| jv (.bool (!decide ((((xa.length : Nat) : Int)) = (((xb.length : Nat) : Int))))) (V.neq rfl rfl) <| J.nil <| cc rfl h (fun hc334 h => ?_) fun hc334 h => ?_
 · refine CJ.seq <| CJ.region <| ja (.bool false) rfl <| J.nil <| CJ.ret ?_
   obtain rfl := si h
   exact ⟨_, _, Res.one rfl rfl, ⟨false, rfl, rfl, rfl⟩, (Hp.le_refl _), fun w hs => hs⟩
 refine CJ.skip <| CJ.seq <| CJ.seq <| CJ.region <| jm (.slice adxa_0 xa.length cpxa_0) rfl <| jv (ii (((xa.length : Nat) : Int))) (V.len Tryz.underlying31 rfl) <| jm (ii 0) rfl ?_
 refine J.nil ?_
 obtain ⟨o498, ho499, h⟩ := ob h
 refine CJ.joinN (o := o498) (fun s ρ K' L' => () = s ∧ Fits [] ρ ∧ K = K' ∧ F = L') ?_ ?_
 · refine CJ.block <| CJ.loop (fun s ρ K' L' => ∃ (i553 : Int), i553 = s ∧ Fits [(1, .slice adxb_0 xb.length cpxb_0), (2, .func (.func 45) #[] #[]), (15, .slice adxa_0 xa.length cpxa_0), (16, ii (((xa.length : Nat) : Int))), (17, ii i553)] ρ ∧ K = K' ∧ F = L') ho499 ⟨0, rfl, ⟨rfl, rfl, rfl, rfl, rfl, trivial⟩, rfl, rfl⟩ ?_
   rintro s ρ _ _ r610 ⟨i553, rfl, hf608, rfl, rfl⟩ h607
   obtain ⟨ρ, rfl⟩ := hf608.ex
   refine CJ.seq <| CJ.region <| jv (.bool (decide (i553 < (((xa.length : Nat) : Int))))) (V.lss rfl rfl) <| J.nil <| CJ.seq <| cc rfl h607 (fun hc611 h607 => ?_) fun hc611 h607 => ?_
   · refine CJ.skip <| CJ.seq <| CJ.block <| CJ.seq <| CJ.region <| jm (ii i553) rfl ?_
     obtain ⟨x612, hx613, h607⟩ := ob h607
     obtain ⟨p614, p615, p616⟩ := getI_some hx613
     obtain ⟨b617, o618, e619, a620⟩ := (fxa_0).at p615
     refine jv _ (V.iad Tryz.underlying31 sz63 rfl e619 rfl p614 p616) ?_
     obtain ⟨ad621, cp622, c623, f624⟩ := (((a620).snd).fst).sl
     obtain ⟨ad625, cp626, c627, f628⟩ := ((((a620).snd).snd).fst).sl
     obtain ⟨ad629, cp630, c631, f632⟩ := ((((((a620).snd).snd).snd).one).one).sl
     refine jv (.agg #[ii x612.1, .slice ad621 x612.2.1.length cp622, .slice ad625 x612.2.2.1.length cp626, .slice ad629 x612.2.2.2.length cp630]) (V.ld rfl (Ld.aggK (cs := [ii x612.1, .slice ad621 x612.2.1.length cp622, .slice ad625 x612.2.2.1.length cp626, .slice ad629 x612.2.2.2.length cp630]) Tryz.underlying63 sz63 rfl ⟨((a620).fst).int, c623, c627, c631, trivial⟩ (Hp.le_refl _))) <| jal inf63 [ii 0, .slice none 0 0, .slice none 0 0, .slice none 0 0] rfl fun b633 => ja (ii i553) rfl <| js [ii x612.1, .slice ad621 x612.2.1.length cp622, .slice ad625 x612.2.2.1.length cp626, .slice ad629 x612.2.2.2.length cp630] sz63 rfl rfl rfl rfl rfl rfl <| J.nil <| CJ.seq <| CJ.region ?_
     refine jm (.slice adxb_0 xb.length cpxb_0) rfl <| jm (ii i553) rfl ?_
     obtain ⟨x634, hx635, h607⟩ := ob h607
     obtain ⟨p636, p637, p638⟩ := getI_some hx635
     obtain ⟨b639, o640, e641, a642⟩ := (fxb_0).at p637
     refine jv _ (V.iad Tryz.underlying31 sz63 rfl e641 rfl p636 p638) ?_
     obtain ⟨ad643, cp644, c645, f646⟩ := (((a642).snd).fst).sl
     obtain ⟨ad647, cp648, c649, f650⟩ := ((((a642).snd).snd).fst).sl
     obtain ⟨ad651, cp652, c653, f654⟩ := ((((((a642).snd).snd).snd).one).one).sl
     refine jv (.agg #[ii x634.1, .slice ad643 x634.2.1.length cp644, .slice ad647 x634.2.2.1.length cp648, .slice ad651 x634.2.2.2.length cp652]) (V.ld rfl (Ld.aggK (cs := [ii x634.1, .slice ad643 x634.2.1.length cp644, .slice ad647 x634.2.2.1.length cp648, .slice ad651 x634.2.2.2.length cp652]) Tryz.underlying63 sz63 rfl ⟨((a642).fst).int, c645, c649, c653, trivial⟩ (Hp.le_refl _))) <| jal inf63 [ii 0, .slice none 0 0, .slice none 0 0, .slice none 0 0] rfl fun b655 => js [ii x634.1, .slice ad643 x634.2.1.length cp644, .slice ad647 x634.2.2.1.length cp648, .slice ad651 x634.2.2.2.length cp652] sz63 rfl rfl rfl rfl rfl rfl <| J.nil <| CJ.seq <| CJ.region <| jm (.func (.func 45) #[] #[]) rfl ?_
     refine jv (.agg #[ii x612.1, .slice ad621 x612.2.1.length cp622, .slice ad625 x612.2.2.1.length cp626, .slice ad629 x612.2.2.2.length cp630]) (V.ld rfl (Ld.agg (cs := [ii x612.1, .slice ad621 x612.2.1.length cp622, .slice ad625 x612.2.2.1.length cp626, .slice ad629 x612.2.2.2.length cp630]) Tryz.underlying63 sz63 rfl (Rd.cls 1 0 rfl rfl))) <| jv (.agg #[ii x634.1, .slice ad643 x634.2.1.length cp644, .slice ad647 x634.2.2.1.length cp648, .slice ad651 x634.2.2.2.length cp652]) (V.ld rfl (Ld.agg (cs := [ii x634.1, .slice ad643 x634.2.1.length cp644, .slice ad647 x634.2.2.1.length cp648, .slice ad651 x634.2.2.2.length cp652]) Tryz.underlying63 sz63 rfl (Rd.cls 0 0 rfl rfl))) ?_
     obtain ⟨r656, hr657, h607⟩ := ob h607
     refine J.op rfl (A.call (L1 := []) Tryz.call45 rfl (body_sameSig_ok f624 f628 f632 f646 f650 f654 hr657) rfl rfl) ?_
     rintro _ _ _ ⟨v659, _, rfl, ⟨⟨t658, rfl, rfl, rfl⟩, rfl⟩, _, rfl⟩
     refine jv (.bool (!t658)) (V.not rfl) <| J.nil <| cc rfl h607 (fun hc662 h607 => ?_) fun hc662 h607 => ?_
     · refine CJ.seq <| CJ.region <| ja (.bool false) rfl <| J.nil <| CJ.ret ?_
       obtain rfl := si h607
       refine ⟨nofun, fun e => ?_⟩
       subst e
       refine .inr ⟨nofun, ?_⟩
       obtain rfl := si h
       exact ⟨_, _, Res.one rfl rfl, ⟨false, rfl, rfl, rfl⟩, (Hp.le_refl _), fun w hs => (Sep.dropAt 0 rfl (Sep.dropAt 0 rfl hs))⟩
     refine CJ.skip <| CJ.region <| jv (ii (IntKind.wrap .i64 (i553 + 1))) (V.add rfl rfl) <| jm (ii (IntKind.wrap .i64 (i553 + 1))) rfl <| J.dropAt 0 rfl <| J.dropAt 0 rfl <| J.nil ?_
     obtain rfl := si h607
     exact ⟨rfl, ⟨IntKind.wrap .i64 (i553 + 1), rfl, ⟨rfl, rfl, rfl, rfl, rfl, trivial⟩, rfl, rfl⟩⟩
   refine CJ.exit ?_
   obtain rfl := si h607
   refine ⟨nofun, fun e => ?_⟩
   subst e
   exact .inl ⟨rfl, _, rfl, ⟨rfl, trivial, rfl, rfl⟩⟩
 rintro s ρ _ _ ho663 ⟨rfl, hf664, rfl, rfl⟩
 subst ho663
 obtain ⟨ρ, rfl⟩ := hf664.ex
 refine PJ.done <| CJ.seq <| CJ.region <| ja (.bool true) rfl <| J.nil <| CJ.ret ?_
 obtain rfl := si h
 exact ⟨_, _, Res.one rfl rfl, ⟨true, rfl, rfl, rfl⟩, (Hp.le_refl _), fun w hs => hs⟩
noncomputable def fn_slices_Equal_api_Stmt_api_Stmt_l1 (xa : (List (Int × Int × Int × Int × Bool))) (xb : (List (Int × Int × Int × Int × Bool))) : Int → Option (Int ⊕ (Unit ⊕ Bool)) := fun (i413 : Int) => cond (decide (i413 < (((xa.length : Nat) : Int)))) ((getI xa i413).bind fun x476 => (getI xb i413).bind fun x485 => cond (!((decide (x476.1 = x485.1)) && ((decide (x476.2.1 = x485.2.1)) && ((decide (x476.2.2.1 = x485.2.2.1)) && ((decide (x476.2.2.2.1 = x485.2.2.2.1)) && (x476.2.2.2.2 == x485.2.2.2.2)))))) (some (.inr ((.inr (false))))) (some (.inl (IntKind.wrap .i64 (i413 + 1))))) (some (.inr ((.inl ()))))
noncomputable def fn_slices_Equal_api_Stmt_api_Stmt (xa : (List (Int × Int × Int × Int × Bool))) (xb : (List (Int × Int × Int × Int × Bool))) : Option Bool :=
  cond (!decide ((((xa.length : Nat) : Int)) = (((xb.length : Nat) : Int)))) (some (false)) ((loop (fn_slices_Equal_api_Stmt_api_Stmt_l1 xa xb) 0 : Option (Unit ⊕ Bool)).bind fun o => match o with | .inr r => some r | .inl () => some (true))
set_option maxRecDepth 100000 in
set_option maxHeartbeats 4000000 in
theorem slices_Equal_api_Stmt_api_Stmt_ok {K : Hp} {xa : (List (Int × Int × Int × Int × Bool))} {xb : (List (Int × Int × Int × Int × Bool))} {adxa_0 : Option Addr} {cpxa_0 : Nat} {adxb_0 : Option Addr} {cpxb_0 : Nat} (fxa_0 : Is K (.sl (.cons (.int .i64) (.cons (.int .i64) (.cons (.int .i64) (.cons (.int .i64) (.one .bool)))))) [.slice adxa_0 xa.length cpxa_0] xa) (fxb_0 : Is K (.sl (.cons (.int .i64) (.cons (.int .i64) (.cons (.int .i64) (.cons (.int .i64) (.one .bool)))))) [.slice adxb_0 xb.length cpxb_0] xb) {r : Bool} (h : fn_slices_Equal_api_Stmt_api_Stmt xa xb = some r) :
    Tr Tryz.prog 85 #[.slice adxa_0 xa.length cpxa_0, .slice adxb_0 xb.length cpxb_0] K [] (fun v K' L' => (∃ (t249 : Bool), t249 = r ∧ .bool t249 = v ∧ L' = []) ∧ K = K') := by
 refine Tr.k <| Tr.of Tryz.func85 rfl Tryz.ntmps85 rfl fun E F => ?_
 unfold fn_slices_Equal_api_Stmt_api_Stmt at h
 refine CJ.seq <| CJ.region <| ja (.bool false) rfl <| J.nil <| CJ.seq <| CJ.seq <| CJ.region ?_
 refine jm (.slice adxa_0 xa.length cpxa_0) rfl <| jv (ii (((xa.length : Nat) : Int))) (V.len Tryz.underlying65 rfl) <| jm (.slice adxb_0 xb.length cpxb_0) rfl <| jv (ii (((xb.length : Nat) : Int))) (V.len Tryz.underlying65 rfl) <| jv (.bool (!decide ((((xa.length : Nat) : Int)) = (((xb.length : Nat) : Int))))) (V.neq rfl rfl) <| J.nil <| cc rfl h (fun hc250 h => ?_) fun hc250 h => ?_
 · refine CJ.seq <| CJ.region <| ja (.bool false) rfl <| J.nil <| CJ.ret ?_
   obtain rfl := si h
   exact ⟨_, _, Res.one rfl rfl, ⟨false, rfl, rfl, rfl⟩, (Hp.le_refl _), fun w hs => hs⟩
 refine CJ.skip <| CJ.seq <| CJ.seq <| CJ.region <| jm (.slice adxa_0 xa.length cpxa_0) rfl <| jv (ii (((xa.length : Nat) : Int))) (V.len Tryz.underlying65 rfl) <| jm (ii 0) rfl ?_
 refine J.nil ?_
 obtain ⟨o372, ho373, h⟩ := ob h
 refine CJ.joinN (o := o372) (fun s ρ K' L' => () = s ∧ Fits [] ρ ∧ K = K' ∧ F = L') ?_ ?_
 · refine CJ.block <| CJ.loop (fun s ρ K' L' => ∃ (i413 : Int), i413 = s ∧ Fits [(0, .slice adxa_0 xa.length cpxa_0), (1, .slice adxb_0 xb.length cpxb_0), (12, ii (((xa.length : Nat) : Int))), (13, ii i413)] ρ ∧ K = K' ∧ F = L') ho373 ⟨0, rfl, ⟨rfl, rfl, rfl, rfl, trivial⟩, rfl, rfl⟩ ?_
   rintro s ρ _ _ r456 ⟨i413, rfl, hf454, rfl, rfl⟩ h453
   obtain ⟨ρ, rfl⟩ := hf454.ex
   refine CJ.seq <| CJ.region <| jv (.bool (decide (i413 < (((xa.length : Nat) : Int))))) (V.lss rfl rfl) <| J.nil <| CJ.seq <| cc rfl h453 (fun hc457 h453 => ?_) fun hc457 h453 => ?_
   · refine CJ.skip <| CJ.seq <| CJ.block <| CJ.seq <| CJ.region <| jm (ii i413) rfl <| ja (ii i413) rfl ?_
     refine J.nil <| CJ.seq <| CJ.mix [] [] [0, 1, 2, 3, 4, 5, 6, 7, 8] [] mixO (by decide +kernel) trivial rfl rfl rfl <| JM.nil <| qm (.slice adxa_0 xa.length cpxa_0) rfl <| qm (ii i413) rfl ?_
     obtain ⟨x476, hx477, h453⟩ := ob h453
     obtain ⟨p478, p479, p480⟩ := getI_some hx477
     obtain ⟨b481, o482, e483, a484⟩ := (fxa_0).at p479
     refine qv _ (V.iad Tryz.underlying65 sz73 rfl e483 rfl p478 p480) <| qv (.agg #[ii x476.1, ii x476.2.1, ii x476.2.2.1, ii x476.2.2.2.1, .bool x476.2.2.2.2]) (V.ld rfl (Ld.aggK (cs := [ii x476.1, ii x476.2.1, ii x476.2.2.1, ii x476.2.2.2.1, .bool x476.2.2.2.2]) Tryz.underlying73 sz73 rfl ⟨((a484).fst).int, (((a484).snd).fst).int, ((((a484).snd).snd).fst).int, (((((a484).snd).snd).snd).fst).int, ((((((a484).snd).snd).snd).snd).one).bool, trivial⟩ (Hp.le_refl _))) <| qm (.slice adxb_0 xb.length cpxb_0) rfl <| qm (ii i413) rfl ?_
     obtain ⟨x485, hx486, h453⟩ := ob h453
     obtain ⟨p487, p488, p489⟩ := getI_some hx486
     obtain ⟨b490, o491, e492, a493⟩ := (fxb_0).at p488
     refine qv _ (V.iad Tryz.underlying65 sz73 rfl e492 rfl p487 p489) <| qv (.agg #[ii x485.1, ii x485.2.1, ii x485.2.2.1, ii x485.2.2.2.1, .bool x485.2.2.2.2]) (V.ld rfl (Ld.aggK (cs := [ii x485.1, ii x485.2.1, ii x485.2.2.1, ii x485.2.2.2.1, .bool x485.2.2.2.2]) Tryz.underlying73 sz73 rfl ⟨((a493).fst).int, (((a493).snd).fst).int, ((((a493).snd).snd).fst).int, (((((a493).snd).snd).snd).fst).int, ((((((a493).snd).snd).snd).snd).one).bool, trivial⟩ (Hp.le_refl _))) <| qv (.bool (!((decide (x476.1 = x485.1)) && ((decide (x476.2.1 = x485.2.1)) && ((decide (x476.2.2.1 = x485.2.2.1)) && ((decide (x476.2.2.2.1 = x485.2.2.2.1)) && (x476.2.2.2.2 == x485.2.2.2.2))))))) (V.nest eqg73 (EqIn.st (d := 9999) rfl Tryz.underlying73 sih73 (EqFs.cons (by decide) (Ld0.sc sc3 rfl) (Ld0.sc sc3 rfl) (EqIn.int (d := 9998) rfl Tryz.underlying3) (EqFs.cons (by decide) (Ld0.sc sc3 rfl) (Ld0.sc sc3 rfl) (EqIn.int (d := 9998) rfl Tryz.underlying3) (EqFs.cons (by decide) (Ld0.sc sc3 rfl) (Ld0.sc sc3 rfl) (EqIn.int (d := 9998) rfl Tryz.underlying3) (EqFs.cons (by decide) (Ld0.sc sc3 rfl) (Ld0.sc sc3 rfl) (EqIn.int (d := 9998) rfl Tryz.underlying3) (EqFs.last (by decide) (Ld0.sc sc4 rfl) (Ld0.sc sc4 rfl) (EqIn.bool (d := 9998) rfl Tryz.underlying4))))))) rfl rfl) <| JQ.nil <| J.nil <| cc rfl h453 (fun hc494 h453 => ?_) fun hc494 h453 => ?_
     · refine CJ.seq <| CJ.region <| ja (.bool false) rfl <| J.nil <| CJ.ret ?_
       obtain rfl := si h453
       refine ⟨nofun, fun e => ?_⟩
       subst e
       refine .inr ⟨nofun, ?_⟩
       obtain rfl := si h
       exact ⟨_, _, Res.one rfl rfl, ⟨false, rfl, rfl, rfl⟩, (Hp.le_refl _), fun w hs => hs⟩
     refine CJ.skip <| CJ.region <| jv (ii (IntKind.wrap .i64 (i413 + 1))) (V.add rfl rfl) <| jm (ii (IntKind.wrap .i64 (i413 + 1))) rfl <| J.nil ?_
     obtain rfl := si h453
     exact ⟨rfl, ⟨IntKind.wrap .i64 (i413 + 1), rfl, ⟨rfl, rfl, rfl, rfl, trivial⟩, rfl, rfl⟩⟩
   refine CJ.exit ?_
   obtain rfl := si h453
   refine ⟨nofun, fun e => ?_⟩
   subst e
   exact .inl ⟨rfl, _, rfl, ⟨rfl, trivial, rfl, rfl⟩⟩
 rintro s ρ _ _ ho495 ⟨rfl, hf496, rfl, rfl⟩
 subst ho495
 obtain ⟨ρ, rfl⟩ := hf496.ex
 refine PJ.done <| CJ.seq <| CJ.region <| ja (.bool true) rfl <| J.nil <| CJ.ret ?_
 obtain rfl := si h
 exact ⟨_, _, Res.one rfl rfl, ⟨true, rfl, rfl, rfl⟩, (Hp.le_refl _), fun w hs => hs⟩
noncomputable def fn_slices_Equal_int_int_l1 (xa : (List Int)) (xb : (List Int)) : Int → Option (Int ⊕ (Unit ⊕ Bool)) := fun (i413 : Int) => cond (decide (i413 < (((xa.length : Nat) : Int)))) ((getI xa i413).bind fun x476 => (getI xb i413).bind fun x485 => cond (!decide (x476 = x485)) (some (.inr ((.inr (false))))) (some (.inl (IntKind.wrap .i64 (i413 + 1))))) (some (.inr ((.inl ()))))
noncomputable def fn_slices_Equal_int_int (xa : (List Int)) (xb : (List Int)) : Option Bool :=
  cond (!decide ((((xa.length : Nat) : Int)) = (((xb.length : Nat) : Int)))) (some (false)) ((loop (fn_slices_Equal_int_int_l1 xa xb) 0 : Option (Unit ⊕ Bool)).bind fun o => match o with | .inr r => some r | .inl () => some (true))
set_option maxRecDepth 100000 in
set_option maxHeartbeats 4000000 in
theorem slices_Equal_int_int_ok {K : Hp} {xa : (List Int)} {xb : (List Int)} {adxa_0 : Option Addr} {cpxa_0 : Nat} {adxb_0 : Option Addr} {cpxb_0 : Nat} (fxa_0 : Is K (.sl (.int .i64)) [.slice adxa_0 xa.length cpxa_0] xa) (fxb_0 : Is K (.sl (.int .i64)) [.slice adxb_0 xb.length cpxb_0] xb) {r : Bool} (h : fn_slices_Equal_int_int xa xb = some r) :
    Tr Tryz.prog 104 #[.slice adxa_0 xa.length cpxa_0, .slice adxb_0 xb.length cpxb_0] K [] (fun v K' L' => (∃ (t249 : Bool), t249 = r ∧ .bool t249 = v ∧ L' = []) ∧ K = K') := by
 refine Tr.k <| Tr.of Tryz.func104 rfl Tryz.ntmps104 rfl fun E F => ?_
 unfold fn_slices_Equal_int_int at h
 refine CJ.seq <| CJ.region <| ja (.bool false) rfl <| J.nil <| CJ.seq <| CJ.seq <| CJ.region ?_
 refine jm (.slice adxa_0 xa.length cpxa_0) rfl <| jv (ii (((xa.length : Nat) : Int))) (V.len Tryz.underlying66 rfl) <| jm (.slice adxb_0 xb.length cpxb_0) rfl <| jv (ii (((xb.length : Nat) : Int))) (V.len Tryz.underlying66 rfl) <| jv (.bool (!decide ((((xa.length : Nat) : Int)) = (((xb.length : Nat) : Int))))) (V.neq rfl rfl) <| J.nil <| cc rfl h (fun hc250 h => ?_) fun hc250 h => ?_
 · refine CJ.seq <| CJ.region <| ja (.bool false) rfl <| J.nil <| CJ.ret ?_
   obtain rfl := si h
   exact ⟨_, _, Res.one rfl rfl, ⟨false, rfl, rfl, rfl⟩, (Hp.le_refl _), fun w hs => hs⟩
 refine CJ.skip <| CJ.seq <| CJ.seq <| CJ.region <| jm (.slice adxa_0 xa.length cpxa_0) rfl <| jv (ii (((xa.length : Nat) : Int))) (V.len Tryz.underlying66 rfl) <| jm (ii 0) rfl ?_
 refine J.nil ?_
 obtain ⟨o372, ho373, h⟩ := ob h
 refine CJ.joinN (o := o372) (fun s ρ K' L' => () = s ∧ Fits [] ρ ∧ K = K' ∧ F = L') ?_ ?_
 · refine CJ.block <| CJ.loop (fun s ρ K' L' => ∃ (i413 : Int), i413 = s ∧ Fits [(0, .slice adxa_0 xa.length cpxa_0), (1, .slice adxb_0 xb.length cpxb_0), (12, ii (((xa.length : Nat) : Int))), (13, ii i413)] ρ ∧ K = K' ∧ F = L') ho373 ⟨0, rfl, ⟨rfl, rfl, rfl, rfl, trivial⟩, rfl, rfl⟩ ?_
   rintro s ρ _ _ r456 ⟨i413, rfl, hf454, rfl, rfl⟩ h453
   obtain ⟨ρ, rfl⟩ := hf454.ex
   refine CJ.seq <| CJ.region <| jv (.bool (decide (i413 < (((xa.length : Nat) : Int))))) (V.lss rfl rfl) <| J.nil <| CJ.seq <| cc rfl h453 (fun hc457 h453 => ?_) fun hc457 h453 => ?_
   · refine CJ.skip <| CJ.seq <| CJ.block <| CJ.seq <| CJ.region <| jm (ii i413) rfl <| ja (ii i413) rfl ?_
     refine J.nil <| CJ.seq <| CJ.mix [] [] [0, 1, 2, 3, 4, 5, 6, 7, 8] [] mixO (by decide +kernel) trivial rfl rfl rfl <| JM.nil <| qm (.slice adxa_0 xa.length cpxa_0) rfl <| qm (ii i413) rfl ?_
     obtain ⟨x476, hx477, h453⟩ := ob h453
     obtain ⟨p478, p479, p480⟩ := getI_some hx477
     obtain ⟨b481, o482, e483, a484⟩ := (fxa_0).at p479
     refine qv _ (V.iad Tryz.underlying66 sz3 rfl e483 rfl p478 p480) <| qv (ii x476) (V.ld rfl (Ld.sc sc3 (Rd.k (a484).int (Hp.le_refl _)))) <| qm (.slice adxb_0 xb.length cpxb_0) rfl <| qm (ii i413) rfl ?_
     obtain ⟨x485, hx486, h453⟩ := ob h453
     obtain ⟨p487, p488, p489⟩ := getI_some hx486
     obtain ⟨b490, o491, e492, a493⟩ := (fxb_0).at p488
     refine qv _ (V.iad Tryz.underlying66 sz3 rfl e492 rfl p487 p489) <| qv (ii x485) (V.ld rfl (Ld.sc sc3 (Rd.k (a493).int (Hp.le_refl _)))) <| qv (.bool (!decide (x476 = x485))) (V.neq rfl rfl) <| JQ.nil <| J.nil <| cc rfl h453 (fun hc494 h453 => ?_) fun hc494 h453 => ?_
     · refine CJ.seq <| CJ.region <| ja (.bool false) rfl <| J.nil <| CJ.ret ?_
       obtain rfl := si h453
       refine ⟨nofun, fun e => ?_⟩
       subst e
       refine .inr ⟨nofun, ?_⟩
       obtain rfl := si h
       exact ⟨_, _, Res.one rfl rfl, ⟨false, rfl, rfl, rfl⟩, (Hp.le_refl _), fun w hs => hs⟩
     refine CJ.skip <| CJ.region <| jv (ii (IntKind.wrap .i64 (i413 + 1))) (V.add rfl rfl) <| jm (ii (IntKind.wrap .i64 (i413 + 1))) rfl <| J.nil ?_
     obtain rfl := si h453
     exact ⟨rfl, ⟨IntKind.wrap .i64 (i413 + 1), rfl, ⟨rfl, rfl, rfl, rfl, trivial⟩, rfl, rfl⟩⟩
   refine CJ.exit ?_
   obtain rfl := si h453
   refine ⟨nofun, fun e => ?_⟩
   subst e
   exact .inl ⟨rfl, _, rfl, ⟨rfl, trivial, rfl, rfl⟩⟩
 rintro s ρ _ _ ho495 ⟨rfl, hf496, rfl, rfl⟩
 subst ho495
 obtain ⟨ρ, rfl⟩ := hf496.ex
 refine PJ.done <| CJ.seq <| CJ.region <| ja (.bool true) rfl <| J.nil <| CJ.ret ?_
 obtain rfl := si h
 exact ⟨_, _, Res.one rfl rfl, ⟨true, rfl, rfl, rfl⟩, (Hp.le_refl _), fun w hs => hs⟩

noncomputable def fn_term_Same (xa : (Int × Int × Int × (List Int) × (List Int) × (List Int))) (xb : (Int × Int × Int × (List Int) × (List Int) × (List Int))) : Option Bool :=
  (cond (((decide (xa.1 = xb.1)) && (decide (xa.2.1 = xb.2.1))) && (decide (xa.2.2.1 = xb.2.2.1))) ((fn_slices_Equal_int_int xa.2.2.2.1 xb.2.2.2.1).bind fun t78 => some (t78)) (some (false))).bind fun t73 => (cond (t73) ((fn_slices_Equal_int_int xa.2.2.2.2.1 xb.2.2.2.2.1).bind fun t94 => some (t94)) (some (false))).bind fun t89 => (cond (t89) ((fn_slices_Equal_int_int xa.2.2.2.2.2 xb.2.2.2.2.2).bind fun t110 => some (t110)) (some (false))).bind fun t105 => some (t105)
set_option maxRecDepth 100000 in
set_option maxHeartbeats 4000000 in
theorem term_Same_ok {K : Hp} {xa : (Int × Int × Int × (List Int) × (List Int) × (List Int))} {xb : (Int × Int × Int × (List Int) × (List Int) × (List Int))} {adxa_3 : Option Addr} {cpxa_3 : Nat} {adxa_4 : Option Addr} {cpxa_4 : Nat} {adxa_5 : Option Addr} {cpxa_5 : Nat} {adxb_3 : Option Addr} {cpxb_3 : Nat} {adxb_4 : Option Addr} {cpxb_4 : Nat} {adxb_5 : Option Addr} {cpxb_5 : Nat} (fxa_3 : Is K (.sl (.int .i64)) [.slice adxa_3 xa.2.2.2.1.length cpxa_3] xa.2.2.2.1) (fxa_4 : Is K (.sl (.int .i64)) [.slice adxa_4 xa.2.2.2.2.1.length cpxa_4] xa.2.2.2.2.1) (fxa_5 : Is K (.sl (.int .i64)) [.slice adxa_5 xa.2.2.2.2.2.length cpxa_5] xa.2.2.2.2.2) (fxb_3 : Is K (.sl (.int .i64)) [.slice adxb_3 xb.2.2.2.1.length cpxb_3] xb.2.2.2.1) (fxb_4 : Is K (.sl (.int .i64)) [.slice adxb_4 xb.2.2.2.2.1.length cpxb_4] xb.2.2.2.2.1) (fxb_5 : Is K (.sl (.int .i64)) [.slice adxb_5 xb.2.2.2.2.2.length cpxb_5] xb.2.2.2.2.2) {r : Bool} (h : fn_term_Same xa xb = some r) :
    Tr Tryz.prog 86 #[.agg #[ii xa.1, ii xa.2.1, ii xa.2.2.1, .slice adxa_3 xa.2.2.2.1.length cpxa_3, .slice adxa_4 xa.2.2.2.2.1.length cpxa_4, .slice adxa_5 xa.2.2.2.2.2.length cpxa_5], .agg #[ii xb.1, ii xb.2.1, ii xb.2.2.1, .slice adxb_3 xb.2.2.2.1.length cpxb_3, .slice adxb_4 xb.2.2.2.2.1.length cpxb_4, .slice adxb_5 xb.2.2.2.2.2.length cpxb_5]] K [] (fun v K' L' => (∃ (t57 : Bool), t57 = r ∧ .bool t57 = v ∧ L' = []) ∧ K = K') := by
 refine Tr.k <| Tr.of Tryz.func86 rfl Tryz.ntmps86 rfl fun E F => ?_
 unfold fn_term_Same at h
 refine CJ.seq <| CJ.region <| jbx [ii xa.1, ii xa.2.1, ii xa.2.2.1, .slice adxa_3 xa.2.2.2.1.length cpxa_3, .slice adxa_4 xa.2.2.2.2.1.length cpxa_4, .slice adxa_5 xa.2.2.2.2.2.length cpxa_5] rfl rfl fun b58 => jbx [ii xb.1, ii xb.2.1, ii xb.2.2.1, .slice adxb_3 xb.2.2.2.1.length cpxb_3, .slice adxb_4 xb.2.2.2.2.1.length cpxb_4, .slice adxb_5 xb.2.2.2.2.2.length cpxb_5] rfl rfl fun b59 => ja (.bool false) rfl <| J.nil <| CJ.seq ?_
 refine CJ.region <| jv _ (V.fad Tryz.underlying68 rfl nz3 rfl) <| jv (ii xa.1) (V.ld rfl (Ld.sc sc3 (Rd.cl 1 rfl rfl))) <| jv _ (V.fad Tryz.underlying68 rfl nz3 rfl) <| jv (ii xb.1) (V.ld rfl (Ld.sc sc3 (Rd.cl 0 rfl rfl))) <| jv (.bool (decide (xa.1 = xb.1))) (V.eql rfl rfl) <| jm (.bool (decide (xa.1 = xb.1))) rfl ?_
 refine J.cut 6 <| jmeet [(16, .bool ((decide (xa.1 = xb.1)) && (decide (xa.2.1 = xb.2.1)))), (2, .pointer (some ⟨b58, 0, none⟩)), (3, .pointer (some ⟨b59, 0, none⟩))] ?_ ?_
 · rcases bt (decide (xa.1 = xb.1)) with hc62 | hc62
   · refine J.run rfl rfl rfl hc62 <| jv _ (V.fad Tryz.underlying68 rfl nz3 rfl) <| J.run rfl rfl rfl hc62 <| jv (ii xa.2.1) (V.ld rfl (Ld.sc sc3 (Rd.cl 1 rfl rfl))) <| J.run rfl rfl rfl hc62 <| jv _ (V.fad Tryz.underlying68 rfl nz3 rfl) <| J.run rfl rfl rfl hc62 ?_
     refine jv (ii xb.2.1) (V.ld rfl (Ld.sc sc3 (Rd.cl 0 rfl rfl))) <| J.run rfl rfl rfl hc62 <| jv (.bool (decide (xa.2.1 = xb.2.1))) (V.eql rfl rfl) <| jv (.bool (decide (xa.2.1 = xb.2.1))) (V.pickT rfl hc62 rfl) <| J.nil ?_
     exact ⟨rfl, ⟨(by simp only [hc62]; rfl), rfl, rfl, trivial⟩, rfl, rfl⟩
   refine J.skip rfl rfl rfl rfl hc62 <| J.skip rfl rfl rfl rfl hc62 <| J.skip rfl rfl rfl rfl hc62 <| J.skip rfl rfl rfl rfl hc62 <| J.skip rfl rfl rfl rfl hc62 <| jv (.bool false) (V.pickF rfl hc62 rfl) <| J.nil ?_
   exact ⟨rfl, ⟨(by simp only [hc62]; rfl), rfl, rfl, trivial⟩, rfl, rfl⟩
 intro ρ
 refine jm (.bool ((decide (xa.1 = xb.1)) && (decide (xa.2.1 = xb.2.1)))) rfl <| J.cut 6 <| jmeet [(23, .bool (((decide (xa.1 = xb.1)) && (decide (xa.2.1 = xb.2.1))) && (decide (xa.2.2.1 = xb.2.2.1)))), (2, .pointer (some ⟨b58, 0, none⟩)), (3, .pointer (some ⟨b59, 0, none⟩))] ?_ ?_
 · rcases bt ((decide (xa.1 = xb.1)) && (decide (xa.2.1 = xb.2.1))) with hc65 | hc65
   · refine J.run rfl rfl rfl hc65 <| jv _ (V.fad Tryz.underlying68 rfl nz3 rfl) <| J.run rfl rfl rfl hc65 <| jv (ii xa.2.2.1) (V.ld rfl (Ld.sc sc3 (Rd.cl 1 rfl rfl))) <| J.run rfl rfl rfl hc65 <| jv _ (V.fad Tryz.underlying68 rfl nz3 rfl) <| J.run rfl rfl rfl hc65 ?_
     refine jv (ii xb.2.2.1) (V.ld rfl (Ld.sc sc3 (Rd.cl 0 rfl rfl))) <| J.run rfl rfl rfl hc65 <| jv (.bool (decide (xa.2.2.1 = xb.2.2.1))) (V.eql rfl rfl) <| jv (.bool (decide (xa.2.2.1 = xb.2.2.1))) (V.pickT rfl hc65 rfl) <| J.nil ?_
     exact ⟨rfl, ⟨(by simp only [hc65]; rfl), rfl, rfl, trivial⟩, rfl, rfl⟩
   refine J.skip rfl rfl rfl rfl hc65 <| J.skip rfl rfl rfl rfl hc65 <| J.skip rfl rfl rfl rfl hc65 <| J.skip rfl rfl rfl rfl hc65 <| J.skip rfl rfl rfl rfl hc65 <| jv (.bool false) (V.pickF rfl hc65 rfl) <| J.nil ?_
   exact ⟨rfl, ⟨(by simp only [hc65]; rfl), rfl, rfl, trivial⟩, rfl, rfl⟩
 intro ρ
 refine jm (.bool (((decide (xa.1 = xb.1)) && (decide (xa.2.1 = xb.2.1))) && (decide (xa.2.2.1 = xb.2.2.1)))) rfl <| J.cut 6 ?_
 obtain ⟨t73, ht74, h⟩ := ob h
 refine jmeet [(30, .bool t73), (2, .pointer (some ⟨b58, 0, none⟩)), (3, .pointer (some ⟨b59, 0, none⟩))] ?_ ?_
 · rcases bt (((decide (xa.1 = xb.1)) && (decide (xa.2.1 = xb.2.1))) && (decide (xa.2.2.1 = xb.2.2.1))) with hc75 | hc75
   · have ht74 := ct hc75 ht74
     refine J.run rfl rfl rfl hc75 <| jv _ (V.fad Tryz.underlying68 rfl nz66 rfl) <| J.run rfl rfl rfl hc75 <| jv (.slice adxa_3 xa.2.2.2.1.length cpxa_3) (V.ld rfl (Ld.sc sc66 (Rd.cl 1 rfl rfl))) <| J.run rfl rfl rfl hc75 <| jv _ (V.fad Tryz.underlying68 rfl nz66 rfl) <| J.run rfl rfl rfl hc75 ?_
     refine jv (.slice adxb_3 xb.2.2.2.1.length cpxb_3) (V.ld rfl (Ld.sc sc66 (Rd.cl 0 rfl rfl))) <| J.run rfl rfl rfl hc75 ?_
     obtain ⟨r76, hr77, ht74⟩ := ob ht74
     refine J.op rfl (A.call (L1 := []) Tryz.call104 rfl (slices_Equal_int_int_ok fxa_3 fxb_3 hr77) rfl rfl) ?_
     rintro _ _ _ ⟨v79, _, rfl, ⟨⟨t78, rfl, rfl, rfl⟩, rfl⟩, _, rfl⟩
     refine jv (.bool t78) (V.pickT rfl hc75 rfl) <| J.nil ?_
     obtain rfl := si ht74
     exact ⟨rfl, ⟨rfl, rfl, rfl, trivial⟩, rfl, rfl⟩
   have ht74 := cf hc75 ht74
   refine J.skip rfl rfl rfl rfl hc75 <| J.skip rfl rfl rfl rfl hc75 <| J.skip rfl rfl rfl rfl hc75 <| J.skip rfl rfl rfl rfl hc75 <| J.skip rfl rfl rfl rfl hc75 <| jv (.bool false) (V.pickF rfl hc75 rfl) <| J.nil ?_
   obtain rfl := si ht74
   exact ⟨rfl, ⟨rfl, rfl, rfl, trivial⟩, rfl, rfl⟩
 intro ρ
 refine jm (.bool t73) rfl <| J.cut 6 ?_
 obtain ⟨t89, ht90, h⟩ := ob h
 refine jmeet [(37, .bool t89), (2, .pointer (some ⟨b58, 0, none⟩)), (3, .pointer (some ⟨b59, 0, none⟩))] ?_ ?_
 · rcases bt (t73) with hc91 | hc91
   · have ht90 := ct hc91 ht90
     refine J.run rfl rfl rfl hc91 <| jv _ (V.fad Tryz.underlying68 rfl nz66 rfl) <| J.run rfl rfl rfl hc91 <| jv (.slice adxa_4 xa.2.2.2.2.1.length cpxa_4) (V.ld rfl (Ld.sc sc66 (Rd.cl 1 rfl rfl))) <| J.run rfl rfl rfl hc91 <| jv _ (V.fad Tryz.underlying68 rfl nz66 rfl) <| J.run rfl rfl rfl hc91 ?_
     refine jv (.slice adxb_4 xb.2.2.2.2.1.length cpxb_4) (V.ld rfl (Ld.sc sc66 (Rd.cl 0 rfl rfl))) <| J.run rfl rfl rfl hc91 ?_
     obtain ⟨r92, hr93, ht90⟩ := ob ht90
     refine J.op rfl (A.call (L1 := []) Tryz.call104 rfl (slices_Equal_int_int_ok fxa_4 fxb_4 hr93) rfl rfl) ?_
     rintro _ _ _ ⟨v95, _, rfl, ⟨⟨t94, rfl, rfl, rfl⟩, rfl⟩, _, rfl⟩
     refine jv (.bool t94) (V.pickT rfl hc91 rfl) <| J.nil ?_
     obtain rfl := si ht90
     exact ⟨rfl, ⟨rfl, rfl, rfl, trivial⟩, rfl, rfl⟩
   have ht90 := cf hc91 ht90
   refine J.skip rfl rfl rfl rfl hc91 <| J.skip rfl rfl rfl rfl hc91 <| J.skip rfl rfl rfl rfl hc91 <| J.skip rfl rfl rfl rfl hc91 <| J.skip rfl rfl rfl rfl hc91 <| jv (.bool false) (V.pickF rfl hc91 rfl) <| J.nil ?_
   obtain rfl := si ht90
   exact ⟨rfl, ⟨rfl, rfl, rfl, trivial⟩, rfl, rfl⟩
 intro ρ
 refine jm (.bool t89) rfl <| J.cut 6 ?_
 obtain ⟨t105, ht106, h⟩ := ob h
 refine jmeet [(44, .bool t105)] ?_ ?_
 · rcases bt (t89) with hc107 | hc107
   · have ht106 := ct hc107 ht106
     refine J.run rfl rfl rfl hc107 <| jv _ (V.fad Tryz.underlying68 rfl nz66 rfl) <| J.run rfl rfl rfl hc107 <| jv (.slice adxa_5 xa.2.2.2.2.2.length cpxa_5) (V.ld rfl (Ld.sc sc66 (Rd.cl 1 rfl rfl))) <| J.run rfl rfl rfl hc107 <| jv _ (V.fad Tryz.underlying68 rfl nz66 rfl) <| J.run rfl rfl rfl hc107 ?_
     refine jv (.slice adxb_5 xb.2.2.2.2.2.length cpxb_5) (V.ld rfl (Ld.sc sc66 (Rd.cl 0 rfl rfl))) <| J.run rfl rfl rfl hc107 ?_
     obtain ⟨r108, hr109, ht106⟩ := ob ht106
     refine J.op rfl (A.call (L1 := []) Tryz.call104 rfl (slices_Equal_int_int_ok fxa_5 fxb_5 hr109) rfl rfl) ?_
     rintro _ _ _ ⟨v111, _, rfl, ⟨⟨t110, rfl, rfl, rfl⟩, rfl⟩, _, rfl⟩
     refine jv (.bool t110) (V.pickT rfl hc107 rfl) <| J.nil ?_
     obtain rfl := si ht106
     exact ⟨rfl, ⟨rfl, trivial⟩, rfl, rfl⟩
   have ht106 := cf hc107 ht106
   refine J.skip rfl rfl rfl rfl hc107 <| J.skip rfl rfl rfl rfl hc107 <| J.skip rfl rfl rfl rfl hc107 <| J.skip rfl rfl rfl rfl hc107 <| J.skip rfl rfl rfl rfl hc107 <| jv (.bool false) (V.pickF rfl hc107 rfl) <| J.nil ?_
   obtain rfl := si ht106
   exact ⟨rfl, ⟨rfl, trivial⟩, rfl, rfl⟩
 intro ρ
 refine ja (.bool t105) rfl <| J.nil <| CJ.ret ?_
 obtain rfl := si h
 exact ⟨_, _, Res.one rfl rfl, ⟨t105, rfl, rfl, rfl⟩, (Hp.le_refl _), fun w hs => (Sep.dropAt 0 rfl (Sep.dropAt 0 rfl hs))⟩

noncomputable def fn_body_sameBlock (xa : ((List (Int × Int × Int × Int × Bool)) × (Int × Int × Int × (List Int) × (List Int) × (List Int)))) (xb : ((List (Int × Int × Int × Int × Bool)) × (Int × Int × Int × (List Int) × (List Int) × (List Int)))) : Option Bool :=
  (fn_slices_Equal_api_Stmt_api_Stmt xa.1 xb.1).bind fun t30 => (cond (t30) ((fn_term_Same (xa.2.1, xa.2.2.1, xa.2.2.2.1, xa.2.2.2.2.1, xa.2.2.2.2.2.1, xa.2.2.2.2.2.2) (xb.2.1, xb.2.2.1, xb.2.2.2.1, xb.2.2.2.2.1, xb.2.2.2.2.2.1, xb.2.2.2.2.2.2)).bind fun t46 => some (t46)) (some (false))).bind fun t41 => some (t41)
set_option maxRecDepth 100000 in
set_option maxHeartbeats 4000000 in
theorem body_sameBlock_ok {K : Hp} {xa : ((List (Int × Int × Int × Int × Bool)) × (Int × Int × Int × (List Int) × (List Int) × (List Int)))} {xb : ((List (Int × Int × Int × Int × Bool)) × (Int × Int × Int × (List Int) × (List Int) × (List Int)))} {adxa_0 : Option Addr} {cpxa_0 : Nat} {adxa_4 : Option Addr} {cpxa_4 : Nat} {adxa_5 : Option Addr} {cpxa_5 : Nat} {adxa_6 : Option Addr} {cpxa_6 : Nat} {adxb_0 : Option Addr} {cpxb_0 : Nat} {adxb_4 : Option Addr} {cpxb_4 : Nat} {adxb_5 : Option Addr} {cpxb_5 : Nat} {adxb_6 : Option Addr} {cpxb_6 : Nat} (fxa_0 : Is K (.sl (.cons (.int .i64) (.cons (.int .i64) (.cons (.int .i64) (.cons (.int .i64) (.one .bool)))))) [.slice adxa_0 xa.1.length cpxa_0] xa.1) (fxa_4 : Is K (.sl (.int .i64)) [.slice adxa_4 xa.2.2.2.2.1.length cpxa_4] xa.2.2.2.2.1) (fxa_5 : Is K (.sl (.int .i64)) [.slice adxa_5 xa.2.2.2.2.2.1.length cpxa_5] xa.2.2.2.2.2.1) (fxa_6 : Is K (.sl (.int .i64)) [.slice adxa_6 xa.2.2.2.2.2.2.length cpxa_6] xa.2.2.2.2.2.2) (fxb_0 : Is K (.sl (.cons (.int .i64) (.cons (.int .i64) (.cons (.int .i64) (.cons (.int .i64) (.one .bool)))))) [.slice adxb_0 xb.1.length cpxb_0] xb.1) (fxb_4 : Is K (.sl (.int .i64)) [.slice adxb_4 xb.2.2.2.2.1.length cpxb_4] xb.2.2.2.2.1) (fxb_5 : Is K (.sl (.int .i64)) [.slice adxb_5 xb.2.2.2.2.2.1.length cpxb_5] xb.2.2.2.2.2.1) (fxb_6 : Is K (.sl (.int .i64)) [.slice adxb_6 xb.2.2.2.2.2.2.length cpxb_6] xb.2.2.2.2.2.2) {r : Bool} (h : fn_body_sameBlock xa xb = some r) :
    Tr Tryz.prog 47 #[.agg #[.slice adxa_0 xa.1.length cpxa_0, ii xa.2.1, ii xa.2.2.1, ii xa.2.2.2.1, .slice adxa_4 xa.2.2.2.2.1.length cpxa_4, .slice adxa_5 xa.2.2.2.2.2.1.length cpxa_5, .slice adxa_6 xa.2.2.2.2.2.2.length cpxa_6], .agg #[.slice adxb_0 xb.1.length cpxb_0, ii xb.2.1, ii xb.2.2.1, ii xb.2.2.2.1, .slice adxb_4 xb.2.2.2.2.1.length cpxb_4, .slice adxb_5 xb.2.2.2.2.2.1.length cpxb_5, .slice adxb_6 xb.2.2.2.2.2.2.length cpxb_6]] K [] (fun v K' L' => (∃ (t25 : Bool), t25 = r ∧ .bool t25 = v ∧ L' = []) ∧ K = K') := by
 refine Tr.k <| Tr.of Tryz.func47 rfl Tryz.ntmps47 rfl fun E F => ?_
 unfold fn_body_sameBlock at h
 refine CJ.seq <| CJ.region <| jbx [.slice adxa_0 xa.1.length cpxa_0, ii xa.2.1, ii xa.2.2.1, ii xa.2.2.2.1, .slice adxa_4 xa.2.2.2.2.1.length cpxa_4, .slice adxa_5 xa.2.2.2.2.2.1.length cpxa_5, .slice adxa_6 xa.2.2.2.2.2.2.length cpxa_6] rfl rfl fun b26 => jbx [.slice adxb_0 xb.1.length cpxb_0, ii xb.2.1, ii xb.2.2.1, ii xb.2.2.2.1, .slice adxb_4 xb.2.2.2.2.1.length cpxb_4, .slice adxb_5 xb.2.2.2.2.2.1.length cpxb_5, .slice adxb_6 xb.2.2.2.2.2.2.length cpxb_6] rfl rfl fun b27 => ja (.bool false) rfl <| J.nil <| CJ.seq ?_
 refine CJ.region <| jv _ (V.fad Tryz.underlying70 rfl nz65 rfl) <| jv (.slice adxa_0 xa.1.length cpxa_0) (V.ld rfl (Ld.sc sc65 (Rd.cl 1 rfl rfl))) <| jv _ (V.fad Tryz.underlying70 rfl nz65 rfl) <| jv (.slice adxb_0 xb.1.length cpxb_0) (V.ld rfl (Ld.sc sc65 (Rd.cl 0 rfl rfl))) ?_
 obtain ⟨r28, hr29, h⟩ := ob h
 refine J.op rfl (A.call (L1 := []) Tryz.call85 rfl (slices_Equal_api_Stmt_api_Stmt_ok fxa_0 fxb_0 hr29) rfl rfl) ?_
 rintro _ _ _ ⟨v31, _, rfl, ⟨⟨t30, rfl, rfl, rfl⟩, rfl⟩, _, rfl⟩
 refine jm (.bool t30) rfl <| J.cut 6 ?_
 obtain ⟨t41, ht42, h⟩ := ob h
 refine jmeet [(16, .bool t41)] ?_ ?_
 · rcases bt (t30) with hc43 | hc43
   · have ht42 := ct hc43 ht42
     refine J.run rfl rfl rfl hc43 <| jv _ (V.fad Tryz.underlying70 rfl nz68 rfl) <| J.run rfl rfl rfl hc43 <| jv (.agg #[ii xa.2.1, ii xa.2.2.1, ii xa.2.2.2.1, .slice adxa_4 xa.2.2.2.2.1.length cpxa_4, .slice adxa_5 xa.2.2.2.2.2.1.length cpxa_5, .slice adxa_6 xa.2.2.2.2.2.2.length cpxa_6]) (V.ld rfl (Ld.agg (cs := [ii xa.2.1, ii xa.2.2.1, ii xa.2.2.2.1, .slice adxa_4 xa.2.2.2.2.1.length cpxa_4, .slice adxa_5 xa.2.2.2.2.2.1.length cpxa_5, .slice adxa_6 xa.2.2.2.2.2.2.length cpxa_6]) Tryz.underlying68 sz68 rfl (Rd.cls 1 1 rfl rfl))) <| J.run rfl rfl rfl hc43 <| jv _ (V.fad Tryz.underlying70 rfl nz68 rfl) <| J.run rfl rfl rfl hc43 ?_
     refine jv (.agg #[ii xb.2.1, ii xb.2.2.1, ii xb.2.2.2.1, .slice adxb_4 xb.2.2.2.2.1.length cpxb_4, .slice adxb_5 xb.2.2.2.2.2.1.length cpxb_5, .slice adxb_6 xb.2.2.2.2.2.2.length cpxb_6]) (V.ld rfl (Ld.agg (cs := [ii xb.2.1, ii xb.2.2.1, ii xb.2.2.2.1, .slice adxb_4 xb.2.2.2.2.1.length cpxb_4, .slice adxb_5 xb.2.2.2.2.2.1.length cpxb_5, .slice adxb_6 xb.2.2.2.2.2.2.length cpxb_6]) Tryz.underlying68 sz68 rfl (Rd.cls 0 1 rfl rfl))) <| J.run rfl rfl rfl hc43 ?_
     obtain ⟨r44, hr45, ht42⟩ := ob ht42
     refine J.op rfl (A.call (L1 := []) Tryz.call86 rfl (term_Same_ok fxa_4 fxa_5 fxa_6 fxb_4 fxb_5 fxb_6 hr45) rfl rfl) ?_
     rintro _ _ _ ⟨v47, _, rfl, ⟨⟨t46, rfl, rfl, rfl⟩, rfl⟩, _, rfl⟩
     refine jv (.bool t46) (V.pickT rfl hc43 rfl) <| J.nil ?_
     obtain rfl := si ht42
     exact ⟨rfl, ⟨rfl, trivial⟩, rfl, rfl⟩
   have ht42 := cf hc43 ht42
   refine J.skip rfl rfl rfl rfl hc43 <| J.skip rfl rfl rfl rfl hc43 <| J.skip rfl rfl rfl rfl hc43 <| J.skip rfl rfl rfl rfl hc43 <| J.skip rfl rfl rfl rfl hc43 <| jv (.bool false) (V.pickF rfl hc43 rfl) <| J.nil ?_
   obtain rfl := si ht42
   exact ⟨rfl, ⟨rfl, trivial⟩, rfl, rfl⟩
 intro ρ
 refine ja (.bool t41) rfl <| J.nil <| CJ.ret ?_
 obtain rfl := si h
 exact ⟨_, _, Res.one rfl rfl, ⟨t41, rfl, rfl, rfl⟩, (Hp.le_refl _), fun w hs => (Sep.dropAt 0 rfl (Sep.dropAt 0 rfl hs))⟩
noncomputable def fn_slices_EqualFunc_api_Block_api_Block_api_Block_api_Block_kk_body_sameBlock_l1 (xa : (List ((List (Int × Int × Int × Int × Bool)) × (Int × Int × Int × (List Int) × (List Int) × (List Int))))) (xb : (List ((List (Int × Int × Int × Int × Bool)) × (Int × Int × Int × (List Int) × (List Int) × (List Int))))) : Int → Option (Int ⊕ (Unit ⊕ Bool)) := fun (i633 : Int) => cond (decide (i633 < (((xa.length : Nat) : Int)))) ((getI xa i633).bind fun x700 => (getI xb i633).bind fun x726 => (fn_body_sameBlock ((x700.1, (x700.2.1, x700.2.2.1, x700.2.2.2.1, x700.2.2.2.2.1, x700.2.2.2.2.2.1, x700.2.2.2.2.2.2))) ((x726.1, (x726.2.1, x726.2.2.1, x726.2.2.2.1, x726.2.2.2.2.1, x726.2.2.2.2.2.1, x726.2.2.2.2.2.2)))).bind fun t754 => cond (!t754) (some (.inr ((.inr (false))))) (some (.inl (IntKind.wrap .i64 (i633 + 1))))) (some (.inr ((.inl ()))))
noncomputable def fn_slices_EqualFunc_api_Block_api_Block_api_Block_api_Block_kk_body_sameBlock (xa : (List ((List (Int × Int × Int × Int × Bool)) × (Int × Int × Int × (List Int) × (List Int) × (List Int))))) (xb : (List ((List (Int × Int × Int × Int × Bool)) × (Int × Int × Int × (List Int) × (List Int) × (List Int))))) : Option Bool :=
  cond (!decide ((((xa.length : Nat) : Int)) = (((xb.length : Nat) : Int)))) (some (false)) ((loop (fn_slices_EqualFunc_api_Block_api_Block_api_Block_api_Block_kk_body_sameBlock_l1 xa xb) 0 : Option (Unit ⊕ Bool)).bind fun o => match o with | .inr r => some r | .inl () => some (true))
set_option maxRecDepth 100000 in
set_option maxHeartbeats 4000000 in
theorem slices_EqualFunc_api_Block_api_Block_api_Block_api_Block_kk_body_sameBlock_ok {K : Hp} {xa : (List ((List (Int × Int × Int × Int × Bool)) × (Int × Int × Int × (List Int) × (List Int) × (List Int))))} {xb : (List ((List (Int × Int × Int × Int × Bool)) × (Int × Int × Int × (List Int) × (List Int) × (List Int))))} {adxa_0 : Option Addr} {cpxa_0 : Nat} {adxb_0 : Option Addr} {cpxb_0 : Nat} (fxa_0 : Is K (.sl (.cons (.sl (.cons (.int .i64) (.cons (.int .i64) (.cons (.int .i64) (.cons (.int .i64) (.one .bool)))))) (.one (.cons (.int .i64) (.cons (.int .i64) (.cons (.int .i64) (.cons (.sl (.int .i64)) (.cons (.sl (.int .i64)) (.one (.sl (.int .i64))))))))))) [.slice adxa_0 xa.length cpxa_0] xa) (fxb_0 : Is K (.sl (.cons (.sl (.cons (.int .i64) (.cons (.int .i64) (.cons (.int .i64) (.cons (.int .i64) (.one .bool)))))) (.one (.cons (.int .i64) (.cons (.int .i64) (.cons (.int .i64) (.cons (.sl (.int .i64)) (.cons (.sl (.int .i64)) (.one (.sl (.int .i64))))))))))) [.slice adxb_0 xb.length cpxb_0] xb) {r : Bool} (h : fn_slices_EqualFunc_api_Block_api_Block_api_Block_api_Block_kk_body_sameBlock xa xb = some r) :
    Tr Tryz.prog 46 #[.slice adxa_0 xa.length cpxa_0, .slice adxb_0 xb.length cpxb_0, .func (.func 47) #[] #[]] K [] (fun v K' L' => (∃ (t381 : Bool), t381 = r ∧ .bool t381 = v ∧ L' = []) ∧ K = K') := by
 refine Tr.k <| Tr.of Tryz.func46 rfl Tryz.ntmps46 rfl fun E F => ?_
 unfold fn_slices_EqualFunc_api_Block_api_Block_api_Block_api_Block_kk_body_sameBlock at h
 refine CJ.seq <| CJ.region <| ja (.bool false) rfl <| J.nil <| CJ.seq <| CJ.seq <| CJ.region ?_
 refine jm (.slice adxa_0 xa.length cpxa_0) rfl <| jv (ii (((xa.length : Nat) : Int))) (V.len Tryz.underlying32 rfl) <| jm (.slice adxb_0 xb.length cpxb_0) rfl <| jv (ii (((xb.length : Nat) : Int))) (V.len Tryz.underlying32 rfl) <| jv (.bool (!decide ((((xa.length : Nat) : Int)) = (((xb.length : Nat) : Int))))) (V.neq rfl rfl) <| J.nil <| cc rfl h (fun hc382 h => ?_) fun hc382 h => ?_
 · refine CJ.seq <| CJ.region <| ja (.bool false) rfl <| J.nil <| CJ.ret ?_
   obtain rfl := si h
   exact ⟨_, _, Res.one rfl rfl, ⟨false, rfl, rfl, rfl⟩, (Hp.le_refl _), fun w hs => hs⟩
 refine CJ.skip <| CJ.seq <| CJ.seq <| CJ.region <| jm (.slice adxa_0 xa.length cpxa_0) rfl <| jv (ii (((xa.length : Nat) : Int))) (V.len Tryz.underlying32 rfl) <| jm (ii 0) rfl ?_
 refine J.nil ?_
 obtain ⟨o570, ho571, h⟩ := ob h
 refine CJ.joinN (o := o570) (fun s ρ K' L' => () = s ∧ Fits [] ρ ∧ K = K' ∧ F = L') ?_ ?_
 · refine CJ.block <| CJ.loop (fun s ρ K' L' => ∃ (i633 : Int), i633 = s ∧ Fits [(1, .slice adxb_0 xb.length cpxb_0), (2, .func (.func 47) #[] #[]), (15, .slice adxa_0 xa.length cpxa_0), (16, ii (((xa.length : Nat) : Int))), (17, ii i633)] ρ ∧ K = K' ∧ F = L') ho571 ⟨0, rfl, ⟨rfl, rfl, rfl, rfl, rfl, trivial⟩, rfl, rfl⟩ ?_
   rintro s ρ _ _ r698 ⟨i633, rfl, hf696, rfl, rfl⟩ h695
   obtain ⟨ρ, rfl⟩ := hf696.ex
   refine CJ.seq <| CJ.region <| jv (.bool (decide (i633 < (((xa.length : Nat) : Int))))) (V.lss rfl rfl) <| J.nil <| CJ.seq <| cc rfl h695 (fun hc699 h695 => ?_) fun hc699 h695 => ?_
   · refine CJ.skip <| CJ.seq <| CJ.block <| CJ.seq <| CJ.region <| jm (ii i633) rfl ?_
     obtain ⟨x700, hx701, h695⟩ := ob h695
     obtain ⟨p702, p703, p704⟩ := getI_some hx701
     obtain ⟨b705, o706, e707, a708⟩ := (fxa_0).at p703
     refine jv _ (V.iad Tryz.underlying32 sz70 rfl e707 rfl p702 p704) ?_
     obtain ⟨ad709, cp710, c711, f712⟩ := ((a708).fst).sl
     obtain ⟨ad713, cp714, c715, f716⟩ := (((((((a708).snd).one).snd).snd).snd).fst).sl
     obtain ⟨ad717, cp718, c719, f720⟩ := ((((((((a708).snd).one).snd).snd).snd).snd).fst).sl
     obtain ⟨ad721, cp722, c723, f724⟩ := (((((((((a708).snd).one).snd).snd).snd).snd).snd).one).sl
     refine jv (.agg #[.slice ad709 x700.1.length cp710, ii x700.2.1, ii x700.2.2.1, ii x700.2.2.2.1, .slice ad713 x700.2.2.2.2.1.length cp714, .slice ad717 x700.2.2.2.2.2.1.length cp718, .slice ad721 x700.2.2.2.2.2.2.length cp722]) (V.ld rfl (Ld.aggK (cs := [.slice ad709 x700.1.length cp710, ii x700.2.1, ii x700.2.2.1, ii x700.2.2.2.1, .slice ad713 x700.2.2.2.2.1.length cp714, .slice ad717 x700.2.2.2.2.2.1.length cp718, .slice ad721 x700.2.2.2.2.2.2.length cp722]) Tryz.underlying70 sz70 rfl ⟨c711, ((((a708).snd).one).fst).int, (((((a708).snd).one).snd).fst).int, ((((((a708).snd).one).snd).snd).fst).int, c715, c719, c723, trivial⟩ (Hp.le_refl _))) <| jal inf70 [.slice none 0 0, ii 0, ii 0, ii 0, .slice none 0 0, .slice none 0 0, .slice none 0 0] rfl fun b725 => ja (ii i633) rfl <| js [.slice ad709 x700.1.length cp710, ii x700.2.1, ii x700.2.2.1, ii x700.2.2.2.1, .slice ad713 x700.2.2.2.2.1.length cp714, .slice ad717 x700.2.2.2.2.2.1.length cp718, .slice ad721 x700.2.2.2.2.2.2.length cp722] sz70 rfl rfl rfl rfl rfl rfl <| J.nil <| CJ.seq <| CJ.region ?_
     refine jm (.slice adxb_0 xb.length cpxb_0) rfl <| jm (ii i633) rfl ?_
     obtain ⟨x726, hx727, h695⟩ := ob h695
     obtain ⟨p728, p729, p730⟩ := getI_some hx727
     obtain ⟨b731, o732, e733, a734⟩ := (fxb_0).at p729
     refine jv _ (V.iad Tryz.underlying32 sz70 rfl e733 rfl p728 p730) ?_
     obtain ⟨ad735, cp736, c737, f738⟩ := ((a734).fst).sl
     obtain ⟨ad739, cp740, c741, f742⟩ := (((((((a734).snd).one).snd).snd).snd).fst).sl
     obtain ⟨ad743, cp744, c745, f746⟩ := ((((((((a734).snd).one).snd).snd).snd).snd).fst).sl
     obtain ⟨ad747, cp748, c749, f750⟩ := (((((((((a734).snd).one).snd).snd).snd).snd).snd).one).sl
     refine jv (.agg #[.slice ad735 x726.1.length cp736, ii x726.2.1, ii x726.2.2.1, ii x726.2.2.2.1, .slice ad739 x726.2.2.2.2.1.length cp740, .slice ad743 x726.2.2.2.2.2.1.length cp744, .slice ad747 x726.2.2.2.2.2.2.length cp748]) (V.ld rfl (Ld.aggK (cs := [.slice ad735 x726.1.length cp736, ii x726.2.1, ii x726.2.2.1, ii x726.2.2.2.1, .slice ad739 x726.2.2.2.2.1.length cp740, .slice ad743 x726.2.2.2.2.2.1.length cp744, .slice ad747 x726.2.2.2.2.2.2.length cp748]) Tryz.underlying70 sz70 rfl ⟨c737, ((((a734).snd).one).fst).int, (((((a734).snd).one).snd).fst).int, ((((((a734).snd).one).snd).snd).fst).int, c741, c745, c749, trivial⟩ (Hp.le_refl _))) <| jal inf70 [.slice none 0 0, ii 0, ii 0, ii 0, .slice none 0 0, .slice none 0 0, .slice none 0 0] rfl fun b751 => js [.slice ad735 x726.1.length cp736, ii x726.2.1, ii x726.2.2.1, ii x726.2.2.2.1, .slice ad739 x726.2.2.2.2.1.length cp740, .slice ad743 x726.2.2.2.2.2.1.length cp744, .slice ad747 x726.2.2.2.2.2.2.length cp748] sz70 rfl rfl rfl rfl rfl rfl <| J.nil <| CJ.seq <| CJ.region <| jm (.func (.func 47) #[] #[]) rfl ?_
     refine jv (.agg #[.slice ad709 x700.1.length cp710, ii x700.2.1, ii x700.2.2.1, ii x700.2.2.2.1, .slice ad713 x700.2.2.2.2.1.length cp714, .slice ad717 x700.2.2.2.2.2.1.length cp718, .slice ad721 x700.2.2.2.2.2.2.length cp722]) (V.ld rfl (Ld.agg (cs := [.slice ad709 x700.1.length cp710, ii x700.2.1, ii x700.2.2.1, ii x700.2.2.2.1, .slice ad713 x700.2.2.2.2.1.length cp714, .slice ad717 x700.2.2.2.2.2.1.length cp718, .slice ad721 x700.2.2.2.2.2.2.length cp722]) Tryz.underlying70 sz70 rfl (Rd.cls 1 0 rfl rfl))) <| jv (.agg #[.slice ad735 x726.1.length cp736, ii x726.2.1, ii x726.2.2.1, ii x726.2.2.2.1, .slice ad739 x726.2.2.2.2.1.length cp740, .slice ad743 x726.2.2.2.2.2.1.length cp744, .slice ad747 x726.2.2.2.2.2.2.length cp748]) (V.ld rfl (Ld.agg (cs := [.slice ad735 x726.1.length cp736, ii x726.2.1, ii x726.2.2.1, ii x726.2.2.2.1, .slice ad739 x726.2.2.2.2.1.length cp740, .slice ad743 x726.2.2.2.2.2.1.length cp744, .slice ad747 x726.2.2.2.2.2.2.length cp748]) Tryz.underlying70 sz70 rfl (Rd.cls 0 0 rfl rfl))) ?_
     obtain ⟨r752, hr753, h695⟩ := ob h695
     refine J.op rfl (A.call (L1 := []) Tryz.call47 rfl (body_sameBlock_ok f712 f716 f720 f724 f738 f742 f746 f750 hr753) rfl rfl) ?_
     rintro _ _ _ ⟨v755, _, rfl, ⟨⟨t754, rfl, rfl, rfl⟩, rfl⟩, _, rfl⟩
     refine jv (.bool (!t754)) (V.not rfl) <| J.nil <| cc rfl h695 (fun hc758 h695 => ?_) fun hc758 h695 => ?_
     · refine CJ.seq <| CJ.region <| ja (.bool false) rfl <| J.nil <| CJ.ret ?_
       obtain rfl := si h695
       refine ⟨nofun, fun e => ?_⟩
       subst e
       refine .inr ⟨nofun, ?_⟩
       obtain rfl := si h
       exact ⟨_, _, Res.one rfl rfl, ⟨false, rfl, rfl, rfl⟩, (Hp.le_refl _), fun w hs => (Sep.dropAt 0 rfl (Sep.dropAt 0 rfl hs))⟩
     refine CJ.skip <| CJ.region <| jv (ii (IntKind.wrap .i64 (i633 + 1))) (V.add rfl rfl) <| jm (ii (IntKind.wrap .i64 (i633 + 1))) rfl <| J.dropAt 0 rfl <| J.dropAt 0 rfl <| J.nil ?_
     obtain rfl := si h695
     exact ⟨rfl, ⟨IntKind.wrap .i64 (i633 + 1), rfl, ⟨rfl, rfl, rfl, rfl, rfl, trivial⟩, rfl, rfl⟩⟩
   refine CJ.exit ?_
   obtain rfl := si h695
   refine ⟨nofun, fun e => ?_⟩
   subst e
   exact .inl ⟨rfl, _, rfl, ⟨rfl, trivial, rfl, rfl⟩⟩
 rintro s ρ _ _ ho759 ⟨rfl, hf760, rfl, rfl⟩
 subst ho759
 obtain ⟨ρ, rfl⟩ := hf760.ex
 refine PJ.done <| CJ.seq <| CJ.region <| ja (.bool true) rfl <| J.nil <| CJ.ret ?_
 obtain rfl := si h
 exact ⟨_, _, Res.one rfl rfl, ⟨true, rfl, rfl, rfl⟩, (Hp.le_refl _), fun w hs => hs⟩

noncomputable def fn_body_Same (xa : (Int × Int × (List (Int × Int)) × (List (List (Int × Bool))) × (List (Int × Bool)) × (List (Int × (List (Int × Int)) × (List (List (Int × Bool))) × (List (Int × Bool)))) × (List ((List (Int × Int × Int × Int × Bool)) × (Int × Int × Int × (List Int) × (List Int) × (List Int)))))) (xb : (Int × Int × (List (Int × Int)) × (List (List (Int × Bool))) × (List (Int × Bool)) × (List (Int × (List (Int × Int)) × (List (List (Int × Bool))) × (List (Int × Bool)))) × (List ((List (Int × Int × Int × Int × Bool)) × (Int × Int × Int × (List Int) × (List Int) × (List Int)))))) : Option Bool :=
  (cond ((decide (xa.1 = xb.1)) && (decide (xa.2.1 = xb.2.1))) ((fn_slices_Equal_api_Bound_api_Bound xa.2.2.1 xb.2.2.1).bind fun t104 => some (t104)) (some (false))).bind fun t99 => (cond (t99) ((fn_slices_EqualFunc_api_Type_api_Type_api_Type_api_Type_kk_row_Same xa.2.2.2.1 xb.2.2.2.1).bind fun t120 => some (t120)) (some (false))).bind fun t115 => (cond (t115) ((fn_row_Same xa.2.2.2.2.1 xb.2.2.2.2.1).bind fun t136 => some (t136)) (some (false))).bind fun t131 => (cond (t131) ((fn_slices_EqualFunc_api_Sig_api_Sig_api_Sig_api_Sig_kk_body_sameSig xa.2.2.2.2.2.1 xb.2.2.2.2.2.1).bind fun t152 => some (t152)) (some (false))).bind fun t147 => (cond (t147) ((fn_slices_EqualFunc_api_Block_api_Block_api_Block_api_Block_kk_body_sameBlock xa.2.2.2.2.2.2 xb.2.2.2.2.2.2).bind fun t168 => some (t168)) (some (false))).bind fun t163 => some (t163)
set_option maxRecDepth 100000 in
set_option maxHeartbeats 4000000 in
theorem body_Same_ok {K : Hp} {xa : (Int × Int × (List (Int × Int)) × (List (List (Int × Bool))) × (List (Int × Bool)) × (List (Int × (List (Int × Int)) × (List (List (Int × Bool))) × (List (Int × Bool)))) × (List ((List (Int × Int × Int × Int × Bool)) × (Int × Int × Int × (List Int) × (List Int) × (List Int)))))} {xb : (Int × Int × (List (Int × Int)) × (List (List (Int × Bool))) × (List (Int × Bool)) × (List (Int × (List (Int × Int)) × (List (List (Int × Bool))) × (List (Int × Bool)))) × (List ((List (Int × Int × Int × Int × Bool)) × (Int × Int × Int × (List Int) × (List Int) × (List Int)))))} {adxa_2 : Option Addr} {cpxa_2 : Nat} {adxa_3 : Option Addr} {cpxa_3 : Nat} {adxa_4 : Option Addr} {cpxa_4 : Nat} {adxa_5 : Option Addr} {cpxa_5 : Nat} {adxa_6 : Option Addr} {cpxa_6 : Nat} {adxb_2 : Option Addr} {cpxb_2 : Nat} {adxb_3 : Option Addr} {cpxb_3 : Nat} {adxb_4 : Option Addr} {cpxb_4 : Nat} {adxb_5 : Option Addr} {cpxb_5 : Nat} {adxb_6 : Option Addr} {cpxb_6 : Nat} (fxa_2 : Is K (.sl (.cons (.int .i64) (.one (.int .i64)))) [.slice adxa_2 xa.2.2.1.length cpxa_2] xa.2.2.1) (fxa_3 : Is K (.sl (.one (.sl (.cons (.int .i64) (.one .bool))))) [.slice adxa_3 xa.2.2.2.1.length cpxa_3] xa.2.2.2.1) (fxa_4 : Is K (.sl (.cons (.int .i64) (.one .bool))) [.slice adxa_4 xa.2.2.2.2.1.length cpxa_4] xa.2.2.2.2.1) (fxa_5 : Is K (.sl (.cons (.int .i64) (.cons (.sl (.cons (.int .i64) (.one (.int .i64)))) (.cons (.sl (.one (.sl (.cons (.int .i64) (.one .bool))))) (.one (.one (.sl (.cons (.int .i64) (.one .bool))))))))) [.slice adxa_5 xa.2.2.2.2.2.1.length cpxa_5] xa.2.2.2.2.2.1) (fxa_6 : Is K (.sl (.cons (.sl (.cons (.int .i64) (.cons (.int .i64) (.cons (.int .i64) (.cons (.int .i64) (.one .bool)))))) (.one (.cons (.int .i64) (.cons (.int .i64) (.cons (.int .i64) (.cons (.sl (.int .i64)) (.cons (.sl (.int .i64)) (.one (.sl (.int .i64))))))))))) [.slice adxa_6 xa.2.2.2.2.2.2.length cpxa_6] xa.2.2.2.2.2.2) (fxb_2 : Is K (.sl (.cons (.int .i64) (.one (.int .i64)))) [.slice adxb_2 xb.2.2.1.length cpxb_2] xb.2.2.1) (fxb_3 : Is K (.sl (.one (.sl (.cons (.int .i64) (.one .bool))))) [.slice adxb_3 xb.2.2.2.1.length cpxb_3] xb.2.2.2.1) (fxb_4 : Is K (.sl (.cons (.int .i64) (.one .bool))) [.slice adxb_4 xb.2.2.2.2.1.length cpxb_4] xb.2.2.2.2.1) (fxb_5 : Is K (.sl (.cons (.int .i64) (.cons (.sl (.cons (.int .i64) (.one (.int .i64)))) (.cons (.sl (.one (.sl (.cons (.int .i64) (.one .bool))))) (.one (.one (.sl (.cons (.int .i64) (.one .bool))))))))) [.slice adxb_5 xb.2.2.2.2.2.1.length cpxb_5] xb.2.2.2.2.2.1) (fxb_6 : Is K (.sl (.cons (.sl (.cons (.int .i64) (.cons (.int .i64) (.cons (.int .i64) (.cons (.int .i64) (.one .bool)))))) (.one (.cons (.int .i64) (.cons (.int .i64) (.cons (.int .i64) (.cons (.sl (.int .i64)) (.cons (.sl (.int .i64)) (.one (.sl (.int .i64))))))))))) [.slice adxb_6 xb.2.2.2.2.2.2.length cpxb_6] xb.2.2.2.2.2.2) {r : Bool} (h : fn_body_Same xa xb = some r) :
    Tr Tryz.prog 9 #[.agg #[ii xa.1, ii xa.2.1, .slice adxa_2 xa.2.2.1.length cpxa_2, .slice adxa_3 xa.2.2.2.1.length cpxa_3, .slice adxa_4 xa.2.2.2.2.1.length cpxa_4, .slice adxa_5 xa.2.2.2.2.2.1.length cpxa_5, .slice adxa_6 xa.2.2.2.2.2.2.length cpxa_6], .agg #[ii xb.1, ii xb.2.1, .slice adxb_2 xb.2.2.1.length cpxb_2, .slice adxb_3 xb.2.2.2.1.length cpxb_3, .slice adxb_4 xb.2.2.2.2.1.length cpxb_4, .slice adxb_5 xb.2.2.2.2.2.1.length cpxb_5, .slice adxb_6 xb.2.2.2.2.2.2.length cpxb_6]] K [] (fun v K' L' => (∃ (t86 : Bool), t86 = r ∧ .bool t86 = v ∧ L' = []) ∧ K = K') := by
 refine Tr.k <| Tr.of Tryz.func9 rfl Tryz.ntmps9 rfl fun E F => ?_
 unfold fn_body_Same at h
 refine CJ.seq <| CJ.region <| jbx [ii xa.1, ii xa.2.1, .slice adxa_2 xa.2.2.1.length cpxa_2, .slice adxa_3 xa.2.2.2.1.length cpxa_3, .slice adxa_4 xa.2.2.2.2.1.length cpxa_4, .slice adxa_5 xa.2.2.2.2.2.1.length cpxa_5, .slice adxa_6 xa.2.2.2.2.2.2.length cpxa_6] rfl rfl fun b87 => jbx [ii xb.1, ii xb.2.1, .slice adxb_2 xb.2.2.1.length cpxb_2, .slice adxb_3 xb.2.2.2.1.length cpxb_3, .slice adxb_4 xb.2.2.2.2.1.length cpxb_4, .slice adxb_5 xb.2.2.2.2.2.1.length cpxb_5, .slice adxb_6 xb.2.2.2.2.2.2.length cpxb_6] rfl rfl fun b88 => ja (.bool false) rfl <| J.nil <| CJ.seq ?_
 refine CJ.region <| jv _ (V.fad Tryz.underlying34 rfl nz3 rfl) <| jv (ii xa.1) (V.ld rfl (Ld.sc sc3 (Rd.cl 1 rfl rfl))) <| jv _ (V.fad Tryz.underlying34 rfl nz3 rfl) <| jv (ii xb.1) (V.ld rfl (Ld.sc sc3 (Rd.cl 0 rfl rfl))) <| jv (.bool (decide (xa.1 = xb.1))) (V.eql rfl rfl) <| jm (.bool (decide (xa.1 = xb.1))) rfl ?_
 refine J.cut 6 <| jmeet [(16, .bool ((decide (xa.1 = xb.1)) && (decide (xa.2.1 = xb.2.1)))), (2, .pointer (some ⟨b87, 0, none⟩)), (3, .pointer (some ⟨b88, 0, none⟩))] ?_ ?_
 · rcases bt (decide (xa.1 = xb.1)) with hc91 | hc91
   · refine J.run rfl rfl rfl hc91 <| jv _ (V.fad Tryz.underlying34 rfl nz3 rfl) <| J.run rfl rfl rfl hc91 <| jv (ii xa.2.1) (V.ld rfl (Ld.sc sc3 (Rd.cl 1 rfl rfl))) <| J.run rfl rfl rfl hc91 <| jv _ (V.fad Tryz.underlying34 rfl nz3 rfl) <| J.run rfl rfl rfl hc91 ?_
     refine jv (ii xb.2.1) (V.ld rfl (Ld.sc sc3 (Rd.cl 0 rfl rfl))) <| J.run rfl rfl rfl hc91 <| jv (.bool (decide (xa.2.1 = xb.2.1))) (V.eql rfl rfl) <| jv (.bool (decide (xa.2.1 = xb.2.1))) (V.pickT rfl hc91 rfl) <| J.nil ?_
     exact ⟨rfl, ⟨(by simp only [hc91]; rfl), rfl, rfl, trivial⟩, rfl, rfl⟩
   refine J.skip rfl rfl rfl rfl hc91 <| J.skip rfl rfl rfl rfl hc91 <| J.skip rfl rfl rfl rfl hc91 <| J.skip rfl rfl rfl rfl hc91 <| J.skip rfl rfl rfl rfl hc91 <| jv (.bool false) (V.pickF rfl hc91 rfl) <| J.nil ?_
   exact ⟨rfl, ⟨(by simp only [hc91]; rfl), rfl, rfl, trivial⟩, rfl, rfl⟩
 intro ρ
 refine jm (.bool ((decide (xa.1 = xb.1)) && (decide (xa.2.1 = xb.2.1)))) rfl <| J.cut 6 ?_
 obtain ⟨t99, ht100, h⟩ := ob h
 refine jmeet [(23, .bool t99), (2, .pointer (some ⟨b87, 0, none⟩)), (3, .pointer (some ⟨b88, 0, none⟩))] ?_ ?_
 · rcases bt ((decide (xa.1 = xb.1)) && (decide (xa.2.1 = xb.2.1))) with hc101 | hc101
   · have ht100 := ct hc101 ht100
     refine J.run rfl rfl rfl hc101 <| jv _ (V.fad Tryz.underlying34 rfl nz26 rfl) <| J.run rfl rfl rfl hc101 <| jv (.slice adxa_2 xa.2.2.1.length cpxa_2) (V.ld rfl (Ld.sc sc26 (Rd.cl 1 rfl rfl))) <| J.run rfl rfl rfl hc101 <| jv _ (V.fad Tryz.underlying34 rfl nz26 rfl) <| J.run rfl rfl rfl hc101 ?_
     refine jv (.slice adxb_2 xb.2.2.1.length cpxb_2) (V.ld rfl (Ld.sc sc26 (Rd.cl 0 rfl rfl))) <| J.run rfl rfl rfl hc101 ?_
     obtain ⟨r102, hr103, ht100⟩ := ob ht100
     refine J.op rfl (A.call (L1 := []) Tryz.call41 rfl (slices_Equal_api_Bound_api_Bound_ok fxa_2 fxb_2 hr103) rfl rfl) ?_
     rintro _ _ _ ⟨v105, _, rfl, ⟨⟨t104, rfl, rfl, rfl⟩, rfl⟩, _, rfl⟩
     refine jv (.bool t104) (V.pickT rfl hc101 rfl) <| J.nil ?_
     obtain rfl := si ht100
     exact ⟨rfl, ⟨rfl, rfl, rfl, trivial⟩, rfl, rfl⟩
   have ht100 := cf hc101 ht100
   refine J.skip rfl rfl rfl rfl hc101 <| J.skip rfl rfl rfl rfl hc101 <| J.skip rfl rfl rfl rfl hc101 <| J.skip rfl rfl rfl rfl hc101 <| J.skip rfl rfl rfl rfl hc101 <| jv (.bool false) (V.pickF rfl hc101 rfl) <| J.nil ?_
   obtain rfl := si ht100
   exact ⟨rfl, ⟨rfl, rfl, rfl, trivial⟩, rfl, rfl⟩
 intro ρ
 refine jm (.bool t99) rfl <| J.cut 6 ?_
 obtain ⟨t115, ht116, h⟩ := ob h
 refine jmeet [(30, .bool t115), (2, .pointer (some ⟨b87, 0, none⟩)), (3, .pointer (some ⟨b88, 0, none⟩))] ?_ ?_
 · rcases bt (t99) with hc117 | hc117
   · have ht116 := ct hc117 ht116
     refine J.run rfl rfl rfl hc117 <| jv _ (V.fad Tryz.underlying34 rfl nz27 rfl) <| J.run rfl rfl rfl hc117 <| jv (.slice adxa_3 xa.2.2.2.1.length cpxa_3) (V.ld rfl (Ld.sc sc27 (Rd.cl 1 rfl rfl))) <| J.run rfl rfl rfl hc117 <| jv _ (V.fad Tryz.underlying34 rfl nz27 rfl) <| J.run rfl rfl rfl hc117 ?_
     refine jv (.slice adxb_3 xb.2.2.2.1.length cpxb_3) (V.ld rfl (Ld.sc sc27 (Rd.cl 0 rfl rfl))) <| J.run rfl rfl rfl hc117 ?_
     obtain ⟨r118, hr119, ht116⟩ := ob ht116
     refine J.op rfl (A.call (L1 := []) Tryz.call42 rfl (slices_EqualFunc_api_Type_api_Type_api_Type_api_Type_kk_row_Same_ok fxa_3 fxb_3 hr119) rfl rfl) ?_
     rintro _ _ _ ⟨v121, _, rfl, ⟨⟨t120, rfl, rfl, rfl⟩, rfl⟩, _, rfl⟩
     refine jv (.bool t120) (V.pickT rfl hc117 rfl) <| J.nil ?_
     obtain rfl := si ht116
     exact ⟨rfl, ⟨rfl, rfl, rfl, trivial⟩, rfl, rfl⟩
   have ht116 := cf hc117 ht116
   refine J.skip rfl rfl rfl rfl hc117 <| J.skip rfl rfl rfl rfl hc117 <| J.skip rfl rfl rfl rfl hc117 <| J.skip rfl rfl rfl rfl hc117 <| J.skip rfl rfl rfl rfl hc117 <| jv (.bool false) (V.pickF rfl hc117 rfl) <| J.nil ?_
   obtain rfl := si ht116
   exact ⟨rfl, ⟨rfl, rfl, rfl, trivial⟩, rfl, rfl⟩
 intro ρ
 refine jm (.bool t115) rfl <| J.cut 6 ?_
 obtain ⟨t131, ht132, h⟩ := ob h
 refine jmeet [(37, .bool t131), (2, .pointer (some ⟨b87, 0, none⟩)), (3, .pointer (some ⟨b88, 0, none⟩))] ?_ ?_
 · rcases bt (t115) with hc133 | hc133
   · have ht132 := ct hc133 ht132
     refine J.run rfl rfl rfl hc133 <| jv _ (V.fad Tryz.underlying34 rfl nz30 rfl) <| J.run rfl rfl rfl hc133 <| jv (.agg #[.slice adxa_4 xa.2.2.2.2.1.length cpxa_4]) (V.ld rfl (Ld.agg (cs := [.slice adxa_4 xa.2.2.2.2.1.length cpxa_4]) Tryz.underlying30 sz30 rfl (Rd.cls 1 4 rfl rfl))) <| J.run rfl rfl rfl hc133 <| jv _ (V.fad Tryz.underlying34 rfl nz30 rfl) <| J.run rfl rfl rfl hc133 ?_
     refine jv (.agg #[.slice adxb_4 xb.2.2.2.2.1.length cpxb_4]) (V.ld rfl (Ld.agg (cs := [.slice adxb_4 xb.2.2.2.2.1.length cpxb_4]) Tryz.underlying30 sz30 rfl (Rd.cls 0 4 rfl rfl))) <| J.run rfl rfl rfl hc133 ?_
     obtain ⟨r134, hr135, ht132⟩ := ob ht132
     refine J.op rfl (A.call (L1 := []) Tryz.call43 rfl (row_Same_ok fxa_4 fxb_4 hr135) rfl rfl) ?_
     rintro _ _ _ ⟨v137, _, rfl, ⟨⟨t136, rfl, rfl, rfl⟩, rfl⟩, _, rfl⟩
     refine jv (.bool t136) (V.pickT rfl hc133 rfl) <| J.nil ?_
     obtain rfl := si ht132
     exact ⟨rfl, ⟨rfl, rfl, rfl, trivial⟩, rfl, rfl⟩
   have ht132 := cf hc133 ht132
   refine J.skip rfl rfl rfl rfl hc133 <| J.skip rfl rfl rfl rfl hc133 <| J.skip rfl rfl rfl rfl hc133 <| J.skip rfl rfl rfl rfl hc133 <| J.skip rfl rfl rfl rfl hc133 <| jv (.bool false) (V.pickF rfl hc133 rfl) <| J.nil ?_
   obtain rfl := si ht132
   exact ⟨rfl, ⟨rfl, rfl, rfl, trivial⟩, rfl, rfl⟩
 intro ρ
 refine jm (.bool t131) rfl <| J.cut 6 ?_
 obtain ⟨t147, ht148, h⟩ := ob h
 refine jmeet [(44, .bool t147), (2, .pointer (some ⟨b87, 0, none⟩)), (3, .pointer (some ⟨b88, 0, none⟩))] ?_ ?_
 · rcases bt (t131) with hc149 | hc149
   · have ht148 := ct hc149 ht148
     refine J.run rfl rfl rfl hc149 <| jv _ (V.fad Tryz.underlying34 rfl nz31 rfl) <| J.run rfl rfl rfl hc149 <| jv (.slice adxa_5 xa.2.2.2.2.2.1.length cpxa_5) (V.ld rfl (Ld.sc sc31 (Rd.cl 1 rfl rfl))) <| J.run rfl rfl rfl hc149 <| jv _ (V.fad Tryz.underlying34 rfl nz31 rfl) <| J.run rfl rfl rfl hc149 ?_
     refine jv (.slice adxb_5 xb.2.2.2.2.2.1.length cpxb_5) (V.ld rfl (Ld.sc sc31 (Rd.cl 0 rfl rfl))) <| J.run rfl rfl rfl hc149 ?_
     obtain ⟨r150, hr151, ht148⟩ := ob ht148
     refine J.op rfl (A.call (L1 := []) Tryz.call44 rfl (slices_EqualFunc_api_Sig_api_Sig_api_Sig_api_Sig_kk_body_sameSig_ok fxa_5 fxb_5 hr151) rfl rfl) ?_
     rintro _ _ _ ⟨v153, _, rfl, ⟨⟨t152, rfl, rfl, rfl⟩, rfl⟩, _, rfl⟩
     refine jv (.bool t152) (V.pickT rfl hc149 rfl) <| J.nil ?_
     obtain rfl := si ht148
     exact ⟨rfl, ⟨rfl, rfl, rfl, trivial⟩, rfl, rfl⟩
   have ht148 := cf hc149 ht148
   refine J.skip rfl rfl rfl rfl hc149 <| J.skip rfl rfl rfl rfl hc149 <| J.skip rfl rfl rfl rfl hc149 <| J.skip rfl rfl rfl rfl hc149 <| J.skip rfl rfl rfl rfl hc149 <| jv (.bool false) (V.pickF rfl hc149 rfl) <| J.nil ?_
   obtain rfl := si ht148
   exact ⟨rfl, ⟨rfl, rfl, rfl, trivial⟩, rfl, rfl⟩
 intro ρ
 refine jm (.bool t147) rfl <| J.cut 6 ?_
 obtain ⟨t163, ht164, h⟩ := ob h
 refine jmeet [(51, .bool t163)] ?_ ?_
 · rcases bt (t147) with hc165 | hc165
   · have ht164 := ct hc165 ht164
     refine J.run rfl rfl rfl hc165 <| jv _ (V.fad Tryz.underlying34 rfl nz32 rfl) <| J.run rfl rfl rfl hc165 <| jv (.slice adxa_6 xa.2.2.2.2.2.2.length cpxa_6) (V.ld rfl (Ld.sc sc32 (Rd.cl 1 rfl rfl))) <| J.run rfl rfl rfl hc165 <| jv _ (V.fad Tryz.underlying34 rfl nz32 rfl) <| J.run rfl rfl rfl hc165 ?_
     refine jv (.slice adxb_6 xb.2.2.2.2.2.2.length cpxb_6) (V.ld rfl (Ld.sc sc32 (Rd.cl 0 rfl rfl))) <| J.run rfl rfl rfl hc165 ?_
     obtain ⟨r166, hr167, ht164⟩ := ob ht164
     refine J.op rfl (A.call (L1 := []) Tryz.call46 rfl (slices_EqualFunc_api_Block_api_Block_api_Block_api_Block_kk_body_sameBlock_ok fxa_6 fxb_6 hr167) rfl rfl) ?_
     rintro _ _ _ ⟨v169, _, rfl, ⟨⟨t168, rfl, rfl, rfl⟩, rfl⟩, _, rfl⟩
     refine jv (.bool t168) (V.pickT rfl hc165 rfl) <| J.nil ?_
     obtain rfl := si ht164
     exact ⟨rfl, ⟨rfl, trivial⟩, rfl, rfl⟩
   have ht164 := cf hc165 ht164
   refine J.skip rfl rfl rfl rfl hc165 <| J.skip rfl rfl rfl rfl hc165 <| J.skip rfl rfl rfl rfl hc165 <| J.skip rfl rfl rfl rfl hc165 <| J.skip rfl rfl rfl rfl hc165 <| jv (.bool false) (V.pickF rfl hc165 rfl) <| J.nil ?_
   obtain rfl := si ht164
   exact ⟨rfl, ⟨rfl, trivial⟩, rfl, rfl⟩
 intro ρ
 refine ja (.bool t163) rfl <| J.nil <| CJ.ret ?_
 obtain rfl := si h
 exact ⟨_, _, Res.one rfl rfl, ⟨t163, rfl, rfl, rfl⟩, (Hp.le_refl _), fun w hs => (Sep.dropAt 0 rfl (Sep.dropAt 0 rfl hs))⟩

noncomputable def fn_tick_Counter_Of_p0c0_iiiiiii (qa0 : Int) (qa1 : Int) (qa2 : Int) (qa3 : Int) (qa4 : Int) (qa5 : Int) (qa6 : Int) : Option Int :=
  (fn_tick_isPart 0).bind fun t12 => cond (!t12) (some (0)) (some (qa0))
set_option maxRecDepth 100000 in
set_option maxHeartbeats 4000000 in
theorem tick_Counter_Of_p0c0_iiiiiii_ok {K : Hp} {qa0 : Int} {qa1 : Int} {qa2 : Int} {qa3 : Int} {qa4 : Int} {qa5 : Int} {qa6 : Int} {pba : Nat}  {r : Int} (h : fn_tick_Counter_Of_p0c0_iiiiiii qa0 qa1 qa2 qa3 qa4 qa5 qa6 = some r) :
    Tr Tryz.prog 10 #[.pointer (some ⟨pba, 0, none⟩), ii 0] K [Cl pba 25 [ii qa0, ii qa1, ii qa2, ii qa3, ii qa4, ii qa5, ii qa6]] (fun v K' L' => (∃ (i9 : Int), i9 = r ∧ ii i9 = v ∧ L' = [Cl pba 25 [ii qa0, ii qa1, ii qa2, ii qa3, ii qa4, ii qa5, ii qa6]]) ∧ K = K') := by
 refine Tr.k <| Tr.of Tryz.func10 rfl Tryz.ntmps10 rfl fun E F => ?_
 unfold fn_tick_Counter_Of_p0c0_iiiiiii at h
 refine CJ.seq <| CJ.region <| ja (ii 0) rfl <| J.nil <| CJ.seq <| CJ.seq <| CJ.region ?_
 refine jm _ rfl <| jv (.bool false) (Val.eq (V.pn_eql Tryz.underlying38 rfl rfl) rfl) <| jm (.bool false) rfl <| J.run rfl rfl rfl rfl <| jm (ii 0) rfl <| J.run rfl rfl rfl rfl ?_
 obtain ⟨r10, hr11, h⟩ := ob h
 refine J.op rfl (A.call (L1 := []) Tryz.call48 rfl (tick_isPart_ok hr11) rfl rfl) ?_
 rintro _ _ _ ⟨v13, _, rfl, ⟨⟨t12, rfl, rfl, rfl⟩, rfl⟩, _, rfl⟩
 refine J.run rfl rfl rfl rfl <| jv (.bool (!t12)) (V.not rfl) <| jv (.bool (!t12)) (V.pickF rfl rfl rfl) <| J.nil <| cc rfl h (fun hc16 h => ?_) fun hc16 h => ?_
 · refine CJ.seq <| CJ.region <| ja (ii 0) rfl <| J.nil <| CJ.ret ?_
   obtain rfl := si h
   exact ⟨_, _, Res.one rfl rfl, ⟨0, rfl, rfl, rfl⟩, (Hp.le_refl _), fun w hs => hs⟩
 refine CJ.skip <| CJ.seq <| CJ.region <| jm _ rfl <| jm (ii 0) rfl <| jv _ (V.nck rfl) <| jv _ (V.fad Tryz.underlying25 rfl nz23 rfl) ?_
 refine jv _ (V.iadA Tryz.underlying23 sz3 rfl rfl (by decide) (by decide)) <| jv (ii qa0) (V.ld rfl (Ld.sc sc3 (Rd.cl 0 rfl rfl))) <| ja (ii qa0) rfl <| J.nil <| CJ.ret ?_
 obtain rfl := si h
 exact ⟨_, _, Res.one rfl rfl, ⟨qa0, rfl, rfl, rfl⟩, (Hp.le_refl _), fun w hs => hs⟩

noncomputable def fn_tick_Counter_Of_p0c1_iiiiiii (qa0 : Int) (qa1 : Int) (qa2 : Int) (qa3 : Int) (qa4 : Int) (qa5 : Int) (qa6 : Int) : Option Int :=
  (fn_tick_isPart 1).bind fun t12 => cond (!t12) (some (0)) (some (qa1))
set_option maxRecDepth 100000 in
set_option maxHeartbeats 4000000 in
theorem tick_Counter_Of_p0c1_iiiiiii_ok {K : Hp} {qa0 : Int} {qa1 : Int} {qa2 : Int} {qa3 : Int} {qa4 : Int} {qa5 : Int} {qa6 : Int} {pba : Nat}  {r : Int} (h : fn_tick_Counter_Of_p0c1_iiiiiii qa0 qa1 qa2 qa3 qa4 qa5 qa6 = some r) :
    Tr Tryz.prog 10 #[.pointer (some ⟨pba, 0, none⟩), ii 1] K [Cl pba 25 [ii qa0, ii qa1, ii qa2, ii qa3, ii qa4, ii qa5, ii qa6]] (fun v K' L' => (∃ (i9 : Int), i9 = r ∧ ii i9 = v ∧ L' = [Cl pba 25 [ii qa0, ii qa1, ii qa2, ii qa3, ii qa4, ii qa5, ii qa6]]) ∧ K = K') := by
 refine Tr.k <| Tr.of Tryz.func10 rfl Tryz.ntmps10 rfl fun E F => ?_
 unfold fn_tick_Counter_Of_p0c1_iiiiiii at h
 refine CJ.seq <| CJ.region <| ja (ii 0) rfl <| J.nil <| CJ.seq <| CJ.seq <| CJ.region ?_
 refine jm _ rfl <| jv (.bool false) (Val.eq (V.pn_eql Tryz.underlying38 rfl rfl) rfl) <| jm (.bool false) rfl <| J.run rfl rfl rfl rfl <| jm (ii 1) rfl <| J.run rfl rfl rfl rfl ?_
 obtain ⟨r10, hr11, h⟩ := ob h
 refine J.op rfl (A.call (L1 := []) Tryz.call48 rfl (tick_isPart_ok hr11) rfl rfl) ?_
 rintro _ _ _ ⟨v13, _, rfl, ⟨⟨t12, rfl, rfl, rfl⟩, rfl⟩, _, rfl⟩
 refine J.run rfl rfl rfl rfl <| jv (.bool (!t12)) (V.not rfl) <| jv (.bool (!t12)) (V.pickF rfl rfl rfl) <| J.nil <| cc rfl h (fun hc16 h => ?_) fun hc16 h => ?_
 · refine CJ.seq <| CJ.region <| ja (ii 0) rfl <| J.nil <| CJ.ret ?_
   obtain rfl := si h
   exact ⟨_, _, Res.one rfl rfl, ⟨0, rfl, rfl, rfl⟩, (Hp.le_refl _), fun w hs => hs⟩
 refine CJ.skip <| CJ.seq <| CJ.region <| jm _ rfl <| jm (ii 1) rfl <| jv _ (V.nck rfl) <| jv _ (V.fad Tryz.underlying25 rfl nz23 rfl) ?_
 refine jv _ (V.iadA Tryz.underlying23 sz3 rfl rfl (by decide) (by decide)) <| jv (ii qa1) (V.ld rfl (Ld.sc sc3 (Rd.cl 0 rfl rfl))) <| ja (ii qa1) rfl <| J.nil <| CJ.ret ?_
 obtain rfl := si h
 exact ⟨_, _, Res.one rfl rfl, ⟨qa1, rfl, rfl, rfl⟩, (Hp.le_refl _), fun w hs => hs⟩

noncomputable def fn_tick_Counter_Of_p0c2_iiiiiii (qa0 : Int) (qa1 : Int) (qa2 : Int) (qa3 : Int) (qa4 : Int) (qa5 : Int) (qa6 : Int) : Option Int :=
  (fn_tick_isPart 2).bind fun t12 => cond (!t12) (some (0)) (some (qa2))
set_option maxRecDepth 100000 in
set_option maxHeartbeats 4000000 in
theorem tick_Counter_Of_p0c2_iiiiiii_ok {K : Hp} {qa0 : Int} {qa1 : Int} {qa2 : Int} {qa3 : Int} {qa4 : Int} {qa5 : Int} {qa6 : Int} {pba : Nat}  {r : Int} (h : fn_tick_Counter_Of_p0c2_iiiiiii qa0 qa1 qa2 qa3 qa4 qa5 qa6 = some r) :
    Tr Tryz.prog 10 #[.pointer (some ⟨pba, 0, none⟩), ii 2] K [Cl pba 25 [ii qa0, ii qa1, ii qa2, ii qa3, ii qa4, ii qa5, ii qa6]] (fun v K' L' => (∃ (i9 : Int), i9 = r ∧ ii i9 = v ∧ L' = [Cl pba 25 [ii qa0, ii qa1, ii qa2, ii qa3, ii qa4, ii qa5, ii qa6]]) ∧ K = K') := by
 refine Tr.k <| Tr.of Tryz.func10 rfl Tryz.ntmps10 rfl fun E F => ?_
 unfold fn_tick_Counter_Of_p0c2_iiiiiii at h
 refine CJ.seq <| CJ.region <| ja (ii 0) rfl <| J.nil <| CJ.seq <| CJ.seq <| CJ.region ?_
 refine jm _ rfl <| jv (.bool false) (Val.eq (V.pn_eql Tryz.underlying38 rfl rfl) rfl) <| jm (.bool false) rfl <| J.run rfl rfl rfl rfl <| jm (ii 2) rfl <| J.run rfl rfl rfl rfl ?_
 obtain ⟨r10, hr11, h⟩ := ob h
 refine J.op rfl (A.call (L1 := []) Tryz.call48 rfl (tick_isPart_ok hr11) rfl rfl) ?_
 rintro _ _ _ ⟨v13, _, rfl, ⟨⟨t12, rfl, rfl, rfl⟩, rfl⟩, _, rfl⟩
 refine J.run rfl rfl rfl rfl <| jv (.bool (!t12)) (V.not rfl) <| jv (.bool (!t12)) (V.pickF rfl rfl rfl) <| J.nil <| cc rfl h (fun hc16 h => ?_) fun hc16 h => ?_
 · refine CJ.seq <| CJ.region <| ja (ii 0) rfl <| J.nil <| CJ.ret ?_
   obtain rfl := si h
   exact ⟨_, _, Res.one rfl rfl, ⟨0, rfl, rfl, rfl⟩, (Hp.le_refl _), fun w hs => hs⟩
 refine CJ.skip <| CJ.seq <| CJ.region <| jm _ rfl <| jm (ii 2) rfl <| jv _ (V.nck rfl) <| jv _ (V.fad Tryz.underlying25 rfl nz23 rfl) ?_
 refine jv _ (V.iadA Tryz.underlying23 sz3 rfl rfl (by decide) (by decide)) <| jv (ii qa2) (V.ld rfl (Ld.sc sc3 (Rd.cl 0 rfl rfl))) <| ja (ii qa2) rfl <| J.nil <| CJ.ret ?_
 obtain rfl := si h
 exact ⟨_, _, Res.one rfl rfl, ⟨qa2, rfl, rfl, rfl⟩, (Hp.le_refl _), fun w hs => hs⟩

noncomputable def fn_tick_Counter_Of_p0c3_iiiiiii (qa0 : Int) (qa1 : Int) (qa2 : Int) (qa3 : Int) (qa4 : Int) (qa5 : Int) (qa6 : Int) : Option Int :=
  (fn_tick_isPart 3).bind fun t12 => cond (!t12) (some (0)) (some (qa3))
set_option maxRecDepth 100000 in
set_option maxHeartbeats 4000000 in
theorem tick_Counter_Of_p0c3_iiiiiii_ok {K : Hp} {qa0 : Int} {qa1 : Int} {qa2 : Int} {qa3 : Int} {qa4 : Int} {qa5 : Int} {qa6 : Int} {pba : Nat}  {r : Int} (h : fn_tick_Counter_Of_p0c3_iiiiiii qa0 qa1 qa2 qa3 qa4 qa5 qa6 = some r) :
    Tr Tryz.prog 10 #[.pointer (some ⟨pba, 0, none⟩), ii 3] K [Cl pba 25 [ii qa0, ii qa1, ii qa2, ii qa3, ii qa4, ii qa5, ii qa6]] (fun v K' L' => (∃ (i9 : Int), i9 = r ∧ ii i9 = v ∧ L' = [Cl pba 25 [ii qa0, ii qa1, ii qa2, ii qa3, ii qa4, ii qa5, ii qa6]]) ∧ K = K') := by
 refine Tr.k <| Tr.of Tryz.func10 rfl Tryz.ntmps10 rfl fun E F => ?_
 unfold fn_tick_Counter_Of_p0c3_iiiiiii at h
 refine CJ.seq <| CJ.region <| ja (ii 0) rfl <| J.nil <| CJ.seq <| CJ.seq <| CJ.region ?_
 refine jm _ rfl <| jv (.bool false) (Val.eq (V.pn_eql Tryz.underlying38 rfl rfl) rfl) <| jm (.bool false) rfl <| J.run rfl rfl rfl rfl <| jm (ii 3) rfl <| J.run rfl rfl rfl rfl ?_
 obtain ⟨r10, hr11, h⟩ := ob h
 refine J.op rfl (A.call (L1 := []) Tryz.call48 rfl (tick_isPart_ok hr11) rfl rfl) ?_
 rintro _ _ _ ⟨v13, _, rfl, ⟨⟨t12, rfl, rfl, rfl⟩, rfl⟩, _, rfl⟩
 refine J.run rfl rfl rfl rfl <| jv (.bool (!t12)) (V.not rfl) <| jv (.bool (!t12)) (V.pickF rfl rfl rfl) <| J.nil <| cc rfl h (fun hc16 h => ?_) fun hc16 h => ?_
 · refine CJ.seq <| CJ.region <| ja (ii 0) rfl <| J.nil <| CJ.ret ?_
   obtain rfl := si h
   exact ⟨_, _, Res.one rfl rfl, ⟨0, rfl, rfl, rfl⟩, (Hp.le_refl _), fun w hs => hs⟩
 refine CJ.skip <| CJ.seq <| CJ.region <| jm _ rfl <| jm (ii 3) rfl <| jv _ (V.nck rfl) <| jv _ (V.fad Tryz.underlying25 rfl nz23 rfl) ?_
 refine jv _ (V.iadA Tryz.underlying23 sz3 rfl rfl (by decide) (by decide)) <| jv (ii qa3) (V.ld rfl (Ld.sc sc3 (Rd.cl 0 rfl rfl))) <| ja (ii qa3) rfl <| J.nil <| CJ.ret ?_
 obtain rfl := si h
 exact ⟨_, _, Res.one rfl rfl, ⟨qa3, rfl, rfl, rfl⟩, (Hp.le_refl _), fun w hs => hs⟩

noncomputable def fn_tick_Counter_Of_p0c4_iiiiiii (qa0 : Int) (qa1 : Int) (qa2 : Int) (qa3 : Int) (qa4 : Int) (qa5 : Int) (qa6 : Int) : Option Int :=
  (fn_tick_isPart 4).bind fun t12 => cond (!t12) (some (0)) (some (qa4))
set_option maxRecDepth 100000 in
set_option maxHeartbeats 4000000 in
theorem tick_Counter_Of_p0c4_iiiiiii_ok {K : Hp} {qa0 : Int} {qa1 : Int} {qa2 : Int} {qa3 : Int} {qa4 : Int} {qa5 : Int} {qa6 : Int} {pba : Nat}  {r : Int} (h : fn_tick_Counter_Of_p0c4_iiiiiii qa0 qa1 qa2 qa3 qa4 qa5 qa6 = some r) :
    Tr Tryz.prog 10 #[.pointer (some ⟨pba, 0, none⟩), ii 4] K [Cl pba 25 [ii qa0, ii qa1, ii qa2, ii qa3, ii qa4, ii qa5, ii qa6]] (fun v K' L' => (∃ (i9 : Int), i9 = r ∧ ii i9 = v ∧ L' = [Cl pba 25 [ii qa0, ii qa1, ii qa2, ii qa3, ii qa4, ii qa5, ii qa6]]) ∧ K = K') := by
 refine Tr.k <| Tr.of Tryz.func10 rfl Tryz.ntmps10 rfl fun E F => ?_
 unfold fn_tick_Counter_Of_p0c4_iiiiiii at h
 refine CJ.seq <| CJ.region <| ja (ii 0) rfl <| J.nil <| CJ.seq <| CJ.seq <| CJ.region ?_
 refine jm _ rfl <| jv (.bool false) (Val.eq (V.pn_eql Tryz.underlying38 rfl rfl) rfl) <| jm (.bool false) rfl <| J.run rfl rfl rfl rfl <| jm (ii 4) rfl <| J.run rfl rfl rfl rfl ?_
 obtain ⟨r10, hr11, h⟩ := ob h
 refine J.op rfl (A.call (L1 := []) Tryz.call48 rfl (tick_isPart_ok hr11) rfl rfl) ?_
 rintro _ _ _ ⟨v13, _, rfl, ⟨⟨t12, rfl, rfl, rfl⟩, rfl⟩, _, rfl⟩
 refine J.run rfl rfl rfl rfl <| jv (.bool (!t12)) (V.not rfl) <| jv (.bool (!t12)) (V.pickF rfl rfl rfl) <| J.nil <| cc rfl h (fun hc16 h => ?_) fun hc16 h => ?_
 · refine CJ.seq <| CJ.region <| ja (ii 0) rfl <| J.nil <| CJ.ret ?_
   obtain rfl := si h
   exact ⟨_, _, Res.one rfl rfl, ⟨0, rfl, rfl, rfl⟩, (Hp.le_refl _), fun w hs => hs⟩
 refine CJ.skip <| CJ.seq <| CJ.region <| jm _ rfl <| jm (ii 4) rfl <| jv _ (V.nck rfl) <| jv _ (V.fad Tryz.underlying25 rfl nz23 rfl) ?_
 refine jv _ (V.iadA Tryz.underlying23 sz3 rfl rfl (by decide) (by decide)) <| jv (ii qa4) (V.ld rfl (Ld.sc sc3 (Rd.cl 0 rfl rfl))) <| ja (ii qa4) rfl <| J.nil <| CJ.ret ?_
 obtain rfl := si h
 exact ⟨_, _, Res.one rfl rfl, ⟨qa4, rfl, rfl, rfl⟩, (Hp.le_refl _), fun w hs => hs⟩

noncomputable def fn_tick_Counter_Of_p0c5_iiiiiii (qa0 : Int) (qa1 : Int) (qa2 : Int) (qa3 : Int) (qa4 : Int) (qa5 : Int) (qa6 : Int) : Option Int :=
  (fn_tick_isPart 5).bind fun t12 => cond (!t12) (some (0)) (some (qa5))
set_option maxRecDepth 100000 in
set_option maxHeartbeats 4000000 in
theorem tick_Counter_Of_p0c5_iiiiiii_ok {K : Hp} {qa0 : Int} {qa1 : Int} {qa2 : Int} {qa3 : Int} {qa4 : Int} {qa5 : Int} {qa6 : Int} {pba : Nat}  {r : Int} (h : fn_tick_Counter_Of_p0c5_iiiiiii qa0 qa1 qa2 qa3 qa4 qa5 qa6 = some r) :
    Tr Tryz.prog 10 #[.pointer (some ⟨pba, 0, none⟩), ii 5] K [Cl pba 25 [ii qa0, ii qa1, ii qa2, ii qa3, ii qa4, ii qa5, ii qa6]] (fun v K' L' => (∃ (i9 : Int), i9 = r ∧ ii i9 = v ∧ L' = [Cl pba 25 [ii qa0, ii qa1, ii qa2, ii qa3, ii qa4, ii qa5, ii qa6]]) ∧ K = K') := by
 refine Tr.k <| Tr.of Tryz.func10 rfl Tryz.ntmps10 rfl fun E F => ?_
 unfold fn_tick_Counter_Of_p0c5_iiiiiii at h
 refine CJ.seq <| CJ.region <| ja (ii 0) rfl <| J.nil <| CJ.seq <| CJ.seq <| CJ.region ?_
 refine jm _ rfl <| jv (.bool false) (Val.eq (V.pn_eql Tryz.underlying38 rfl rfl) rfl) <| jm (.bool false) rfl <| J.run rfl rfl rfl rfl <| jm (ii 5) rfl <| J.run rfl rfl rfl rfl ?_
 obtain ⟨r10, hr11, h⟩ := ob h
 refine J.op rfl (A.call (L1 := []) Tryz.call48 rfl (tick_isPart_ok hr11) rfl rfl) ?_
 rintro _ _ _ ⟨v13, _, rfl, ⟨⟨t12, rfl, rfl, rfl⟩, rfl⟩, _, rfl⟩
 refine J.run rfl rfl rfl rfl <| jv (.bool (!t12)) (V.not rfl) <| jv (.bool (!t12)) (V.pickF rfl rfl rfl) <| J.nil <| cc rfl h (fun hc16 h => ?_) fun hc16 h => ?_
 · refine CJ.seq <| CJ.region <| ja (ii 0) rfl <| J.nil <| CJ.ret ?_
   obtain rfl := si h
   exact ⟨_, _, Res.one rfl rfl, ⟨0, rfl, rfl, rfl⟩, (Hp.le_refl _), fun w hs => hs⟩
 refine CJ.skip <| CJ.seq <| CJ.region <| jm _ rfl <| jm (ii 5) rfl <| jv _ (V.nck rfl) <| jv _ (V.fad Tryz.underlying25 rfl nz23 rfl) ?_
 refine jv _ (V.iadA Tryz.underlying23 sz3 rfl rfl (by decide) (by decide)) <| jv (ii qa5) (V.ld rfl (Ld.sc sc3 (Rd.cl 0 rfl rfl))) <| ja (ii qa5) rfl <| J.nil <| CJ.ret ?_
 obtain rfl := si h
 exact ⟨_, _, Res.one rfl rfl, ⟨qa5, rfl, rfl, rfl⟩, (Hp.le_refl _), fun w hs => hs⟩

noncomputable def fn_tick_Counter_Of_p0c6_iiiiiii (qa0 : Int) (qa1 : Int) (qa2 : Int) (qa3 : Int) (qa4 : Int) (qa5 : Int) (qa6 : Int) : Option Int :=
  (fn_tick_isPart 6).bind fun t12 => cond (!t12) (some (0)) (some (qa6))
set_option maxRecDepth 100000 in
set_option maxHeartbeats 4000000 in
theorem tick_Counter_Of_p0c6_iiiiiii_ok {K : Hp} {qa0 : Int} {qa1 : Int} {qa2 : Int} {qa3 : Int} {qa4 : Int} {qa5 : Int} {qa6 : Int} {pba : Nat}  {r : Int} (h : fn_tick_Counter_Of_p0c6_iiiiiii qa0 qa1 qa2 qa3 qa4 qa5 qa6 = some r) :
    Tr Tryz.prog 10 #[.pointer (some ⟨pba, 0, none⟩), ii 6] K [Cl pba 25 [ii qa0, ii qa1, ii qa2, ii qa3, ii qa4, ii qa5, ii qa6]] (fun v K' L' => (∃ (i9 : Int), i9 = r ∧ ii i9 = v ∧ L' = [Cl pba 25 [ii qa0, ii qa1, ii qa2, ii qa3, ii qa4, ii qa5, ii qa6]]) ∧ K = K') := by
 refine Tr.k <| Tr.of Tryz.func10 rfl Tryz.ntmps10 rfl fun E F => ?_
 unfold fn_tick_Counter_Of_p0c6_iiiiiii at h
 refine CJ.seq <| CJ.region <| ja (ii 0) rfl <| J.nil <| CJ.seq <| CJ.seq <| CJ.region ?_
 refine jm _ rfl <| jv (.bool false) (Val.eq (V.pn_eql Tryz.underlying38 rfl rfl) rfl) <| jm (.bool false) rfl <| J.run rfl rfl rfl rfl <| jm (ii 6) rfl <| J.run rfl rfl rfl rfl ?_
 obtain ⟨r10, hr11, h⟩ := ob h
 refine J.op rfl (A.call (L1 := []) Tryz.call48 rfl (tick_isPart_ok hr11) rfl rfl) ?_
 rintro _ _ _ ⟨v13, _, rfl, ⟨⟨t12, rfl, rfl, rfl⟩, rfl⟩, _, rfl⟩
 refine J.run rfl rfl rfl rfl <| jv (.bool (!t12)) (V.not rfl) <| jv (.bool (!t12)) (V.pickF rfl rfl rfl) <| J.nil <| cc rfl h (fun hc16 h => ?_) fun hc16 h => ?_
 · refine CJ.seq <| CJ.region <| ja (ii 0) rfl <| J.nil <| CJ.ret ?_
   obtain rfl := si h
   exact ⟨_, _, Res.one rfl rfl, ⟨0, rfl, rfl, rfl⟩, (Hp.le_refl _), fun w hs => hs⟩
 refine CJ.skip <| CJ.seq <| CJ.region <| jm _ rfl <| jm (ii 6) rfl <| jv _ (V.nck rfl) <| jv _ (V.fad Tryz.underlying25 rfl nz23 rfl) ?_
 refine jv _ (V.iadA Tryz.underlying23 sz3 rfl rfl (by decide) (by decide)) <| jv (ii qa6) (V.ld rfl (Ld.sc sc3 (Rd.cl 0 rfl rfl))) <| ja (ii qa6) rfl <| J.nil <| CJ.ret ?_
 obtain rfl := si h
 exact ⟨_, _, Res.one rfl rfl, ⟨qa6, rfl, rfl, rfl⟩, (Hp.le_refl _), fun w hs => hs⟩

noncomputable def fn_tick_Counter_Total_p0_iiiiiii (qa0 : Int) (qa1 : Int) (qa2 : Int) (qa3 : Int) (qa4 : Int) (qa5 : Int) (qa6 : Int) : Option Int :=
  (fn_tick_Counter_Of_p0c0_iiiiiii qa0 qa1 qa2 qa3 qa4 qa5 qa6).bind fun i88 => (fn_tick_sum 0 i88).bind fun i94 => (fn_tick_Counter_Of_p0c1_iiiiiii qa0 qa1 qa2 qa3 qa4 qa5 qa6).bind fun i100 => (fn_tick_sum i94 i100).bind fun i106 => (fn_tick_Counter_Of_p0c2_iiiiiii qa0 qa1 qa2 qa3 qa4 qa5 qa6).bind fun i112 => (fn_tick_sum i106 i112).bind fun i118 => (fn_tick_Counter_Of_p0c3_iiiiiii qa0 qa1 qa2 qa3 qa4 qa5 qa6).bind fun i124 => (fn_tick_sum i118 i124).bind fun i130 => (fn_tick_Counter_Of_p0c4_iiiiiii qa0 qa1 qa2 qa3 qa4 qa5 qa6).bind fun i136 => (fn_tick_sum i130 i136).bind fun i142 => (fn_tick_Counter_Of_p0c5_iiiiiii qa0 qa1 qa2 qa3 qa4 qa5 qa6).bind fun i148 => (fn_tick_sum i142 i148).bind fun i154 => (fn_tick_Counter_Of_p0c6_iiiiiii qa0 qa1 qa2 qa3 qa4 qa5 qa6).bind fun i160 => (fn_tick_sum i154 i160).bind fun i166 => some (i166)
set_option maxRecDepth 100000 in
set_option maxHeartbeats 4000000 in
theorem tick_Counter_Total_p0_iiiiiii_ok {K : Hp} {qa0 : Int} {qa1 : Int} {qa2 : Int} {qa3 : Int} {qa4 : Int} {qa5 : Int} {qa6 : Int} {pba : Nat}  {r : Int} (h : fn_tick_Counter_Total_p0_iiiiiii qa0 qa1 qa2 qa3 qa4 qa5 qa6 = some r) :
    Tr Tryz.prog 11 #[.pointer (some ⟨pba, 0, none⟩)] K [Cl pba 25 [ii qa0, ii qa1, ii qa2, ii qa3, ii qa4, ii qa5, ii qa6]] (fun v K' L' => (∃ (i85 : Int), i85 = r ∧ ii i85 = v ∧ L' = [Cl pba 25 [ii qa0, ii qa1, ii qa2, ii qa3, ii qa4, ii qa5, ii qa6]]) ∧ K = K') := by
 refine Tr.k <| Tr.of Tryz.func11 rfl Tryz.ntmps11 rfl fun E F => ?_
 unfold fn_tick_Counter_Total_p0_iiiiiii at h
 refine CJ.seq <| CJ.region <| ja (ii 0) rfl <| J.nil <| CJ.seq <| CJ.region <| ja (ii 0) rfl ?_
 refine J.nil <| CJ.seq <| CJ.seq <| CJ.region <| jm (ii 0) rfl <| J.nil <| CJ.block ?_
 refine CJ.unroll 64 <| RJ.next <| CJ.seq <| CJ.region <| jv (.bool true) (Val.eq (V.lss rfl rfl) rfl) <| J.nil <| CJ.seq ?_
 refine CJ.condK (b := true) rfl rfl <| CJ.skip <| CJ.seq <| CJ.block <| CJ.seq <| CJ.region <| jm (ii 0) rfl ?_
 refine ja (ii 0) rfl <| J.nil <| CJ.region <| jm (ii 0) rfl <| jm _ rfl <| jm (ii 0) rfl ?_
 obtain ⟨r86, hr87, h⟩ := ob h
 refine J.op rfl (A.call (L1 := [Cl pba 25 [ii qa0, ii qa1, ii qa2, ii qa3, ii qa4, ii qa5, ii qa6]]) Tryz.call10 rfl (tick_Counter_Of_p0c0_iiiiiii_ok hr87) rfl rfl) ?_
 rintro _ _ _ ⟨v89, _, rfl, ⟨⟨i88, rfl, rfl, rfl⟩, rfl⟩, _, rfl⟩
 obtain ⟨r92, hr93, h⟩ := ob h
 refine J.op rfl (A.call (L1 := []) Tryz.call49 rfl (tick_sum_ok hr93) rfl rfl) ?_
 rintro _ _ _ ⟨v95, _, rfl, ⟨⟨i94, rfl, rfl, rfl⟩, rfl⟩, _, rfl⟩
 refine ja (ii i94) rfl <| J.nil <| CJ.region <| jv (ii 1) (Val.eq (V.add rfl rfl) rfl) <| jm (ii 1) rfl <| J.nil <| RJ.next ?_
 refine CJ.seq <| CJ.region <| jv (.bool true) (Val.eq (V.lss rfl rfl) rfl) <| J.nil <| CJ.seq <| CJ.condK (b := true) rfl rfl <| CJ.skip ?_
 refine CJ.seq <| CJ.block <| CJ.seq <| CJ.region <| jm (ii 1) rfl <| ja (ii 1) rfl <| J.nil ?_
 refine CJ.region <| jm (ii i94) rfl <| jm _ rfl <| jm (ii 1) rfl ?_
 obtain ⟨r98, hr99, h⟩ := ob h
 refine J.op rfl (A.call (L1 := [Cl pba 25 [ii qa0, ii qa1, ii qa2, ii qa3, ii qa4, ii qa5, ii qa6]]) Tryz.call10 rfl (tick_Counter_Of_p0c1_iiiiiii_ok hr99) rfl rfl) ?_
 rintro _ _ _ ⟨v101, _, rfl, ⟨⟨i100, rfl, rfl, rfl⟩, rfl⟩, _, rfl⟩
 obtain ⟨r104, hr105, h⟩ := ob h
 refine J.op rfl (A.call (L1 := []) Tryz.call49 rfl (tick_sum_ok hr105) rfl rfl) ?_
 rintro _ _ _ ⟨v107, _, rfl, ⟨⟨i106, rfl, rfl, rfl⟩, rfl⟩, _, rfl⟩
 refine ja (ii i106) rfl <| J.nil <| CJ.region <| jv (ii 2) (Val.eq (V.add rfl rfl) rfl) <| jm (ii 2) rfl <| J.nil <| RJ.next ?_
 refine CJ.seq <| CJ.region <| jv (.bool true) (Val.eq (V.lss rfl rfl) rfl) <| J.nil <| CJ.seq <| CJ.condK (b := true) rfl rfl <| CJ.skip ?_
 refine CJ.seq <| CJ.block <| CJ.seq <| CJ.region <| jm (ii 2) rfl <| ja (ii 2) rfl <| J.nil ?_
 refine CJ.region <| jm (ii i106) rfl <| jm _ rfl <| jm (ii 2) rfl ?_
 obtain ⟨r110, hr111, h⟩ := ob h
 refine J.op rfl (A.call (L1 := [Cl pba 25 [ii qa0, ii qa1, ii qa2, ii qa3, ii qa4, ii qa5, ii qa6]]) Tryz.call10 rfl (tick_Counter_Of_p0c2_iiiiiii_ok hr111) rfl rfl) ?_
 rintro _ _ _ ⟨v113, _, rfl, ⟨⟨i112, rfl, rfl, rfl⟩, rfl⟩, _, rfl⟩
 obtain ⟨r116, hr117, h⟩ := ob h
 refine J.op rfl (A.call (L1 := []) Tryz.call49 rfl (tick_sum_ok hr117) rfl rfl) ?_
 rintro _ _ _ ⟨v119, _, rfl, ⟨⟨i118, rfl, rfl, rfl⟩, rfl⟩, _, rfl⟩
 refine ja (ii i118) rfl <| J.nil <| CJ.region <| jv (ii 3) (Val.eq (V.add rfl rfl) rfl) <| jm (ii 3) rfl <| J.nil <| RJ.next ?_
 refine CJ.seq <| CJ.region <| jv (.bool true) (Val.eq (V.lss rfl rfl) rfl) <| J.nil <| CJ.seq <| CJ.condK (b := true) rfl rfl <| CJ.skip ?_
 refine CJ.seq <| CJ.block <| CJ.seq <| CJ.region <| jm (ii 3) rfl <| ja (ii 3) rfl <| J.nil ?_
 refine CJ.region <| jm (ii i118) rfl <| jm _ rfl <| jm (ii 3) rfl ?_
 obtain ⟨r122, hr123, h⟩ := ob h
 refine J.op rfl (A.call (L1 := [Cl pba 25 [ii qa0, ii qa1, ii qa2, ii qa3, ii qa4, ii qa5, ii qa6]]) Tryz.call10 rfl (tick_Counter_Of_p0c3_iiiiiii_ok hr123) rfl rfl) ?_
 rintro _ _ _ ⟨v125, _, rfl, ⟨⟨i124, rfl, rfl, rfl⟩, rfl⟩, _, rfl⟩
 obtain ⟨r128, hr129, h⟩ := ob h
 refine J.op rfl (A.call (L1 := []) Tryz.call49 rfl (tick_sum_ok hr129) rfl rfl) ?_
 rintro _ _ _ ⟨v131, _, rfl, ⟨⟨i130, rfl, rfl, rfl⟩, rfl⟩, _, rfl⟩
 refine ja (ii i130) rfl <| J.nil <| CJ.region <| jv (ii 4) (Val.eq (V.add rfl rfl) rfl) <| jm (ii 4) rfl <| J.nil <| RJ.next ?_
 refine CJ.seq <| CJ.region <| jv (.bool true) (Val.eq (V.lss rfl rfl) rfl) <| J.nil <| CJ.seq <| CJ.condK (b := true) rfl rfl <| CJ.skip ?_
 refine CJ.seq <| CJ.block <| CJ.seq <| CJ.region <| jm (ii 4) rfl <| ja (ii 4) rfl <| J.nil ?_
 refine CJ.region <| jm (ii i130) rfl <| jm _ rfl <| jm (ii 4) rfl ?_
 obtain ⟨r134, hr135, h⟩ := ob h
 refine J.op rfl (A.call (L1 := [Cl pba 25 [ii qa0, ii qa1, ii qa2, ii qa3, ii qa4, ii qa5, ii qa6]]) Tryz.call10 rfl (tick_Counter_Of_p0c4_iiiiiii_ok hr135) rfl rfl) ?_
 rintro _ _ _ ⟨v137, _, rfl, ⟨⟨i136, rfl, rfl, rfl⟩, rfl⟩, _, rfl⟩
 obtain ⟨r140, hr141, h⟩ := ob h
 refine J.op rfl (A.call (L1 := []) Tryz.call49 rfl (tick_sum_ok hr141) rfl rfl) ?_
 rintro _ _ _ ⟨v143, _, rfl, ⟨⟨i142, rfl, rfl, rfl⟩, rfl⟩, _, rfl⟩
 refine ja (ii i142) rfl <| J.nil <| CJ.region <| jv (ii 5) (Val.eq (V.add rfl rfl) rfl) <| jm (ii 5) rfl <| J.nil <| RJ.next ?_
 refine CJ.seq <| CJ.region <| jv (.bool true) (Val.eq (V.lss rfl rfl) rfl) <| J.nil <| CJ.seq <| CJ.condK (b := true) rfl rfl <| CJ.skip ?_
 refine CJ.seq <| CJ.block <| CJ.seq <| CJ.region <| jm (ii 5) rfl <| ja (ii 5) rfl <| J.nil ?_
 refine CJ.region <| jm (ii i142) rfl <| jm _ rfl <| jm (ii 5) rfl ?_
 obtain ⟨r146, hr147, h⟩ := ob h
 refine J.op rfl (A.call (L1 := [Cl pba 25 [ii qa0, ii qa1, ii qa2, ii qa3, ii qa4, ii qa5, ii qa6]]) Tryz.call10 rfl (tick_Counter_Of_p0c5_iiiiiii_ok hr147) rfl rfl) ?_
 rintro _ _ _ ⟨v149, _, rfl, ⟨⟨i148, rfl, rfl, rfl⟩, rfl⟩, _, rfl⟩
 obtain ⟨r152, hr153, h⟩ := ob h
 refine J.op rfl (A.call (L1 := []) Tryz.call49 rfl (tick_sum_ok hr153) rfl rfl) ?_
 rintro _ _ _ ⟨v155, _, rfl, ⟨⟨i154, rfl, rfl, rfl⟩, rfl⟩, _, rfl⟩
 refine ja (ii i154) rfl <| J.nil <| CJ.region <| jv (ii 6) (Val.eq (V.add rfl rfl) rfl) <| jm (ii 6) rfl <| J.nil <| RJ.next ?_
 refine CJ.seq <| CJ.region <| jv (.bool true) (Val.eq (V.lss rfl rfl) rfl) <| J.nil <| CJ.seq <| CJ.condK (b := true) rfl rfl <| CJ.skip ?_
 refine CJ.seq <| CJ.block <| CJ.seq <| CJ.region <| jm (ii 6) rfl <| ja (ii 6) rfl <| J.nil ?_
 refine CJ.region <| jm (ii i154) rfl <| jm _ rfl <| jm (ii 6) rfl ?_
 obtain ⟨r158, hr159, h⟩ := ob h
 refine J.op rfl (A.call (L1 := [Cl pba 25 [ii qa0, ii qa1, ii qa2, ii qa3, ii qa4, ii qa5, ii qa6]]) Tryz.call10 rfl (tick_Counter_Of_p0c6_iiiiiii_ok hr159) rfl rfl) ?_
 rintro _ _ _ ⟨v161, _, rfl, ⟨⟨i160, rfl, rfl, rfl⟩, rfl⟩, _, rfl⟩
 obtain ⟨r164, hr165, h⟩ := ob h
 refine J.op rfl (A.call (L1 := []) Tryz.call49 rfl (tick_sum_ok hr165) rfl rfl) ?_
 rintro _ _ _ ⟨v167, _, rfl, ⟨⟨i166, rfl, rfl, rfl⟩, rfl⟩, _, rfl⟩
 refine ja (ii i166) rfl <| J.nil <| CJ.region <| jv (ii 7) (Val.eq (V.add rfl rfl) rfl) <| jm (ii 7) rfl <| J.nil <| RJ.next ?_
 refine CJ.seq <| CJ.region <| jv (.bool false) (Val.eq (V.lss rfl rfl) rfl) <| J.nil <| CJ.seq <| CJ.condK (b := false) rfl rfl <| CJ.exit ?_
 refine CJ.seq <| CJ.region <| jm (ii i166) rfl <| ja (ii i166) rfl <| J.nil <| CJ.ret ?_
 obtain rfl := si h
 exact ⟨_, _, Res.one rfl rfl, ⟨i166, rfl, rfl, rfl⟩, (Hp.le_refl _), fun w hs => hs⟩

noncomputable def fn_law20_BodyTakes (xa : (List UInt8)) : Option Bool :=
  cond (decide (500 < (((xa.length : Nat) : Int)))) ((fn_law20_awake).bind fun t274 => some (t274)) ((fn_body_Take_sp0_iiiiiii xa 0 0 0 0 0 0 0).bind fun (i281, i282, l283, l284, l285, l286, l287, i288, i289) => (fn_ref20_Take xa).bind fun (i316, i317, l318, l319, l320, l321, l322, i323) => (fn_ref20_Same (i281, i282, l283, l284, l285, l286, l287) (i316, i317, l318, l319, l320, l321, l322)).bind fun t380 => (cond ((!t380) || (!decide (i288 = i323))) (some (true)) ((fn_body_Same (i281, i282, l283, l284, l285, l286, l287) (i316, i317, l318, l319, l320, l321, l322)).bind fun t459 => some (!t459))).bind fun t424 => (cond (t424) (some (true)) ((fn_tick_Counter_Of_p0c0_iiiiiii i289 0 0 0 0 0 0).bind fun i475 => some (decide ((IntKind.wrap .i64 ((((xa.length : Nat) : Int)) + 1)) < i475)))).bind fun t470 => (cond (t470) (some (true)) ((fn_tick_Counter_Total_p0_iiiiiii i289 0 0 0 0 0 0).bind fun i497 => (fn_tick_Counter_Of_p0c0_iiiiiii i289 0 0 0 0 0 0).bind fun i503 => some (!decide (i497 = i503)))).bind fun t492 => cond (t492) (some (false)) ((cond (!decide (i288 = 0)) (some (true)) ((fn_tick_Counter_Total_p0_iiiiiii i289 0 0 0 0 0 0).bind fun i520 => some (decide (0 < i520)))).bind fun t515 => (cond (t515) ((fn_law20_awake).bind fun t536 => some (t536)) (some (false))).bind fun t531 => some (t531)))
set_option maxRecDepth 100000 in
set_option maxHeartbeats 4000000 in
theorem law20_BodyTakes_ok {K : Hp} {xa : (List UInt8)}   {r : Bool} (h : fn_law20_BodyTakes xa = some r) :
    Tr Tryz.prog 3 #[.string ⟨xa.toArray⟩] K [] (fun v K' L' => (∃ (t270 : Bool), t270 = r ∧ .bool t270 = v ∧ L' = []) ∧ K = K') := by
 refine Tr.k <| Tr.of Tryz.func3 rfl Tryz.ntmps3 rfl fun E F => ?_
 unfold fn_law20_BodyTakes at h
 refine CJ.seq <| CJ.region <| ja (.bool false) rfl <| J.nil <| CJ.seq <| CJ.seq <| CJ.region ?_
 refine jm (.string ⟨xa.toArray⟩) rfl <| jv (ii (((xa.length : Nat) : Int))) (V.lens Tryz.underlying9 rfl) <| jv (.bool (decide (500 < (((xa.length : Nat) : Int))))) (V.gtr rfl rfl) <| J.nil <| cc rfl h (fun hc271 h => ?_) fun hc271 h => ?_
 · refine CJ.seq <| CJ.region ?_
   obtain ⟨r272, hr273, h⟩ := ob h
   refine J.op rfl (A.call (L1 := []) Tryz.call5 rfl (law20_awake_ok hr273) rfl rfl) ?_
   rintro _ _ _ ⟨v275, _, rfl, ⟨⟨t274, rfl, rfl, rfl⟩, rfl⟩, _, rfl⟩
   refine ja (.bool t274) rfl <| J.nil <| CJ.ret ?_
   obtain rfl := si h
   exact ⟨_, _, Res.one rfl rfl, ⟨t274, rfl, rfl, rfl⟩, (Hp.le_refl _), fun w hs => hs⟩
 refine CJ.skip <| CJ.seq <| CJ.region <| jal inf25 [ii 0, ii 0, ii 0, ii 0, ii 0, ii 0, ii 0] rfl fun b278 => J.nil <| CJ.seq <| CJ.region ?_
 refine jm (.string ⟨xa.toArray⟩) rfl ?_
 obtain ⟨r279, hr280, h⟩ := ob h
 refine J.op rfl (A.call (L1 := [Cl b278 25 [ii 0, ii 0, ii 0, ii 0, ii 0, ii 0, ii 0]]) Tryz.call6 rfl (body_Take_sp0_iiiiiii_ok hr280) rfl rfl) ?_
 rintro _ K306 _ ⟨v305, _, rfl, ⟨i281, i282, l283, l284, l285, l286, l287, i288, i289, ad290, cp291, ad292, cp293, ad294, cp295, ad296, cp297, ad298, cp299, rfl, rfl, rfl⟩, hK307, rfl⟩
 refine J.front 1 rfl <| J.wit Row.hn fun hn300 => J.front 2 rfl <| J.wit Row.hn fun hn301 => J.front 3 rfl <| J.wit Row.hn fun hn302 => J.front 4 rfl ?_
 refine J.wit Row.hn fun hn303 => J.front 5 rfl <| J.wit Row.hn fun hn304 => jm (.tuple #[.agg #[ii i281, ii i282, .slice ad290 l283.length cp291, .slice ad292 l284.length cp293, .slice ad294 l285.length cp295, .slice ad296 l286.length cp297, .slice ad298 l287.length cp299], ii i288]) rfl <| jx (.agg #[ii i281, ii i282, .slice ad290 l283.length cp291, .slice ad292 l284.length cp293, .slice ad294 l285.length cp295, .slice ad296 l286.length cp297, .slice ad298 l287.length cp299]) rfl rfl <| jx (ii i288) rfl rfl <| jal inf34 [ii 0, ii 0, .slice none 0 0, .slice none 0 0, .slice none 0 0, .slice none 0 0, .slice none 0 0] rfl fun b313 => ?_
 refine js [ii i281, ii i282, .slice ad290 l283.length cp291, .slice ad292 l284.length cp293, .slice ad294 l285.length cp295, .slice ad296 l286.length cp297, .slice ad298 l287.length cp299] sz34 rfl rfl rfl rfl rfl rfl <| ja (ii i288) rfl <| J.nil <| CJ.seq <| CJ.region <| jm (.string ⟨xa.toArray⟩) rfl ?_
 obtain ⟨r314, hr315, h⟩ := ob h
 refine J.op rfl (A.call (L1 := []) Tryz.call7 rfl (ref20_Take_ok hr315) rfl rfl) ?_
 rintro _ K340 _ ⟨v339, _, rfl, ⟨i316, i317, l318, l319, l320, l321, l322, i323, ad324, cp325, ad326, cp327, ad328, cp329, ad330, cp331, ad332, cp333, rfl, rfl, rfl⟩, hK341, rfl⟩
 refine J.wit Row.hn fun hn334 => J.front 1 rfl <| J.wit Row.hn fun hn335 => J.front 2 rfl <| J.wit Row.hn fun hn336 => J.front 3 rfl <| J.wit Row.hn fun hn337 => ?_
 refine J.front 4 rfl <| J.wit Row.hn fun hn338 => jm (.tuple #[.agg #[ii i316, ii i317, .slice ad324 l318.length cp325, .slice ad326 l319.length cp327, .slice ad328 l320.length cp329, .slice ad330 l321.length cp331, .slice ad332 l322.length cp333], ii i323]) rfl <| jx (.agg #[ii i316, ii i317, .slice ad324 l318.length cp325, .slice ad326 l319.length cp327, .slice ad328 l320.length cp329, .slice ad330 l321.length cp331, .slice ad332 l322.length cp333]) rfl rfl <| jx (ii i323) rfl rfl <| jal inf34 [ii 0, ii 0, .slice none 0 0, .slice none 0 0, .slice none 0 0, .slice none 0 0, .slice none 0 0] rfl fun b347 => js [ii i316, ii i317, .slice ad324 l318.length cp325, .slice ad326 l319.length cp327, .slice ad328 l320.length cp329, .slice ad330 l321.length cp331, .slice ad332 l322.length cp333] sz34 rfl rfl rfl rfl rfl rfl ?_
 refine ja (ii i323) rfl <| J.nil <| CJ.seq <| CJ.seq <| CJ.region <| jv (.agg #[ii i281, ii i282, .slice ad290 l283.length cp291, .slice ad292 l284.length cp293, .slice ad294 l285.length cp295, .slice ad296 l286.length cp297, .slice ad298 l287.length cp299]) (V.ld rfl (Ld.agg (cs := [ii i281, ii i282, .slice ad290 l283.length cp291, .slice ad292 l284.length cp293, .slice ad294 l285.length cp295, .slice ad296 l286.length cp297, .slice ad298 l287.length cp299]) Tryz.underlying34 sz34 rfl (Rd.cls 6 0 rfl rfl))) <| jv (.agg #[ii i316, ii i317, .slice ad324 l318.length cp325, .slice ad326 l319.length cp327, .slice ad328 l320.length cp329, .slice ad330 l321.length cp331, .slice ad332 l322.length cp333]) (V.ld rfl (Ld.agg (cs := [ii i316, ii i317, .slice ad324 l318.length cp325, .slice ad326 l319.length cp327, .slice ad328 l320.length cp329, .slice ad330 l321.length cp331, .slice ad332 l322.length cp333]) Tryz.underlying34 sz34 rfl (Rd.cls 0 0 rfl rfl))) ?_
 obtain ⟨r348, hr349, h⟩ := ob h
 refine J.front 1 rfl <| J.front 2 rfl <| J.front 3 rfl <| J.front 4 rfl <| J.front 5 rfl <| J.front 7 rfl <| J.front 8 rfl ?_
 refine J.front 9 rfl <| J.front 10 rfl <| J.front 11 rfl <| J.op rfl (A.call (L1 := [Row Hp.nil 95 (.cons (.int .i64) (.one (.int .i64))) (.slice ad290 l283.length cp291) l283, Row K306 30 (.one (.sl (.cons (.int .i64) (.one .bool)))) (.slice ad292 l284.length cp293) l284, Row Hp.nil 146 (.cons (.int .i64) (.one .bool)) (.slice ad294 l285.length cp295) l285, Row K306 63 (.cons (.int .i64) (.cons (.sl (.cons (.int .i64) (.one (.int .i64)))) (.cons (.sl (.one (.sl (.cons (.int .i64) (.one .bool))))) (.one (.one (.sl (.cons (.int .i64) (.one .bool)))))))) (.slice ad296 l286.length cp297) l286, Row K306 70 (.cons (.sl (.cons (.int .i64) (.cons (.int .i64) (.cons (.int .i64) (.cons (.int .i64) (.one .bool)))))) (.one (.cons (.int .i64) (.cons (.int .i64) (.cons (.int .i64) (.cons (.sl (.int .i64)) (.cons (.sl (.int .i64)) (.one (.sl (.int .i64)))))))))) (.slice ad298 l287.length cp299) l287, Row Hp.nil 95 (.cons (.int .i64) (.one (.int .i64))) (.slice ad324 l318.length cp325) l318, Row K340 30 (.one (.sl (.cons (.int .i64) (.one .bool)))) (.slice ad326 l319.length cp327) l319, Row Hp.nil 146 (.cons (.int .i64) (.one .bool)) (.slice ad328 l320.length cp329) l320, Row K340 63 (.cons (.int .i64) (.cons (.sl (.cons (.int .i64) (.one (.int .i64)))) (.cons (.sl (.one (.sl (.cons (.int .i64) (.one .bool))))) (.one (.one (.sl (.cons (.int .i64) (.one .bool)))))))) (.slice ad330 l321.length cp331) l321, Row K340 70 (.cons (.sl (.cons (.int .i64) (.cons (.int .i64) (.cons (.int .i64) (.cons (.int .i64) (.one .bool)))))) (.one (.cons (.int .i64) (.cons (.int .i64) (.cons (.int .i64) (.cons (.sl (.int .i64)) (.cons (.sl (.int .i64)) (.one (.sl (.int .i64)))))))))) (.slice ad332 l322.length cp333) l322]) Tryz.call8 rfl (Tr.lend (Hp.nil_le _) (by decide) (fun K350 hK351 f352 => Tr.lend (Hp.le.trans hK341 hK351) (by decide) (fun K353 hK354 f355 => Tr.lend (Hp.nil_le _) (by decide) (fun K356 hK357 f358 => Tr.lend (Hp.le.trans (Hp.le.trans (Hp.le.trans hK341 hK351) hK354) hK357) (by decide) (fun K359 hK360 f361 => Tr.lend (Hp.le.trans (Hp.le.trans (Hp.le.trans (Hp.le.trans hK341 hK351) hK354) hK357) hK360) (by decide) (fun K362 hK363 f364 => Tr.lend (Hp.nil_le _) (by decide) (fun K365 hK366 f367 => Tr.lend (Hp.le.trans (Hp.le.trans (Hp.le.trans (Hp.le.trans (Hp.le.trans (Hp.le.trans (Hp.le_refl _) hK351) hK354) hK357) hK360) hK363) hK366) (by decide) (fun K368 hK369 f370 => Tr.lend (Hp.nil_le _) (by decide) (fun K371 hK372 f373 => Tr.lend (Hp.le.trans (Hp.le.trans (Hp.le.trans (Hp.le.trans (Hp.le.trans (Hp.le.trans (Hp.le.trans (Hp.le.trans (Hp.le_refl _) hK351) hK354) hK357) hK360) hK363) hK366) hK369) hK372) (by decide) (fun K374 hK375 f376 => Tr.lend (Hp.le.trans (Hp.le.trans (Hp.le.trans (Hp.le.trans (Hp.le.trans (Hp.le.trans (Hp.le.trans (Hp.le.trans (Hp.le.trans (Hp.le_refl _) hK351) hK354) hK357) hK360) hK363) hK366) hK369) hK372) hK375) (by decide) (fun K377 hK378 f379 => ref20_Same_ok (((((((((f352.mono hK354).mono hK357).mono hK360).mono hK363).mono hK366).mono hK369).mono hK372).mono hK375).mono hK378) ((((((((f355.mono hK357).mono hK360).mono hK363).mono hK366).mono hK369).mono hK372).mono hK375).mono hK378) (((((((f358.mono hK360).mono hK363).mono hK366).mono hK369).mono hK372).mono hK375).mono hK378) ((((((f361.mono hK363).mono hK366).mono hK369).mono hK372).mono hK375).mono hK378) (((((f364.mono hK366).mono hK369).mono hK372).mono hK375).mono hK378) ((((f367.mono hK369).mono hK372).mono hK375).mono hK378) (((f370.mono hK372).mono hK375).mono hK378) ((f373.mono hK375).mono hK378) (f376.mono hK378) f379 hr349))))))))))) rfl rfl) ?_
 rintro _ _ _ ⟨v381, _, rfl, ⟨⟨_, ⟨_, ⟨_, ⟨_, ⟨_, ⟨_, ⟨_, ⟨_, ⟨_, ⟨_, ⟨t380, rfl, rfl, rfl⟩, rfl⟩, rfl⟩, rfl⟩, rfl⟩, rfl⟩, rfl⟩, rfl⟩, rfl⟩, rfl⟩, rfl⟩, rfl⟩, _, rfl⟩
 refine jv (.bool (!t380)) (V.not rfl) <| jm (.bool (!t380)) rfl <| J.cut 4 <| jmeet [(30, .bool ((!t380) || (!decide (i288 = i323)))), (0, .string ⟨xa.toArray⟩), (3, .pointer (some ⟨b278, 0, none⟩)), (4, .pointer (some ⟨b313, 0, none⟩)), (5, ii i288), (6, .pointer (some ⟨b347, 0, none⟩))] ?_ ?_
 · rcases bt (!t380) with hc386 | hc386
   · refine J.skip rfl rfl rfl rfl hc386 <| J.skip rfl rfl rfl rfl hc386 <| J.skip rfl rfl rfl rfl hc386 <| jv (.bool true) (V.pickT rfl hc386 rfl) <| J.nil ?_
     exact ⟨rfl, ⟨(by simp only [hc386]; rfl), rfl, rfl, rfl, rfl, rfl, trivial⟩, rfl, rfl⟩
   refine J.run rfl rfl rfl hc386 <| jm (ii i288) rfl <| J.run rfl rfl rfl hc386 <| jm (ii i323) rfl <| J.run rfl rfl rfl hc386 <| jv (.bool (!decide (i288 = i323))) (V.neq rfl rfl) <| jv (.bool (!decide (i288 = i323))) (V.pickF rfl hc386 rfl) ?_
   refine J.nil ?_
   exact ⟨rfl, ⟨(by simp only [hc386]; rfl), rfl, rfl, rfl, rfl, rfl, trivial⟩, rfl, rfl⟩
 intro ρ
 refine jm (.bool ((!t380) || (!decide (i288 = i323)))) rfl <| J.cut 5 ?_
 obtain ⟨t424, ht425, h⟩ := ob h
 refine jmeet [(36, .bool t424), (0, .string ⟨xa.toArray⟩), (3, .pointer (some ⟨b278, 0, none⟩)), (5, ii i288)] ?_ ?_
 · rcases bt ((!t380) || (!decide (i288 = i323))) with hc426 | hc426
   · have ht425 := ct hc426 ht425
     refine J.skip rfl rfl rfl rfl hc426 <| J.skip rfl rfl rfl rfl hc426 <| J.skip rfl rfl rfl rfl hc426 <| J.skip rfl rfl rfl rfl hc426 <| jv (.bool true) (V.pickT rfl hc426 rfl) <| J.nil ?_
     obtain rfl := si ht425
     exact ⟨rfl, ⟨rfl, rfl, rfl, rfl, trivial⟩, rfl, rfl⟩
   have ht425 := cf hc426 ht425
   refine J.run rfl rfl rfl hc426 <| jv (.agg #[ii i281, ii i282, .slice ad290 l283.length cp291, .slice ad292 l284.length cp293, .slice ad294 l285.length cp295, .slice ad296 l286.length cp297, .slice ad298 l287.length cp299]) (V.ld rfl (Ld.agg (cs := [ii i281, ii i282, .slice ad290 l283.length cp291, .slice ad292 l284.length cp293, .slice ad294 l285.length cp295, .slice ad296 l286.length cp297, .slice ad298 l287.length cp299]) Tryz.underlying34 sz34 rfl (Rd.cls 11 0 rfl rfl))) <| J.run rfl rfl rfl hc426 <| jv (.agg #[ii i316, ii i317, .slice ad324 l318.length cp325, .slice ad326 l319.length cp327, .slice ad328 l320.length cp329, .slice ad330 l321.length cp331, .slice ad332 l322.length cp333]) (V.ld rfl (Ld.agg (cs := [ii i316, ii i317, .slice ad324 l318.length cp325, .slice ad326 l319.length cp327, .slice ad328 l320.length cp329, .slice ad330 l321.length cp331, .slice ad332 l322.length cp333]) Tryz.underlying34 sz34 rfl (Rd.cls 10 0 rfl rfl))) <| J.run rfl rfl rfl hc426 ?_
   obtain ⟨r427, hr428, ht425⟩ := ob ht425
   refine J.op rfl (A.call (L1 := [Row Hp.nil 95 (.cons (.int .i64) (.one (.int .i64))) (.slice ad290 l283.length cp291) l283, Row K306 30 (.one (.sl (.cons (.int .i64) (.one .bool)))) (.slice ad292 l284.length cp293) l284, Row Hp.nil 146 (.cons (.int .i64) (.one .bool)) (.slice ad294 l285.length cp295) l285, Row K306 63 (.cons (.int .i64) (.cons (.sl (.cons (.int .i64) (.one (.int .i64)))) (.cons (.sl (.one (.sl (.cons (.int .i64) (.one .bool))))) (.one (.one (.sl (.cons (.int .i64) (.one .bool)))))))) (.slice ad296 l286.length cp297) l286, Row K306 70 (.cons (.sl (.cons (.int .i64) (.cons (.int .i64) (.cons (.int .i64) (.cons (.int .i64) (.one .bool)))))) (.one (.cons (.int .i64) (.cons (.int .i64) (.cons (.int .i64) (.cons (.sl (.int .i64)) (.cons (.sl (.int .i64)) (.one (.sl (.int .i64)))))))))) (.slice ad298 l287.length cp299) l287, Row Hp.nil 95 (.cons (.int .i64) (.one (.int .i64))) (.slice ad324 l318.length cp325) l318, Row K340 30 (.one (.sl (.cons (.int .i64) (.one .bool)))) (.slice ad326 l319.length cp327) l319, Row Hp.nil 146 (.cons (.int .i64) (.one .bool)) (.slice ad328 l320.length cp329) l320, Row K340 63 (.cons (.int .i64) (.cons (.sl (.cons (.int .i64) (.one (.int .i64)))) (.cons (.sl (.one (.sl (.cons (.int .i64) (.one .bool))))) (.one (.one (.sl (.cons (.int .i64) (.one .bool)))))))) (.slice ad330 l321.length cp331) l321, Row K340 70 (.cons (.sl (.cons (.int .i64) (.cons (.int .i64) (.cons (.int .i64) (.cons (.int .i64) (.one .bool)))))) (.one (.cons (.int .i64) (.cons (.int .i64) (.cons (.int .i64) (.cons (.sl (.int .i64)) (.cons (.sl (.int .i64)) (.one (.sl (.int .i64)))))))))) (.slice ad332 l322.length cp333) l322]) Tryz.call9 rfl (Tr.lend (Hp.nil_le _) (by decide) (fun K429 hK430 f431 => Tr.lend (Hp.le.trans hK341 hK430) (by decide) (fun K432 hK433 f434 => Tr.lend (Hp.nil_le _) (by decide) (fun K435 hK436 f437 => Tr.lend (Hp.le.trans (Hp.le.trans (Hp.le.trans hK341 hK430) hK433) hK436) (by decide) (fun K438 hK439 f440 => Tr.lend (Hp.le.trans (Hp.le.trans (Hp.le.trans (Hp.le.trans hK341 hK430) hK433) hK436) hK439) (by decide) (fun K441 hK442 f443 => Tr.lend (Hp.nil_le _) (by decide) (fun K444 hK445 f446 => Tr.lend (Hp.le.trans (Hp.le.trans (Hp.le.trans (Hp.le.trans (Hp.le.trans (Hp.le.trans (Hp.le_refl _) hK430) hK433) hK436) hK439) hK442) hK445) (by decide) (fun K447 hK448 f449 => Tr.lend (Hp.nil_le _) (by decide) (fun K450 hK451 f452 => Tr.lend (Hp.le.trans (Hp.le.trans (Hp.le.trans (Hp.le.trans (Hp.le.trans (Hp.le.trans (Hp.le.trans (Hp.le.trans (Hp.le_refl _) hK430) hK433) hK436) hK439) hK442) hK445) hK448) hK451) (by decide) (fun K453 hK454 f455 => Tr.lend (Hp.le.trans (Hp.le.trans (Hp.le.trans (Hp.le.trans (Hp.le.trans (Hp.le.trans (Hp.le.trans (Hp.le.trans (Hp.le.trans (Hp.le_refl _) hK430) hK433) hK436) hK439) hK442) hK445) hK448) hK451) hK454) (by decide) (fun K456 hK457 f458 => body_Same_ok (((((((((f431.mono hK433).mono hK436).mono hK439).mono hK442).mono hK445).mono hK448).mono hK451).mono hK454).mono hK457) ((((((((f434.mono hK436).mono hK439).mono hK442).mono hK445).mono hK448).mono hK451).mono hK454).mono hK457) (((((((f437.mono hK439).mono hK442).mono hK445).mono hK448).mono hK451).mono hK454).mono hK457) ((((((f440.mono hK442).mono hK445).mono hK448).mono hK451).mono hK454).mono hK457) (((((f443.mono hK445).mono hK448).mono hK451).mono hK454).mono hK457) ((((f446.mono hK448).mono hK451).mono hK454).mono hK457) (((f449.mono hK451).mono hK454).mono hK457) ((f452.mono hK454).mono hK457) (f455.mono hK457) f458 hr428))))))))))) rfl rfl) ?_
   rintro _ _ _ ⟨v460, _, rfl, ⟨⟨_, ⟨_, ⟨_, ⟨_, ⟨_, ⟨_, ⟨_, ⟨_, ⟨_, ⟨_, ⟨t459, rfl, rfl, rfl⟩, rfl⟩, rfl⟩, rfl⟩, rfl⟩, rfl⟩, rfl⟩, rfl⟩, rfl⟩, rfl⟩, rfl⟩, rfl⟩, _, rfl⟩
   refine J.run rfl rfl rfl hc426 <| jv (.bool (!t459)) (V.not rfl) <| jv (.bool (!t459)) (V.pickF rfl hc426 rfl) <| J.nil ?_
   obtain rfl := si ht425
   exact ⟨rfl, ⟨rfl, rfl, rfl, rfl, trivial⟩, rfl, rfl⟩
 intro ρ
 refine jm (.bool t424) rfl <| J.cut 6 ?_
 obtain ⟨t470, ht471, h⟩ := ob h
 refine jmeet [(43, .bool t470), (3, .pointer (some ⟨b278, 0, none⟩)), (5, ii i288)] ?_ ?_
 · rcases bt (t424) with hc472 | hc472
   · have ht471 := ct hc472 ht471
     refine J.skip rfl rfl rfl rfl hc472 <| J.skip rfl rfl rfl rfl hc472 <| J.skip rfl rfl rfl rfl hc472 <| J.skip rfl rfl rfl rfl hc472 <| J.skip rfl rfl rfl rfl hc472 <| jv (.bool true) (V.pickT rfl hc472 rfl) <| J.nil ?_
     obtain rfl := si ht471
     exact ⟨rfl, ⟨rfl, rfl, rfl, trivial⟩, rfl, rfl⟩
   have ht471 := cf hc472 ht471
   refine J.run rfl rfl rfl hc472 ?_
   obtain ⟨r473, hr474, ht471⟩ := ob ht471
   refine J.front 12 rfl <| J.op rfl (A.call (L1 := [Cl b278 25 [ii i289, ii 0, ii 0, ii 0, ii 0, ii 0, ii 0]]) Tryz.call10 rfl (tick_Counter_Of_p0c0_iiiiiii_ok hr474) rfl rfl) ?_
   rintro _ _ _ ⟨v476, _, rfl, ⟨⟨i475, rfl, rfl, rfl⟩, rfl⟩, _, rfl⟩
   refine J.run rfl rfl rfl hc472 <| jm (.string ⟨xa.toArray⟩) rfl <| J.run rfl rfl rfl hc472 <| jv (ii (((xa.length : Nat) : Int))) (V.lens Tryz.underlying9 rfl) <| J.run rfl rfl rfl hc472 <| jv (ii (IntKind.wrap .i64 ((((xa.length : Nat) : Int)) + 1))) (V.add rfl rfl) <| J.run rfl rfl rfl hc472 ?_
   refine jv (.bool (decide ((IntKind.wrap .i64 ((((xa.length : Nat) : Int)) + 1)) < i475))) (V.gtr rfl rfl) <| jv (.bool (decide ((IntKind.wrap .i64 ((((xa.length : Nat) : Int)) + 1)) < i475))) (V.pickF rfl hc472 rfl) <| J.front 12 rfl <| J.front 12 rfl <| J.front 12 rfl <| J.front 12 rfl <| J.front 12 rfl ?_
   refine J.front 12 rfl <| J.front 12 rfl <| J.front 12 rfl <| J.front 12 rfl <| J.front 12 rfl <| J.front 12 rfl <| J.front 12 rfl ?_
   refine J.nil ?_
   obtain rfl := si ht471
   exact ⟨rfl, ⟨rfl, rfl, rfl, trivial⟩, rfl, rfl⟩
 intro ρ
 refine jm (.bool t470) rfl <| J.cut 4 ?_
 obtain ⟨t492, ht493, h⟩ := ob h
 refine jmeet [(48, .bool t492), (3, .pointer (some ⟨b278, 0, none⟩)), (5, ii i288)] ?_ ?_
 · rcases bt (t470) with hc494 | hc494
   · have ht493 := ct hc494 ht493
     refine J.skip rfl rfl rfl rfl hc494 <| J.skip rfl rfl rfl rfl hc494 <| J.skip rfl rfl rfl rfl hc494 <| jv (.bool true) (V.pickT rfl hc494 rfl) <| J.nil ?_
     obtain rfl := si ht493
     exact ⟨rfl, ⟨rfl, rfl, rfl, trivial⟩, rfl, rfl⟩
   have ht493 := cf hc494 ht493
   refine J.run rfl rfl rfl hc494 ?_
   obtain ⟨r495, hr496, ht493⟩ := ob ht493
   refine J.front 12 rfl <| J.op rfl (A.call (L1 := [Cl b278 25 [ii i289, ii 0, ii 0, ii 0, ii 0, ii 0, ii 0]]) Tryz.call11 rfl (tick_Counter_Total_p0_iiiiiii_ok hr496) rfl rfl) ?_
   rintro _ _ _ ⟨v498, _, rfl, ⟨⟨i497, rfl, rfl, rfl⟩, rfl⟩, _, rfl⟩
   refine J.run rfl rfl rfl hc494 ?_
   obtain ⟨r501, hr502, ht493⟩ := ob ht493
   refine J.op rfl (A.call (L1 := [Cl b278 25 [ii i289, ii 0, ii 0, ii 0, ii 0, ii 0, ii 0]]) Tryz.call10 rfl (tick_Counter_Of_p0c0_iiiiiii_ok hr502) rfl rfl) ?_
   rintro _ _ _ ⟨v504, _, rfl, ⟨⟨i503, rfl, rfl, rfl⟩, rfl⟩, _, rfl⟩
   refine J.run rfl rfl rfl hc494 <| jv (.bool (!decide (i497 = i503))) (V.neq rfl rfl) <| jv (.bool (!decide (i497 = i503))) (V.pickF rfl hc494 rfl) <| J.front 12 rfl <| J.front 12 rfl <| J.front 12 rfl <| J.front 12 rfl ?_
   refine J.front 12 rfl <| J.front 12 rfl <| J.front 12 rfl <| J.front 12 rfl <| J.front 12 rfl <| J.front 12 rfl <| J.front 12 rfl ?_
   refine J.front 12 rfl <| J.nil ?_
   obtain rfl := si ht493
   exact ⟨rfl, ⟨rfl, rfl, rfl, trivial⟩, rfl, rfl⟩
 intro ρ
 refine J.nil <| cc rfl h (fun hc507 h => ?_) fun hc507 h => ?_
 · refine CJ.seq <| CJ.region <| ja (.bool false) rfl <| J.nil <| CJ.ret ?_
   obtain rfl := si h
   exact ⟨_, _, Res.one rfl rfl, ⟨false, rfl, rfl, rfl⟩, (hK307.trans hK341), fun w hs => (Sep.dropAt 0 rfl (Sep.dropAt 0 rfl (Sep.dropAt 0 rfl (Sep.dropAt 0 rfl (Sep.dropAt 0 rfl (Sep.dropAt 0 rfl (Sep.dropAt 0 rfl (Sep.dropAt 0 rfl (Sep.dropAt 0 rfl (Sep.dropAt 0 rfl (Sep.dropAt 0 rfl (Sep.dropAt 0 rfl (Sep.dropAt 0 rfl hs)))))))))))))⟩
 refine CJ.skip <| CJ.seq <| CJ.region <| jm (ii i288) rfl <| jv (.bool (!decide (i288 = 0))) (V.neq rfl rfl) <| jm (.bool (!decide (i288 = 0))) rfl <| J.cut 3 ?_
 obtain ⟨t515, ht516, h⟩ := ob h
 refine jmeet [(54, .bool t515)] ?_ ?_
 · rcases bt (!decide (i288 = 0)) with hc517 | hc517
   · have ht516 := ct hc517 ht516
     refine J.skip rfl rfl rfl rfl hc517 <| J.skip rfl rfl rfl rfl hc517 <| jv (.bool true) (V.pickT rfl hc517 rfl) <| J.nil ?_
     obtain rfl := si ht516
     exact ⟨rfl, ⟨rfl, trivial⟩, rfl, rfl⟩
   have ht516 := cf hc517 ht516
   refine J.run rfl rfl rfl hc517 ?_
   obtain ⟨r518, hr519, ht516⟩ := ob ht516
   refine J.front 12 rfl <| J.op rfl (A.call (L1 := [Cl b278 25 [ii i289, ii 0, ii 0, ii 0, ii 0, ii 0, ii 0]]) Tryz.call11 rfl (tick_Counter_Total_p0_iiiiiii_ok hr519) rfl rfl) ?_
   rintro _ _ _ ⟨v521, _, rfl, ⟨⟨i520, rfl, rfl, rfl⟩, rfl⟩, _, rfl⟩
   refine J.run rfl rfl rfl hc517 <| jv (.bool (decide (0 < i520))) (V.gtr rfl rfl) <| jv (.bool (decide (0 < i520))) (V.pickF rfl hc517 rfl) <| J.front 12 rfl <| J.front 12 rfl <| J.front 12 rfl <| J.front 12 rfl ?_
   refine J.front 12 rfl <| J.front 12 rfl <| J.front 12 rfl <| J.front 12 rfl <| J.front 12 rfl <| J.front 12 rfl <| J.front 12 rfl ?_
   refine J.front 12 rfl <| J.nil ?_
   obtain rfl := si ht516
   exact ⟨rfl, ⟨rfl, trivial⟩, rfl, rfl⟩
 intro ρ
 refine jm (.bool t515) rfl <| J.cut 2 ?_
 obtain ⟨t531, ht532, h⟩ := ob h
 refine jmeet [(57, .bool t531)] ?_ ?_
 · rcases bt (t515) with hc533 | hc533
   · have ht532 := ct hc533 ht532
     refine J.run rfl rfl rfl hc533 ?_
     obtain ⟨r534, hr535, ht532⟩ := ob ht532
     refine J.op rfl (A.call (L1 := []) Tryz.call5 rfl (law20_awake_ok hr535) rfl rfl) ?_
     rintro _ _ _ ⟨v537, _, rfl, ⟨⟨t536, rfl, rfl, rfl⟩, rfl⟩, _, rfl⟩
     refine jv (.bool t536) (V.pickT rfl hc533 rfl) <| J.nil ?_
     obtain rfl := si ht532
     exact ⟨rfl, ⟨rfl, trivial⟩, rfl, rfl⟩
   have ht532 := cf hc533 ht532
   refine J.skip rfl rfl rfl rfl hc533 <| jv (.bool false) (V.pickF rfl hc533 rfl) <| J.nil ?_
   obtain rfl := si ht532
   exact ⟨rfl, ⟨rfl, trivial⟩, rfl, rfl⟩
 intro ρ
 refine ja (.bool t531) rfl <| J.nil <| CJ.ret ?_
 obtain rfl := si h
 exact ⟨_, _, Res.one rfl rfl, ⟨t531, rfl, rfl, rfl⟩, (hK307.trans hK341), fun w hs => (Sep.dropAt 0 rfl (Sep.dropAt 0 rfl (Sep.dropAt 0 rfl (Sep.dropAt 0 rfl (Sep.dropAt 0 rfl (Sep.dropAt 0 rfl (Sep.dropAt 0 rfl (Sep.dropAt 0 rfl (Sep.dropAt 0 rfl (Sep.dropAt 0 rfl (Sep.dropAt 0 rfl (Sep.dropAt 0 rfl (Sep.dropAt 0 rfl hs)))))))))))))⟩
end Go.Proofs.YtmdmdmaekjpfjaaGreat
