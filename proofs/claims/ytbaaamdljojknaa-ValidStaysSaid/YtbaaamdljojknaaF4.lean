/- What Go functions answer: generated. -/
import Derived.Test.YtbaaamdljojknaaF3
namespace Go.Proofs.Ytbaaamdljojknaa
open Go.RowKit
set_option linter.unusedVariables false
set_option linter.unnecessarySimpa false
set_option linter.unusedSimpArgs false
set_option maxRecDepth 20000
noncomputable def fn_sig_callable_l1 (xa : (Int × (List (Int × Int)) × (List (List (Int × Bool))) × (List (Int × Bool)))) (xc : (List (List (Int × Bool)))) : Int → Option (Int ⊕ (Unit ⊕ Int)) := fun (i604 : Int) => cond (decide (i604 < (((xa.2.2.1.length : Nat) : Int)))) ((getI xa.2.2.1 i604).bind fun x665 => (getI xc i604).bind fun x698 => (fn_row_Shape x698 x665).bind fun t713 => cond (!t713) (some (.inr ((.inr (8))))) (some (.inl (IntKind.wrap .i64 (i604 + 1))))) (some (.inr ((.inl ()))))
noncomputable def fn_sig_callable (xa : (Int × (List (Int × Int)) × (List (List (Int × Bool))) × (List (Int × Bool)))) (xb : (List Int)) (xc : (List (List (Int × Bool)))) (xd : (List (Int × Bool))) : Option Int :=
  (fn_sig_Check (xa.1, xa.2.1, xa.2.2.1, xa.2.2.2)).bind fun i369 => cond (!decide (i369 = 0)) (some (i369)) (cond ((!decide ((((xb.length : Nat) : Int)) = xa.1)) || (!decide ((((xc.length : Nat) : Int)) = (((xa.2.2.1.length : Nat) : Int))))) (some (2)) ((loop (fn_sig_callable_l1 xa xc) 0 : Option (Unit ⊕ Int)).bind fun o => match o with | .inr r => some r | .inl () => (fn_row_Shape xd xa.2.2.2).bind fun t723 => cond (!t723) (some (8)) (some (0))))
set_option maxRecDepth 100000 in
set_option maxHeartbeats 4000000 in
theorem sig_callable_ok {K : Hp} {xa : (Int × (List (Int × Int)) × (List (List (Int × Bool))) × (List (Int × Bool)))} {xb : (List Int)} {xc : (List (List (Int × Bool)))} {xd : (List (Int × Bool))} {adxa_1 : Option Addr} {cpxa_1 : Nat} {adxa_2 : Option Addr} {cpxa_2 : Nat} {adxa_3 : Option Addr} {cpxa_3 : Nat} {adxb_0 : Option Addr} {cpxb_0 : Nat} {adxc_0 : Option Addr} {cpxc_0 : Nat} {adxd_0 : Option Addr} {cpxd_0 : Nat} (fxa_1 : Is K (.sl (.cons (.int .i64) (.one (.int .i64)))) [.slice adxa_1 xa.2.1.length cpxa_1] xa.2.1) (fxa_2 : Is K (.sl (.one (.sl (.cons (.int .i64) (.one .bool))))) [.slice adxa_2 xa.2.2.1.length cpxa_2] xa.2.2.1) (fxa_3 : Is K (.sl (.cons (.int .i64) (.one .bool))) [.slice adxa_3 xa.2.2.2.length cpxa_3] xa.2.2.2) (fxb_0 : Is K (.sl (.int .i64)) [.slice adxb_0 xb.length cpxb_0] xb) (fxc_0 : Is K (.sl (.one (.sl (.cons (.int .i64) (.one .bool))))) [.slice adxc_0 xc.length cpxc_0] xc) (fxd_0 : Is K (.sl (.cons (.int .i64) (.one .bool))) [.slice adxd_0 xd.length cpxd_0] xd) {r : Int} (h : fn_sig_callable xa xb xc xd = some r) :
    Tr Try.prog 81 #[.agg #[ii xa.1, .slice adxa_1 xa.2.1.length cpxa_1, .slice adxa_2 xa.2.2.1.length cpxa_2, .slice adxa_3 xa.2.2.2.length cpxa_3], .slice adxb_0 xb.length cpxb_0, .slice adxc_0 xc.length cpxc_0, .agg #[.slice adxd_0 xd.length cpxd_0]] K [] (fun v K' L' => (∃ (i364 : Int), i364 = r ∧ ii i364 = v ∧ L' = []) ∧ K = K') := by
 refine Tr.k <| Tr.of Try.func81 rfl Try.ntmps81 rfl fun E F => ?_
 unfold fn_sig_callable at h
 refine cr <| jbx [ii xa.1, .slice adxa_1 xa.2.1.length cpxa_1, .slice adxa_2 xa.2.2.1.length cpxa_2, .slice adxa_3 xa.2.2.2.length cpxa_3] rfl rfl fun b365 => jbx [.slice adxd_0 xd.length cpxd_0] rfl rfl fun b366 => ja (ii 0) rfl <| J.nil <| CJ.seq ?_
 refine cr <| jv (.agg #[ii xa.1, .slice adxa_1 xa.2.1.length cpxa_1, .slice adxa_2 xa.2.2.1.length cpxa_2, .slice adxa_3 xa.2.2.2.length cpxa_3]) (V.ld rfl (Ld.agg (cs := [ii xa.1, .slice adxa_1 xa.2.1.length cpxa_1, .slice adxa_2 xa.2.2.1.length cpxa_2, .slice adxa_3 xa.2.2.2.length cpxa_3]) Try.underlying62 sz62 rfl (Rd.cls 1 0 rfl rfl))) ?_
 obtain ⟨r367, hr368, h⟩ := ob h
 refine J.op rfl (A.call (L1 := []) Try.call35 rfl (sig_Check_ok fxa_1 fxa_2 fxa_3 hr368) rfl rfl) ?_
 rintro _ _ _ ⟨v370, _, rfl, ⟨⟨i369, rfl, rfl, rfl⟩, rfl⟩, _, rfl⟩
 refine ja (ii i369) rfl <| J.nil <| cr <| jm (ii i369) rfl <| jv (.bool (!decide (i369 = 0))) (V.neq rfl rfl) <| J.nil ?_
 refine cc rfl h (fun hc373 h => ?_) fun hc373 h => ?_
 · refine cr <| jm (ii i369) rfl <| ja (ii i369) rfl <| J.nil <| CJ.ret ?_
   obtain rfl := si h
   exact ⟨_, _, Res.one rfl rfl, ⟨i369, rfl, rfl, rfl⟩, (Hp.le_refl _), fun w hs => (Sep.dropAt 0 rfl (Sep.dropAt 0 rfl hs))⟩
 refine CJ.skip <| CJ.seq <| cr <| jm (.slice adxb_0 xb.length cpxb_0) rfl <| jv (ii (((xb.length : Nat) : Int))) (V.len Try.underlying52 rfl) <| jv _ (V.fad Try.underlying62 rfl nz3 rfl) ?_
 refine jv (ii xa.1) (V.ld rfl (Ld.sc sc3 (Rd.cl 1 rfl rfl))) <| jv (.bool (!decide ((((xb.length : Nat) : Int)) = xa.1))) (V.neq rfl rfl) <| jm (.bool (!decide ((((xb.length : Nat) : Int)) = xa.1))) rfl <| J.cut 7 <| jmeet [(29, .bool ((!decide ((((xb.length : Nat) : Int)) = xa.1)) || (!decide ((((xc.length : Nat) : Int)) = (((xa.2.2.1.length : Nat) : Int)))))), (2, .slice adxc_0 xc.length cpxc_0), (4, .pointer (some ⟨b365, 0, none⟩)), (7, .pointer (some ⟨b366, 0, none⟩))] ?_ ?_
 · rcases bt (!decide ((((xb.length : Nat) : Int)) = xa.1)) with hc376 | hc376
   · refine J.skip rfl rfl rfl rfl hc376 <| J.skip rfl rfl rfl rfl hc376 <| J.skip rfl rfl rfl rfl hc376 <| J.skip rfl rfl rfl rfl hc376 <| J.skip rfl rfl rfl rfl hc376 <| J.skip rfl rfl rfl rfl hc376 <| jv (.bool true) (V.pickT rfl hc376 rfl) ?_
     refine J.nil ?_
     exact ⟨rfl, ⟨(by simp only [hc376]; rfl), rfl, rfl, rfl, trivial⟩, rfl, rfl⟩
   refine J.run rfl rfl rfl hc376 <| jm (.slice adxc_0 xc.length cpxc_0) rfl <| J.run rfl rfl rfl hc376 <| jv (ii (((xc.length : Nat) : Int))) (V.len Try.underlying23 rfl) <| J.run rfl rfl rfl hc376 <| jv _ (V.fad Try.underlying62 rfl nz23 rfl) <| J.run rfl rfl rfl hc376 ?_
   refine jv (.slice adxa_2 xa.2.2.1.length cpxa_2) (V.ld rfl (Ld.sc sc23 (Rd.cl 1 rfl rfl))) <| J.run rfl rfl rfl hc376 <| jv (ii (((xa.2.2.1.length : Nat) : Int))) (V.len Try.underlying23 rfl) <| J.run rfl rfl rfl hc376 <| jv (.bool (!decide ((((xc.length : Nat) : Int)) = (((xa.2.2.1.length : Nat) : Int))))) (V.neq rfl rfl) <| jv (.bool (!decide ((((xc.length : Nat) : Int)) = (((xa.2.2.1.length : Nat) : Int))))) (V.pickF rfl hc376 rfl) <| J.nil ?_
   exact ⟨rfl, ⟨(by simp only [hc376]; rfl), rfl, rfl, rfl, trivial⟩, rfl, rfl⟩
 intro ρ
 refine J.nil <| cc rfl h (fun hc377 h => ?_) fun hc377 h => ?_
 · refine cr <| ja (ii 2) rfl <| J.nil <| CJ.ret ?_
   obtain rfl := si h
   exact ⟨_, _, Res.one rfl rfl, ⟨2, rfl, rfl, rfl⟩, (Hp.le_refl _), fun w hs => (Sep.dropAt 0 rfl (Sep.dropAt 0 rfl hs))⟩
 refine CJ.skip <| CJ.seq <| cr <| jv _ (V.fad Try.underlying62 rfl nz23 rfl) <| jv (.slice adxa_2 xa.2.2.1.length cpxa_2) (V.ld rfl (Ld.sc sc23 (Rd.cl 1 rfl rfl))) <| jv (ii (((xa.2.2.1.length : Nat) : Int))) (V.len Try.underlying23 rfl) ?_
 refine jm (ii 0) rfl <| J.nil ?_
 obtain ⟨o547, ho548, h⟩ := ob h
 refine CJ.joinN (o := o547) (fun s ρ K' L' => () = s ∧ Fits [(4, .pointer (some ⟨b365, 0, none⟩)), (7, .pointer (some ⟨b366, 0, none⟩))] ρ ∧ K = K' ∧ L' = Cl b365 62 [ii xa.1, .slice adxa_1 xa.2.1.length cpxa_1, .slice adxa_2 xa.2.2.1.length cpxa_2, .slice adxa_3 xa.2.2.2.length cpxa_3] :: Cl b366 26 [.slice adxd_0 xd.length cpxd_0] :: F) ?_ ?_
 · refine CJ.block <| CJ.front 1 rfl <| CJ.loop (fun s ρ K' L' => ∃ (i604 : Int), i604 = s ∧ Fits [(2, .slice adxc_0 xc.length cpxc_0), (4, .pointer (some ⟨b365, 0, none⟩)), (7, .pointer (some ⟨b366, 0, none⟩)), (31, .slice adxa_2 xa.2.2.1.length cpxa_2), (32, ii (((xa.2.2.1.length : Nat) : Int))), (33, ii i604)] ρ ∧ K = K' ∧ L' = Cl b365 62 [ii xa.1, .slice adxa_1 xa.2.1.length cpxa_1, .slice adxa_2 xa.2.2.1.length cpxa_2, .slice adxa_3 xa.2.2.2.length cpxa_3] :: Cl b366 26 [.slice adxd_0 xd.length cpxd_0] :: F) ho548 ⟨0, rfl, ⟨rfl, rfl, rfl, rfl, rfl, rfl, trivial⟩, rfl, rfl⟩ ?_
   rintro s ρ _ _ r663 ⟨i604, rfl, hf661, rfl, rfl⟩ h660
   obtain ⟨ρ, rfl⟩ := hf661.ex
   refine cr <| jv (.bool (decide (i604 < (((xa.2.2.1.length : Nat) : Int))))) (V.lss rfl rfl) <| J.nil <| CJ.seq <| cc rfl h660 (fun hc664 h660 => ?_) fun hc664 h660 => ?_
   · refine CJ.skip <| CJ.seq <| CJ.block <| cr <| jm (ii i604) rfl ?_
     obtain ⟨x665, hx666, h660⟩ := ob h660
     obtain ⟨p667, p668, p669⟩ := getI_some hx666
     obtain ⟨b670, o671, e672, a673⟩ := (fxa_2).at p668
     refine jv _ (V.iad Try.underlying23 sz26 rfl e672 rfl p667 p669) ?_
     obtain ⟨ad674, cp675, c676, f677⟩ := ((a673).one).sl
     refine jv (.agg #[.slice ad674 x665.length cp675]) (V.ld rfl (Ld.aggK (cs := [.slice ad674 x665.length cp675]) Try.underlying26 sz26 rfl ⟨c676, trivial⟩ (Hp.le_refl _))) <| jal inf26 [nos] rfl fun b678 => ja (ii i604) rfl <| js [.slice ad674 x665.length cp675] sz26 rfl rfl rfl rfl rfl rfl <| J.nil <| CJ.seq <| CJ.mix [Cl b678 26 [.slice ad674 x665.length cp675], Cl b365 62 [ii xa.1, .slice adxa_1 xa.2.1.length cpxa_1, .slice adxa_2 xa.2.2.1.length cpxa_2, .slice adxa_3 xa.2.2.2.length cpxa_3], Cl b366 26 [.slice adxd_0 xd.length cpxd_0]] [([0, 1, 2, 3, 4], 5)] [6] [] mixO (by decide +kernel) ⟨0, rfl, 0, rfl, 0, rfl, trivial⟩ rfl rfl rfl ?_
     refine JM.cons <| qm (.slice adxc_0 xc.length cpxc_0) rfl <| qm (ii i604) rfl ?_
     obtain ⟨x698, hx699, h660⟩ := ob h660
     obtain ⟨p700, p701, p702⟩ := getI_some hx699
     obtain ⟨b703, o704, e705, a706⟩ := (fxc_0).at p701
     refine qv _ (V.iad Try.underlying23 sz26 rfl e705 rfl p700 p702) ?_
     obtain ⟨ad707, cp708, c709, f710⟩ := ((a706).one).sl
     refine qv (.agg #[.slice ad707 x698.length cp708]) (V.ld rfl (Ld.aggK (cs := [.slice ad707 x698.length cp708]) Try.underlying26 sz26 rfl ⟨c709, trivial⟩ (Hp.le_refl _))) <| qv (.agg #[.slice ad674 x665.length cp675]) (V.ld rfl (Ld.agg (cs := [.slice ad674 x665.length cp675]) Try.underlying26 sz26 rfl (Rd.cls 0 0 rfl rfl))) <| JQ.nil ?_
     obtain ⟨r711, hr712, h660⟩ := ob h660
     refine JA.op rfl (A.call (L1 := []) Try.call34 rfl (row_Shape_ok f710 f677 hr712) rfl rfl) ?_
     rintro _ _ _ ⟨v714, _, rfl, ⟨⟨t713, rfl, rfl, rfl⟩, rfl⟩, _, rfl⟩
     refine ⟨fun w hs => Hold.sub (Hp.le_refl _) ⟨0, rfl, 0, rfl, 0, rfl, trivial⟩ hs, ?_⟩
     refine JM.nil <| qv (.bool (!t713)) (V.not rfl) <| JQ.nil <| J.nil <| cc rfl h660 (fun hc717 h660 => ?_) fun hc717 h660 => ?_
     · refine cr <| ja (ii 8) rfl <| J.nil <| CJ.ret ?_
       obtain rfl := si h660
       refine ⟨nofun, fun e => ?_⟩
       subst e
       refine .inr ⟨nofun, ?_⟩
       obtain rfl := si h
       exact ⟨_, _, Res.one rfl rfl, ⟨8, rfl, rfl, rfl⟩, (Hp.le_refl _), fun w hs => (Sep.dropAt 0 rfl (Sep.dropAt 0 rfl (Sep.dropAt 0 rfl hs)))⟩
     refine CJ.skip <| CJ.region <| jv (ii (IntKind.wrap .i64 (i604 + 1))) (V.add rfl rfl) <| jm (ii (IntKind.wrap .i64 (i604 + 1))) rfl <| J.dropAt 0 rfl <| J.nil ?_
     obtain rfl := si h660
     exact ⟨rfl, ⟨IntKind.wrap .i64 (i604 + 1), rfl, ⟨rfl, rfl, rfl, rfl, rfl, rfl, trivial⟩, rfl, rfl⟩⟩
   refine CJ.exit ?_
   obtain rfl := si h660
   refine ⟨nofun, fun e => ?_⟩
   subst e
   exact .inl ⟨rfl, _, rfl, ⟨rfl, ⟨rfl, rfl, trivial⟩, rfl, rfl⟩⟩
 rintro s ρ _ _ ho718 ⟨rfl, hf719, rfl, rfl⟩
 subst ho718
 obtain ⟨ρ, rfl⟩ := hf719.ex
 refine PJ.done <| CJ.seq <| cr <| jv (.agg #[.slice adxd_0 xd.length cpxd_0]) (V.ld rfl (Ld.agg (cs := [.slice adxd_0 xd.length cpxd_0]) Try.underlying26 sz26 rfl (Rd.cls 1 0 rfl rfl))) <| jv _ (V.fad Try.underlying62 rfl nz26 rfl) <| jv (.agg #[.slice adxa_3 xa.2.2.2.length cpxa_3]) (V.ld rfl (Ld.agg (cs := [.slice adxa_3 xa.2.2.2.length cpxa_3]) Try.underlying26 sz26 rfl (Rd.cls 0 3 rfl rfl))) ?_
 obtain ⟨r721, hr722, h⟩ := ob h
 refine J.op rfl (A.call (L1 := []) Try.call34 rfl (row_Shape_ok fxd_0 fxa_3 hr722) rfl rfl) ?_
 rintro _ _ _ ⟨v724, _, rfl, ⟨⟨t723, rfl, rfl, rfl⟩, rfl⟩, _, rfl⟩
 refine jv (.bool (!t723)) (V.not rfl) <| J.nil <| cc rfl h (fun hc727 h => ?_) fun hc727 h => ?_
 · refine cr <| ja (ii 8) rfl <| J.nil <| CJ.ret ?_
   obtain rfl := si h
   exact ⟨_, _, Res.one rfl rfl, ⟨8, rfl, rfl, rfl⟩, (Hp.le_refl _), fun w hs => (Sep.dropAt 0 rfl (Sep.dropAt 0 rfl hs))⟩
 refine CJ.skip <| cr <| ja (ii 0) rfl <| J.nil <| CJ.ret ?_
 obtain rfl := si h
 exact ⟨_, _, Res.one rfl rfl, ⟨0, rfl, rfl, rfl⟩, (Hp.le_refl _), fun w hs => (Sep.dropAt 0 rfl (Sep.dropAt 0 rfl hs))⟩

noncomputable def fn_slices_Clone_api_Slot_api_Slot (xa : (List (Int × Bool))) : Option ((List (Int × Bool))) :=
  nilb xa (some ([])) ((app (([] : List (Int × Bool))) xa).bind fun z21 => some (z21))
set_option maxRecDepth 100000 in
set_option maxHeartbeats 4000000 in
theorem slices_Clone_api_Slot_api_Slot_ok {K : Hp} {xa : (List (Int × Bool))} {adxa_0 : Option Addr} {cpxa_0 : Nat} (fxa_0 : Is K (.sl (.cons (.int .i64) (.one .bool))) [.slice adxa_0 xa.length cpxa_0] xa) {r : (List (Int × Bool))} (h : fn_slices_Clone_api_Slot_api_Slot xa = some r) :
    Tr Try.prog 87 #[.slice adxa_0 xa.length cpxa_0] K [] (fun v K' L' => (∃ (l11 : (List (Int × Bool))) (ad12 : Option Addr) (cp13 : Nat), l11 = r ∧ .slice ad12 l11.length cp13 = v ∧ L' = [Row Hp.nil 86 (.cons (.int .i64) (.one .bool)) (.slice ad12 l11.length cp13) l11]) ∧ K = K') := by
 refine Tr.k <| Tr.of Try.func87 rfl Try.ntmps87 rfl fun E F => ?_
 unfold fn_slices_Clone_api_Slot_api_Slot at h
 refine cr <| ja (nos) rfl <| J.nil <| CJ.seq <| CJ.seq <| CJ.region ?_
 refine jm (.slice adxa_0 xa.length cpxa_0) rfl <| jv (.bool adxa_0.isNone) (V.sn_eql Try.underlying24 rfl rfl) <| J.nil ?_
 rcases adxa_0 with _ | ad16
 · have h := nilb_nil ((fxa_0).nil_of) h
   refine CJ.condK (b := true) rfl rfl <| cr <| ja (nos) rfl <| J.nil <| CJ.by (fun w hs => Sep.rowNil (e := 86) (t := (.cons (.int .i64) (.one .bool))) hs) <| CJ.ret ?_
   obtain rfl := si h
   exact ⟨_, _, Res.one rfl rfl, ⟨[], none, 0, rfl, rfl, rfl⟩, (Hp.le_refl _), fun w hs => hs⟩
 have h := nilb_cons h
 refine CJ.condK (b := false) rfl rfl <| CJ.skip <| CJ.seq <| CJ.region ?_
 refine J.op rfl (A.lit (K0 := Hp.nil) (ty := (.cons (.int .i64) (.one .bool))) (xs := ([] : List (Int × Bool))) Try.underlying24 inf86 rfl (by decide) rfl rfl rfl rfl rfl (by decide)) ?_
 rintro _ _ _ ⟨b18, rfl, rfl, rfl⟩
 have hn19 : ([] : List (Int × Bool)) ≠ [] → ∃ g, (some ⟨b18, 0, none⟩ : Option Addr) = some ⟨g, 0, none⟩ := fun _ => ⟨b18, rfl⟩
 refine jm (.slice (some ad16) xa.length cpxa_0) rfl ?_
 obtain ⟨z21, hz22, h⟩ := ob h
 refine J.op rfl (A.appP (Kr := Hp.nil) (K1 := K) Try.underlying24 inf86 rfl rfl (by decide) (by decide) rfl rfl fxa_0 (Hp.le_refl _) (Els.flat rfl) (Els.flat rfl) hz22) ?_
 rintro _ _ _ ⟨v23, rfl, rfl, rfl⟩
 refine J.wit Row.form ?_
 rintro ⟨ad24, cp25, rfl, _, _, hn26⟩
 refine ja (.slice ad24 z21.length cp25) rfl <| J.nil <| CJ.ret ?_
 obtain rfl := si h
 exact ⟨_, _, Res.one rfl rfl, ⟨z21, ad24, cp25, rfl, rfl, rfl⟩, (Hp.le_refl _), fun w hs => hs⟩

noncomputable def fn_row_Clone (xa : (List (Int × Bool))) : Option ((List (Int × Bool))) :=
  (fn_slices_Clone_api_Slot_api_Slot xa).bind fun l22 => some (l22)
set_option maxRecDepth 100000 in
set_option maxHeartbeats 4000000 in
theorem row_Clone_ok {K : Hp} {xa : (List (Int × Bool))} {adxa_0 : Option Addr} {cpxa_0 : Nat} (fxa_0 : Is K (.sl (.cons (.int .i64) (.one .bool))) [.slice adxa_0 xa.length cpxa_0] xa) {r : (List (Int × Bool))} (h : fn_row_Clone xa = some r) :
    Tr Try.prog 86 #[.agg #[.slice adxa_0 xa.length cpxa_0]] K [] (fun v K' L' => (∃ (l13 : (List (Int × Bool))) (ad14 : Option Addr) (cp15 : Nat), l13 = r ∧ .agg #[.slice ad14 l13.length cp15] = v ∧ L' = [Row Hp.nil 86 (.cons (.int .i64) (.one .bool)) (.slice ad14 l13.length cp15) l13]) ∧ K = K') := by
 refine Tr.k <| Tr.of Try.func86 rfl Try.ntmps86 rfl fun E F => ?_
 unfold fn_row_Clone at h
 refine cr <| jbx [.slice adxa_0 xa.length cpxa_0] rfl rfl fun b18 => jal inf26 [nos] rfl fun b19 => J.nil <| CJ.seq <| CJ.region ?_
 refine jv _ (V.fad Try.underlying26 rfl nz24 rfl) <| jv (.slice adxa_0 xa.length cpxa_0) (V.ld rfl (Ld.sc sc24 (Rd.cl 1 rfl rfl))) ?_
 obtain ⟨r20, hr21, h⟩ := ob h
 refine J.op rfl (A.call (L1 := []) Try.call87 rfl (slices_Clone_api_Slot_api_Slot_ok fxa_0 hr21) rfl rfl) ?_
 rintro _ _ _ ⟨v26, _, rfl, ⟨⟨l22, ad23, cp24, rfl, rfl, rfl⟩, rfl⟩, _, rfl⟩
 refine J.wit Row.hn fun hn25 => jv (.agg #[.slice ad23 l22.length cp24]) (V.build inf26 places26 rfl rfl) <| J.front 1 rfl <| js [.slice ad23 l22.length cp24] sz26 rfl rfl rfl rfl rfl rfl <| J.nil <| CJ.ret ?_
 obtain rfl := si h
 exact ⟨_, _, Res.one rfl ⟨_, _, rfl, Ld.agg (cs := [.slice ad23 l22.length cp24]) Try.underlying26 sz26 rfl (Rd.cls 0 0 rfl rfl)⟩, ⟨l22, ad23, cp24, rfl, rfl, rfl⟩, (Hp.le_refl _), fun w hs => (Sep.dropAt 1 rfl (Sep.dropAt 0 rfl hs))⟩
noncomputable def fn_row_Subst_l1 (xb : (List Int)) (l368 : (List (Int × Bool))) : ((List (Int × Bool)) × Int) → Option (((List (Int × Bool)) × Int) ⊕ (List (Int × Bool))) := fun ((l596, i601) : ((List (Int × Bool)) × Int)) => cond (decide (i601 < (((l368.length : Nat) : Int)))) ((getI l596 i601).bind fun x659 => (getI xb x659.1).bind fun x683 => (getI l596 i601).bind fun x692 => (some (l596.set i601.toNat (x683, x692.2))).bind fun z699 => some (.inl ((z699, IntKind.wrap .i64 (i601 + 1))))) (some (.inr (l596)))
noncomputable def fn_row_Subst (xa : (List (Int × Bool))) (xb : (List Int)) : Option (((List (Int × Bool)) × Int)) :=
  (fn_row_within xa (((xb.length : Nat) : Int))).bind fun t360 => cond (!t360) (some (([], 7))) ((fn_row_Clone xa).bind fun l368 => (loop (fn_row_Subst_l1 xb l368) (l368, 0) : Option ((List (Int × Bool)))).bind fun l537 => some ((l537, 0)))
set_option maxRecDepth 100000 in
set_option maxHeartbeats 4000000 in
theorem row_Subst_ok {K : Hp} {xa : (List (Int × Bool))} {xb : (List Int)} {adxa_0 : Option Addr} {cpxa_0 : Nat} {adxb_0 : Option Addr} {cpxb_0 : Nat} (fxa_0 : Is K (.sl (.cons (.int .i64) (.one .bool))) [.slice adxa_0 xa.length cpxa_0] xa) (fxb_0 : Is K (.sl (.int .i64)) [.slice adxb_0 xb.length cpxb_0] xb) {r : ((List (Int × Bool)) × Int)} (h : fn_row_Subst xa xb = some r) :
    Tr Try.prog 82 #[.agg #[.slice adxa_0 xa.length cpxa_0], .slice adxb_0 xb.length cpxb_0] K [] (fun v K' L' => (∃ (l350 : (List (Int × Bool))) (i355 : Int) (ad351 : Option Addr) (cp352 : Nat), (l350, i355) = r ∧ .tuple #[.agg #[.slice ad351 l350.length cp352], ii i355] = v ∧ L' = [Row Hp.nil 86 (.cons (.int .i64) (.one .bool)) (.slice ad351 l350.length cp352) l350]) ∧ K = K') := by
 refine Tr.k <| Tr.of Try.func82 rfl Try.ntmps82 rfl fun E F => ?_
 unfold fn_row_Subst at h
 refine cr <| jbx [.slice adxa_0 xa.length cpxa_0] rfl rfl fun b356 => jal inf26 [nos] rfl fun b357 => ja (ii 0) rfl <| J.nil <| CJ.seq ?_
 refine cr <| jv (.agg #[.slice adxa_0 xa.length cpxa_0]) (V.ld rfl (Ld.agg (cs := [.slice adxa_0 xa.length cpxa_0]) Try.underlying26 sz26 rfl (Rd.cls 1 0 rfl rfl))) <| jm (.slice adxb_0 xb.length cpxb_0) rfl <| jv (ii (((xb.length : Nat) : Int))) (V.len Try.underlying52 rfl) ?_
 obtain ⟨r358, hr359, h⟩ := ob h
 refine J.op rfl (A.call (L1 := []) Try.call43 rfl (row_within_ok fxa_0 hr359) rfl rfl) ?_
 rintro _ _ _ ⟨v361, _, rfl, ⟨⟨t360, rfl, rfl, rfl⟩, rfl⟩, _, rfl⟩
 refine jv (.bool (!t360)) (V.not rfl) <| J.nil <| cc rfl h (fun hc364 h => ?_) fun hc364 h => ?_
 · refine cr <| jv (.agg #[nos]) (V.build inf26 places26 rfl rfl) <| js [nos] sz26 rfl rfl rfl rfl rfl rfl <| ja (ii 7) rfl <| J.nil <| CJ.by (fun w hs => Sep.rowNil (e := 86) (t := (.cons (.int .i64) (.one .bool))) hs) ?_
   refine CJ.ret ?_
   obtain rfl := si h
   exact ⟨_, _, Res.two rfl ⟨_, _, rfl, Ld.agg (cs := [nos]) Try.underlying26 sz26 rfl (Rd.cls 1 0 rfl rfl)⟩ rfl, ⟨[], 7, none, 0, rfl, rfl, rfl⟩, (Hp.le_refl _), fun w hs => (Sep.dropAt 1 rfl (Sep.dropAt 1 rfl hs))⟩
 refine CJ.skip <| cr <| jv (.agg #[.slice adxa_0 xa.length cpxa_0]) (V.ld rfl (Ld.agg (cs := [.slice adxa_0 xa.length cpxa_0]) Try.underlying26 sz26 rfl (Rd.cls 1 0 rfl rfl))) ?_
 obtain ⟨r366, hr367, h⟩ := ob h
 refine J.op rfl (A.call (L1 := []) Try.call86 rfl (row_Clone_ok fxa_0 hr367) rfl rfl) ?_
 rintro _ _ _ ⟨v372, _, rfl, ⟨⟨l368, ad369, cp370, rfl, rfl, rfl⟩, rfl⟩, _, rfl⟩
 refine J.wit Row.hn fun hn371 => jal inf26 [nos] rfl fun b376 => js [.slice ad369 l368.length cp370] sz26 rfl rfl rfl rfl rfl rfl <| J.nil <| CJ.seq <| CJ.seq <| CJ.region ?_
 refine jv _ (V.fad Try.underlying26 rfl nz24 rfl) <| jv (.slice ad369 l368.length cp370) (V.ld rfl (Ld.sc sc24 (Rd.cl 0 rfl rfl))) <| jv (ii (((l368.length : Nat) : Int))) (V.len Try.underlying24 rfl) <| jm (ii 0) rfl <| J.nil ?_
 obtain ⟨o542, ho543, h⟩ := ob h
 refine CJ.meetN (fun ρ K' L' => ∃ (l537 : (List (Int × Bool))) (ad538 : Option Addr) (cp539 : Nat), l537 = o542 ∧ Fits [(4, .pointer (some ⟨b357, 0, none⟩)), (6, .pointer (some ⟨b376, 0, none⟩))] ρ ∧ K = K' ∧ L' = Cl b357 26 [nos] :: Cl b376 26 [.slice ad538 l537.length cp539] :: Row Hp.nil 86 (.cons (.int .i64) (.one .bool)) (.slice ad538 l537.length cp539) l537 :: F) ?_ ?_
 · refine CJ.block <| CJ.dropAt 3 rfl <| CJ.front 1 rfl <| CJ.front 1 rfl <| CJ.front 2 rfl <| CJ.loop (fun s ρ K' L' => ∃ (l596 : (List (Int × Bool))) (i601 : Int) (ad597 : Option Addr) (cp598 : Nat), (l596, i601) = s ∧ Fits [(1, .slice adxb_0 xb.length cpxb_0), (4, .pointer (some ⟨b357, 0, none⟩)), (6, .pointer (some ⟨b376, 0, none⟩)), (18, .slice ad597 l596.length cp598), (19, ii (((l368.length : Nat) : Int))), (20, ii i601)] ρ ∧ K = K' ∧ L' = Cl b357 26 [nos] :: Cl b376 26 [.slice ad597 l596.length cp598] :: Row Hp.nil 86 (.cons (.int .i64) (.one .bool)) (.slice ad597 l596.length cp598) l596 :: F) ho543 ⟨l368, 0, ad369, cp370, rfl, ⟨rfl, rfl, rfl, rfl, rfl, rfl, trivial⟩, rfl, rfl⟩ ?_
   rintro s ρ _ _ r657 ⟨l596, i601, ad597, cp598, rfl, hf655, rfl, rfl⟩ h654
   obtain ⟨ρ, rfl⟩ := hf655.ex
   refine CJ.front 2 rfl <| CJ.wit Row.hn fun hn600 => cr <| jv (.bool (decide (i601 < (((l368.length : Nat) : Int))))) (V.lss rfl rfl) <| J.nil <| CJ.seq ?_
   refine cc rfl h654 (fun hc658 h654 => ?_) fun hc658 h654 => ?_
   · refine CJ.skip <| CJ.seq <| CJ.block <| cr <| jm (ii i601) rfl ?_
     obtain ⟨x659, hx660, h654⟩ := ob h654
     obtain ⟨p661, p662, p663⟩ := getI_some hx660
     obtain ⟨g664, e665⟩ := hn600 (fun e => by rw [e] at p662; simp at p662)
     refine jv _ (V.iad Try.underlying24 sz86 rfl e665 rfl p661 p663) <| jv (.agg #[ii x659.1, .bool x659.2]) (V.ld rfl (Ld.agg Try.underlying86 sz86 rfl (Rd.rows (K0 := Hp.nil) (s := (.cons (.int .i64) (.one .bool))) 0 rfl e665 p662 (cs := [ii x659.1, .bool x659.2]) rfl (by rintro _ ⟨_, _, rfl, _, rfl, rfl⟩; rfl)))) <| jal inf86 [ii 0, .bool false] rfl fun b666 => ja (ii i601) rfl <| js [ii x659.1, .bool x659.2] sz86 rfl rfl rfl rfl rfl rfl <| J.nil <| CJ.mix [Cl b666 86 [ii x659.1, .bool x659.2], Row Hp.nil 86 (.cons (.int .i64) (.one .bool)) (.slice ad597 l596.length cp598) l596, Cl b357 26 [nos], Cl b376 26 [.slice ad597 l596.length cp598]] [] [0, 1, 2, 3, 4, 5, 6, 7, 8, 9] [10] mixO (by decide +kernel) ⟨0, rfl, 0, rfl, 0, rfl, 0, rfl, trivial⟩ rfl rfl rfl ?_
     refine JM.nil <| qv _ (V.fad Try.underlying26 rfl nz24 rfl) <| qv (.slice ad597 l596.length cp598) (V.ld rfl (Ld.sc sc24 (Rd.cl 3 rfl rfl))) <| qm (ii i601) rfl <| qm (.slice adxb_0 xb.length cpxb_0) rfl <| qv _ (V.fad Try.underlying86 rfl nz3 rfl) <| qv (ii x659.1) (V.ld rfl (Ld.sc sc3 (Rd.cl 0 rfl rfl))) ?_
     obtain ⟨x683, hx684, h654⟩ := ob h654
     obtain ⟨p685, p686, p687⟩ := getI_some hx684
     obtain ⟨b688, o689, e690, a691⟩ := (fxb_0).at p686
     refine qv _ (V.iad Try.underlying52 sz3 rfl e690 rfl p685 p687) <| qv (ii x683) (V.ld rfl (Ld.sc sc3 (Rd.k (a691).int (Hp.le_refl _)))) ?_
     obtain ⟨x692, hx693, h654⟩ := ob h654
     obtain ⟨p694, p695, p696⟩ := getI_some hx693
     obtain ⟨g697, e698⟩ := hn600 (fun e => by rw [e] at p695; simp at p695)
     refine qv _ (V.iad Try.underlying24 sz86 rfl e698 rfl p694 p696) <| qv _ (V.fad Try.underlying86 rfl nz3 rfl) <| JQ.nil <| J.front 1 rfl ?_
     obtain ⟨z699, hz700, h654⟩ := ob h654
     have e701 := Option.some.inj hz700
     have hl702 : z699.length = l596.length := by rw [← e701, List.length_set]
     refine J.op rfl (A.storeR (ty := (.cons (.int .i64) (.one .bool))) (q := 0) (y0 := (x683, x692.2)) (zs := z699) sz3 rfl rfl rfl rfl e698 p695 (by simp [Tp.size]) (by decide) (by rintro _ ⟨_, _, rfl, _, rfl, rfl⟩; exact ⟨_, _, rfl, rfl, rfl, rfl⟩) e701) ?_
     rintro _ _ _ ⟨rfl, rfl, rfl⟩
     have hn703 : z699 ≠ [] → _ := fun h => hn600 (fun e => h (List.length_eq_zero_iff.1 (by rw [hl702]; exact List.length_eq_zero_iff.2 e)))
     refine J.nil <| CJ.region <| jv (ii (IntKind.wrap .i64 (i601 + 1))) (V.add rfl rfl) <| jm (ii (IntKind.wrap .i64 (i601 + 1))) rfl <| J.dropAt 1 rfl <| J.front 2 rfl <| J.front 2 rfl ?_
     refine J.nil ?_
     obtain rfl := si h654
     exact ⟨rfl, ⟨z699, IntKind.wrap .i64 (i601 + 1), ad597, cp598, rfl, ⟨rfl, rfl, rfl, (by rw [hl702]; rfl), rfl, rfl, trivial⟩, rfl, (by rw [hl702]; first | done | rfl)⟩⟩
   refine CJ.front 2 rfl <| CJ.front 2 rfl <| CJ.exit ?_
   obtain rfl := si h654
   refine ⟨nofun, fun e => ?_⟩
   subst e
   exact ⟨rfl, ⟨l596, ad597, cp598, rfl, ⟨rfl, rfl, trivial⟩, rfl, rfl⟩⟩
 rintro ρ _ _ ⟨l537, ad538, cp539, rfl, hf704, rfl, rfl⟩
 obtain ⟨ρ, rfl⟩ := hf704.ex
 refine PJ.front 2 rfl <| PJ.wit Row.hn fun hn541 => PJ.done <| cr <| jv (.agg #[.slice ad538 l537.length cp539]) (V.ld rfl (Ld.agg (cs := [.slice ad538 l537.length cp539]) Try.underlying26 sz26 rfl (Rd.cls 2 0 rfl rfl))) <| J.front 1 rfl ?_
 refine js [.slice ad538 l537.length cp539] sz26 rfl rfl rfl rfl rfl rfl <| ja (ii 0) rfl <| J.nil <| CJ.ret ?_
 obtain rfl := si h
 exact ⟨_, _, Res.two rfl ⟨_, _, rfl, Ld.agg (cs := [.slice ad538 l537.length cp539]) Try.underlying26 sz26 rfl (Rd.cls 0 0 rfl rfl)⟩ rfl, ⟨l537, 0, ad538, cp539, rfl, rfl, rfl⟩, (Hp.le_refl _), fun w hs => (Sep.dropAt 1 rfl (Sep.dropAt 0 rfl hs))⟩
noncomputable def fn_sig_Call_l1 (xa : (Int × (List (Int × Int)) × (List (List (Int × Bool))) × (List (Int × Bool)))) (xb : (List Int)) : ((List (Int × Int × Int × Int × Bool)) × Int) → Option (((List (Int × Int × Int × Int × Bool)) × Int) ⊕ (List (Int × Int × Int × Int × Bool))) := fun ((l1327, i1332) : ((List (Int × Int × Int × Int × Bool)) × Int)) => cond (decide (i1332 < (((xa.2.1.length : Nat) : Int)))) ((getI xa.2.1 i1332).bind fun x1404 => (getI xb x1404.1).bind fun x1435 => (getI xb x1404.2).bind fun x1444 => (app l1327 (([(x1435, x1444, 4, i1332, false)] : List (Int × Int × Int × Int × Bool)))).bind fun z1456 => some (.inl ((z1456, IntKind.wrap .i64 (i1332 + 1))))) (some (.inr (l1327)))
noncomputable def fn_sig_Call_l2 (xa : (Int × (List (Int × Int)) × (List (List (Int × Bool))) × (List (Int × Bool)))) (xb : (List Int)) (xc : (List (List (Int × Bool)))) : ((List (Int × Int × Int × Int × Bool)) × Int) → Option (((List (Int × Int × Int × Int × Bool)) × Int) ⊕ (List (Int × Int × Int × Int × Bool))) := fun ((l1851, i1856) : ((List (Int × Int × Int × Int × Bool)) × Int)) => cond (decide (i1856 < (((xa.2.2.1.length : Nat) : Int)))) ((getI xa.2.2.1 i1856).bind fun x1956 => (fn_row_Subst x1956 xb).bind fun (l1972, i1973) => (getI xc i1856).bind fun x2009 => (fn_relate_Flow x2009 l1972 5 (IntKind.wrap .i64 (16 * i1856))).bind fun (l2027, i2028) => (app l1851 l2027).bind fun z2036 => some (.inl ((z2036, IntKind.wrap .i64 (i1856 + 1))))) (some (.inr (l1851)))
noncomputable def fn_sig_Call (xa : (Int × (List (Int × Int)) × (List (List (Int × Bool))) × (List (Int × Bool)))) (xb : (List Int)) (xc : (List (List (Int × Bool)))) (xd : (List (Int × Bool))) : Option (((List (Int × Int × Int × Int × Bool)) × Int)) :=
  (fn_sig_callable (xa.1, xa.2.1, xa.2.2.1, xa.2.2.2) xb xc xd).bind fun i1045 => cond (!decide (i1045 = 0)) (some (([], i1045))) ((loop (fn_sig_Call_l1 xa xb) ([], 0) : Option ((List (Int × Int × Int × Int × Bool)))).bind fun l1253 => (loop (fn_sig_Call_l2 xa xb xc) (l1253, 0) : Option ((List (Int × Int × Int × Int × Bool)))).bind fun l1750 => (fn_row_Subst xa.2.2.2 xb).bind fun (l2046, i2047) => (fn_relate_Flow l2046 xd 6 0).bind fun (l2061, i2062) => (app l1750 l2061).bind fun z2070 => some ((z2070, 0)))
set_option maxRecDepth 100000 in
set_option maxHeartbeats 4000000 in
theorem sig_Call_ok {K : Hp} {xa : (Int × (List (Int × Int)) × (List (List (Int × Bool))) × (List (Int × Bool)))} {xb : (List Int)} {xc : (List (List (Int × Bool)))} {xd : (List (Int × Bool))} {adxa_1 : Option Addr} {cpxa_1 : Nat} {adxa_2 : Option Addr} {cpxa_2 : Nat} {adxa_3 : Option Addr} {cpxa_3 : Nat} {adxb_0 : Option Addr} {cpxb_0 : Nat} {adxc_0 : Option Addr} {cpxc_0 : Nat} {adxd_0 : Option Addr} {cpxd_0 : Nat} (fxa_1 : Is K (.sl (.cons (.int .i64) (.one (.int .i64)))) [.slice adxa_1 xa.2.1.length cpxa_1] xa.2.1) (fxa_2 : Is K (.sl (.one (.sl (.cons (.int .i64) (.one .bool))))) [.slice adxa_2 xa.2.2.1.length cpxa_2] xa.2.2.1) (fxa_3 : Is K (.sl (.cons (.int .i64) (.one .bool))) [.slice adxa_3 xa.2.2.2.length cpxa_3] xa.2.2.2) (fxb_0 : Is K (.sl (.int .i64)) [.slice adxb_0 xb.length cpxb_0] xb) (fxc_0 : Is K (.sl (.one (.sl (.cons (.int .i64) (.one .bool))))) [.slice adxc_0 xc.length cpxc_0] xc) (fxd_0 : Is K (.sl (.cons (.int .i64) (.one .bool))) [.slice adxd_0 xd.length cpxd_0] xd) {r : ((List (Int × Int × Int × Int × Bool)) × Int)} (h : fn_sig_Call xa xb xc xd = some r) :
    Tr Try.prog 68 #[.agg #[ii xa.1, .slice adxa_1 xa.2.1.length cpxa_1, .slice adxa_2 xa.2.2.1.length cpxa_2, .slice adxa_3 xa.2.2.2.length cpxa_3], .slice adxb_0 xb.length cpxb_0, .slice adxc_0 xc.length cpxc_0, .agg #[.slice adxd_0 xd.length cpxd_0]] K [] (fun v K' L' => (∃ (l1035 : (List (Int × Int × Int × Int × Bool))) (i1040 : Int) (ad1036 : Option Addr) (cp1037 : Nat), (l1035, i1040) = r ∧ .tuple #[.slice ad1036 l1035.length cp1037, ii i1040] = v ∧ L' = [Row Hp.nil 119 (.cons (.int .i64) (.cons (.int .i64) (.cons (.int .i64) (.cons (.int .i64) (.one .bool))))) (.slice ad1036 l1035.length cp1037) l1035]) ∧ K = K') := by
 refine Tr.k <| Tr.of Try.func68 rfl Try.ntmps68 rfl fun E F => ?_
 unfold fn_sig_Call at h
 refine cr <| jbx [ii xa.1, .slice adxa_1 xa.2.1.length cpxa_1, .slice adxa_2 xa.2.2.1.length cpxa_2, .slice adxa_3 xa.2.2.2.length cpxa_3] rfl rfl fun b1041 => jbx [.slice adxd_0 xd.length cpxd_0] rfl rfl fun b1042 => ja (nos) rfl <| ja (ii 0) rfl <| J.nil ?_
 refine CJ.seq <| cr <| jv (.agg #[ii xa.1, .slice adxa_1 xa.2.1.length cpxa_1, .slice adxa_2 xa.2.2.1.length cpxa_2, .slice adxa_3 xa.2.2.2.length cpxa_3]) (V.ld rfl (Ld.agg (cs := [ii xa.1, .slice adxa_1 xa.2.1.length cpxa_1, .slice adxa_2 xa.2.2.1.length cpxa_2, .slice adxa_3 xa.2.2.2.length cpxa_3]) Try.underlying62 sz62 rfl (Rd.cls 1 0 rfl rfl))) <| jm (.slice adxb_0 xb.length cpxb_0) rfl <| jm (.slice adxc_0 xc.length cpxc_0) rfl <| jv (.agg #[.slice adxd_0 xd.length cpxd_0]) (V.ld rfl (Ld.agg (cs := [.slice adxd_0 xd.length cpxd_0]) Try.underlying26 sz26 rfl (Rd.cls 0 0 rfl rfl))) ?_
 obtain ⟨r1043, hr1044, h⟩ := ob h
 refine J.op rfl (A.call (L1 := []) Try.call81 rfl (sig_callable_ok fxa_1 fxa_2 fxa_3 fxb_0 fxc_0 fxd_0 hr1044) rfl rfl) ?_
 rintro _ _ _ ⟨v1046, _, rfl, ⟨⟨i1045, rfl, rfl, rfl⟩, rfl⟩, _, rfl⟩
 refine ja (ii i1045) rfl <| J.nil <| cr <| jm (ii i1045) rfl <| jv (.bool (!decide (i1045 = 0))) (V.neq rfl rfl) <| J.nil ?_
 refine cc rfl h (fun hc1049 h => ?_) fun hc1049 h => ?_
 · refine cr <| jm (ii i1045) rfl <| ja (nos) rfl <| ja (ii i1045) rfl <| J.nil <| CJ.by (fun w hs => Sep.rowNil (e := 119) (t := (.cons (.int .i64) (.cons (.int .i64) (.cons (.int .i64) (.cons (.int .i64) (.one .bool)))))) hs) ?_
   refine CJ.ret ?_
   obtain rfl := si h
   exact ⟨_, _, Res.two rfl rfl rfl, ⟨[], i1045, none, 0, rfl, rfl, rfl⟩, (Hp.le_refl _), fun w hs => (Sep.dropAt 1 rfl (Sep.dropAt 1 rfl hs))⟩
 refine CJ.skip <| cr <| ja (nos) rfl <| J.nil <| CJ.seq <| CJ.seq ?_
 refine CJ.region <| jv _ (V.fad Try.underlying62 rfl nz22 rfl) <| jv (.slice adxa_1 xa.2.1.length cpxa_1) (V.ld rfl (Ld.sc sc22 (Rd.cl 1 rfl rfl))) <| jv (ii (((xa.2.1.length : Nat) : Int))) (V.len Try.underlying22 rfl) <| jm (ii 0) rfl <| J.nil ?_
 obtain ⟨o1258, ho1259, h⟩ := ob h
 refine CJ.meetN (fun ρ K' L' => ∃ (l1253 : (List (Int × Int × Int × Int × Bool))) (ad1254 : Option Addr) (cp1255 : Nat), l1253 = o1258 ∧ Fits [(1, .slice adxb_0 xb.length cpxb_0), (2, .slice adxc_0 xc.length cpxc_0), (4, .pointer (some ⟨b1041, 0, none⟩)), (7, .pointer (some ⟨b1042, 0, none⟩)), (11, .slice ad1254 l1253.length cp1255)] ρ ∧ K = K' ∧ L' = Cl b1041 62 [ii xa.1, .slice adxa_1 xa.2.1.length cpxa_1, .slice adxa_2 xa.2.2.1.length cpxa_2, .slice adxa_3 xa.2.2.2.length cpxa_3] :: Cl b1042 26 [.slice adxd_0 xd.length cpxd_0] :: Row Hp.nil 119 (.cons (.int .i64) (.cons (.int .i64) (.cons (.int .i64) (.cons (.int .i64) (.one .bool))))) (.slice ad1254 l1253.length cp1255) l1253 :: F) ?_ ?_
 · refine CJ.block <| CJ.by (fun w hs => Sep.rowNil (e := 119) (t := (.cons (.int .i64) (.cons (.int .i64) (.cons (.int .i64) (.cons (.int .i64) (.one .bool)))))) hs) <| CJ.front 1 rfl <| CJ.front 2 rfl <| CJ.loop (fun s ρ K' L' => ∃ (l1327 : (List (Int × Int × Int × Int × Bool))) (i1332 : Int) (ad1328 : Option Addr) (cp1329 : Nat), (l1327, i1332) = s ∧ Fits [(1, .slice adxb_0 xb.length cpxb_0), (2, .slice adxc_0 xc.length cpxc_0), (4, .pointer (some ⟨b1041, 0, none⟩)), (7, .pointer (some ⟨b1042, 0, none⟩)), (11, .slice ad1328 l1327.length cp1329), (33, .slice adxa_1 xa.2.1.length cpxa_1), (34, ii (((xa.2.1.length : Nat) : Int))), (35, ii i1332)] ρ ∧ K = K' ∧ L' = Cl b1041 62 [ii xa.1, .slice adxa_1 xa.2.1.length cpxa_1, .slice adxa_2 xa.2.2.1.length cpxa_2, .slice adxa_3 xa.2.2.2.length cpxa_3] :: Cl b1042 26 [.slice adxd_0 xd.length cpxd_0] :: Row Hp.nil 119 (.cons (.int .i64) (.cons (.int .i64) (.cons (.int .i64) (.cons (.int .i64) (.one .bool))))) (.slice ad1328 l1327.length cp1329) l1327 :: F) ho1259 ⟨[], 0, none, 0, rfl, ⟨rfl, rfl, rfl, rfl, rfl, rfl, rfl, rfl, trivial⟩, rfl, rfl⟩ ?_
   rintro s ρ _ _ r1402 ⟨l1327, i1332, ad1328, cp1329, rfl, hf1400, rfl, rfl⟩ h1398
   obtain ⟨ρ, rfl⟩ := hf1400.ex
   refine CJ.front 2 rfl <| CJ.wit Row.hn fun hn1331 => cr <| jv (.bool (decide (i1332 < (((xa.2.1.length : Nat) : Int))))) (V.lss rfl rfl) <| J.nil <| CJ.seq ?_
   refine cc rfl h1398 (fun hc1403 h1398 => ?_) fun hc1403 h1398 => ?_
   · refine CJ.skip <| CJ.seq <| CJ.block <| cr <| jm (ii i1332) rfl ?_
     obtain ⟨x1404, hx1405, h1398⟩ := ob h1398
     obtain ⟨p1406, p1407, p1408⟩ := getI_some hx1405
     obtain ⟨b1409, o1410, e1411, a1412⟩ := (fxa_1).at p1407
     refine jv _ (V.iad Try.underlying22 sz50 rfl e1411 rfl p1406 p1408) <| jv (.agg #[ii x1404.1, ii x1404.2]) (V.ld rfl (Ld.aggK (cs := [ii x1404.1, ii x1404.2]) Try.underlying50 sz50 rfl ⟨((a1412).fst).int, (((a1412).snd).one).int, trivial⟩ (Hp.le_refl _))) <| jal inf50 [ii 0, ii 0] rfl fun b1413 => ja (ii i1332) rfl <| js [ii x1404.1, ii x1404.2] sz50 rfl rfl rfl rfl rfl rfl <| J.nil <| CJ.mix [Cl b1413 50 [ii x1404.1, ii x1404.2], Row Hp.nil 119 (.cons (.int .i64) (.cons (.int .i64) (.cons (.int .i64) (.cons (.int .i64) (.one .bool))))) (.slice ad1328 l1327.length cp1329) l1327, Cl b1041 62 [ii xa.1, .slice adxa_1 xa.2.1.length cpxa_1, .slice adxa_2 xa.2.2.1.length cpxa_2, .slice adxa_3 xa.2.2.2.length cpxa_3], Cl b1042 26 [.slice adxd_0 xd.length cpxd_0]] [([0, 1, 2, 3, 4, 5, 6, 7, 8, 9, 10, 11, 12], 13)] [] [14, 15] mixO (by decide +kernel) ⟨0, rfl, 0, rfl, 0, rfl, 0, rfl, trivial⟩ rfl rfl rfl ?_
     refine JM.cons <| qm (.slice ad1328 l1327.length cp1329) rfl <| qm (.slice adxb_0 xb.length cpxb_0) rfl <| qv _ (V.fad Try.underlying50 rfl nz3 rfl) <| qv (ii x1404.1) (V.ld rfl (Ld.sc sc3 (Rd.cl 0 rfl rfl))) ?_
     obtain ⟨x1435, hx1436, h1398⟩ := ob h1398
     obtain ⟨p1437, p1438, p1439⟩ := getI_some hx1436
     obtain ⟨b1440, o1441, e1442, a1443⟩ := (fxb_0).at p1438
     refine qv _ (V.iad Try.underlying52 sz3 rfl e1442 rfl p1437 p1439) <| qv (ii x1435) (V.ld rfl (Ld.sc sc3 (Rd.k (a1443).int (Hp.le_refl _)))) <| qm (.slice adxb_0 xb.length cpxb_0) rfl <| qv _ (V.fad Try.underlying50 rfl nz3 rfl) <| qv (ii x1404.2) (V.ld rfl (Ld.sc sc3 (Rd.cl 0 rfl rfl))) ?_
     obtain ⟨x1444, hx1445, h1398⟩ := ob h1398
     obtain ⟨p1446, p1447, p1448⟩ := getI_some hx1445
     obtain ⟨b1449, o1450, e1451, a1452⟩ := (fxb_0).at p1447
     refine qv _ (V.iad Try.underlying52 sz3 rfl e1451 rfl p1446 p1448) <| qv (ii x1444) (V.ld rfl (Ld.sc sc3 (Rd.k (a1452).int (Hp.le_refl _)))) <| qm (ii i1332) rfl <| qv (.agg #[ii x1435, ii x1444, ii 4, ii i1332, .bool false]) (V.build inf119 places119 rfl rfl) <| JQ.nil ?_
     refine JA.op rfl (A.lit (K0 := Hp.nil) (ty := (.cons (.int .i64) (.cons (.int .i64) (.cons (.int .i64) (.cons (.int .i64) (.one .bool)))))) (xs := ([(x1435, x1444, 4, i1332, false)] : List (Int × Int × Int × Int × Bool))) Try.underlying88 inf119 rfl (by decide) rfl rfl rfl ⟨_, _, rfl, ⟨_, _, rfl, rfl, rfl, ⟨_, _, rfl, rfl, rfl, ⟨_, _, rfl, rfl, rfl, ⟨_, _, rfl, rfl, rfl, rfl⟩⟩⟩⟩, rfl⟩ rfl (by decide)) ?_
     rintro _ _ _ ⟨b1453, rfl, rfl, rfl⟩
     have hn1454 : ([(x1435, x1444, 4, i1332, false)] : List (Int × Int × Int × Int × Bool)) ≠ [] → ∃ g, (some ⟨b1453, 0, none⟩ : Option Addr) = some ⟨g, 0, none⟩ := fun _ => ⟨b1453, rfl⟩
     refine ⟨fun w hs => Hold.sub (Hp.le_refl _) ⟨1, rfl, 1, rfl, 1, rfl, 1, rfl, trivial⟩ hs, ?_⟩
     refine JM.nil <| JQ.nil ?_
     obtain ⟨z1456, hz1457, h1398⟩ := ob h1398
     refine J.front 2 rfl <| J.op rfl (A.appR (Kr := Hp.nil) Try.underlying88 inf119 rfl rfl (by decide) (by decide) rfl rfl (Els.flat rfl) (Els.flat rfl) hz1457) ?_
     rintro _ _ _ ⟨v1458, rfl, rfl, rfl⟩
     refine J.wit Row.form ?_
     rintro ⟨ad1459, cp1460, rfl, _, _, hn1461⟩
     refine ja (.slice ad1459 z1456.length cp1460) rfl <| J.nil <| CJ.region <| jv (ii (IntKind.wrap .i64 (i1332 + 1))) (V.add rfl rfl) <| jm (ii (IntKind.wrap .i64 (i1332 + 1))) rfl <| J.dropAt 1 rfl <| J.front 2 rfl ?_
     refine J.front 2 rfl <| J.nil ?_
     obtain rfl := si h1398
     exact ⟨rfl, ⟨z1456, IntKind.wrap .i64 (i1332 + 1), ad1459, cp1460, rfl, ⟨rfl, rfl, rfl, rfl, rfl, rfl, rfl, rfl, trivial⟩, rfl, rfl⟩⟩
   refine CJ.front 2 rfl <| CJ.front 2 rfl <| CJ.exit ?_
   obtain rfl := si h1398
   refine ⟨nofun, fun e => ?_⟩
   subst e
   exact ⟨rfl, ⟨l1327, ad1328, cp1329, rfl, ⟨rfl, rfl, rfl, rfl, rfl, trivial⟩, rfl, rfl⟩⟩
 rintro ρ _ _ ⟨l1253, ad1254, cp1255, rfl, hf1462, rfl, rfl⟩
 obtain ⟨ρ, rfl⟩ := hf1462.ex
 refine PJ.front 2 rfl <| PJ.wit Row.hn fun hn1257 => PJ.done <| CJ.seq <| cr <| jv _ (V.fad Try.underlying62 rfl nz23 rfl) ?_
 refine jv (.slice adxa_2 xa.2.2.1.length cpxa_2) (V.ld rfl (Ld.sc sc23 (Rd.cl 1 rfl rfl))) <| jv (ii (((xa.2.2.1.length : Nat) : Int))) (V.len Try.underlying23 rfl) <| jm (ii 0) rfl <| J.nil ?_
 obtain ⟨o1755, ho1756, h⟩ := ob h
 refine CJ.meetN (fun ρ K' L' => ∃ (l1750 : (List (Int × Int × Int × Int × Bool))) (ad1751 : Option Addr) (cp1752 : Nat), l1750 = o1755 ∧ Fits [(1, .slice adxb_0 xb.length cpxb_0), (4, .pointer (some ⟨b1041, 0, none⟩)), (7, .pointer (some ⟨b1042, 0, none⟩)), (11, .slice ad1751 l1750.length cp1752)] ρ ∧ Hp.le K K' ∧ L' = Cl b1041 62 [ii xa.1, .slice adxa_1 xa.2.1.length cpxa_1, .slice adxa_2 xa.2.2.1.length cpxa_2, .slice adxa_3 xa.2.2.2.length cpxa_3] :: Cl b1042 26 [.slice adxd_0 xd.length cpxd_0] :: Row Hp.nil 119 (.cons (.int .i64) (.cons (.int .i64) (.cons (.int .i64) (.cons (.int .i64) (.one .bool))))) (.slice ad1751 l1750.length cp1752) l1750 :: F) ?_ ?_
 · refine CJ.block <| CJ.front 2 rfl <| CJ.front 2 rfl <| CJ.loop (fun s ρ K' L' => ∃ (l1851 : (List (Int × Int × Int × Int × Bool))) (i1856 : Int) (ad1852 : Option Addr) (cp1853 : Nat), (l1851, i1856) = s ∧ Fits [(1, .slice adxb_0 xb.length cpxb_0), (2, .slice adxc_0 xc.length cpxc_0), (4, .pointer (some ⟨b1041, 0, none⟩)), (7, .pointer (some ⟨b1042, 0, none⟩)), (11, .slice ad1852 l1851.length cp1853), (57, .slice adxa_2 xa.2.2.1.length cpxa_2), (58, ii (((xa.2.2.1.length : Nat) : Int))), (59, ii i1856)] ρ ∧ Hp.le K K' ∧ L' = Cl b1041 62 [ii xa.1, .slice adxa_1 xa.2.1.length cpxa_1, .slice adxa_2 xa.2.2.1.length cpxa_2, .slice adxa_3 xa.2.2.2.length cpxa_3] :: Cl b1042 26 [.slice adxd_0 xd.length cpxd_0] :: Row Hp.nil 119 (.cons (.int .i64) (.cons (.int .i64) (.cons (.int .i64) (.cons (.int .i64) (.one .bool))))) (.slice ad1852 l1851.length cp1853) l1851 :: F) ho1756 ⟨l1253, 0, ad1254, cp1255, rfl, ⟨rfl, rfl, rfl, rfl, rfl, rfl, rfl, rfl, trivial⟩, (Hp.le_refl _), rfl⟩ ?_
   rintro s ρ K1850 _ r1954 ⟨l1851, i1856, ad1852, cp1853, rfl, hf1952, hk1953, rfl⟩ h1951
   obtain ⟨ρ, rfl⟩ := hf1952.ex
   refine CJ.front 2 rfl <| CJ.wit Row.hn fun hn1855 => cr <| jv (.bool (decide (i1856 < (((xa.2.2.1.length : Nat) : Int))))) (V.lss rfl rfl) <| J.nil <| CJ.seq ?_
   refine cc rfl h1951 (fun hc1955 h1951 => ?_) fun hc1955 h1951 => ?_
   · refine CJ.skip <| CJ.seq <| CJ.block <| cr <| jm (ii i1856) rfl ?_
     obtain ⟨x1956, hx1957, h1951⟩ := ob h1951
     obtain ⟨p1958, p1959, p1960⟩ := getI_some hx1957
     obtain ⟨b1961, o1962, e1963, a1964⟩ := ((fxa_2.mono hk1953)).at p1959
     refine jv _ (V.iad Try.underlying23 sz26 rfl e1963 rfl p1958 p1960) ?_
     obtain ⟨ad1965, cp1966, c1967, f1968⟩ := ((a1964).one).sl
     refine jv (.agg #[.slice ad1965 x1956.length cp1966]) (V.ld rfl (Ld.aggK (cs := [.slice ad1965 x1956.length cp1966]) Try.underlying26 sz26 rfl ⟨c1967, trivial⟩ (Hp.le_refl _))) <| jal inf26 [nos] rfl fun b1969 => ja (ii i1856) rfl <| js [.slice ad1965 x1956.length cp1966] sz26 rfl rfl rfl rfl rfl rfl <| J.nil <| CJ.seq <| CJ.region ?_
     refine jv (.agg #[.slice ad1965 x1956.length cp1966]) (V.ld rfl (Ld.agg (cs := [.slice ad1965 x1956.length cp1966]) Try.underlying26 sz26 rfl (Rd.cls 0 0 rfl rfl))) <| jm (.slice adxb_0 xb.length cpxb_0) rfl ?_
     obtain ⟨r1970, hr1971, h1951⟩ := ob h1951
     refine J.op rfl (A.call (L1 := []) Try.call82 rfl (row_Subst_ok f1968 (fxb_0.mono hk1953) hr1971) rfl rfl) ?_
     rintro _ _ _ ⟨v1977, _, rfl, ⟨⟨l1972, i1973, ad1974, cp1975, rfl, rfl, rfl⟩, rfl⟩, _, rfl⟩
     refine J.wit Row.hn fun hn1976 => jm (.tuple #[.agg #[.slice ad1974 l1972.length cp1975], ii i1973]) rfl <| jx (.agg #[.slice ad1974 l1972.length cp1975]) rfl rfl <| jx (ii i1973) rfl rfl <| jal inf26 [nos] rfl fun b1981 => js [.slice ad1974 l1972.length cp1975] sz26 rfl rfl rfl rfl rfl rfl <| ja (ii i1973) rfl ?_
     refine J.nil <| CJ.seq <| CJ.mix [Cl b1981 26 [.slice ad1974 l1972.length cp1975], Cl b1969 26 [.slice ad1965 x1956.length cp1966], Row Hp.nil 119 (.cons (.int .i64) (.cons (.int .i64) (.cons (.int .i64) (.cons (.int .i64) (.one .bool))))) (.slice ad1852 l1851.length cp1853) l1851, Cl b1041 62 [ii xa.1, .slice adxa_1 xa.2.1.length cpxa_1, .slice adxa_2 xa.2.2.1.length cpxa_2, .slice adxa_3 xa.2.2.2.length cpxa_3], Cl b1042 26 [.slice adxd_0 xd.length cpxd_0]] [([0, 1, 2, 3, 4, 5, 6], 7)] [8, 9, 10, 11, 12] [] mixO (by decide +kernel) ⟨0, rfl, 1, rfl, 1, rfl, 1, rfl, 1, rfl, trivial⟩ rfl rfl rfl <| JM.cons <| qm (.slice adxc_0 xc.length cpxc_0) rfl <| qm (ii i1856) rfl ?_
     obtain ⟨x2009, hx2010, h1951⟩ := ob h1951
     obtain ⟨p2011, p2012, p2013⟩ := getI_some hx2010
     obtain ⟨b2014, o2015, e2016, a2017⟩ := ((fxc_0.mono hk1953)).at p2012
     refine qv _ (V.iad Try.underlying23 sz26 rfl e2016 rfl p2011 p2013) ?_
     obtain ⟨ad2018, cp2019, c2020, f2021⟩ := ((a2017).one).sl
     refine qv (.agg #[.slice ad2018 x2009.length cp2019]) (V.ld rfl (Ld.aggK (cs := [.slice ad2018 x2009.length cp2019]) Try.underlying26 sz26 rfl ⟨c2020, trivial⟩ (Hp.le_refl _))) <| qv (.agg #[.slice ad1974 l1972.length cp1975]) (V.ld rfl (Ld.agg (cs := [.slice ad1974 l1972.length cp1975]) Try.underlying26 sz26 rfl (Rd.cls 0 0 rfl rfl))) <| qm (ii i1856) rfl <| qv (ii (IntKind.wrap .i64 (16 * i1856))) (V.mul rfl rfl) <| JQ.nil <| JA.front 1 rfl <| JA.persist (Hp.nil_le _) (by decide) fun K2022 hK2023 f2024 => ?_
     obtain ⟨r2025, hr2026, h1951⟩ := ob h1951
     refine JA.op rfl (A.call (L1 := []) Try.call63 rfl (relate_Flow_ok (f2021.mono hK2023) f2024 hr2026) rfl rfl) ?_
     rintro _ _ _ ⟨v2032, _, rfl, ⟨⟨l2027, i2028, ad2029, cp2030, rfl, rfl, rfl⟩, rfl⟩, _, rfl⟩
     refine ⟨fun w hs => Hold.sub hK2023 ⟨1, rfl, 1, rfl, 1, rfl, 1, rfl, 1, rfl, trivial⟩ hs, ?_⟩
     refine JM.wit Row.hn fun hn2031 => JM.nil <| qm (.tuple #[.slice ad2029 l2027.length cp2030, ii i2028]) rfl <| qv (.slice ad2029 l2027.length cp2030) (V.ext rfl rfl) <| qv (ii i2028) (V.ext rfl rfl) <| qa (.slice ad2029 l2027.length cp2030) rfl <| qa (ii i2028) rfl ?_
     refine JQ.nil <| J.nil <| CJ.region <| jm (.slice ad1852 l1851.length cp1853) rfl <| jm (.slice ad2029 l2027.length cp2030) rfl ?_
     obtain ⟨z2036, hz2037, h1951⟩ := ob h1951
     refine J.front 3 rfl <| J.op rfl (A.appR (Kr := Hp.nil) Try.underlying88 inf119 rfl rfl (by decide) (by decide) rfl rfl (Els.flat rfl) (Els.flat rfl) hz2037) ?_
     rintro _ _ _ ⟨v2038, rfl, rfl, rfl⟩
     refine J.wit Row.form ?_
     rintro ⟨ad2039, cp2040, rfl, _, _, hn2041⟩
     refine ja (.slice ad2039 z2036.length cp2040) rfl <| J.nil <| CJ.region <| jv (ii (IntKind.wrap .i64 (i1856 + 1))) (V.add rfl rfl) <| jm (ii (IntKind.wrap .i64 (i1856 + 1))) rfl <| J.dropAt 1 rfl <| J.dropAt 1 rfl ?_
     refine J.front 2 rfl <| J.front 2 rfl <| J.nil ?_
     obtain rfl := si h1951
     exact ⟨rfl, ⟨z2036, IntKind.wrap .i64 (i1856 + 1), ad2039, cp2040, rfl, ⟨rfl, rfl, rfl, rfl, rfl, rfl, rfl, rfl, trivial⟩, (hk1953.trans hK2023), rfl⟩⟩
   refine CJ.front 2 rfl <| CJ.front 2 rfl <| CJ.exit ?_
   obtain rfl := si h1951
   refine ⟨nofun, fun e => ?_⟩
   subst e
   exact ⟨rfl, ⟨l1851, ad1852, cp1853, rfl, ⟨rfl, rfl, rfl, rfl, trivial⟩, hk1953, rfl⟩⟩
 rintro ρ K1749 _ ⟨l1750, ad1751, cp1752, rfl, hf2042, hk2043, rfl⟩
 obtain ⟨ρ, rfl⟩ := hf2042.ex
 refine PJ.front 2 rfl <| PJ.wit Row.hn fun hn1754 => PJ.done <| cr <| jv _ (V.fad Try.underlying62 rfl nz26 rfl) <| jv (.agg #[.slice adxa_3 xa.2.2.2.length cpxa_3]) (V.ld rfl (Ld.agg (cs := [.slice adxa_3 xa.2.2.2.length cpxa_3]) Try.underlying26 sz26 rfl (Rd.cls 1 3 rfl rfl))) ?_
 refine jm (.slice adxb_0 xb.length cpxb_0) rfl ?_
 obtain ⟨r2044, hr2045, h⟩ := ob h
 refine J.op rfl (A.call (L1 := []) Try.call82 rfl (row_Subst_ok (fxa_3.mono hk2043) (fxb_0.mono hk2043) hr2045) rfl rfl) ?_
 rintro _ _ _ ⟨v2051, _, rfl, ⟨⟨l2046, i2047, ad2048, cp2049, rfl, rfl, rfl⟩, rfl⟩, _, rfl⟩
 refine J.wit Row.hn fun hn2050 => jm (.tuple #[.agg #[.slice ad2048 l2046.length cp2049], ii i2047]) rfl <| jx (.agg #[.slice ad2048 l2046.length cp2049]) rfl rfl <| jx (ii i2047) rfl rfl <| jal inf26 [nos] rfl fun b2055 => js [.slice ad2048 l2046.length cp2049] sz26 rfl rfl rfl rfl rfl rfl <| ja (ii i2047) rfl ?_
 refine J.nil <| cr <| jv (.agg #[.slice ad2048 l2046.length cp2049]) (V.ld rfl (Ld.agg (cs := [.slice ad2048 l2046.length cp2049]) Try.underlying26 sz26 rfl (Rd.cls 0 0 rfl rfl))) <| jv (.agg #[.slice adxd_0 xd.length cpxd_0]) (V.ld rfl (Ld.agg (cs := [.slice adxd_0 xd.length cpxd_0]) Try.underlying26 sz26 rfl (Rd.cls 4 0 rfl rfl))) <| J.front 1 rfl <| J.persist (Hp.nil_le _) (by decide) fun K2056 hK2057 f2058 => ?_
 obtain ⟨r2059, hr2060, h⟩ := ob h
 refine J.op rfl (A.call (L1 := []) Try.call63 rfl (relate_Flow_ok f2058 (fxd_0.mono (hk2043.trans hK2057)) hr2060) rfl rfl) ?_
 rintro _ _ _ ⟨v2066, _, rfl, ⟨⟨l2061, i2062, ad2063, cp2064, rfl, rfl, rfl⟩, rfl⟩, _, rfl⟩
 refine J.wit Row.hn fun hn2065 => jm (.tuple #[.slice ad2063 l2061.length cp2064, ii i2062]) rfl <| jx (.slice ad2063 l2061.length cp2064) rfl rfl <| jx (ii i2062) rfl rfl <| ja (.slice ad2063 l2061.length cp2064) rfl <| ja (ii i2062) rfl <| J.nil ?_
 refine cr <| jm (.slice ad1751 l1750.length cp1752) rfl <| jm (.slice ad2063 l2061.length cp2064) rfl ?_
 obtain ⟨z2070, hz2071, h⟩ := ob h
 refine J.front 2 rfl <| J.op rfl (A.appR (Kr := Hp.nil) Try.underlying88 inf119 rfl rfl (by decide) (by decide) rfl rfl (Els.flat rfl) (Els.flat rfl) hz2071) ?_
 rintro _ _ _ ⟨v2072, rfl, rfl, rfl⟩
 refine J.wit Row.form ?_
 rintro ⟨ad2073, cp2074, rfl, _, _, hn2075⟩
 refine ja (.slice ad2073 z2070.length cp2074) rfl <| ja (ii 0) rfl <| J.nil <| CJ.ret ?_
 obtain rfl := si h
 exact ⟨_, _, Res.two rfl rfl rfl, ⟨z2070, 0, ad2073, cp2074, rfl, rfl, rfl⟩, (hk2043.trans hK2057), fun w hs => (Sep.dropAt 1 rfl (Sep.dropAt 1 rfl (Sep.dropAt 1 rfl hs)))⟩
noncomputable def fn_term_Needs_l1 (xa : (Int × Int × Int × (List Int) × (List Int) × (List Int))) (xb : (Int × Int × (List (List (Int × Bool))) × (List (Int × Bool)) × (List (Int × (List (Int × Int)) × (List (List (Int × Bool))) × (List (Int × Bool)))))) : ((List (List (Int × Bool))) × Int) → Option (((List (List (Int × Bool))) × Int) ⊕ (List (List (Int × Bool)))) := fun ((l659, i664) : ((List (List (Int × Bool))) × Int)) => cond (decide (i664 < (((xa.2.2.2.2.1.length : Nat) : Int)))) ((getI xa.2.2.2.2.1 i664).bind fun x709 => (getI xb.2.2.1 x709).bind fun x718 => (app l659 (([x718] : List (List (Int × Bool))))).bind fun z734 => some (.inl ((z734, IntKind.wrap .i64 (i664 + 1))))) (some (.inr (l659)))
noncomputable def fn_term_Needs (xa : (Int × Int × Int × (List Int) × (List Int) × (List Int))) (xb : (Int × Int × (List (List (Int × Bool))) × (List (Int × Bool)) × (List (Int × (List (Int × Int)) × (List (List (Int × Bool))) × (List (Int × Bool)))))) : Option (((List (Int × Int × Int × Int × Bool)) × Int)) :=
  (fn_term_form (xa.1, xa.2.1, xa.2.2.1, xa.2.2.2.1, xa.2.2.2.2.1, xa.2.2.2.2.2)).bind fun i425 => cond (!decide (i425 = 0)) (some (([], i425))) ((fn_term_within (xa.1, xa.2.1, xa.2.2.1, xa.2.2.2.1, xa.2.2.2.2.1, xa.2.2.2.2.2) (xb.1, xb.2.1, xb.2.2.1, xb.2.2.2.1, xb.2.2.2.2)).bind fun t433 => cond (!t433) (some (([], 7))) (cond (decide (xa.1 = 3)) (cond (decide ((((xb.2.2.1.length : Nat) : Int)) = 0)) (some (([], 14))) ((getI xb.2.2.1 0).bind fun x466 => (fn_relate_Flow x466 xb.2.2.2.1 7 0).bind fun (l481, i482) => some ((l481, i482)))) (cond (decide (xa.1 = 4)) ((loop (fn_term_Needs_l1 xa xb) ([], 0) : Option ((List (List (Int × Bool))))).bind fun l612 => (getI xb.2.2.2.2 xa.2.1).bind fun x790 => (getI xb.2.2.1 xa.2.2.1).bind fun x811 => (fn_sig_Call (x790.1, x790.2.1, x790.2.2.1, x790.2.2.2) xa.2.2.2.2.2 l612 x811).bind fun (l829, i830) => some ((l829, i830))) (some (([], 0))))))
set_option maxRecDepth 100000 in
set_option maxHeartbeats 4000000 in
theorem term_Needs_ok {K : Hp} {xa : (Int × Int × Int × (List Int) × (List Int) × (List Int))} {xb : (Int × Int × (List (List (Int × Bool))) × (List (Int × Bool)) × (List (Int × (List (Int × Int)) × (List (List (Int × Bool))) × (List (Int × Bool)))))} {adxa_3 : Option Addr} {cpxa_3 : Nat} {adxa_4 : Option Addr} {cpxa_4 : Nat} {adxa_5 : Option Addr} {cpxa_5 : Nat} {adxb_2 : Option Addr} {cpxb_2 : Nat} {adxb_3 : Option Addr} {cpxb_3 : Nat} {adxb_4 : Option Addr} {cpxb_4 : Nat} (fxa_3 : Is K (.sl (.int .i64)) [.slice adxa_3 xa.2.2.2.1.length cpxa_3] xa.2.2.2.1) (fxa_4 : Is K (.sl (.int .i64)) [.slice adxa_4 xa.2.2.2.2.1.length cpxa_4] xa.2.2.2.2.1) (fxa_5 : Is K (.sl (.int .i64)) [.slice adxa_5 xa.2.2.2.2.2.length cpxa_5] xa.2.2.2.2.2) (fxb_2 : Is K (.sl (.one (.sl (.cons (.int .i64) (.one .bool))))) [.slice adxb_2 xb.2.2.1.length cpxb_2] xb.2.2.1) (fxb_3 : Is K (.sl (.cons (.int .i64) (.one .bool))) [.slice adxb_3 xb.2.2.2.1.length cpxb_3] xb.2.2.2.1) (fxb_4 : Is K (.sl (.cons (.int .i64) (.cons (.sl (.cons (.int .i64) (.one (.int .i64)))) (.cons (.sl (.one (.sl (.cons (.int .i64) (.one .bool))))) (.one (.one (.sl (.cons (.int .i64) (.one .bool))))))))) [.slice adxb_4 xb.2.2.2.2.length cpxb_4] xb.2.2.2.2) {r : ((List (Int × Int × Int × Int × Bool)) × Int)} (h : fn_term_Needs xa xb = some r) :
    Tr Try.prog 48 #[.agg #[ii xa.1, ii xa.2.1, ii xa.2.2.1, .slice adxa_3 xa.2.2.2.1.length cpxa_3, .slice adxa_4 xa.2.2.2.2.1.length cpxa_4, .slice adxa_5 xa.2.2.2.2.2.length cpxa_5], .agg #[ii xb.1, ii xb.2.1, .slice adxb_2 xb.2.2.1.length cpxb_2, .slice adxb_3 xb.2.2.2.1.length cpxb_3, .slice adxb_4 xb.2.2.2.2.length cpxb_4]] K [] (fun v K' L' => (∃ (l415 : (List (Int × Int × Int × Int × Bool))) (i420 : Int) (ad416 : Option Addr) (cp417 : Nat), (l415, i420) = r ∧ .tuple #[.slice ad416 l415.length cp417, ii i420] = v ∧ L' = [Row Hp.nil 119 (.cons (.int .i64) (.cons (.int .i64) (.cons (.int .i64) (.cons (.int .i64) (.one .bool))))) (.slice ad416 l415.length cp417) l415]) ∧ K = K') := by
 refine Tr.k <| Tr.of Try.func48 rfl Try.ntmps48 rfl fun E F => ?_
 unfold fn_term_Needs at h
 refine cr <| jbx [ii xa.1, ii xa.2.1, ii xa.2.2.1, .slice adxa_3 xa.2.2.2.1.length cpxa_3, .slice adxa_4 xa.2.2.2.2.1.length cpxa_4, .slice adxa_5 xa.2.2.2.2.2.length cpxa_5] rfl rfl fun b421 => jbx [ii xb.1, ii xb.2.1, .slice adxb_2 xb.2.2.1.length cpxb_2, .slice adxb_3 xb.2.2.2.1.length cpxb_3, .slice adxb_4 xb.2.2.2.2.length cpxb_4] rfl rfl fun b422 => ja (nos) rfl <| ja (ii 0) rfl <| J.nil ?_
 refine CJ.seq <| cr <| jv (.agg #[ii xa.1, ii xa.2.1, ii xa.2.2.1, .slice adxa_3 xa.2.2.2.1.length cpxa_3, .slice adxa_4 xa.2.2.2.2.1.length cpxa_4, .slice adxa_5 xa.2.2.2.2.2.length cpxa_5]) (V.ld rfl (Ld.agg (cs := [ii xa.1, ii xa.2.1, ii xa.2.2.1, .slice adxa_3 xa.2.2.2.1.length cpxa_3, .slice adxa_4 xa.2.2.2.2.1.length cpxa_4, .slice adxa_5 xa.2.2.2.2.2.length cpxa_5]) Try.underlying54 sz54 rfl (Rd.cls 1 0 rfl rfl))) ?_
 obtain ⟨r423, hr424, h⟩ := ob h
 refine J.op rfl (A.call (L1 := []) Try.call66 rfl (term_form_ok fxa_3 fxa_4 fxa_5 hr424) rfl rfl) ?_
 rintro _ _ _ ⟨v426, _, rfl, ⟨⟨i425, rfl, rfl, rfl⟩, rfl⟩, _, rfl⟩
 refine ja (ii i425) rfl <| J.nil <| cr <| jm (ii i425) rfl <| jv (.bool (!decide (i425 = 0))) (V.neq rfl rfl) <| J.nil ?_
 refine cc rfl h (fun hc429 h => ?_) fun hc429 h => ?_
 · refine cr <| jm (ii i425) rfl <| ja (nos) rfl <| ja (ii i425) rfl <| J.nil <| CJ.by (fun w hs => Sep.rowNil (e := 119) (t := (.cons (.int .i64) (.cons (.int .i64) (.cons (.int .i64) (.cons (.int .i64) (.one .bool)))))) hs) ?_
   refine CJ.ret ?_
   obtain rfl := si h
   exact ⟨_, _, Res.two rfl rfl rfl, ⟨[], i425, none, 0, rfl, rfl, rfl⟩, (Hp.le_refl _), fun w hs => (Sep.dropAt 1 rfl (Sep.dropAt 1 rfl hs))⟩
 refine CJ.skip <| CJ.seq <| cr <| jv (.agg #[ii xa.1, ii xa.2.1, ii xa.2.2.1, .slice adxa_3 xa.2.2.2.1.length cpxa_3, .slice adxa_4 xa.2.2.2.2.1.length cpxa_4, .slice adxa_5 xa.2.2.2.2.2.length cpxa_5]) (V.ld rfl (Ld.agg (cs := [ii xa.1, ii xa.2.1, ii xa.2.2.1, .slice adxa_3 xa.2.2.2.1.length cpxa_3, .slice adxa_4 xa.2.2.2.2.1.length cpxa_4, .slice adxa_5 xa.2.2.2.2.2.length cpxa_5]) Try.underlying54 sz54 rfl (Rd.cls 1 0 rfl rfl))) <| jv (.agg #[ii xb.1, ii xb.2.1, .slice adxb_2 xb.2.2.1.length cpxb_2, .slice adxb_3 xb.2.2.2.1.length cpxb_3, .slice adxb_4 xb.2.2.2.2.length cpxb_4]) (V.ld rfl (Ld.agg (cs := [ii xb.1, ii xb.2.1, .slice adxb_2 xb.2.2.1.length cpxb_2, .slice adxb_3 xb.2.2.2.1.length cpxb_3, .slice adxb_4 xb.2.2.2.2.length cpxb_4]) Try.underlying74 sz74 rfl (Rd.cls 0 0 rfl rfl))) ?_
 obtain ⟨r431, hr432, h⟩ := ob h
 refine J.op rfl (A.call (L1 := []) Try.call67 rfl (term_within_ok fxa_3 fxa_4 fxa_5 fxb_2 fxb_3 fxb_4 hr432) rfl rfl) ?_
 rintro _ _ _ ⟨v434, _, rfl, ⟨⟨t433, rfl, rfl, rfl⟩, rfl⟩, _, rfl⟩
 refine jv (.bool (!t433)) (V.not rfl) <| J.nil <| cc rfl h (fun hc437 h => ?_) fun hc437 h => ?_
 · refine cr <| ja (nos) rfl <| ja (ii 7) rfl <| J.nil <| CJ.by (fun w hs => Sep.rowNil (e := 119) (t := (.cons (.int .i64) (.cons (.int .i64) (.cons (.int .i64) (.cons (.int .i64) (.one .bool)))))) hs) <| CJ.ret ?_
   obtain rfl := si h
   exact ⟨_, _, Res.two rfl rfl rfl, ⟨[], 7, none, 0, rfl, rfl, rfl⟩, (Hp.le_refl _), fun w hs => (Sep.dropAt 1 rfl (Sep.dropAt 1 rfl hs))⟩
 refine CJ.skip <| CJ.seq <| cr <| jv _ (V.fad Try.underlying54 rfl nz3 rfl) <| jv (ii xa.1) (V.ld rfl (Ld.sc sc3 (Rd.cl 1 rfl rfl))) <| J.nil ?_
 refine CJ.block <| cr <| jv (.bool (decide (xa.1 = 3))) (V.eql rfl rfl) <| ja (.bool (decide (xa.1 = 3))) rfl <| J.nil <| cc rfl h (fun hc439 h => ?_) fun hc439 h => ?_
 · refine CJ.seq <| cr <| jv _ (V.fad Try.underlying74 rfl nz23 rfl) <| jv (.slice adxb_2 xb.2.2.1.length cpxb_2) (V.ld rfl (Ld.sc sc23 (Rd.cl 0 rfl rfl))) <| jv (ii (((xb.2.2.1.length : Nat) : Int))) (V.len Try.underlying23 rfl) <| jv (.bool (decide ((((xb.2.2.1.length : Nat) : Int)) = 0))) (V.eql rfl rfl) ?_
   refine J.nil <| cc rfl h (fun hc440 h => ?_) fun hc440 h => ?_
   · refine cr <| ja (nos) rfl <| ja (ii 14) rfl <| J.nil <| CJ.by (fun w hs => Sep.rowNil (e := 119) (t := (.cons (.int .i64) (.cons (.int .i64) (.cons (.int .i64) (.cons (.int .i64) (.one .bool)))))) hs) <| CJ.ret ?_
     obtain rfl := si h
     exact ⟨_, _, Res.two rfl rfl rfl, ⟨[], 14, none, 0, rfl, rfl, rfl⟩, (Hp.le_refl _), fun w hs => (Sep.dropAt 1 rfl (Sep.dropAt 1 rfl hs))⟩
   refine CJ.skip <| CJ.seq <| CJ.mix [Cl b422 74 [ii xb.1, ii xb.2.1, .slice adxb_2 xb.2.2.1.length cpxb_2, .slice adxb_3 xb.2.2.2.1.length cpxb_3, .slice adxb_4 xb.2.2.2.2.length cpxb_4], Cl b421 54 [ii xa.1, ii xa.2.1, ii xa.2.2.1, .slice adxa_3 xa.2.2.2.1.length cpxa_3, .slice adxa_4 xa.2.2.2.2.1.length cpxa_4, .slice adxa_5 xa.2.2.2.2.2.length cpxa_5]] [([0, 1, 2, 3, 4, 5], 6)] [7, 8, 9, 10] [] mixO (by decide +kernel) ⟨0, rfl, 0, rfl, trivial⟩ rfl rfl rfl <| JM.cons <| qv _ (V.fad Try.underlying74 rfl nz23 rfl) <| qv (.slice adxb_2 xb.2.2.1.length cpxb_2) (V.ld rfl (Ld.sc sc23 (Rd.cl 0 rfl rfl))) ?_
   obtain ⟨x466, hx467, h⟩ := ob h
   obtain ⟨p468, p469, p470⟩ := getI_some hx467
   obtain ⟨b471, o472, e473, a474⟩ := (fxb_2).at p469
   refine qv _ (V.iad Try.underlying23 sz26 rfl e473 rfl p468 p470) ?_
   obtain ⟨ad475, cp476, c477, f478⟩ := ((a474).one).sl
   refine qv (.agg #[.slice ad475 x466.length cp476]) (V.ld rfl (Ld.aggK (cs := [.slice ad475 x466.length cp476]) Try.underlying26 sz26 rfl ⟨c477, trivial⟩ (Hp.le_refl _))) <| qv _ (V.fad Try.underlying74 rfl nz26 rfl) <| qv (.agg #[.slice adxb_3 xb.2.2.2.1.length cpxb_3]) (V.ld rfl (Ld.agg (cs := [.slice adxb_3 xb.2.2.2.1.length cpxb_3]) Try.underlying26 sz26 rfl (Rd.cls 0 3 rfl rfl))) <| JQ.nil ?_
   obtain ⟨r479, hr480, h⟩ := ob h
   refine JA.op rfl (A.call (L1 := []) Try.call63 rfl (relate_Flow_ok f478 fxb_3 hr480) rfl rfl) ?_
   rintro _ _ _ ⟨v486, _, rfl, ⟨⟨l481, i482, ad483, cp484, rfl, rfl, rfl⟩, rfl⟩, _, rfl⟩
   refine ⟨fun w hs => Hold.sub (Hp.le_refl _) ⟨1, rfl, 1, rfl, trivial⟩ hs, ?_⟩
   refine JM.wit Row.hn fun hn485 => JM.nil <| qv (.slice ad483 l481.length cp484) (V.ext rfl rfl) <| qv (ii i482) (V.ext rfl rfl) <| qa (.slice ad483 l481.length cp484) rfl <| qa (ii i482) rfl <| JQ.nil ?_
   refine J.nil <| CJ.ret ?_
   obtain rfl := si h
   exact ⟨_, _, Res.two rfl rfl rfl, ⟨l481, i482, ad483, cp484, rfl, rfl, rfl⟩, (Hp.le_refl _), fun w hs => (Sep.dropAt 1 rfl (Sep.dropAt 1 rfl hs))⟩
 refine cr <| jv (.bool (decide (xa.1 = 4))) (V.eql rfl rfl) <| ja (.bool (decide (xa.1 = 4))) rfl <| J.nil <| cc rfl h (fun hc490 h => ?_) fun hc490 h => ?_
 · refine cr <| ja (nos) rfl <| J.nil <| CJ.seq <| CJ.seq <| CJ.region ?_
   refine jv _ (V.fad Try.underlying54 rfl nz52 rfl) <| jv (.slice adxa_4 xa.2.2.2.2.1.length cpxa_4) (V.ld rfl (Ld.sc sc52 (Rd.cl 1 rfl rfl))) <| jv (ii (((xa.2.2.2.2.1.length : Nat) : Int))) (V.len Try.underlying52 rfl) <| jm (ii 0) rfl <| J.nil ?_
   obtain ⟨o617, ho618, h⟩ := ob h
   refine CJ.meetN (fun ρ K' L' => ∃ (l612 : (List (List (Int × Bool)))) (ad613 : Option Addr) (cp614 : Nat), l612 = o617 ∧ Fits [(2, .pointer (some ⟨b421, 0, none⟩)), (3, .pointer (some ⟨b422, 0, none⟩)), (7, .slice ad613 l612.length cp614)] ρ ∧ K = K' ∧ L' = Cl b421 54 [ii xa.1, ii xa.2.1, ii xa.2.2.1, .slice adxa_3 xa.2.2.2.1.length cpxa_3, .slice adxa_4 xa.2.2.2.2.1.length cpxa_4, .slice adxa_5 xa.2.2.2.2.2.length cpxa_5] :: Cl b422 74 [ii xb.1, ii xb.2.1, .slice adxb_2 xb.2.2.1.length cpxb_2, .slice adxb_3 xb.2.2.2.1.length cpxb_3, .slice adxb_4 xb.2.2.2.2.length cpxb_4] :: Row K 26 (.one (.sl (.cons (.int .i64) (.one .bool)))) (.slice ad613 l612.length cp614) l612 :: F) ?_ ?_
   · refine CJ.block <| CJ.by (fun w hs => Sep.rowNil (e := 26) (t := (.one (.sl (.cons (.int .i64) (.one .bool))))) hs) <| CJ.by (fun w hs => hs.mono (Row.mono (Hp.nil_le K))) <| CJ.front 1 rfl <| CJ.front 2 rfl <| CJ.loop (fun s ρ K' L' => ∃ (l659 : (List (List (Int × Bool)))) (i664 : Int) (ad660 : Option Addr) (cp661 : Nat), (l659, i664) = s ∧ Fits [(2, .pointer (some ⟨b421, 0, none⟩)), (3, .pointer (some ⟨b422, 0, none⟩)), (7, .slice ad660 l659.length cp661), (39, .slice adxa_4 xa.2.2.2.2.1.length cpxa_4), (40, ii (((xa.2.2.2.2.1.length : Nat) : Int))), (41, ii i664)] ρ ∧ K = K' ∧ L' = Cl b421 54 [ii xa.1, ii xa.2.1, ii xa.2.2.1, .slice adxa_3 xa.2.2.2.1.length cpxa_3, .slice adxa_4 xa.2.2.2.2.1.length cpxa_4, .slice adxa_5 xa.2.2.2.2.2.length cpxa_5] :: Cl b422 74 [ii xb.1, ii xb.2.1, .slice adxb_2 xb.2.2.1.length cpxb_2, .slice adxb_3 xb.2.2.2.1.length cpxb_3, .slice adxb_4 xb.2.2.2.2.length cpxb_4] :: Row K 26 (.one (.sl (.cons (.int .i64) (.one .bool)))) (.slice ad660 l659.length cp661) l659 :: F) ho618 ⟨[], 0, none, 0, rfl, ⟨rfl, rfl, rfl, rfl, rfl, rfl, trivial⟩, rfl, rfl⟩ ?_
     rintro s ρ _ _ r707 ⟨l659, i664, ad660, cp661, rfl, hf705, rfl, rfl⟩ h703
     obtain ⟨ρ, rfl⟩ := hf705.ex
     refine CJ.front 2 rfl <| CJ.wit Row.hn fun hn663 => cr <| jv (.bool (decide (i664 < (((xa.2.2.2.2.1.length : Nat) : Int))))) (V.lss rfl rfl) <| J.nil <| CJ.seq ?_
     refine cc rfl h703 (fun hc708 h703 => ?_) fun hc708 h703 => ?_
     · refine CJ.skip <| CJ.seq <| CJ.block <| CJ.seq <| CJ.region ?_
       obtain ⟨x709, hx710, h703⟩ := ob h703
       obtain ⟨p711, p712, p713⟩ := getI_some hx710
       obtain ⟨b714, o715, e716, a717⟩ := (fxa_4).at p712
       refine jv _ (V.iad Try.underlying52 sz3 rfl e716 rfl p711 p713) <| jv (ii x709) (V.ld rfl (Ld.sc sc3 (Rd.k (a717).int (Hp.le_refl _)))) <| ja (ii x709) rfl <| J.nil <| CJ.region <| jm (.slice ad660 l659.length cp661) rfl <| jv _ (V.fad Try.underlying74 rfl nz23 rfl) ?_
       refine jv (.slice adxb_2 xb.2.2.1.length cpxb_2) (V.ld rfl (Ld.sc sc23 (Rd.cl 2 rfl rfl))) <| jm (ii x709) rfl ?_
       obtain ⟨x718, hx719, h703⟩ := ob h703
       obtain ⟨p720, p721, p722⟩ := getI_some hx719
       obtain ⟨b723, o724, e725, a726⟩ := (fxb_2).at p721
       refine jv _ (V.iad Try.underlying23 sz26 rfl e725 rfl p720 p722) ?_
       obtain ⟨ad727, cp728, c729, f730⟩ := ((a726).one).sl
       refine jv (.agg #[.slice ad727 x718.length cp728]) (V.ld rfl (Ld.aggK (cs := [.slice ad727 x718.length cp728]) Try.underlying26 sz26 rfl ⟨c729, trivial⟩ (Hp.le_refl _))) ?_
       refine J.op rfl (A.lit (K0 := K) (ty := (.one (.sl (.cons (.int .i64) (.one .bool))))) (xs := ([x718] : List (List (Int × Bool)))) Try.underlying23 inf26 rfl (by decide) rfl rfl rfl ⟨_, _, rfl, f730, rfl⟩ rfl (by decide)) ?_
       rintro _ _ _ ⟨b731, rfl, rfl, rfl⟩
       have hn732 : ([x718] : List (List (Int × Bool))) ≠ [] → ∃ g, (some ⟨b731, 0, none⟩ : Option Addr) = some ⟨g, 0, none⟩ := fun _ => ⟨b731, rfl⟩
       obtain ⟨z734, hz735, h703⟩ := ob h703
       refine J.front 1 rfl <| J.op rfl (A.appR (Kr := K) Try.underlying23 inf26 rfl rfl (by decide) (by decide) rfl rfl (Els.mono (Hp.le_refl _)) (Els.mono (Hp.le_refl _)) hz735) ?_
       rintro _ _ _ ⟨v736, rfl, rfl, rfl⟩
       refine J.wit Row.form ?_
       rintro ⟨ad737, cp738, rfl, _, _, hn739⟩
       refine ja (.slice ad737 z734.length cp738) rfl <| J.nil <| CJ.region <| jv (ii (IntKind.wrap .i64 (i664 + 1))) (V.add rfl rfl) <| jm (ii (IntKind.wrap .i64 (i664 + 1))) rfl <| J.front 2 rfl <| J.front 2 rfl ?_
       refine J.nil ?_
       obtain rfl := si h703
       exact ⟨rfl, ⟨z734, IntKind.wrap .i64 (i664 + 1), ad737, cp738, rfl, ⟨rfl, rfl, rfl, rfl, rfl, rfl, trivial⟩, rfl, rfl⟩⟩
     refine CJ.front 2 rfl <| CJ.front 2 rfl <| CJ.exit ?_
     obtain rfl := si h703
     refine ⟨nofun, fun e => ?_⟩
     subst e
     exact ⟨rfl, ⟨l659, ad660, cp661, rfl, ⟨rfl, rfl, rfl, trivial⟩, rfl, rfl⟩⟩
   rintro ρ _ _ ⟨l612, ad613, cp614, rfl, hf740, rfl, rfl⟩
   obtain ⟨ρ, rfl⟩ := hf740.ex
   refine PJ.front 2 rfl <| PJ.wit Row.hn fun hn616 => PJ.done <| CJ.seq <| CJ.mix [Cl b421 54 [ii xa.1, ii xa.2.1, ii xa.2.2.1, .slice adxa_3 xa.2.2.2.1.length cpxa_3, .slice adxa_4 xa.2.2.2.2.1.length cpxa_4, .slice adxa_5 xa.2.2.2.2.2.length cpxa_5], Cl b422 74 [ii xb.1, ii xb.2.1, .slice adxb_2 xb.2.2.1.length cpxb_2, .slice adxb_3 xb.2.2.2.1.length cpxb_3, .slice adxb_4 xb.2.2.2.2.length cpxb_4]] [([0, 1, 2, 3, 4, 5, 6, 7, 8, 9, 10, 11, 12, 13, 14], 15)] [16, 17, 18, 19] [] mixO (by decide +kernel) ⟨1, rfl, 1, rfl, trivial⟩ rfl rfl rfl <| JM.cons <| qv _ (V.fad Try.underlying74 rfl nz27 rfl) ?_
   refine qv (.slice adxb_4 xb.2.2.2.2.length cpxb_4) (V.ld rfl (Ld.sc sc27 (Rd.cl 1 rfl rfl))) <| qv _ (V.fad Try.underlying54 rfl nz3 rfl) <| qv (ii xa.2.1) (V.ld rfl (Ld.sc sc3 (Rd.cl 0 rfl rfl))) ?_
   obtain ⟨x790, hx791, h⟩ := ob h
   obtain ⟨p792, p793, p794⟩ := getI_some hx791
   obtain ⟨b795, o796, e797, a798⟩ := (fxb_4).at p793
   refine qv _ (V.iad Try.underlying27 sz62 rfl e797 rfl p792 p794) ?_
   obtain ⟨ad799, cp800, c801, f802⟩ := (((a798).snd).fst).sl
   obtain ⟨ad803, cp804, c805, f806⟩ := ((((a798).snd).snd).fst).sl
   obtain ⟨ad807, cp808, c809, f810⟩ := ((((((a798).snd).snd).snd).one).one).sl
   refine qv (.agg #[ii x790.1, .slice ad799 x790.2.1.length cp800, .slice ad803 x790.2.2.1.length cp804, .slice ad807 x790.2.2.2.length cp808]) (V.ld rfl (Ld.aggK (cs := [ii x790.1, .slice ad799 x790.2.1.length cp800, .slice ad803 x790.2.2.1.length cp804, .slice ad807 x790.2.2.2.length cp808]) Try.underlying62 sz62 rfl ⟨((a798).fst).int, c801, c805, c809, trivial⟩ (Hp.le_refl _))) <| qv _ (V.fad Try.underlying54 rfl nz52 rfl) <| qv (.slice adxa_5 xa.2.2.2.2.2.length cpxa_5) (V.ld rfl (Ld.sc sc52 (Rd.cl 0 rfl rfl))) <| qm (.slice ad613 l612.length cp614) rfl <| qv _ (V.fad Try.underlying74 rfl nz23 rfl) <| qv (.slice adxb_2 xb.2.2.1.length cpxb_2) (V.ld rfl (Ld.sc sc23 (Rd.cl 1 rfl rfl))) <| qv _ (V.fad Try.underlying54 rfl nz3 rfl) ?_
   refine qv (ii xa.2.2.1) (V.ld rfl (Ld.sc sc3 (Rd.cl 0 rfl rfl))) ?_
   obtain ⟨x811, hx812, h⟩ := ob h
   obtain ⟨p813, p814, p815⟩ := getI_some hx812
   obtain ⟨b816, o817, e818, a819⟩ := (fxb_2).at p814
   refine qv _ (V.iad Try.underlying23 sz26 rfl e818 rfl p813 p815) ?_
   obtain ⟨ad820, cp821, c822, f823⟩ := ((a819).one).sl
   refine qv (.agg #[.slice ad820 x811.length cp821]) (V.ld rfl (Ld.aggK (cs := [.slice ad820 x811.length cp821]) Try.underlying26 sz26 rfl ⟨c822, trivial⟩ (Hp.le_refl _))) <| JQ.nil <| JA.persist (Hp.le_refl _) (by decide) fun K824 hK825 f826 => ?_
   obtain ⟨r827, hr828, h⟩ := ob h
   refine JA.op rfl (A.call (L1 := []) Try.call68 rfl (sig_Call_ok (f802.mono hK825) (f806.mono hK825) (f810.mono hK825) (fxa_5.mono hK825) f826 (f823.mono hK825) hr828) rfl rfl) ?_
   rintro _ _ _ ⟨v834, _, rfl, ⟨⟨l829, i830, ad831, cp832, rfl, rfl, rfl⟩, rfl⟩, _, rfl⟩
   refine ⟨fun w hs => Hold.sub hK825 ⟨1, rfl, 1, rfl, trivial⟩ hs, ?_⟩
   refine JM.wit Row.hn fun hn833 => JM.nil <| qv (.slice ad831 l829.length cp832) (V.ext rfl rfl) <| qv (ii i830) (V.ext rfl rfl) <| qa (.slice ad831 l829.length cp832) rfl <| qa (ii i830) rfl <| JQ.nil ?_
   refine J.nil <| CJ.ret ?_
   obtain rfl := si h
   exact ⟨_, _, Res.two rfl rfl rfl, ⟨l829, i830, ad831, cp832, rfl, rfl, rfl⟩, hK825, fun w hs => (Sep.dropAt 1 rfl (Sep.dropAt 1 rfl hs))⟩
 refine CJ.skip <| cr <| ja (nos) rfl <| ja (ii 0) rfl <| J.nil <| CJ.by (fun w hs => Sep.rowNil (e := 119) (t := (.cons (.int .i64) (.cons (.int .i64) (.cons (.int .i64) (.cons (.int .i64) (.one .bool)))))) hs) ?_
 refine CJ.ret ?_
 obtain rfl := si h
 exact ⟨_, _, Res.two rfl rfl rfl, ⟨[], 0, none, 0, rfl, rfl, rfl⟩, (Hp.le_refl _), fun w hs => (Sep.dropAt 1 rfl (Sep.dropAt 1 rfl hs))⟩

noncomputable def fn_term_Check (xa : (Int × Int × Int × (List Int) × (List Int) × (List Int))) (xb : (Int × Int × (List (List (Int × Bool))) × (List (Int × Bool)) × (List (Int × (List (Int × Int)) × (List (List (Int × Bool))) × (List (Int × Bool)))))) : Option Int :=
  (fn_term_Needs (xa.1, xa.2.1, xa.2.2.1, xa.2.2.2.1, xa.2.2.2.2.1, xa.2.2.2.2.2) (xb.1, xb.2.1, xb.2.2.1, xb.2.2.2.1, xb.2.2.2.2)).bind fun (l19, i20) => some (i20)
set_option maxRecDepth 100000 in
set_option maxHeartbeats 4000000 in
theorem term_Check_ok {K : Hp} {xa : (Int × Int × Int × (List Int) × (List Int) × (List Int))} {xb : (Int × Int × (List (List (Int × Bool))) × (List (Int × Bool)) × (List (Int × (List (Int × Int)) × (List (List (Int × Bool))) × (List (Int × Bool)))))} {adxa_3 : Option Addr} {cpxa_3 : Nat} {adxa_4 : Option Addr} {cpxa_4 : Nat} {adxa_5 : Option Addr} {cpxa_5 : Nat} {adxb_2 : Option Addr} {cpxb_2 : Nat} {adxb_3 : Option Addr} {cpxb_3 : Nat} {adxb_4 : Option Addr} {cpxb_4 : Nat} (fxa_3 : Is K (.sl (.int .i64)) [.slice adxa_3 xa.2.2.2.1.length cpxa_3] xa.2.2.2.1) (fxa_4 : Is K (.sl (.int .i64)) [.slice adxa_4 xa.2.2.2.2.1.length cpxa_4] xa.2.2.2.2.1) (fxa_5 : Is K (.sl (.int .i64)) [.slice adxa_5 xa.2.2.2.2.2.length cpxa_5] xa.2.2.2.2.2) (fxb_2 : Is K (.sl (.one (.sl (.cons (.int .i64) (.one .bool))))) [.slice adxb_2 xb.2.2.1.length cpxb_2] xb.2.2.1) (fxb_3 : Is K (.sl (.cons (.int .i64) (.one .bool))) [.slice adxb_3 xb.2.2.2.1.length cpxb_3] xb.2.2.2.1) (fxb_4 : Is K (.sl (.cons (.int .i64) (.cons (.sl (.cons (.int .i64) (.one (.int .i64)))) (.cons (.sl (.one (.sl (.cons (.int .i64) (.one .bool))))) (.one (.one (.sl (.cons (.int .i64) (.one .bool))))))))) [.slice adxb_4 xb.2.2.2.2.length cpxb_4] xb.2.2.2.2) {r : Int} (h : fn_term_Check xa xb = some r) :
    Tr Try.prog 37 #[.agg #[ii xa.1, ii xa.2.1, ii xa.2.2.1, .slice adxa_3 xa.2.2.2.1.length cpxa_3, .slice adxa_4 xa.2.2.2.2.1.length cpxa_4, .slice adxa_5 xa.2.2.2.2.2.length cpxa_5], .agg #[ii xb.1, ii xb.2.1, .slice adxb_2 xb.2.2.1.length cpxb_2, .slice adxb_3 xb.2.2.2.1.length cpxb_3, .slice adxb_4 xb.2.2.2.2.length cpxb_4]] K [] (fun v K' L' => (∃ (i14 : Int), i14 = r ∧ ii i14 = v ∧ L' = []) ∧ K = K') := by
 refine Tr.k <| Tr.of Try.func37 rfl Try.ntmps37 rfl fun E F => ?_
 unfold fn_term_Check at h
 refine cr <| jbx [ii xa.1, ii xa.2.1, ii xa.2.2.1, .slice adxa_3 xa.2.2.2.1.length cpxa_3, .slice adxa_4 xa.2.2.2.2.1.length cpxa_4, .slice adxa_5 xa.2.2.2.2.2.length cpxa_5] rfl rfl fun b15 => jbx [ii xb.1, ii xb.2.1, .slice adxb_2 xb.2.2.1.length cpxb_2, .slice adxb_3 xb.2.2.2.1.length cpxb_3, .slice adxb_4 xb.2.2.2.2.length cpxb_4] rfl rfl fun b16 => ja (ii 0) rfl <| J.nil <| CJ.seq ?_
 refine CJ.region <| jv (.agg #[ii xa.1, ii xa.2.1, ii xa.2.2.1, .slice adxa_3 xa.2.2.2.1.length cpxa_3, .slice adxa_4 xa.2.2.2.2.1.length cpxa_4, .slice adxa_5 xa.2.2.2.2.2.length cpxa_5]) (V.ld rfl (Ld.agg (cs := [ii xa.1, ii xa.2.1, ii xa.2.2.1, .slice adxa_3 xa.2.2.2.1.length cpxa_3, .slice adxa_4 xa.2.2.2.2.1.length cpxa_4, .slice adxa_5 xa.2.2.2.2.2.length cpxa_5]) Try.underlying54 sz54 rfl (Rd.cls 1 0 rfl rfl))) <| jv (.agg #[ii xb.1, ii xb.2.1, .slice adxb_2 xb.2.2.1.length cpxb_2, .slice adxb_3 xb.2.2.2.1.length cpxb_3, .slice adxb_4 xb.2.2.2.2.length cpxb_4]) (V.ld rfl (Ld.agg (cs := [ii xb.1, ii xb.2.1, .slice adxb_2 xb.2.2.1.length cpxb_2, .slice adxb_3 xb.2.2.2.1.length cpxb_3, .slice adxb_4 xb.2.2.2.2.length cpxb_4]) Try.underlying74 sz74 rfl (Rd.cls 0 0 rfl rfl))) ?_
 obtain ⟨r17, hr18, h⟩ := ob h
 refine J.op rfl (A.call (L1 := []) Try.call48 rfl (term_Needs_ok fxa_3 fxa_4 fxa_5 fxb_2 fxb_3 fxb_4 hr18) rfl rfl) ?_
 rintro _ _ _ ⟨v24, _, rfl, ⟨⟨l19, i20, ad21, cp22, rfl, rfl, rfl⟩, rfl⟩, _, rfl⟩
 refine J.wit Row.hn fun hn23 => jm (.tuple #[.slice ad21 l19.length cp22, ii i20]) rfl <| jx (.slice ad21 l19.length cp22) rfl rfl <| jx (ii i20) rfl rfl <| ja (.slice ad21 l19.length cp22) rfl <| ja (ii i20) rfl <| J.nil ?_
 refine cr <| jm (ii i20) rfl <| ja (ii i20) rfl <| J.nil <| CJ.ret ?_
 obtain rfl := si h
 exact ⟨_, _, Res.one rfl rfl, ⟨i20, rfl, rfl, rfl⟩, (Hp.le_refl _), fun w hs => (Sep.dropAt 0 rfl (Sep.dropAt 0 rfl (Sep.dropAt 0 rfl hs)))⟩
noncomputable def fn_valid_code_az_l1 (xa : (Int × Int × (List (Int × Int)) × (List (List (Int × Bool))) × (List (Int × Bool)) × (List (Int × (List (Int × Int)) × (List (List (Int × Bool))) × (List (Int × Bool)))) × (List ((List (Int × Int × Int × Int × Bool)) × (Int × Int × Int × (List Int) × (List Int) × (List Int)))))) (i2000 : Int) (x2203 : ((List (Int × Int × Int × Int × Bool)) × (Int × Int × Int × (List Int) × (List Int) × (List Int)))) : Int → Option (Int ⊕ (Unit ⊕ (Int ⊕ (Unit ⊕ (Int × Int × Int × Int))))) := fun (i2331 : Int) => cond (decide (i2331 < (((x2203.1.length : Nat) : Int)))) ((getI x2203.1 i2331).bind fun x2361 => (fn_tick_Counter_Add_zii 1 1).bind fun _ => (fn_stmt_Check (x2361.1, x2361.2.1, x2361.2.2.1, x2361.2.2.2.1, x2361.2.2.2.2) xa.2.2.2.1 xa.2.1).bind fun i2378 => cond (!decide (i2378 = 0)) (some (.inr ((.inr (.inr ((.inr ((i2378, 6, i2000, i2331))))))))) (some (.inl (IntKind.wrap .i64 (i2331 + 1))))) (some (.inr ((.inl ()))))
noncomputable def fn_valid_code_az_l2 (xa : (Int × Int × (List (Int × Int)) × (List (List (Int × Bool))) × (List (Int × Bool)) × (List (Int × (List (Int × Int)) × (List (List (Int × Bool))) × (List (Int × Bool)))) × (List ((List (Int × Int × Int × Int × Bool)) × (Int × Int × Int × (List Int) × (List Int) × (List Int)))))) : Int → Option (Int ⊕ (Unit ⊕ (Int × Int × Int × Int))) := fun (i2000 : Int) => cond (decide (i2000 < (((xa.2.2.2.2.2.2.length : Nat) : Int)))) ((getI xa.2.2.2.2.2.2 i2000).bind fun x2203 => (loop (fn_valid_code_az_l1 xa i2000 x2203) 0 : Option (Unit ⊕ (Int ⊕ (Unit ⊕ (Int × Int × Int × Int))))).bind fun o => match o with | .inr r => some r | .inl () => (fn_tick_Counter_Add_zii 1 1).bind fun _ => (fn_term_Check (x2203.2.1, x2203.2.2.1, x2203.2.2.2.1, x2203.2.2.2.2.1, x2203.2.2.2.2.2.1, x2203.2.2.2.2.2.2) ((((xa.2.2.2.2.2.2.length : Nat) : Int), xa.2.1, xa.2.2.2.1, xa.2.2.2.2.1, xa.2.2.2.2.2.1))).bind fun i2393 => cond (!decide (i2393 = 0)) (some (.inr ((.inr ((i2393, 7, i2000, 0)))))) (some (.inl (IntKind.wrap .i64 (i2000 + 1))))) (some (.inr ((.inl ()))))
noncomputable def fn_valid_code_az (xa : (Int × Int × (List (Int × Int)) × (List (List (Int × Bool))) × (List (Int × Bool)) × (List (Int × (List (Int × Int)) × (List (List (Int × Bool))) × (List (Int × Bool)))) × (List ((List (Int × Int × Int × Int × Bool)) × (Int × Int × Int × (List Int) × (List Int) × (List Int)))))) : Option (Int × Int × Int × Int) :=
  (loop (fn_valid_code_az_l2 xa) 0 : Option (Unit ⊕ (Int × Int × Int × Int))).bind fun o => match o with | .inr r => some r | .inl () => some ((0, 0, 0, 0))
set_option maxRecDepth 100000 in
set_option maxHeartbeats 4000000 in
theorem valid_code_az_ok {K : Hp} {xa : (Int × Int × (List (Int × Int)) × (List (List (Int × Bool))) × (List (Int × Bool)) × (List (Int × (List (Int × Int)) × (List (List (Int × Bool))) × (List (Int × Bool)))) × (List ((List (Int × Int × Int × Int × Bool)) × (Int × Int × Int × (List Int) × (List Int) × (List Int)))))} {adxa_2 : Option Addr} {cpxa_2 : Nat} {adxa_3 : Option Addr} {cpxa_3 : Nat} {adxa_4 : Option Addr} {cpxa_4 : Nat} {adxa_5 : Option Addr} {cpxa_5 : Nat} {adxa_6 : Option Addr} {cpxa_6 : Nat} (fxa_2 : Is K (.sl (.cons (.int .i64) (.one (.int .i64)))) [.slice adxa_2 xa.2.2.1.length cpxa_2] xa.2.2.1) (fxa_3 : Is K (.sl (.one (.sl (.cons (.int .i64) (.one .bool))))) [.slice adxa_3 xa.2.2.2.1.length cpxa_3] xa.2.2.2.1) (fxa_4 : Is K (.sl (.cons (.int .i64) (.one .bool))) [.slice adxa_4 xa.2.2.2.2.1.length cpxa_4] xa.2.2.2.2.1) (fxa_5 : Is K (.sl (.cons (.int .i64) (.cons (.sl (.cons (.int .i64) (.one (.int .i64)))) (.cons (.sl (.one (.sl (.cons (.int .i64) (.one .bool))))) (.one (.one (.sl (.cons (.int .i64) (.one .bool))))))))) [.slice adxa_5 xa.2.2.2.2.2.1.length cpxa_5] xa.2.2.2.2.2.1) (fxa_6 : Is K (.sl (.cons (.sl (.cons (.int .i64) (.cons (.int .i64) (.cons (.int .i64) (.cons (.int .i64) (.one .bool)))))) (.one (.cons (.int .i64) (.cons (.int .i64) (.cons (.int .i64) (.cons (.sl (.int .i64)) (.cons (.sl (.int .i64)) (.one (.sl (.int .i64))))))))))) [.slice adxa_6 xa.2.2.2.2.2.2.length cpxa_6] xa.2.2.2.2.2.2) {r : (Int × Int × Int × Int)} (h : fn_valid_code_az xa = some r) :
    Tr Try.prog 26 #[.agg #[ii xa.1, ii xa.2.1, .slice adxa_2 xa.2.2.1.length cpxa_2, .slice adxa_3 xa.2.2.2.1.length cpxa_3, .slice adxa_4 xa.2.2.2.2.1.length cpxa_4, .slice adxa_5 xa.2.2.2.2.2.1.length cpxa_5, .slice adxa_6 xa.2.2.2.2.2.2.length cpxa_6], .pointer none] K [] (fun v K' L' => (∃ (i1199 : Int) (i1200 : Int) (i1201 : Int) (i1202 : Int), (i1199, i1200, i1201, i1202) = r ∧ .agg #[ii i1199, ii i1200, ii i1201, ii i1202] = v ∧ L' = []) ∧ K = K') := by
 refine Tr.k <| Tr.of Try.func26 rfl Try.ntmps26 rfl fun E F => ?_
 unfold fn_valid_code_az at h
 refine cr <| jbx [ii xa.1, ii xa.2.1, .slice adxa_2 xa.2.2.1.length cpxa_2, .slice adxa_3 xa.2.2.2.1.length cpxa_3, .slice adxa_4 xa.2.2.2.2.1.length cpxa_4, .slice adxa_5 xa.2.2.2.2.2.1.length cpxa_5, .slice adxa_6 xa.2.2.2.2.2.2.length cpxa_6] rfl rfl fun b1203 => jal inf39 [ii 0, ii 0, ii 0, ii 0] rfl fun b1204 => J.nil <| CJ.seq <| CJ.region ?_
 refine jv _ (V.fad Try.underlying30 rfl nz28 rfl) <| jv (.slice adxa_6 xa.2.2.2.2.2.2.length cpxa_6) (V.ld rfl (Ld.sc sc28 (Rd.cl 1 rfl rfl))) <| jv (ii (((xa.2.2.2.2.2.2.length : Nat) : Int))) (V.len Try.underlying28 rfl) <| jv _ (V.fad Try.underlying30 rfl nz3 rfl) <| jv (ii xa.2.1) (V.ld rfl (Ld.sc sc3 (Rd.cl 1 rfl rfl))) <| jv _ (V.fad Try.underlying30 rfl nz23 rfl) <| jv (.slice adxa_3 xa.2.2.2.1.length cpxa_3) (V.ld rfl (Ld.sc sc23 (Rd.cl 1 rfl rfl))) ?_
 refine jv _ (V.fad Try.underlying30 rfl nz26 rfl) <| jv (.agg #[.slice adxa_4 xa.2.2.2.2.1.length cpxa_4]) (V.ld rfl (Ld.agg (cs := [.slice adxa_4 xa.2.2.2.2.1.length cpxa_4]) Try.underlying26 sz26 rfl (Rd.cls 1 4 rfl rfl))) <| jv _ (V.fad Try.underlying30 rfl nz27 rfl) <| jv (.slice adxa_5 xa.2.2.2.2.2.1.length cpxa_5) (V.ld rfl (Ld.sc sc27 (Rd.cl 1 rfl rfl))) <| jv (.agg #[ii (((xa.2.2.2.2.2.2.length : Nat) : Int)), ii xa.2.1, .slice adxa_3 xa.2.2.2.1.length cpxa_3, .slice adxa_4 xa.2.2.2.2.1.length cpxa_4, .slice adxa_5 xa.2.2.2.2.2.1.length cpxa_5]) (V.build inf74 places74 rfl rfl) <| jal inf74 [ii 0, ii 0, nos, nos, nos] rfl fun b1205 => js [ii (((xa.2.2.2.2.2.2.length : Nat) : Int)), ii xa.2.1, .slice adxa_3 xa.2.2.2.1.length cpxa_3, .slice adxa_4 xa.2.2.2.2.1.length cpxa_4, .slice adxa_5 xa.2.2.2.2.2.1.length cpxa_5] sz74 rfl rfl rfl rfl rfl rfl ?_
 refine J.nil <| CJ.seq <| cr <| jv _ (V.fad Try.underlying30 rfl nz28 rfl) <| jv (.slice adxa_6 xa.2.2.2.2.2.2.length cpxa_6) (V.ld rfl (Ld.sc sc28 (Rd.cl 2 rfl rfl))) <| jv (ii (((xa.2.2.2.2.2.2.length : Nat) : Int))) (V.len Try.underlying28 rfl) ?_
 refine jm (ii 0) rfl <| J.nil ?_
 obtain ⟨o1801, ho1802, h⟩ := ob h
 refine CJ.joinN (o := o1801) (fun s ρ K' L' => () = s ∧ Fits [(4, .pointer (some ⟨b1204, 0, none⟩))] ρ ∧ K = K' ∧ L' = Cl b1204 39 [ii 0, ii 0, ii 0, ii 0] :: F) ?_ ?_
 · refine CJ.block <| CJ.front 1 rfl <| CJ.front 2 rfl <| CJ.loop (fun s ρ K' L' => ∃ (i2000 : Int), i2000 = s ∧ Fits [(1, .pointer none), (2, .pointer (some ⟨b1203, 0, none⟩)), (4, .pointer (some ⟨b1204, 0, none⟩)), (5, .pointer (some ⟨b1205, 0, none⟩)), (25, .slice adxa_6 xa.2.2.2.2.2.2.length cpxa_6), (26, ii (((xa.2.2.2.2.2.2.length : Nat) : Int))), (27, ii i2000)] ρ ∧ K = K' ∧ L' = Cl b1203 30 [ii xa.1, ii xa.2.1, .slice adxa_2 xa.2.2.1.length cpxa_2, .slice adxa_3 xa.2.2.2.1.length cpxa_3, .slice adxa_4 xa.2.2.2.2.1.length cpxa_4, .slice adxa_5 xa.2.2.2.2.2.1.length cpxa_5, .slice adxa_6 xa.2.2.2.2.2.2.length cpxa_6] :: Cl b1204 39 [ii 0, ii 0, ii 0, ii 0] :: Cl b1205 74 [ii (((xa.2.2.2.2.2.2.length : Nat) : Int)), ii xa.2.1, .slice adxa_3 xa.2.2.2.1.length cpxa_3, .slice adxa_4 xa.2.2.2.2.1.length cpxa_4, .slice adxa_5 xa.2.2.2.2.2.1.length cpxa_5] :: F) ho1802 ⟨0, rfl, ⟨rfl, rfl, rfl, rfl, rfl, rfl, rfl, trivial⟩, rfl, rfl⟩ ?_
   rintro s ρ _ _ r2201 ⟨i2000, rfl, hf2199, rfl, rfl⟩ h2198
   obtain ⟨ρ, rfl⟩ := hf2199.ex
   refine cr <| jv (.bool (decide (i2000 < (((xa.2.2.2.2.2.2.length : Nat) : Int))))) (V.lss rfl rfl) <| J.nil <| CJ.seq <| cc rfl h2198 (fun hc2202 h2198 => ?_) fun hc2202 h2198 => ?_
   · refine CJ.skip <| CJ.seq <| CJ.block <| cr <| jm (ii i2000) rfl ?_
     obtain ⟨x2203, hx2204, h2198⟩ := ob h2198
     obtain ⟨p2205, p2206, p2207⟩ := getI_some hx2204
     obtain ⟨b2208, o2209, e2210, a2211⟩ := (fxa_6).at p2206
     refine jv _ (V.iad Try.underlying28 sz56 rfl e2210 rfl p2205 p2207) ?_
     obtain ⟨ad2212, cp2213, c2214, f2215⟩ := ((a2211).fst).sl
     obtain ⟨ad2216, cp2217, c2218, f2219⟩ := (((((((a2211).snd).one).snd).snd).snd).fst).sl
     obtain ⟨ad2220, cp2221, c2222, f2223⟩ := ((((((((a2211).snd).one).snd).snd).snd).snd).fst).sl
     obtain ⟨ad2224, cp2225, c2226, f2227⟩ := (((((((((a2211).snd).one).snd).snd).snd).snd).snd).one).sl
     refine jv (.agg #[.slice ad2212 x2203.1.length cp2213, ii x2203.2.1, ii x2203.2.2.1, ii x2203.2.2.2.1, .slice ad2216 x2203.2.2.2.2.1.length cp2217, .slice ad2220 x2203.2.2.2.2.2.1.length cp2221, .slice ad2224 x2203.2.2.2.2.2.2.length cp2225]) (V.ld rfl (Ld.aggK (cs := [.slice ad2212 x2203.1.length cp2213, ii x2203.2.1, ii x2203.2.2.1, ii x2203.2.2.2.1, .slice ad2216 x2203.2.2.2.2.1.length cp2217, .slice ad2220 x2203.2.2.2.2.2.1.length cp2221, .slice ad2224 x2203.2.2.2.2.2.2.length cp2225]) Try.underlying56 sz56 rfl ⟨c2214, ((((a2211).snd).one).fst).int, (((((a2211).snd).one).snd).fst).int, ((((((a2211).snd).one).snd).snd).fst).int, c2218, c2222, c2226, trivial⟩ (Hp.le_refl _))) <| jal inf56 [nos, ii 0, ii 0, ii 0, nos, nos, nos] rfl fun b2228 => ja (ii i2000) rfl <| js [.slice ad2212 x2203.1.length cp2213, ii x2203.2.1, ii x2203.2.2.1, ii x2203.2.2.2.1, .slice ad2216 x2203.2.2.2.2.1.length cp2217, .slice ad2220 x2203.2.2.2.2.2.1.length cp2221, .slice ad2224 x2203.2.2.2.2.2.2.length cp2225] sz56 rfl rfl rfl rfl rfl rfl <| J.nil <| CJ.seq <| CJ.seq ?_
     refine CJ.region <| jv _ (V.fad Try.underlying56 rfl nz51 rfl) <| jv (.slice ad2212 x2203.1.length cp2213) (V.ld rfl (Ld.sc sc51 (Rd.cl 0 rfl rfl))) <| jv (ii (((x2203.1.length : Nat) : Int))) (V.len Try.underlying51 rfl) <| jm (ii 0) rfl <| J.nil ?_
     obtain ⟨o2305, ho2306, h2198⟩ := ob h2198
     refine CJ.joinN (o := o2305) (fun s ρ K' L' => () = s ∧ Fits [(1, .pointer none), (2, .pointer (some ⟨b1203, 0, none⟩)), (4, .pointer (some ⟨b1204, 0, none⟩)), (5, .pointer (some ⟨b1205, 0, none⟩)), (6, ii i2000), (7, .pointer (some ⟨b2228, 0, none⟩)), (25, .slice adxa_6 xa.2.2.2.2.2.2.length cpxa_6), (26, ii (((xa.2.2.2.2.2.2.length : Nat) : Int))), (27, ii i2000)] ρ ∧ K = K' ∧ L' = Cl b1203 30 [ii xa.1, ii xa.2.1, .slice adxa_2 xa.2.2.1.length cpxa_2, .slice adxa_3 xa.2.2.2.1.length cpxa_3, .slice adxa_4 xa.2.2.2.2.1.length cpxa_4, .slice adxa_5 xa.2.2.2.2.2.1.length cpxa_5, .slice adxa_6 xa.2.2.2.2.2.2.length cpxa_6] :: Cl b1204 39 [ii 0, ii 0, ii 0, ii 0] :: Cl b1205 74 [ii (((xa.2.2.2.2.2.2.length : Nat) : Int)), ii xa.2.1, .slice adxa_3 xa.2.2.2.1.length cpxa_3, .slice adxa_4 xa.2.2.2.2.1.length cpxa_4, .slice adxa_5 xa.2.2.2.2.2.1.length cpxa_5] :: Cl b2228 56 [.slice ad2212 x2203.1.length cp2213, ii x2203.2.1, ii x2203.2.2.1, ii x2203.2.2.2.1, .slice ad2216 x2203.2.2.2.2.1.length cp2217, .slice ad2220 x2203.2.2.2.2.2.1.length cp2221, .slice ad2224 x2203.2.2.2.2.2.2.length cp2225] :: F) ?_ ?_
     · refine CJ.block <| CJ.front 3 rfl <| CJ.front 3 rfl <| CJ.front 3 rfl <| CJ.loop (fun s ρ K' L' => ∃ (i2331 : Int), i2331 = s ∧ Fits [(1, .pointer none), (2, .pointer (some ⟨b1203, 0, none⟩)), (4, .pointer (some ⟨b1204, 0, none⟩)), (5, .pointer (some ⟨b1205, 0, none⟩)), (6, ii i2000), (7, .pointer (some ⟨b2228, 0, none⟩)), (25, .slice adxa_6 xa.2.2.2.2.2.2.length cpxa_6), (26, ii (((xa.2.2.2.2.2.2.length : Nat) : Int))), (27, ii i2000), (33, .slice ad2212 x2203.1.length cp2213), (34, ii (((x2203.1.length : Nat) : Int))), (35, ii i2331)] ρ ∧ K = K' ∧ L' = Cl b1203 30 [ii xa.1, ii xa.2.1, .slice adxa_2 xa.2.2.1.length cpxa_2, .slice adxa_3 xa.2.2.2.1.length cpxa_3, .slice adxa_4 xa.2.2.2.2.1.length cpxa_4, .slice adxa_5 xa.2.2.2.2.2.1.length cpxa_5, .slice adxa_6 xa.2.2.2.2.2.2.length cpxa_6] :: Cl b1204 39 [ii 0, ii 0, ii 0, ii 0] :: Cl b1205 74 [ii (((xa.2.2.2.2.2.2.length : Nat) : Int)), ii xa.2.1, .slice adxa_3 xa.2.2.2.1.length cpxa_3, .slice adxa_4 xa.2.2.2.2.1.length cpxa_4, .slice adxa_5 xa.2.2.2.2.2.1.length cpxa_5] :: Cl b2228 56 [.slice ad2212 x2203.1.length cp2213, ii x2203.2.1, ii x2203.2.2.1, ii x2203.2.2.2.1, .slice ad2216 x2203.2.2.2.2.1.length cp2217, .slice ad2220 x2203.2.2.2.2.2.1.length cp2221, .slice ad2224 x2203.2.2.2.2.2.2.length cp2225] :: F) ho2306 ⟨0, rfl, ⟨rfl, rfl, rfl, rfl, rfl, rfl, rfl, rfl, rfl, rfl, rfl, rfl, trivial⟩, rfl, rfl⟩ ?_
       rintro s ρ _ _ r2359 ⟨i2331, rfl, hf2357, rfl, rfl⟩ h2356
       obtain ⟨ρ, rfl⟩ := hf2357.ex
       refine cr <| jv (.bool (decide (i2331 < (((x2203.1.length : Nat) : Int))))) (V.lss rfl rfl) <| J.nil <| CJ.seq <| cc rfl h2356 (fun hc2360 h2356 => ?_) fun hc2360 h2356 => ?_
       · refine CJ.skip <| CJ.seq <| CJ.block <| cr <| jm (ii i2331) rfl ?_
         obtain ⟨x2361, hx2362, h2356⟩ := ob h2356
         obtain ⟨p2363, p2364, p2365⟩ := getI_some hx2362
         obtain ⟨b2366, o2367, e2368, a2369⟩ := (f2215).at p2364
         refine jv _ (V.iad Try.underlying51 sz76 rfl e2368 rfl p2363 p2365) <| jv (.agg #[ii x2361.1, ii x2361.2.1, ii x2361.2.2.1, ii x2361.2.2.2.1, .bool x2361.2.2.2.2]) (V.ld rfl (Ld.aggK (cs := [ii x2361.1, ii x2361.2.1, ii x2361.2.2.1, ii x2361.2.2.2.1, .bool x2361.2.2.2.2]) Try.underlying76 sz76 rfl ⟨((a2369).fst).int, (((a2369).snd).fst).int, ((((a2369).snd).snd).fst).int, (((((a2369).snd).snd).snd).fst).int, ((((((a2369).snd).snd).snd).snd).one).bool, trivial⟩ (Hp.le_refl _))) <| jal inf76 [ii 0, ii 0, ii 0, ii 0, .bool false] rfl fun b2370 => ja (ii i2331) rfl <| js [ii x2361.1, ii x2361.2.1, ii x2361.2.2.1, ii x2361.2.2.2.1, .bool x2361.2.2.2.2] sz76 rfl rfl rfl rfl rfl rfl <| J.nil <| CJ.seq ?_
         refine CJ.region <| jm (.pointer none) rfl ?_
         obtain ⟨r2371, hr2372, h2356⟩ := ob h2356
         refine J.op rfl (A.call (L1 := []) Try.call19 rfl (tick_Counter_Add_zii_ok hr2372) rfl rfl) ?_
         rintro _ _ _ ⟨v2373, _, rfl, ⟨⟨rfl, rfl, rfl⟩, rfl⟩, _, rfl⟩
         refine J.nil <| cr <| jv (.agg #[ii x2361.1, ii x2361.2.1, ii x2361.2.2.1, ii x2361.2.2.2.1, .bool x2361.2.2.2.2]) (V.ld rfl (Ld.agg (cs := [ii x2361.1, ii x2361.2.1, ii x2361.2.2.1, ii x2361.2.2.2.1, .bool x2361.2.2.2.2]) Try.underlying76 sz76 rfl (Rd.cls 0 0 rfl rfl))) <| jv _ (V.fad Try.underlying30 rfl nz23 rfl) <| jv (.slice adxa_3 xa.2.2.2.1.length cpxa_3) (V.ld rfl (Ld.sc sc23 (Rd.cl 1 rfl rfl))) <| jv _ (V.fad Try.underlying30 rfl nz3 rfl) ?_
         refine jv (ii xa.2.1) (V.ld rfl (Ld.sc sc3 (Rd.cl 1 rfl rfl))) ?_
         obtain ⟨r2376, hr2377, h2356⟩ := ob h2356
         refine J.op rfl (A.call (L1 := []) Try.call36 rfl (stmt_Check_ok fxa_3 hr2377) rfl rfl) ?_
         rintro _ _ _ ⟨v2379, _, rfl, ⟨⟨i2378, rfl, rfl, rfl⟩, rfl⟩, _, rfl⟩
         refine ja (ii i2378) rfl <| J.nil <| cr <| jm (ii i2378) rfl <| jv (.bool (!decide (i2378 = 0))) (V.neq rfl rfl) <| J.nil ?_
         refine cc rfl h2356 (fun hc2382 h2356 => ?_) fun hc2382 h2356 => ?_
         · refine cr <| jm (ii i2378) rfl <| jm (ii i2000) rfl <| jm (ii i2331) rfl <| jv (.agg #[ii i2378, ii 6, ii i2000, ii i2331]) (V.build inf39 places39 rfl rfl) <| J.front 2 rfl ?_
           refine js [ii i2378, ii 6, ii i2000, ii i2331] sz39 rfl rfl rfl rfl rfl rfl <| J.nil <| CJ.ret ?_
           obtain rfl := si h2356
           refine ⟨nofun, fun e => ?_⟩
           subst e
           refine .inr ⟨nofun, ?_⟩
           obtain rfl := si h2198
           refine ⟨nofun, fun e => ?_⟩
           subst e
           refine .inr ⟨nofun, ?_⟩
           obtain rfl := si h
           exact ⟨_, _, Res.one rfl ⟨_, _, rfl, Ld.agg (cs := [ii i2378, ii 6, ii i2000, ii i2331]) Try.underlying39 sz39 rfl (Rd.cls 0 0 rfl rfl)⟩, ⟨i2378, 6, i2000, i2331, rfl, rfl, rfl⟩, (Hp.le_refl _), fun w hs => (Sep.dropAt 0 rfl (Sep.dropAt 0 rfl (Sep.dropAt 0 rfl (Sep.dropAt 0 rfl (Sep.dropAt 0 rfl hs)))))⟩
         refine CJ.skip <| CJ.region <| jv (ii (IntKind.wrap .i64 (i2331 + 1))) (V.add rfl rfl) <| jm (ii (IntKind.wrap .i64 (i2331 + 1))) rfl <| J.dropAt 0 rfl <| J.nil ?_
         obtain rfl := si h2356
         exact ⟨rfl, ⟨IntKind.wrap .i64 (i2331 + 1), rfl, ⟨rfl, rfl, rfl, rfl, rfl, rfl, rfl, rfl, rfl, rfl, rfl, rfl, trivial⟩, rfl, rfl⟩⟩
       refine CJ.exit ?_
       obtain rfl := si h2356
       refine ⟨nofun, fun e => ?_⟩
       subst e
       exact .inl ⟨rfl, _, rfl, ⟨rfl, ⟨rfl, rfl, rfl, rfl, rfl, rfl, rfl, rfl, rfl, trivial⟩, rfl, rfl⟩⟩
     rintro s ρ _ _ ho2383 ⟨rfl, hf2384, rfl, rfl⟩
     subst ho2383
     obtain ⟨ρ, rfl⟩ := hf2384.ex
     refine PJ.done <| cr <| jm (.pointer none) rfl ?_
     obtain ⟨r2386, hr2387, h2198⟩ := ob h2198
     refine J.op rfl (A.call (L1 := []) Try.call19 rfl (tick_Counter_Add_zii_ok hr2387) rfl rfl) ?_
     rintro _ _ _ ⟨v2388, _, rfl, ⟨⟨rfl, rfl, rfl⟩, rfl⟩, _, rfl⟩
     refine J.nil <| cr <| jv _ (V.fad Try.underlying56 rfl nz54 rfl) <| jv (.agg #[ii x2203.2.1, ii x2203.2.2.1, ii x2203.2.2.2.1, .slice ad2216 x2203.2.2.2.2.1.length cp2217, .slice ad2220 x2203.2.2.2.2.2.1.length cp2221, .slice ad2224 x2203.2.2.2.2.2.2.length cp2225]) (V.ld rfl (Ld.agg (cs := [ii x2203.2.1, ii x2203.2.2.1, ii x2203.2.2.2.1, .slice ad2216 x2203.2.2.2.2.1.length cp2217, .slice ad2220 x2203.2.2.2.2.2.1.length cp2221, .slice ad2224 x2203.2.2.2.2.2.2.length cp2225]) Try.underlying54 sz54 rfl (Rd.cls 3 1 rfl rfl))) <| jv (.agg #[ii (((xa.2.2.2.2.2.2.length : Nat) : Int)), ii xa.2.1, .slice adxa_3 xa.2.2.2.1.length cpxa_3, .slice adxa_4 xa.2.2.2.2.1.length cpxa_4, .slice adxa_5 xa.2.2.2.2.2.1.length cpxa_5]) (V.ld rfl (Ld.agg (cs := [ii (((xa.2.2.2.2.2.2.length : Nat) : Int)), ii xa.2.1, .slice adxa_3 xa.2.2.2.1.length cpxa_3, .slice adxa_4 xa.2.2.2.2.1.length cpxa_4, .slice adxa_5 xa.2.2.2.2.2.1.length cpxa_5]) Try.underlying74 sz74 rfl (Rd.cls 2 0 rfl rfl))) ?_
     obtain ⟨r2391, hr2392, h2198⟩ := ob h2198
     refine J.op rfl (A.call (L1 := []) Try.call37 rfl (term_Check_ok f2219 f2223 f2227 fxa_3 fxa_4 fxa_5 hr2392) rfl rfl) ?_
     rintro _ _ _ ⟨v2394, _, rfl, ⟨⟨i2393, rfl, rfl, rfl⟩, rfl⟩, _, rfl⟩
     refine ja (ii i2393) rfl <| J.nil <| cr <| jm (ii i2393) rfl <| jv (.bool (!decide (i2393 = 0))) (V.neq rfl rfl) <| J.nil ?_
     refine cc rfl h2198 (fun hc2397 h2198 => ?_) fun hc2397 h2198 => ?_
     · refine cr <| jm (ii i2393) rfl <| jm (ii i2000) rfl <| jv (.agg #[ii i2393, ii 7, ii i2000, ii 0]) (V.build inf39 places39 rfl rfl) <| J.front 1 rfl <| js [ii i2393, ii 7, ii i2000, ii 0] sz39 rfl rfl rfl rfl rfl rfl ?_
       refine J.nil <| CJ.ret ?_
       obtain rfl := si h2198
       refine ⟨nofun, fun e => ?_⟩
       subst e
       refine .inr ⟨nofun, ?_⟩
       obtain rfl := si h
       exact ⟨_, _, Res.one rfl ⟨_, _, rfl, Ld.agg (cs := [ii i2393, ii 7, ii i2000, ii 0]) Try.underlying39 sz39 rfl (Rd.cls 0 0 rfl rfl)⟩, ⟨i2393, 7, i2000, 0, rfl, rfl, rfl⟩, (Hp.le_refl _), fun w hs => (Sep.dropAt 0 rfl (Sep.dropAt 0 rfl (Sep.dropAt 0 rfl (Sep.dropAt 0 rfl hs))))⟩
     refine CJ.skip <| CJ.region <| jv (ii (IntKind.wrap .i64 (i2000 + 1))) (V.add rfl rfl) <| jm (ii (IntKind.wrap .i64 (i2000 + 1))) rfl <| J.dropAt 3 rfl <| J.nil ?_
     obtain rfl := si h2198
     exact ⟨rfl, ⟨IntKind.wrap .i64 (i2000 + 1), rfl, ⟨rfl, rfl, rfl, rfl, rfl, rfl, rfl, trivial⟩, rfl, rfl⟩⟩
   refine CJ.dropAt 0 rfl <| CJ.dropAt 1 rfl <| CJ.exit ?_
   obtain rfl := si h2198
   refine ⟨nofun, fun e => ?_⟩
   subst e
   exact .inl ⟨rfl, _, rfl, ⟨rfl, ⟨rfl, trivial⟩, rfl, rfl⟩⟩
 rintro s ρ _ _ ho2398 ⟨rfl, hf2399, rfl, rfl⟩
 subst ho2398
 obtain ⟨ρ, rfl⟩ := hf2399.ex
 refine PJ.done <| cr <| jv (.agg #[ii 0, ii 0, ii 0, ii 0]) (V.build inf39 places39 rfl rfl) <| js [ii 0, ii 0, ii 0, ii 0] sz39 rfl rfl rfl rfl rfl rfl <| J.nil <| CJ.ret ?_
 obtain rfl := si h
 exact ⟨_, _, Res.one rfl ⟨_, _, rfl, Ld.agg (cs := [ii 0, ii 0, ii 0, ii 0]) Try.underlying39 sz39 rfl (Rd.cls 0 0 rfl rfl)⟩, ⟨0, 0, 0, 0, rfl, rfl, rfl⟩, (Hp.le_refl _), fun w hs => (Sep.dropAt 0 rfl hs)⟩

noncomputable def fn_valid_Check_az (xa : (Int × Int × (List (Int × Int)) × (List (List (Int × Bool))) × (List (Int × Bool)) × (List (Int × (List (Int × Int)) × (List (List (Int × Bool))) × (List (Int × Bool)))) × (List ((List (Int × Int × Int × Int × Bool)) × (Int × Int × Int × (List Int) × (List Int) × (List Int)))))) : Option (Int × Int × Int × Int) :=
  (fn_tick_Counter_Add_zii 1 1).bind fun _ => (fn_valid_head_az (xa.1, xa.2.1, xa.2.2.1, xa.2.2.2.1, xa.2.2.2.2.1, xa.2.2.2.2.2.1, xa.2.2.2.2.2.2)).bind fun (i100, i101, i102, i103) => cond (!decide (i100 = 0)) (some ((i100, i101, i102, i103))) ((fn_valid_bounds_az (xa.1, xa.2.1, xa.2.2.1, xa.2.2.2.1, xa.2.2.2.2.1, xa.2.2.2.2.2.1, xa.2.2.2.2.2.2)).bind fun (i111, i112, i113, i114) => cond (!decide (i111 = 0)) (some ((i111, i112, i113, i114))) ((fn_valid_locals_az (xa.1, xa.2.1, xa.2.2.1, xa.2.2.2.1, xa.2.2.2.2.1, xa.2.2.2.2.2.1, xa.2.2.2.2.2.2)).bind fun (i122, i123, i124, i125) => cond (!decide (i122 = 0)) (some ((i122, i123, i124, i125))) ((fn_valid_ret_az (xa.1, xa.2.1, xa.2.2.1, xa.2.2.2.1, xa.2.2.2.2.1, xa.2.2.2.2.2.1, xa.2.2.2.2.2.2)).bind fun (i133, i134, i135, i136) => cond (!decide (i133 = 0)) (some ((i133, i134, i135, i136))) ((fn_valid_sigs_az (xa.1, xa.2.1, xa.2.2.1, xa.2.2.2.1, xa.2.2.2.2.1, xa.2.2.2.2.2.1, xa.2.2.2.2.2.2)).bind fun (i144, i145, i146, i147) => cond (!decide (i144 = 0)) (some ((i144, i145, i146, i147))) ((fn_valid_blocks_az (xa.1, xa.2.1, xa.2.2.1, xa.2.2.2.1, xa.2.2.2.2.1, xa.2.2.2.2.2.1, xa.2.2.2.2.2.2)).bind fun (i155, i156, i157, i158) => cond (!decide (i155 = 0)) (some ((i155, i156, i157, i158))) ((fn_valid_code_az (xa.1, xa.2.1, xa.2.2.1, xa.2.2.2.1, xa.2.2.2.2.1, xa.2.2.2.2.2.1, xa.2.2.2.2.2.2)).bind fun (i166, i167, i168, i169) => cond (!decide (i166 = 0)) (some ((i166, i167, i168, i169))) (some ((0, 0, 0, 0)))))))))
set_option maxRecDepth 100000 in
set_option maxHeartbeats 4000000 in
theorem valid_Check_az_ok {K : Hp} {xa : (Int × Int × (List (Int × Int)) × (List (List (Int × Bool))) × (List (Int × Bool)) × (List (Int × (List (Int × Int)) × (List (List (Int × Bool))) × (List (Int × Bool)))) × (List ((List (Int × Int × Int × Int × Bool)) × (Int × Int × Int × (List Int) × (List Int) × (List Int)))))} {adxa_2 : Option Addr} {cpxa_2 : Nat} {adxa_3 : Option Addr} {cpxa_3 : Nat} {adxa_4 : Option Addr} {cpxa_4 : Nat} {adxa_5 : Option Addr} {cpxa_5 : Nat} {adxa_6 : Option Addr} {cpxa_6 : Nat} (fxa_2 : Is K (.sl (.cons (.int .i64) (.one (.int .i64)))) [.slice adxa_2 xa.2.2.1.length cpxa_2] xa.2.2.1) (fxa_3 : Is K (.sl (.one (.sl (.cons (.int .i64) (.one .bool))))) [.slice adxa_3 xa.2.2.2.1.length cpxa_3] xa.2.2.2.1) (fxa_4 : Is K (.sl (.cons (.int .i64) (.one .bool))) [.slice adxa_4 xa.2.2.2.2.1.length cpxa_4] xa.2.2.2.2.1) (fxa_5 : Is K (.sl (.cons (.int .i64) (.cons (.sl (.cons (.int .i64) (.one (.int .i64)))) (.cons (.sl (.one (.sl (.cons (.int .i64) (.one .bool))))) (.one (.one (.sl (.cons (.int .i64) (.one .bool))))))))) [.slice adxa_5 xa.2.2.2.2.2.1.length cpxa_5] xa.2.2.2.2.2.1) (fxa_6 : Is K (.sl (.cons (.sl (.cons (.int .i64) (.cons (.int .i64) (.cons (.int .i64) (.cons (.int .i64) (.one .bool)))))) (.one (.cons (.int .i64) (.cons (.int .i64) (.cons (.int .i64) (.cons (.sl (.int .i64)) (.cons (.sl (.int .i64)) (.one (.sl (.int .i64))))))))))) [.slice adxa_6 xa.2.2.2.2.2.2.length cpxa_6] xa.2.2.2.2.2.2) {r : (Int × Int × Int × Int)} (h : fn_valid_Check_az xa = some r) :
    Tr Try.prog 8 #[.agg #[ii xa.1, ii xa.2.1, .slice adxa_2 xa.2.2.1.length cpxa_2, .slice adxa_3 xa.2.2.2.1.length cpxa_3, .slice adxa_4 xa.2.2.2.2.1.length cpxa_4, .slice adxa_5 xa.2.2.2.2.2.1.length cpxa_5, .slice adxa_6 xa.2.2.2.2.2.2.length cpxa_6], .pointer none] K [] (fun v K' L' => (∃ (i86 : Int) (i87 : Int) (i88 : Int) (i89 : Int), (i86, i87, i88, i89) = r ∧ .agg #[ii i86, ii i87, ii i88, ii i89] = v ∧ L' = []) ∧ K = K') := by
 refine Tr.k <| Tr.of Try.func8 rfl Try.ntmps8 rfl fun E F => ?_
 unfold fn_valid_Check_az at h
 refine cr <| jbx [ii xa.1, ii xa.2.1, .slice adxa_2 xa.2.2.1.length cpxa_2, .slice adxa_3 xa.2.2.2.1.length cpxa_3, .slice adxa_4 xa.2.2.2.2.1.length cpxa_4, .slice adxa_5 xa.2.2.2.2.2.1.length cpxa_5, .slice adxa_6 xa.2.2.2.2.2.2.length cpxa_6] rfl rfl fun b90 => jal inf39 [ii 0, ii 0, ii 0, ii 0] rfl fun b91 => J.nil <| CJ.seq <| CJ.region ?_
 refine jm (.pointer none) rfl ?_
 obtain ⟨r92, hr93, h⟩ := ob h
 refine J.op rfl (A.call (L1 := []) Try.call19 rfl (tick_Counter_Add_zii_ok hr93) rfl rfl) ?_
 rintro _ _ _ ⟨v94, _, rfl, ⟨⟨rfl, rfl, rfl⟩, rfl⟩, _, rfl⟩
 refine J.nil <| CJ.seq <| CJ.region ?_
 refine J.op rfl (A.litC (cs := [.func (.func 20) #[] #[], .func (.func 21) #[] #[], .func (.func 22) #[] #[], .func (.func 23) #[] #[], .func (.func 24) #[] #[], .func (.func 25) #[] #[], .func (.func 26) #[] #[]]) Try.underlying64 inf40 (by decide) rfl rfl (by decide)) ?_
 rintro _ _ _ ⟨b97, rfl, rfl, rfl⟩
 refine ja (.slice (some ⟨b97, 0, none⟩) 7 7) rfl <| J.nil <| CJ.seq <| cr <| jm (.slice (some ⟨b97, 0, none⟩) 7 7) rfl <| jv (ii 7) (Val.eq (V.len Try.underlying64 rfl) rfl) ?_
 refine jm (ii 0) rfl <| J.nil <| CJ.block <| CJ.unroll 64 <| RJ.next <| CJ.seq <| CJ.region ?_
 refine jv (.bool true) (Val.eq (V.lss rfl rfl) rfl) <| J.nil <| CJ.seq <| CJ.condK (b := true) rfl rfl <| CJ.skip <| CJ.seq <| CJ.block ?_
 refine cr <| jv _ (Val.eq (V.iad Try.underlying64 sz40 rfl rfl rfl (by decide) (by decide)) rfl) <| jv (.func (.func 20) #[] #[]) (V.ld rfl (Ld.sc sc40 (Rd.cl 0 rfl rfl))) <| ja (.func (.func 20) #[] #[]) rfl <| J.nil <| CJ.seq ?_
 refine CJ.region <| jm (.func (.func 20) #[] #[]) rfl <| jv (.agg #[ii xa.1, ii xa.2.1, .slice adxa_2 xa.2.2.1.length cpxa_2, .slice adxa_3 xa.2.2.2.1.length cpxa_3, .slice adxa_4 xa.2.2.2.2.1.length cpxa_4, .slice adxa_5 xa.2.2.2.2.2.1.length cpxa_5, .slice adxa_6 xa.2.2.2.2.2.2.length cpxa_6]) (V.ld rfl (Ld.agg (cs := [ii xa.1, ii xa.2.1, .slice adxa_2 xa.2.2.1.length cpxa_2, .slice adxa_3 xa.2.2.2.1.length cpxa_3, .slice adxa_4 xa.2.2.2.2.1.length cpxa_4, .slice adxa_5 xa.2.2.2.2.2.1.length cpxa_5, .slice adxa_6 xa.2.2.2.2.2.2.length cpxa_6]) Try.underlying30 sz30 rfl (Rd.cls 2 0 rfl rfl))) <| jm (.pointer none) rfl ?_
 obtain ⟨r98, hr99, h⟩ := ob h
 refine J.op rfl (A.call (L1 := []) Try.call20 rfl (valid_head_az_ok fxa_2 fxa_3 fxa_4 fxa_5 fxa_6 hr99) rfl rfl) ?_
 rintro _ _ _ ⟨v104, _, rfl, ⟨⟨i100, i101, i102, i103, rfl, rfl, rfl⟩, rfl⟩, _, rfl⟩
 refine jal inf39 [ii 0, ii 0, ii 0, ii 0] rfl fun b107 => js [ii i100, ii i101, ii i102, ii i103] sz39 rfl rfl rfl rfl rfl rfl <| J.nil <| cr <| jv _ (V.fad Try.underlying39 rfl nz31 rfl) <| jv (ii i100) (V.ld rfl (Ld.sc sc31 (Rd.cl 0 rfl rfl))) ?_
 refine jv (.bool (!decide (i100 = 0))) (V.neq rfl rfl) <| J.nil <| cc rfl h (fun hc108 h => ?_) fun hc108 h => ?_
 · refine cr <| jv (.agg #[ii i100, ii i101, ii i102, ii i103]) (V.ld rfl (Ld.agg (cs := [ii i100, ii i101, ii i102, ii i103]) Try.underlying39 sz39 rfl (Rd.cls 0 0 rfl rfl))) <| J.front 2 rfl <| js [ii i100, ii i101, ii i102, ii i103] sz39 rfl rfl rfl rfl rfl rfl <| J.nil <| CJ.ret ?_
   obtain rfl := si h
   exact ⟨_, _, Res.one rfl ⟨_, _, rfl, Ld.agg (cs := [ii i100, ii i101, ii i102, ii i103]) Try.underlying39 sz39 rfl (Rd.cls 0 0 rfl rfl)⟩, ⟨i100, i101, i102, i103, rfl, rfl, rfl⟩, (Hp.le_refl _), fun w hs => (Sep.dropAt 0 rfl (Sep.dropAt 0 rfl (Sep.dropAt 0 rfl (Sep.dropAt 0 rfl hs))))⟩
 refine CJ.skip <| CJ.region <| jv (ii 1) (Val.eq (V.add rfl rfl) rfl) <| jm (ii 1) rfl <| J.nil <| RJ.next <| CJ.seq ?_
 refine CJ.region <| jv (.bool true) (Val.eq (V.lss rfl rfl) rfl) <| J.nil <| CJ.seq <| CJ.condK (b := true) rfl rfl <| CJ.skip <| CJ.seq ?_
 refine CJ.block <| cr <| jv _ (Val.eq (V.iad Try.underlying64 sz40 rfl rfl rfl (by decide) (by decide)) rfl) <| jv (.func (.func 21) #[] #[]) (V.ld rfl (Ld.sc sc40 (Rd.cl 1 rfl rfl))) <| ja (.func (.func 21) #[] #[]) rfl <| J.nil ?_
 refine cr <| jm (.func (.func 21) #[] #[]) rfl <| jv (.agg #[ii xa.1, ii xa.2.1, .slice adxa_2 xa.2.2.1.length cpxa_2, .slice adxa_3 xa.2.2.2.1.length cpxa_3, .slice adxa_4 xa.2.2.2.2.1.length cpxa_4, .slice adxa_5 xa.2.2.2.2.2.1.length cpxa_5, .slice adxa_6 xa.2.2.2.2.2.2.length cpxa_6]) (V.ld rfl (Ld.agg (cs := [ii xa.1, ii xa.2.1, .slice adxa_2 xa.2.2.1.length cpxa_2, .slice adxa_3 xa.2.2.2.1.length cpxa_3, .slice adxa_4 xa.2.2.2.2.1.length cpxa_4, .slice adxa_5 xa.2.2.2.2.2.1.length cpxa_5, .slice adxa_6 xa.2.2.2.2.2.2.length cpxa_6]) Try.underlying30 sz30 rfl (Rd.cls 3 0 rfl rfl))) <| jm (.pointer none) rfl ?_
 obtain ⟨r109, hr110, h⟩ := ob h
 refine J.op rfl (A.call (L1 := []) Try.call21 rfl (valid_bounds_az_ok fxa_2 fxa_3 fxa_4 fxa_5 fxa_6 hr110) rfl rfl) ?_
 rintro _ _ _ ⟨v115, _, rfl, ⟨⟨i111, i112, i113, i114, rfl, rfl, rfl⟩, rfl⟩, _, rfl⟩
 refine jal inf39 [ii 0, ii 0, ii 0, ii 0] rfl fun b118 => js [ii i111, ii i112, ii i113, ii i114] sz39 rfl rfl rfl rfl rfl rfl <| J.nil <| cr <| jv _ (V.fad Try.underlying39 rfl nz31 rfl) <| jv (ii i111) (V.ld rfl (Ld.sc sc31 (Rd.cl 0 rfl rfl))) ?_
 refine jv (.bool (!decide (i111 = 0))) (V.neq rfl rfl) <| J.nil <| cc rfl h (fun hc119 h => ?_) fun hc119 h => ?_
 · refine cr <| jv (.agg #[ii i111, ii i112, ii i113, ii i114]) (V.ld rfl (Ld.agg (cs := [ii i111, ii i112, ii i113, ii i114]) Try.underlying39 sz39 rfl (Rd.cls 0 0 rfl rfl))) <| J.front 3 rfl <| js [ii i111, ii i112, ii i113, ii i114] sz39 rfl rfl rfl rfl rfl rfl <| J.nil <| CJ.ret ?_
   obtain rfl := si h
   exact ⟨_, _, Res.one rfl ⟨_, _, rfl, Ld.agg (cs := [ii i111, ii i112, ii i113, ii i114]) Try.underlying39 sz39 rfl (Rd.cls 0 0 rfl rfl)⟩, ⟨i111, i112, i113, i114, rfl, rfl, rfl⟩, (Hp.le_refl _), fun w hs => (Sep.dropAt 0 rfl (Sep.dropAt 0 rfl (Sep.dropAt 0 rfl (Sep.dropAt 0 rfl (Sep.dropAt 0 rfl hs)))))⟩
 refine CJ.skip <| CJ.region <| jv (ii 2) (Val.eq (V.add rfl rfl) rfl) <| jm (ii 2) rfl <| J.nil <| RJ.next <| CJ.seq ?_
 refine CJ.region <| jv (.bool true) (Val.eq (V.lss rfl rfl) rfl) <| J.nil <| CJ.seq <| CJ.condK (b := true) rfl rfl <| CJ.skip <| CJ.seq ?_
 refine CJ.block <| cr <| jv _ (Val.eq (V.iad Try.underlying64 sz40 rfl rfl rfl (by decide) (by decide)) rfl) <| jv (.func (.func 22) #[] #[]) (V.ld rfl (Ld.sc sc40 (Rd.cl 2 rfl rfl))) <| ja (.func (.func 22) #[] #[]) rfl <| J.nil ?_
 refine cr <| jm (.func (.func 22) #[] #[]) rfl <| jv (.agg #[ii xa.1, ii xa.2.1, .slice adxa_2 xa.2.2.1.length cpxa_2, .slice adxa_3 xa.2.2.2.1.length cpxa_3, .slice adxa_4 xa.2.2.2.2.1.length cpxa_4, .slice adxa_5 xa.2.2.2.2.2.1.length cpxa_5, .slice adxa_6 xa.2.2.2.2.2.2.length cpxa_6]) (V.ld rfl (Ld.agg (cs := [ii xa.1, ii xa.2.1, .slice adxa_2 xa.2.2.1.length cpxa_2, .slice adxa_3 xa.2.2.2.1.length cpxa_3, .slice adxa_4 xa.2.2.2.2.1.length cpxa_4, .slice adxa_5 xa.2.2.2.2.2.1.length cpxa_5, .slice adxa_6 xa.2.2.2.2.2.2.length cpxa_6]) Try.underlying30 sz30 rfl (Rd.cls 4 0 rfl rfl))) <| jm (.pointer none) rfl ?_
 obtain ⟨r120, hr121, h⟩ := ob h
 refine J.op rfl (A.call (L1 := []) Try.call22 rfl (valid_locals_az_ok fxa_2 fxa_3 fxa_4 fxa_5 fxa_6 hr121) rfl rfl) ?_
 rintro _ _ _ ⟨v126, _, rfl, ⟨⟨i122, i123, i124, i125, rfl, rfl, rfl⟩, rfl⟩, _, rfl⟩
 refine jal inf39 [ii 0, ii 0, ii 0, ii 0] rfl fun b129 => js [ii i122, ii i123, ii i124, ii i125] sz39 rfl rfl rfl rfl rfl rfl <| J.nil <| cr <| jv _ (V.fad Try.underlying39 rfl nz31 rfl) <| jv (ii i122) (V.ld rfl (Ld.sc sc31 (Rd.cl 0 rfl rfl))) ?_
 refine jv (.bool (!decide (i122 = 0))) (V.neq rfl rfl) <| J.nil <| cc rfl h (fun hc130 h => ?_) fun hc130 h => ?_
 · refine cr <| jv (.agg #[ii i122, ii i123, ii i124, ii i125]) (V.ld rfl (Ld.agg (cs := [ii i122, ii i123, ii i124, ii i125]) Try.underlying39 sz39 rfl (Rd.cls 0 0 rfl rfl))) <| J.front 4 rfl <| js [ii i122, ii i123, ii i124, ii i125] sz39 rfl rfl rfl rfl rfl rfl <| J.nil <| CJ.ret ?_
   obtain rfl := si h
   exact ⟨_, _, Res.one rfl ⟨_, _, rfl, Ld.agg (cs := [ii i122, ii i123, ii i124, ii i125]) Try.underlying39 sz39 rfl (Rd.cls 0 0 rfl rfl)⟩, ⟨i122, i123, i124, i125, rfl, rfl, rfl⟩, (Hp.le_refl _), fun w hs => (Sep.dropAt 0 rfl (Sep.dropAt 0 rfl (Sep.dropAt 0 rfl (Sep.dropAt 0 rfl (Sep.dropAt 0 rfl (Sep.dropAt 0 rfl hs))))))⟩
 refine CJ.skip <| CJ.region <| jv (ii 3) (Val.eq (V.add rfl rfl) rfl) <| jm (ii 3) rfl <| J.nil <| RJ.next <| CJ.seq ?_
 refine CJ.region <| jv (.bool true) (Val.eq (V.lss rfl rfl) rfl) <| J.nil <| CJ.seq <| CJ.condK (b := true) rfl rfl <| CJ.skip <| CJ.seq ?_
 refine CJ.block <| cr <| jv _ (Val.eq (V.iad Try.underlying64 sz40 rfl rfl rfl (by decide) (by decide)) rfl) <| jv (.func (.func 23) #[] #[]) (V.ld rfl (Ld.sc sc40 (Rd.cl 3 rfl rfl))) <| ja (.func (.func 23) #[] #[]) rfl <| J.nil ?_
 refine cr <| jm (.func (.func 23) #[] #[]) rfl <| jv (.agg #[ii xa.1, ii xa.2.1, .slice adxa_2 xa.2.2.1.length cpxa_2, .slice adxa_3 xa.2.2.2.1.length cpxa_3, .slice adxa_4 xa.2.2.2.2.1.length cpxa_4, .slice adxa_5 xa.2.2.2.2.2.1.length cpxa_5, .slice adxa_6 xa.2.2.2.2.2.2.length cpxa_6]) (V.ld rfl (Ld.agg (cs := [ii xa.1, ii xa.2.1, .slice adxa_2 xa.2.2.1.length cpxa_2, .slice adxa_3 xa.2.2.2.1.length cpxa_3, .slice adxa_4 xa.2.2.2.2.1.length cpxa_4, .slice adxa_5 xa.2.2.2.2.2.1.length cpxa_5, .slice adxa_6 xa.2.2.2.2.2.2.length cpxa_6]) Try.underlying30 sz30 rfl (Rd.cls 5 0 rfl rfl))) <| jm (.pointer none) rfl ?_
 obtain ⟨r131, hr132, h⟩ := ob h
 refine J.op rfl (A.call (L1 := []) Try.call23 rfl (valid_ret_az_ok fxa_2 fxa_3 fxa_4 fxa_5 fxa_6 hr132) rfl rfl) ?_
 rintro _ _ _ ⟨v137, _, rfl, ⟨⟨i133, i134, i135, i136, rfl, rfl, rfl⟩, rfl⟩, _, rfl⟩
 refine jal inf39 [ii 0, ii 0, ii 0, ii 0] rfl fun b140 => js [ii i133, ii i134, ii i135, ii i136] sz39 rfl rfl rfl rfl rfl rfl <| J.nil <| cr <| jv _ (V.fad Try.underlying39 rfl nz31 rfl) <| jv (ii i133) (V.ld rfl (Ld.sc sc31 (Rd.cl 0 rfl rfl))) ?_
 refine jv (.bool (!decide (i133 = 0))) (V.neq rfl rfl) <| J.nil <| cc rfl h (fun hc141 h => ?_) fun hc141 h => ?_
 · refine cr <| jv (.agg #[ii i133, ii i134, ii i135, ii i136]) (V.ld rfl (Ld.agg (cs := [ii i133, ii i134, ii i135, ii i136]) Try.underlying39 sz39 rfl (Rd.cls 0 0 rfl rfl))) <| J.front 5 rfl <| js [ii i133, ii i134, ii i135, ii i136] sz39 rfl rfl rfl rfl rfl rfl <| J.nil <| CJ.ret ?_
   obtain rfl := si h
   exact ⟨_, _, Res.one rfl ⟨_, _, rfl, Ld.agg (cs := [ii i133, ii i134, ii i135, ii i136]) Try.underlying39 sz39 rfl (Rd.cls 0 0 rfl rfl)⟩, ⟨i133, i134, i135, i136, rfl, rfl, rfl⟩, (Hp.le_refl _), fun w hs => (Sep.dropAt 0 rfl (Sep.dropAt 0 rfl (Sep.dropAt 0 rfl (Sep.dropAt 0 rfl (Sep.dropAt 0 rfl (Sep.dropAt 0 rfl (Sep.dropAt 0 rfl hs)))))))⟩
 refine CJ.skip <| CJ.region <| jv (ii 4) (Val.eq (V.add rfl rfl) rfl) <| jm (ii 4) rfl <| J.nil <| RJ.next <| CJ.seq ?_
 refine CJ.region <| jv (.bool true) (Val.eq (V.lss rfl rfl) rfl) <| J.nil <| CJ.seq <| CJ.condK (b := true) rfl rfl <| CJ.skip <| CJ.seq ?_
 refine CJ.block <| cr <| jv _ (Val.eq (V.iad Try.underlying64 sz40 rfl rfl rfl (by decide) (by decide)) rfl) <| jv (.func (.func 24) #[] #[]) (V.ld rfl (Ld.sc sc40 (Rd.cl 4 rfl rfl))) <| ja (.func (.func 24) #[] #[]) rfl <| J.nil ?_
 refine cr <| jm (.func (.func 24) #[] #[]) rfl <| jv (.agg #[ii xa.1, ii xa.2.1, .slice adxa_2 xa.2.2.1.length cpxa_2, .slice adxa_3 xa.2.2.2.1.length cpxa_3, .slice adxa_4 xa.2.2.2.2.1.length cpxa_4, .slice adxa_5 xa.2.2.2.2.2.1.length cpxa_5, .slice adxa_6 xa.2.2.2.2.2.2.length cpxa_6]) (V.ld rfl (Ld.agg (cs := [ii xa.1, ii xa.2.1, .slice adxa_2 xa.2.2.1.length cpxa_2, .slice adxa_3 xa.2.2.2.1.length cpxa_3, .slice adxa_4 xa.2.2.2.2.1.length cpxa_4, .slice adxa_5 xa.2.2.2.2.2.1.length cpxa_5, .slice adxa_6 xa.2.2.2.2.2.2.length cpxa_6]) Try.underlying30 sz30 rfl (Rd.cls 6 0 rfl rfl))) <| jm (.pointer none) rfl ?_
 obtain ⟨r142, hr143, h⟩ := ob h
 refine J.op rfl (A.call (L1 := []) Try.call24 rfl (valid_sigs_az_ok fxa_2 fxa_3 fxa_4 fxa_5 fxa_6 hr143) rfl rfl) ?_
 rintro _ _ _ ⟨v148, _, rfl, ⟨⟨i144, i145, i146, i147, rfl, rfl, rfl⟩, rfl⟩, _, rfl⟩
 refine jal inf39 [ii 0, ii 0, ii 0, ii 0] rfl fun b151 => js [ii i144, ii i145, ii i146, ii i147] sz39 rfl rfl rfl rfl rfl rfl <| J.nil <| cr <| jv _ (V.fad Try.underlying39 rfl nz31 rfl) <| jv (ii i144) (V.ld rfl (Ld.sc sc31 (Rd.cl 0 rfl rfl))) ?_
 refine jv (.bool (!decide (i144 = 0))) (V.neq rfl rfl) <| J.nil <| cc rfl h (fun hc152 h => ?_) fun hc152 h => ?_
 · refine cr <| jv (.agg #[ii i144, ii i145, ii i146, ii i147]) (V.ld rfl (Ld.agg (cs := [ii i144, ii i145, ii i146, ii i147]) Try.underlying39 sz39 rfl (Rd.cls 0 0 rfl rfl))) <| J.front 6 rfl <| js [ii i144, ii i145, ii i146, ii i147] sz39 rfl rfl rfl rfl rfl rfl <| J.nil <| CJ.ret ?_
   obtain rfl := si h
   exact ⟨_, _, Res.one rfl ⟨_, _, rfl, Ld.agg (cs := [ii i144, ii i145, ii i146, ii i147]) Try.underlying39 sz39 rfl (Rd.cls 0 0 rfl rfl)⟩, ⟨i144, i145, i146, i147, rfl, rfl, rfl⟩, (Hp.le_refl _), fun w hs => (Sep.dropAt 0 rfl (Sep.dropAt 0 rfl (Sep.dropAt 0 rfl (Sep.dropAt 0 rfl (Sep.dropAt 0 rfl (Sep.dropAt 0 rfl (Sep.dropAt 0 rfl (Sep.dropAt 0 rfl hs))))))))⟩
 refine CJ.skip <| CJ.region <| jv (ii 5) (Val.eq (V.add rfl rfl) rfl) <| jm (ii 5) rfl <| J.nil <| RJ.next <| CJ.seq ?_
 refine CJ.region <| jv (.bool true) (Val.eq (V.lss rfl rfl) rfl) <| J.nil <| CJ.seq <| CJ.condK (b := true) rfl rfl <| CJ.skip <| CJ.seq ?_
 refine CJ.block <| cr <| jv _ (Val.eq (V.iad Try.underlying64 sz40 rfl rfl rfl (by decide) (by decide)) rfl) <| jv (.func (.func 25) #[] #[]) (V.ld rfl (Ld.sc sc40 (Rd.cl 5 rfl rfl))) <| ja (.func (.func 25) #[] #[]) rfl <| J.nil ?_
 refine cr <| jm (.func (.func 25) #[] #[]) rfl <| jv (.agg #[ii xa.1, ii xa.2.1, .slice adxa_2 xa.2.2.1.length cpxa_2, .slice adxa_3 xa.2.2.2.1.length cpxa_3, .slice adxa_4 xa.2.2.2.2.1.length cpxa_4, .slice adxa_5 xa.2.2.2.2.2.1.length cpxa_5, .slice adxa_6 xa.2.2.2.2.2.2.length cpxa_6]) (V.ld rfl (Ld.agg (cs := [ii xa.1, ii xa.2.1, .slice adxa_2 xa.2.2.1.length cpxa_2, .slice adxa_3 xa.2.2.2.1.length cpxa_3, .slice adxa_4 xa.2.2.2.2.1.length cpxa_4, .slice adxa_5 xa.2.2.2.2.2.1.length cpxa_5, .slice adxa_6 xa.2.2.2.2.2.2.length cpxa_6]) Try.underlying30 sz30 rfl (Rd.cls 7 0 rfl rfl))) <| jm (.pointer none) rfl ?_
 obtain ⟨r153, hr154, h⟩ := ob h
 refine J.op rfl (A.call (L1 := []) Try.call25 rfl (valid_blocks_az_ok fxa_2 fxa_3 fxa_4 fxa_5 fxa_6 hr154) rfl rfl) ?_
 rintro _ _ _ ⟨v159, _, rfl, ⟨⟨i155, i156, i157, i158, rfl, rfl, rfl⟩, rfl⟩, _, rfl⟩
 refine jal inf39 [ii 0, ii 0, ii 0, ii 0] rfl fun b162 => js [ii i155, ii i156, ii i157, ii i158] sz39 rfl rfl rfl rfl rfl rfl <| J.nil <| cr <| jv _ (V.fad Try.underlying39 rfl nz31 rfl) <| jv (ii i155) (V.ld rfl (Ld.sc sc31 (Rd.cl 0 rfl rfl))) ?_
 refine jv (.bool (!decide (i155 = 0))) (V.neq rfl rfl) <| J.nil <| cc rfl h (fun hc163 h => ?_) fun hc163 h => ?_
 · refine cr <| jv (.agg #[ii i155, ii i156, ii i157, ii i158]) (V.ld rfl (Ld.agg (cs := [ii i155, ii i156, ii i157, ii i158]) Try.underlying39 sz39 rfl (Rd.cls 0 0 rfl rfl))) <| J.front 7 rfl <| js [ii i155, ii i156, ii i157, ii i158] sz39 rfl rfl rfl rfl rfl rfl <| J.nil <| CJ.ret ?_
   obtain rfl := si h
   exact ⟨_, _, Res.one rfl ⟨_, _, rfl, Ld.agg (cs := [ii i155, ii i156, ii i157, ii i158]) Try.underlying39 sz39 rfl (Rd.cls 0 0 rfl rfl)⟩, ⟨i155, i156, i157, i158, rfl, rfl, rfl⟩, (Hp.le_refl _), fun w hs => (Sep.dropAt 0 rfl (Sep.dropAt 0 rfl (Sep.dropAt 0 rfl (Sep.dropAt 0 rfl (Sep.dropAt 0 rfl (Sep.dropAt 0 rfl (Sep.dropAt 0 rfl (Sep.dropAt 0 rfl (Sep.dropAt 0 rfl hs)))))))))⟩
 refine CJ.skip <| CJ.region <| jv (ii 6) (Val.eq (V.add rfl rfl) rfl) <| jm (ii 6) rfl <| J.nil <| RJ.next <| CJ.seq ?_
 refine CJ.region <| jv (.bool true) (Val.eq (V.lss rfl rfl) rfl) <| J.nil <| CJ.seq <| CJ.condK (b := true) rfl rfl <| CJ.skip <| CJ.seq ?_
 refine CJ.block <| cr <| jv _ (Val.eq (V.iad Try.underlying64 sz40 rfl rfl rfl (by decide) (by decide)) rfl) <| jv (.func (.func 26) #[] #[]) (V.ld rfl (Ld.sc sc40 (Rd.cl 6 rfl rfl))) <| ja (.func (.func 26) #[] #[]) rfl <| J.nil ?_
 refine cr <| jm (.func (.func 26) #[] #[]) rfl <| jv (.agg #[ii xa.1, ii xa.2.1, .slice adxa_2 xa.2.2.1.length cpxa_2, .slice adxa_3 xa.2.2.2.1.length cpxa_3, .slice adxa_4 xa.2.2.2.2.1.length cpxa_4, .slice adxa_5 xa.2.2.2.2.2.1.length cpxa_5, .slice adxa_6 xa.2.2.2.2.2.2.length cpxa_6]) (V.ld rfl (Ld.agg (cs := [ii xa.1, ii xa.2.1, .slice adxa_2 xa.2.2.1.length cpxa_2, .slice adxa_3 xa.2.2.2.1.length cpxa_3, .slice adxa_4 xa.2.2.2.2.1.length cpxa_4, .slice adxa_5 xa.2.2.2.2.2.1.length cpxa_5, .slice adxa_6 xa.2.2.2.2.2.2.length cpxa_6]) Try.underlying30 sz30 rfl (Rd.cls 8 0 rfl rfl))) <| jm (.pointer none) rfl ?_
 obtain ⟨r164, hr165, h⟩ := ob h
 refine J.op rfl (A.call (L1 := []) Try.call26 rfl (valid_code_az_ok fxa_2 fxa_3 fxa_4 fxa_5 fxa_6 hr165) rfl rfl) ?_
 rintro _ _ _ ⟨v170, _, rfl, ⟨⟨i166, i167, i168, i169, rfl, rfl, rfl⟩, rfl⟩, _, rfl⟩
 refine jal inf39 [ii 0, ii 0, ii 0, ii 0] rfl fun b173 => js [ii i166, ii i167, ii i168, ii i169] sz39 rfl rfl rfl rfl rfl rfl <| J.nil <| cr <| jv _ (V.fad Try.underlying39 rfl nz31 rfl) <| jv (ii i166) (V.ld rfl (Ld.sc sc31 (Rd.cl 0 rfl rfl))) ?_
 refine jv (.bool (!decide (i166 = 0))) (V.neq rfl rfl) <| J.nil <| cc rfl h (fun hc174 h => ?_) fun hc174 h => ?_
 · refine cr <| jv (.agg #[ii i166, ii i167, ii i168, ii i169]) (V.ld rfl (Ld.agg (cs := [ii i166, ii i167, ii i168, ii i169]) Try.underlying39 sz39 rfl (Rd.cls 0 0 rfl rfl))) <| J.front 8 rfl <| js [ii i166, ii i167, ii i168, ii i169] sz39 rfl rfl rfl rfl rfl rfl <| J.nil <| CJ.ret ?_
   obtain rfl := si h
   exact ⟨_, _, Res.one rfl ⟨_, _, rfl, Ld.agg (cs := [ii i166, ii i167, ii i168, ii i169]) Try.underlying39 sz39 rfl (Rd.cls 0 0 rfl rfl)⟩, ⟨i166, i167, i168, i169, rfl, rfl, rfl⟩, (Hp.le_refl _), fun w hs => (Sep.dropAt 0 rfl (Sep.dropAt 0 rfl (Sep.dropAt 0 rfl (Sep.dropAt 0 rfl (Sep.dropAt 0 rfl (Sep.dropAt 0 rfl (Sep.dropAt 0 rfl (Sep.dropAt 0 rfl (Sep.dropAt 0 rfl (Sep.dropAt 0 rfl hs))))))))))⟩
 refine CJ.skip <| CJ.region <| jv (ii 7) (Val.eq (V.add rfl rfl) rfl) <| jm (ii 7) rfl <| J.nil <| RJ.next <| CJ.seq ?_
 refine CJ.region <| jv (.bool false) (Val.eq (V.lss rfl rfl) rfl) <| J.nil <| CJ.seq <| CJ.condK (b := false) rfl rfl <| CJ.exit <| CJ.seq ?_
 refine CJ.region <| jv (.agg #[ii 0, ii 0, ii 0, ii 0]) (V.build inf39 places39 rfl rfl) <| J.front 8 rfl <| js [ii 0, ii 0, ii 0, ii 0] sz39 rfl rfl rfl rfl rfl rfl <| J.nil <| CJ.ret ?_
 obtain rfl := si h
 exact ⟨_, _, Res.one rfl ⟨_, _, rfl, Ld.agg (cs := [ii 0, ii 0, ii 0, ii 0]) Try.underlying39 sz39 rfl (Rd.cls 0 0 rfl rfl)⟩, ⟨0, 0, 0, 0, rfl, rfl, rfl⟩, (Hp.le_refl _), fun w hs => (Sep.dropAt 0 rfl (Sep.dropAt 0 rfl (Sep.dropAt 0 rfl (Sep.dropAt 0 rfl (Sep.dropAt 0 rfl (Sep.dropAt 0 rfl (Sep.dropAt 0 rfl (Sep.dropAt 0 rfl (Sep.dropAt 0 rfl (Sep.dropAt 0 rfl hs))))))))))⟩

noncomputable def fn_valid_OK (xa : (Int × Int × (List (Int × Int)) × (List (List (Int × Bool))) × (List (Int × Bool)) × (List (Int × (List (Int × Int)) × (List (List (Int × Bool))) × (List (Int × Bool)))) × (List ((List (Int × Int × Int × Int × Bool)) × (Int × Int × Int × (List Int) × (List Int) × (List Int)))))) : Option Bool :=
  (fn_valid_Check_az (xa.1, xa.2.1, xa.2.2.1, xa.2.2.2.1, xa.2.2.2.2.1, xa.2.2.2.2.2.1, xa.2.2.2.2.2.2)).bind fun (i15, i17, i18, i19) => some (decide (i15 = 0))
set_option maxRecDepth 100000 in
set_option maxHeartbeats 4000000 in
theorem valid_OK_ok {K : Hp} {xa : (Int × Int × (List (Int × Int)) × (List (List (Int × Bool))) × (List (Int × Bool)) × (List (Int × (List (Int × Int)) × (List (List (Int × Bool))) × (List (Int × Bool)))) × (List ((List (Int × Int × Int × Int × Bool)) × (Int × Int × Int × (List Int) × (List Int) × (List Int)))))} {adxa_2 : Option Addr} {cpxa_2 : Nat} {adxa_3 : Option Addr} {cpxa_3 : Nat} {adxa_4 : Option Addr} {cpxa_4 : Nat} {adxa_5 : Option Addr} {cpxa_5 : Nat} {adxa_6 : Option Addr} {cpxa_6 : Nat} (fxa_2 : Is K (.sl (.cons (.int .i64) (.one (.int .i64)))) [.slice adxa_2 xa.2.2.1.length cpxa_2] xa.2.2.1) (fxa_3 : Is K (.sl (.one (.sl (.cons (.int .i64) (.one .bool))))) [.slice adxa_3 xa.2.2.2.1.length cpxa_3] xa.2.2.2.1) (fxa_4 : Is K (.sl (.cons (.int .i64) (.one .bool))) [.slice adxa_4 xa.2.2.2.2.1.length cpxa_4] xa.2.2.2.2.1) (fxa_5 : Is K (.sl (.cons (.int .i64) (.cons (.sl (.cons (.int .i64) (.one (.int .i64)))) (.cons (.sl (.one (.sl (.cons (.int .i64) (.one .bool))))) (.one (.one (.sl (.cons (.int .i64) (.one .bool))))))))) [.slice adxa_5 xa.2.2.2.2.2.1.length cpxa_5] xa.2.2.2.2.2.1) (fxa_6 : Is K (.sl (.cons (.sl (.cons (.int .i64) (.cons (.int .i64) (.cons (.int .i64) (.cons (.int .i64) (.one .bool)))))) (.one (.cons (.int .i64) (.cons (.int .i64) (.cons (.int .i64) (.cons (.sl (.int .i64)) (.cons (.sl (.int .i64)) (.one (.sl (.int .i64))))))))))) [.slice adxa_6 xa.2.2.2.2.2.2.length cpxa_6] xa.2.2.2.2.2.2) {r : Bool} (h : fn_valid_OK xa = some r) :
    Tr Try.prog 10 #[.agg #[ii xa.1, ii xa.2.1, .slice adxa_2 xa.2.2.1.length cpxa_2, .slice adxa_3 xa.2.2.2.1.length cpxa_3, .slice adxa_4 xa.2.2.2.2.1.length cpxa_4, .slice adxa_5 xa.2.2.2.2.2.1.length cpxa_5, .slice adxa_6 xa.2.2.2.2.2.2.length cpxa_6]] K [] (fun v K' L' => (∃ (t11 : Bool), t11 = r ∧ .bool t11 = v ∧ L' = []) ∧ K = K') := by
 refine Tr.k <| Tr.of Try.func10 rfl Try.ntmps10 rfl fun E F => ?_
 unfold fn_valid_OK at h
 refine cr <| jbx [ii xa.1, ii xa.2.1, .slice adxa_2 xa.2.2.1.length cpxa_2, .slice adxa_3 xa.2.2.2.1.length cpxa_3, .slice adxa_4 xa.2.2.2.2.1.length cpxa_4, .slice adxa_5 xa.2.2.2.2.2.1.length cpxa_5, .slice adxa_6 xa.2.2.2.2.2.2.length cpxa_6] rfl rfl fun b12 => ja (.bool false) rfl <| J.nil <| CJ.seq <| CJ.region ?_
 refine jv (.agg #[ii xa.1, ii xa.2.1, .slice adxa_2 xa.2.2.1.length cpxa_2, .slice adxa_3 xa.2.2.2.1.length cpxa_3, .slice adxa_4 xa.2.2.2.2.1.length cpxa_4, .slice adxa_5 xa.2.2.2.2.2.1.length cpxa_5, .slice adxa_6 xa.2.2.2.2.2.2.length cpxa_6]) (V.ld rfl (Ld.agg (cs := [ii xa.1, ii xa.2.1, .slice adxa_2 xa.2.2.1.length cpxa_2, .slice adxa_3 xa.2.2.2.1.length cpxa_3, .slice adxa_4 xa.2.2.2.2.1.length cpxa_4, .slice adxa_5 xa.2.2.2.2.2.1.length cpxa_5, .slice adxa_6 xa.2.2.2.2.2.2.length cpxa_6]) Try.underlying30 sz30 rfl (Rd.cls 0 0 rfl rfl))) ?_
 obtain ⟨r13, hr14, h⟩ := ob h
 refine J.op rfl (A.call (L1 := []) Try.call8 rfl (valid_Check_az_ok fxa_2 fxa_3 fxa_4 fxa_5 fxa_6 hr14) rfl rfl) ?_
 rintro _ _ _ ⟨v20, _, rfl, ⟨⟨i15, i17, i18, i19, rfl, rfl, rfl⟩, rfl⟩, _, rfl⟩
 refine jv (ii i15) (V.fld (ft := 0) Try.underlying39 rfl (Ld0.sc sc31 rfl) rfl) <| jv (.bool (decide (i15 = 0))) (V.eql rfl rfl) <| ja (.bool (decide (i15 = 0))) rfl <| J.nil <| CJ.ret ?_
 obtain rfl := si h
 exact ⟨_, _, Res.one rfl rfl, ⟨decide (i15 = 0), rfl, rfl, rfl⟩, (Hp.le_refl _), fun w hs => (Sep.dropAt 0 rfl hs)⟩

noncomputable def fn_api_Errno_Error (xa : Int) : Option (List UInt8) :=
  cond ((decide (xa < 0)) || (decide (16 ≤ xa))) (some (([63] : List UInt8))) ((getI ([([111, 107] : List UInt8), ([110, 105, 108] : List UInt8), ([97, 114, 103, 117, 109, 101, 110, 116] : List UInt8), ([102, 111, 114, 109] : List UInt8), ([115, 104, 111, 114, 116] : List UInt8), ([111, 118, 101, 114] : List UInt8), ([109, 97, 110, 121] : List UInt8), ([114, 97, 110, 103, 101] : List UInt8), ([115, 104, 97, 112, 101] : List UInt8), ([115, 116, 97, 116, 101] : List UInt8), ([102, 117, 108, 108] : List UInt8), ([110, 111, 110, 101] : List UInt8), ([104, 101, 97, 100] : List UInt8), ([109, 111, 114, 101] : List UInt8), ([109, 105, 115, 115, 105, 110, 103] : List UInt8), ([119, 114, 111, 110, 103] : List UInt8)] : List (List UInt8)) xa).bind fun x17 => some (x17))
set_option maxRecDepth 100000 in
set_option maxHeartbeats 4000000 in
theorem api_Errno_Error_ok {K : Hp} {xa : Int}   {r : List UInt8} (h : fn_api_Errno_Error xa = some r) :
    Tr Try.prog 15 #[ii xa] K [] (fun v K' L' => (∃ (s11 : List UInt8), s11 = r ∧ .string ⟨s11.toArray⟩ = v ∧ L' = []) ∧ K = K') := by
 refine Tr.k <| Tr.of Try.func15 rfl Try.ntmps15 rfl fun E F => ?_
 unfold fn_api_Errno_Error at h
 refine cr <| ja (.string ⟨([] : List UInt8).toArray⟩) rfl <| J.nil <| cr <| jv (.agg #[.string ⟨([111, 107] : List UInt8).toArray⟩, .string ⟨([110, 105, 108] : List UInt8).toArray⟩, .string ⟨([97, 114, 103, 117, 109, 101, 110, 116] : List UInt8).toArray⟩, .string ⟨([102, 111, 114, 109] : List UInt8).toArray⟩, .string ⟨([115, 104, 111, 114, 116] : List UInt8).toArray⟩, .string ⟨([111, 118, 101, 114] : List UInt8).toArray⟩, .string ⟨([109, 97, 110, 121] : List UInt8).toArray⟩, .string ⟨([114, 97, 110, 103, 101] : List UInt8).toArray⟩, .string ⟨([115, 104, 97, 112, 101] : List UInt8).toArray⟩, .string ⟨([115, 116, 97, 116, 101] : List UInt8).toArray⟩, .string ⟨([102, 117, 108, 108] : List UInt8).toArray⟩, .string ⟨([110, 111, 110, 101] : List UInt8).toArray⟩, .string ⟨([104, 101, 97, 100] : List UInt8).toArray⟩, .string ⟨([109, 111, 114, 101] : List UInt8).toArray⟩, .string ⟨([109, 105, 115, 115, 105, 110, 103] : List UInt8).toArray⟩, .string ⟨([119, 114, 111, 110, 103] : List UInt8).toArray⟩]) (V.buildA inf68 Try.underlying68 sz9 rfl rfl) ?_
 refine jal inf68 [.string ⟨([] : List UInt8).toArray⟩, .string ⟨([] : List UInt8).toArray⟩, .string ⟨([] : List UInt8).toArray⟩, .string ⟨([] : List UInt8).toArray⟩, .string ⟨([] : List UInt8).toArray⟩, .string ⟨([] : List UInt8).toArray⟩, .string ⟨([] : List UInt8).toArray⟩, .string ⟨([] : List UInt8).toArray⟩, .string ⟨([] : List UInt8).toArray⟩, .string ⟨([] : List UInt8).toArray⟩, .string ⟨([] : List UInt8).toArray⟩, .string ⟨([] : List UInt8).toArray⟩, .string ⟨([] : List UInt8).toArray⟩, .string ⟨([] : List UInt8).toArray⟩, .string ⟨([] : List UInt8).toArray⟩, .string ⟨([] : List UInt8).toArray⟩] rfl fun b12 => js [.string ⟨([111, 107] : List UInt8).toArray⟩, .string ⟨([110, 105, 108] : List UInt8).toArray⟩, .string ⟨([97, 114, 103, 117, 109, 101, 110, 116] : List UInt8).toArray⟩, .string ⟨([102, 111, 114, 109] : List UInt8).toArray⟩, .string ⟨([115, 104, 111, 114, 116] : List UInt8).toArray⟩, .string ⟨([111, 118, 101, 114] : List UInt8).toArray⟩, .string ⟨([109, 97, 110, 121] : List UInt8).toArray⟩, .string ⟨([114, 97, 110, 103, 101] : List UInt8).toArray⟩, .string ⟨([115, 104, 97, 112, 101] : List UInt8).toArray⟩, .string ⟨([115, 116, 97, 116, 101] : List UInt8).toArray⟩, .string ⟨([102, 117, 108, 108] : List UInt8).toArray⟩, .string ⟨([110, 111, 110, 101] : List UInt8).toArray⟩, .string ⟨([104, 101, 97, 100] : List UInt8).toArray⟩, .string ⟨([109, 111, 114, 101] : List UInt8).toArray⟩, .string ⟨([109, 105, 115, 115, 105, 110, 103] : List UInt8).toArray⟩, .string ⟨([119, 114, 111, 110, 103] : List UInt8).toArray⟩] sz68 rfl rfl rfl rfl rfl rfl <| J.nil <| CJ.seq <| cr <| jm (ii xa) rfl ?_
 refine jv (.bool (decide (xa < 0))) (V.lss rfl rfl) <| jm (.bool (decide (xa < 0))) rfl <| J.cut 3 <| jmeet [(10, .bool ((decide (xa < 0)) || (decide (16 ≤ xa)))), (0, ii xa), (3, .pointer (some ⟨b12, 0, none⟩))] ?_ ?_
 · rcases bt (decide (xa < 0)) with hc15 | hc15
   · refine J.skip rfl rfl rfl rfl hc15 <| J.skip rfl rfl rfl rfl hc15 <| jv (.bool true) (V.pickT rfl hc15 rfl) <| J.nil ?_
     exact ⟨rfl, ⟨(by simp only [hc15]; rfl), rfl, rfl, trivial⟩, rfl, rfl⟩
   refine J.run rfl rfl rfl hc15 <| jm (ii xa) rfl <| J.run rfl rfl rfl hc15 <| jv (.bool (decide (16 ≤ xa))) (V.geq rfl rfl) <| jv (.bool (decide (16 ≤ xa))) (V.pickF rfl hc15 rfl) <| J.nil ?_
   exact ⟨rfl, ⟨(by simp only [hc15]; rfl), rfl, rfl, trivial⟩, rfl, rfl⟩
 intro ρ
 refine J.nil <| cc rfl h (fun hc16 h => ?_) fun hc16 h => ?_
 · refine cr <| ja (.string ⟨([63] : List UInt8).toArray⟩) rfl <| J.nil <| CJ.ret ?_
   obtain rfl := si h
   exact ⟨_, _, Res.one rfl rfl, ⟨([63] : List UInt8), rfl, rfl, rfl⟩, (Hp.le_refl _), fun w hs => (Sep.dropAt 0 rfl hs)⟩
 refine CJ.skip <| cr <| jm (ii xa) rfl ?_
 obtain ⟨x17, hx18, h⟩ := ob h
 obtain ⟨p19, p20, p21⟩ := getI_some hx18
 refine jv _ (V.iadA Try.underlying68 sz9 rfl rfl p19 p21) <| jv (.string ⟨x17.toArray⟩) (V.ld rfl (Ld.sc sc9 (Rd.cl 0 rfl (arr_get (xs := ([([111, 107] : List UInt8), ([110, 105, 108] : List UInt8), ([97, 114, 103, 117, 109, 101, 110, 116] : List UInt8), ([102, 111, 114, 109] : List UInt8), ([115, 104, 111, 114, 116] : List UInt8), ([111, 118, 101, 114] : List UInt8), ([109, 97, 110, 121] : List UInt8), ([114, 97, 110, 103, 101] : List UInt8), ([115, 104, 97, 112, 101] : List UInt8), ([115, 116, 97, 116, 101] : List UInt8), ([102, 117, 108, 108] : List UInt8), ([110, 111, 110, 101] : List UInt8), ([104, 101, 97, 100] : List UInt8), ([109, 111, 114, 101] : List UInt8), ([109, 105, 115, 115, 105, 110, 103] : List UInt8), ([119, 114, 111, 110, 103] : List UInt8)] : List (List UInt8))) (f := (fun s => Value.string ⟨s.toArray⟩)) rfl p20)))) <| ja (.string ⟨x17.toArray⟩) rfl <| J.nil <| CJ.ret ?_
 obtain rfl := si h
 exact ⟨_, _, Res.one rfl rfl, ⟨x17, rfl, rfl, rfl⟩, (Hp.le_refl _), fun w hs => (Sep.dropAt 0 rfl hs)⟩

noncomputable def fn_valid_Text (xa : (Int × Int × Int × Int)) : Option (List UInt8) :=
  cond (((decide (xa.1 = 0)) || (decide (xa.2.1 < 0))) || (decide (8 ≤ xa.2.1))) ((fn_api_Errno_Error xa.1).bind fun s58 => some (s58)) ((getI ([([104, 101, 97, 100] : List UInt8), ([98, 111, 117, 110, 100] : List UInt8), ([108, 111, 99, 97, 108] : List UInt8), ([114, 101, 116, 117, 114, 110] : List UInt8), ([115, 105, 103, 110, 97, 116, 117, 114, 101] : List UInt8), ([98, 108, 111, 99, 107] : List UInt8), ([115, 116, 97, 116, 101, 109, 101, 110, 116] : List UInt8), ([116, 101, 114, 109, 105, 110, 97, 116, 111, 114] : List UInt8)] : List (List UInt8)) xa.2.1).bind fun x77 => (app x77 ([58, 32] : List UInt8)).bind fun z82 => (fn_api_Errno_Error xa.1).bind fun s86 => (app z82 s86).bind fun z90 => some (z90))
set_option maxRecDepth 100000 in
set_option maxHeartbeats 4000000 in
theorem valid_Text_ok {K : Hp} {xa : (Int × Int × Int × Int)}   {r : List UInt8} (h : fn_valid_Text xa = some r) :
    Tr Try.prog 13 #[.agg #[ii xa.1, ii xa.2.1, ii xa.2.2.1, ii xa.2.2.2]] K [] (fun v K' L' => (∃ (s46 : List UInt8), s46 = r ∧ .string ⟨s46.toArray⟩ = v ∧ L' = []) ∧ K = K') := by
 refine Tr.k <| Tr.of Try.func13 rfl Try.ntmps13 rfl fun E F => ?_
 unfold fn_valid_Text at h
 refine cr <| jbx [ii xa.1, ii xa.2.1, ii xa.2.2.1, ii xa.2.2.2] rfl rfl fun b47 => ja (.string ⟨([] : List UInt8).toArray⟩) rfl <| J.nil <| CJ.seq <| CJ.region ?_
 refine jv (.agg #[.string ⟨([104, 101, 97, 100] : List UInt8).toArray⟩, .string ⟨([98, 111, 117, 110, 100] : List UInt8).toArray⟩, .string ⟨([108, 111, 99, 97, 108] : List UInt8).toArray⟩, .string ⟨([114, 101, 116, 117, 114, 110] : List UInt8).toArray⟩, .string ⟨([115, 105, 103, 110, 97, 116, 117, 114, 101] : List UInt8).toArray⟩, .string ⟨([98, 108, 111, 99, 107] : List UInt8).toArray⟩, .string ⟨([115, 116, 97, 116, 101, 109, 101, 110, 116] : List UInt8).toArray⟩, .string ⟨([116, 101, 114, 109, 105, 110, 97, 116, 111, 114] : List UInt8).toArray⟩]) (V.buildA inf66 Try.underlying66 sz9 rfl rfl) <| jal inf66 [.string ⟨([] : List UInt8).toArray⟩, .string ⟨([] : List UInt8).toArray⟩, .string ⟨([] : List UInt8).toArray⟩, .string ⟨([] : List UInt8).toArray⟩, .string ⟨([] : List UInt8).toArray⟩, .string ⟨([] : List UInt8).toArray⟩, .string ⟨([] : List UInt8).toArray⟩, .string ⟨([] : List UInt8).toArray⟩] rfl fun b48 => js [.string ⟨([104, 101, 97, 100] : List UInt8).toArray⟩, .string ⟨([98, 111, 117, 110, 100] : List UInt8).toArray⟩, .string ⟨([108, 111, 99, 97, 108] : List UInt8).toArray⟩, .string ⟨([114, 101, 116, 117, 114, 110] : List UInt8).toArray⟩, .string ⟨([115, 105, 103, 110, 97, 116, 117, 114, 101] : List UInt8).toArray⟩, .string ⟨([98, 108, 111, 99, 107] : List UInt8).toArray⟩, .string ⟨([115, 116, 97, 116, 101, 109, 101, 110, 116] : List UInt8).toArray⟩, .string ⟨([116, 101, 114, 109, 105, 110, 97, 116, 111, 114] : List UInt8).toArray⟩] sz66 rfl rfl rfl rfl rfl rfl <| J.nil <| CJ.seq <| CJ.seq <| CJ.region ?_
 refine jv _ (V.fad Try.underlying39 rfl nz31 rfl) <| jv (ii xa.1) (V.ld rfl (Ld.sc sc31 (Rd.cl 1 rfl rfl))) <| jv (.bool (decide (xa.1 = 0))) (V.eql rfl rfl) <| jm (.bool (decide (xa.1 = 0))) rfl <| J.cut 4 <| jmeet [(12, .bool ((decide (xa.1 = 0)) || (decide (xa.2.1 < 0)))), (1, .pointer (some ⟨b47, 0, none⟩)), (3, .pointer (some ⟨b48, 0, none⟩))] ?_ ?_
 · rcases bt (decide (xa.1 = 0)) with hc51 | hc51
   · refine J.skip rfl rfl rfl rfl hc51 <| J.skip rfl rfl rfl rfl hc51 <| J.skip rfl rfl rfl rfl hc51 <| jv (.bool true) (V.pickT rfl hc51 rfl) <| J.nil ?_
     exact ⟨rfl, ⟨(by simp only [hc51]; rfl), rfl, rfl, trivial⟩, rfl, rfl⟩
   refine J.run rfl rfl rfl hc51 <| jv _ (V.fad Try.underlying39 rfl nz3 rfl) <| J.run rfl rfl rfl hc51 <| jv (ii xa.2.1) (V.ld rfl (Ld.sc sc3 (Rd.cl 1 rfl rfl))) <| J.run rfl rfl rfl hc51 <| jv (.bool (decide (xa.2.1 < 0))) (V.lss rfl rfl) <| jv (.bool (decide (xa.2.1 < 0))) (V.pickF rfl hc51 rfl) ?_
   refine J.nil ?_
   exact ⟨rfl, ⟨(by simp only [hc51]; rfl), rfl, rfl, trivial⟩, rfl, rfl⟩
 intro ρ
 refine jm (.bool ((decide (xa.1 = 0)) || (decide (xa.2.1 < 0)))) rfl <| J.cut 4 <| jmeet [(17, .bool (((decide (xa.1 = 0)) || (decide (xa.2.1 < 0))) || (decide (8 ≤ xa.2.1)))), (1, .pointer (some ⟨b47, 0, none⟩)), (3, .pointer (some ⟨b48, 0, none⟩))] ?_ ?_
 · rcases bt ((decide (xa.1 = 0)) || (decide (xa.2.1 < 0))) with hc54 | hc54
   · refine J.skip rfl rfl rfl rfl hc54 <| J.skip rfl rfl rfl rfl hc54 <| J.skip rfl rfl rfl rfl hc54 <| jv (.bool true) (V.pickT rfl hc54 rfl) <| J.nil ?_
     exact ⟨rfl, ⟨(by simp only [hc54]; rfl), rfl, rfl, trivial⟩, rfl, rfl⟩
   refine J.run rfl rfl rfl hc54 <| jv _ (V.fad Try.underlying39 rfl nz3 rfl) <| J.run rfl rfl rfl hc54 <| jv (ii xa.2.1) (V.ld rfl (Ld.sc sc3 (Rd.cl 1 rfl rfl))) <| J.run rfl rfl rfl hc54 <| jv (.bool (decide (8 ≤ xa.2.1))) (V.geq rfl rfl) <| jv (.bool (decide (8 ≤ xa.2.1))) (V.pickF rfl hc54 rfl) ?_
   refine J.nil ?_
   exact ⟨rfl, ⟨(by simp only [hc54]; rfl), rfl, rfl, trivial⟩, rfl, rfl⟩
 intro ρ
 refine J.nil <| cc rfl h (fun hc55 h => ?_) fun hc55 h => ?_
 · refine cr <| jv _ (V.fad Try.underlying39 rfl nz31 rfl) <| jv (ii xa.1) (V.ld rfl (Ld.sc sc31 (Rd.cl 1 rfl rfl))) ?_
   obtain ⟨r56, hr57, h⟩ := ob h
   refine J.op rfl (A.call (L1 := []) Try.call15 rfl (api_Errno_Error_ok hr57) rfl rfl) ?_
   rintro _ _ _ ⟨v59, _, rfl, ⟨⟨s58, rfl, rfl, rfl⟩, rfl⟩, _, rfl⟩
   refine ja (.string ⟨s58.toArray⟩) rfl <| J.nil <| CJ.ret ?_
   obtain rfl := si h
   exact ⟨_, _, Res.one rfl rfl, ⟨s58, rfl, rfl, rfl⟩, (Hp.le_refl _), fun w hs => (Sep.dropAt 0 rfl (Sep.dropAt 0 rfl hs))⟩
 refine CJ.skip <| CJ.seq <| CJ.mix [Cl b48 66 [.string ⟨([104, 101, 97, 100] : List UInt8).toArray⟩, .string ⟨([98, 111, 117, 110, 100] : List UInt8).toArray⟩, .string ⟨([108, 111, 99, 97, 108] : List UInt8).toArray⟩, .string ⟨([114, 101, 116, 117, 114, 110] : List UInt8).toArray⟩, .string ⟨([115, 105, 103, 110, 97, 116, 117, 114, 101] : List UInt8).toArray⟩, .string ⟨([98, 108, 111, 99, 107] : List UInt8).toArray⟩, .string ⟨([115, 116, 97, 116, 101, 109, 101, 110, 116] : List UInt8).toArray⟩, .string ⟨([116, 101, 114, 109, 105, 110, 97, 116, 111, 114] : List UInt8).toArray⟩], Cl b47 39 [ii xa.1, ii xa.2.1, ii xa.2.2.1, ii xa.2.2.2]] [([0, 1, 2, 3, 4, 5, 6], 7)] [8, 9] [] mixO (by decide +kernel) ⟨0, rfl, 0, rfl, trivial⟩ rfl rfl rfl <| JM.cons <| qv _ (V.fad Try.underlying39 rfl nz3 rfl) <| qv (ii xa.2.1) (V.ld rfl (Ld.sc sc3 (Rd.cl 1 rfl rfl))) ?_
 obtain ⟨x77, hx78, h⟩ := ob h
 obtain ⟨p79, p80, p81⟩ := getI_some hx78
 refine qv _ (V.iadA Try.underlying66 sz9 rfl rfl p79 p81) <| qv (.string ⟨x77.toArray⟩) (V.ld rfl (Ld.sc sc9 (Rd.cl 0 rfl (arr_get (xs := ([([104, 101, 97, 100] : List UInt8), ([98, 111, 117, 110, 100] : List UInt8), ([108, 111, 99, 97, 108] : List UInt8), ([114, 101, 116, 117, 114, 110] : List UInt8), ([115, 105, 103, 110, 97, 116, 117, 114, 101] : List UInt8), ([98, 108, 111, 99, 107] : List UInt8), ([115, 116, 97, 116, 101, 109, 101, 110, 116] : List UInt8), ([116, 101, 114, 109, 105, 110, 97, 116, 111, 114] : List UInt8)] : List (List UInt8))) (f := (fun s => Value.string ⟨s.toArray⟩)) rfl p80)))) ?_
 obtain ⟨z82, hz83, h⟩ := ob h
 refine qv (.string ⟨z82.toArray⟩) (V.cat rfl rfl hz83) <| qv _ (V.fad Try.underlying39 rfl nz31 rfl) <| qv (ii xa.1) (V.ld rfl (Ld.sc sc31 (Rd.cl 1 rfl rfl))) <| JQ.nil ?_
 obtain ⟨r84, hr85, h⟩ := ob h
 refine JA.op rfl (A.call (L1 := []) Try.call15 rfl (api_Errno_Error_ok hr85) rfl rfl) ?_
 rintro _ _ _ ⟨v87, _, rfl, ⟨⟨s86, rfl, rfl, rfl⟩, rfl⟩, _, rfl⟩
 refine ⟨fun w hs => Hold.sub (Hp.le_refl _) ⟨0, rfl, 0, rfl, trivial⟩ hs, ?_⟩
 refine JM.nil ?_
 obtain ⟨z90, hz91, h⟩ := ob h
 refine qv (.string ⟨z90.toArray⟩) (V.cat rfl rfl hz91) <| qa (.string ⟨z90.toArray⟩) rfl <| JQ.nil <| J.nil <| CJ.ret ?_
 obtain rfl := si h
 exact ⟨_, _, Res.one rfl rfl, ⟨z90, rfl, rfl, rfl⟩, (Hp.le_refl _), fun w hs => (Sep.dropAt 0 rfl (Sep.dropAt 0 rfl hs))⟩

noncomputable def fn_law21_awake  : Option Bool :=
  (fn_valid_Check_az (0, 0, [], [], [], [], [])).bind fun (i85, i86, i87, i88) => (fn_valid_Check_az (1, 1, [], [], [], [], [])).bind fun (i95, i96, i97, i98) => (cond ((((decide (i85 = 7)) && (decide (i86 = 0))) && (decide (i95 = 14))) && (decide (i96 = 2))) ((fn_valid_OK ((1, 1, [], ([[]] : List (List (Int × Bool))), [], [], ([([], (3, 0, 0, [], [], []))] : List ((List (Int × Int × Int × Int × Bool)) × (Int × Int × Int × (List Int) × (List Int) × (List Int))))))).bind fun t143 => some (t143)) (some (false))).bind fun t132 => (cond (t132) ((fn_valid_Text (i95, i96, i97, i98)).bind fun s159 => some (decide (s159 = ([108, 111, 99, 97, 108, 58, 32, 109, 105, 115, 115, 105, 110, 103] : List UInt8)))) (some (false))).bind fun t154 => some (t154)
set_option maxRecDepth 100000 in
set_option maxHeartbeats 4000000 in
theorem law21_awake_ok {K : Hp}    {r : Bool} (h : fn_law21_awake = some r) :
    Tr Try.prog 7 #[] K [] (fun v K' L' => (∃ (t82 : Bool), t82 = r ∧ .bool t82 = v ∧ L' = []) ∧ K = K') := by
 refine Tr.k <| Tr.of Try.func7 rfl Try.ntmps7 rfl fun E F => ?_
 unfold fn_law21_awake at h
 refine cr <| ja (.bool false) rfl <| J.nil <| cr <| jv (.agg #[ii 0, ii 0, nos, nos, nos, nos, nos]) (V.build inf30 places30 rfl rfl) ?_
 obtain ⟨r83, hr84, h⟩ := ob h
 refine J.op rfl (A.call (L1 := []) Try.call8 rfl (valid_Check_az_ok isNil isNil isNil isNil isNil hr84) rfl rfl) ?_
 rintro _ _ _ ⟨v89, _, rfl, ⟨⟨i85, i86, i87, i88, rfl, rfl, rfl⟩, rfl⟩, _, rfl⟩
 refine jal inf39 [ii 0, ii 0, ii 0, ii 0] rfl fun b92 => js [ii i85, ii i86, ii i87, ii i88] sz39 rfl rfl rfl rfl rfl rfl <| J.nil <| cr <| jv (.agg #[ii 1, ii 1, nos, nos, nos, nos, nos]) (V.build inf30 places30 rfl rfl) ?_
 obtain ⟨r93, hr94, h⟩ := ob h
 refine J.op rfl (A.call (L1 := []) Try.call8 rfl (valid_Check_az_ok isNil isNil isNil isNil isNil hr94) rfl rfl) ?_
 rintro _ _ _ ⟨v99, _, rfl, ⟨⟨i95, i96, i97, i98, rfl, rfl, rfl⟩, rfl⟩, _, rfl⟩
 refine jal inf39 [ii 0, ii 0, ii 0, ii 0] rfl fun b102 => js [ii i95, ii i96, ii i97, ii i98] sz39 rfl rfl rfl rfl rfl rfl <| J.nil <| cr <| jv (.agg #[nos]) (V.build inf26 places26 rfl rfl) ?_
 refine J.op rfl (A.lit (K0 := K) (ty := (.one (.sl (.cons (.int .i64) (.one .bool))))) (xs := ([[]] : List (List (Int × Bool)))) Try.underlying23 inf26 rfl (by decide) rfl rfl rfl ⟨_, _, rfl, (isNil (K := K) (t := (.cons (.int .i64) (.one .bool)))), rfl⟩ rfl (by decide)) ?_
 rintro _ _ _ ⟨b103, rfl, rfl, rfl⟩
 have hn104 : ([[]] : List (List (Int × Bool))) ≠ [] → ∃ g, (some ⟨b103, 0, none⟩ : Option Addr) = some ⟨g, 0, none⟩ := fun _ => ⟨b103, rfl⟩
 refine jv (.agg #[ii 3, ii 0, ii 0, nos, nos, nos]) (V.build inf54 places54 rfl rfl) <| jv (.agg #[nos, ii 3, ii 0, ii 0, nos, nos, nos]) (V.build inf56 places56 rfl rfl) ?_
 refine J.op rfl (A.lit (K0 := K) (ty := (.cons (.sl (.cons (.int .i64) (.cons (.int .i64) (.cons (.int .i64) (.cons (.int .i64) (.one .bool)))))) (.one (.cons (.int .i64) (.cons (.int .i64) (.cons (.int .i64) (.cons (.sl (.int .i64)) (.cons (.sl (.int .i64)) (.one (.sl (.int .i64))))))))))) (xs := ([([], (3, 0, 0, [], [], []))] : List ((List (Int × Int × Int × Int × Bool)) × (Int × Int × Int × (List Int) × (List Int) × (List Int))))) Try.underlying28 inf56 rfl (by decide) rfl rfl rfl ⟨_, _, rfl, ⟨_, _, rfl, rfl, (isNil (K := K) (t := (.cons (.int .i64) (.cons (.int .i64) (.cons (.int .i64) (.cons (.int .i64) (.one .bool))))))), ⟨_, _, rfl, rfl, rfl, ⟨_, _, rfl, rfl, rfl, ⟨_, _, rfl, rfl, rfl, ⟨_, _, rfl, rfl, (isNil (K := K) (t := (.int .i64))), ⟨_, _, rfl, rfl, (isNil (K := K) (t := (.int .i64))), (isNil (K := K) (t := (.int .i64)))⟩⟩⟩⟩⟩⟩, rfl⟩ rfl (by decide)) ?_
 rintro _ _ _ ⟨b106, rfl, rfl, rfl⟩
 have hn107 : ([([], (3, 0, 0, [], [], []))] : List ((List (Int × Int × Int × Int × Bool)) × (Int × Int × Int × (List Int) × (List Int) × (List Int)))) ≠ [] → ∃ g, (some ⟨b106, 0, none⟩ : Option Addr) = some ⟨g, 0, none⟩ := fun _ => ⟨b106, rfl⟩
 refine jv (.agg #[ii 1, ii 1, nos, .slice (some ⟨b103, 0, none⟩) ((([[]] : List (List (Int × Bool)))).length) 1, nos, nos, .slice (some ⟨b106, 0, none⟩) ((([([], (3, 0, 0, [], [], []))] : List ((List (Int × Int × Int × Int × Bool)) × (Int × Int × Int × (List Int) × (List Int) × (List Int))))).length) 1]) (V.build inf30 places30 rfl rfl) <| jal inf30 [ii 0, ii 0, nos, nos, nos, nos, nos] rfl fun b109 => js [ii 1, ii 1, nos, .slice (some ⟨b103, 0, none⟩) ((([[]] : List (List (Int × Bool)))).length) 1, nos, nos, .slice (some ⟨b106, 0, none⟩) ((([([], (3, 0, 0, [], [], []))] : List ((List (Int × Int × Int × Int × Bool)) × (Int × Int × Int × (List Int) × (List Int) × (List Int))))).length) 1] sz30 rfl rfl rfl rfl rfl rfl <| J.nil <| cr <| jv _ (V.fad Try.underlying39 rfl nz31 rfl) ?_
 refine jv (ii i85) (V.ld rfl (Ld.sc sc31 (Rd.cl 4 rfl rfl))) <| jv (.bool (decide (i85 = 7))) (V.eql rfl rfl) <| jm (.bool (decide (i85 = 7))) rfl <| J.cut 4 <| jmeet [(21, .bool ((decide (i85 = 7)) && (decide (i86 = 0)))), (2, .pointer (some ⟨b102, 0, none⟩)), (3, .pointer (some ⟨b109, 0, none⟩))] ?_ ?_
 · rcases bt (decide (i85 = 7)) with hc112 | hc112
   · refine J.run rfl rfl rfl hc112 <| jv _ (V.fad Try.underlying39 rfl nz3 rfl) <| J.run rfl rfl rfl hc112 <| jv (ii i86) (V.ld rfl (Ld.sc sc3 (Rd.cl 4 rfl rfl))) <| J.run rfl rfl rfl hc112 <| jv (.bool (decide (i86 = 0))) (V.eql rfl rfl) <| jv (.bool (decide (i86 = 0))) (V.pickT rfl hc112 rfl) ?_
     refine J.nil ?_
     exact ⟨rfl, ⟨(by simp only [hc112]; rfl), rfl, rfl, trivial⟩, rfl, rfl⟩
   refine J.skip rfl rfl rfl rfl hc112 <| J.skip rfl rfl rfl rfl hc112 <| J.skip rfl rfl rfl rfl hc112 <| jv (.bool false) (V.pickF rfl hc112 rfl) <| J.nil ?_
   exact ⟨rfl, ⟨(by simp only [hc112]; rfl), rfl, rfl, trivial⟩, rfl, rfl⟩
 intro ρ
 refine jm (.bool ((decide (i85 = 7)) && (decide (i86 = 0)))) rfl <| J.cut 4 <| jmeet [(26, .bool (((decide (i85 = 7)) && (decide (i86 = 0))) && (decide (i95 = 14)))), (2, .pointer (some ⟨b102, 0, none⟩)), (3, .pointer (some ⟨b109, 0, none⟩))] ?_ ?_
 · rcases bt ((decide (i85 = 7)) && (decide (i86 = 0))) with hc115 | hc115
   · refine J.run rfl rfl rfl hc115 <| jv _ (V.fad Try.underlying39 rfl nz31 rfl) <| J.run rfl rfl rfl hc115 <| jv (ii i95) (V.ld rfl (Ld.sc sc31 (Rd.cl 3 rfl rfl))) <| J.run rfl rfl rfl hc115 <| jv (.bool (decide (i95 = 14))) (V.eql rfl rfl) <| jv (.bool (decide (i95 = 14))) (V.pickT rfl hc115 rfl) ?_
     refine J.nil ?_
     exact ⟨rfl, ⟨(by simp only [hc115]; rfl), rfl, rfl, trivial⟩, rfl, rfl⟩
   refine J.skip rfl rfl rfl rfl hc115 <| J.skip rfl rfl rfl rfl hc115 <| J.skip rfl rfl rfl rfl hc115 <| jv (.bool false) (V.pickF rfl hc115 rfl) <| J.nil ?_
   exact ⟨rfl, ⟨(by simp only [hc115]; rfl), rfl, rfl, trivial⟩, rfl, rfl⟩
 intro ρ
 refine jm (.bool (((decide (i85 = 7)) && (decide (i86 = 0))) && (decide (i95 = 14)))) rfl <| J.cut 4 <| jmeet [(31, .bool ((((decide (i85 = 7)) && (decide (i86 = 0))) && (decide (i95 = 14))) && (decide (i96 = 2)))), (2, .pointer (some ⟨b102, 0, none⟩)), (3, .pointer (some ⟨b109, 0, none⟩))] ?_ ?_
 · rcases bt (((decide (i85 = 7)) && (decide (i86 = 0))) && (decide (i95 = 14))) with hc118 | hc118
   · refine J.run rfl rfl rfl hc118 <| jv _ (V.fad Try.underlying39 rfl nz3 rfl) <| J.run rfl rfl rfl hc118 <| jv (ii i96) (V.ld rfl (Ld.sc sc3 (Rd.cl 3 rfl rfl))) <| J.run rfl rfl rfl hc118 <| jv (.bool (decide (i96 = 2))) (V.eql rfl rfl) <| jv (.bool (decide (i96 = 2))) (V.pickT rfl hc118 rfl) ?_
     refine J.nil ?_
     exact ⟨rfl, ⟨(by simp only [hc118]; rfl), rfl, rfl, trivial⟩, rfl, rfl⟩
   refine J.skip rfl rfl rfl rfl hc118 <| J.skip rfl rfl rfl rfl hc118 <| J.skip rfl rfl rfl rfl hc118 <| jv (.bool false) (V.pickF rfl hc118 rfl) <| J.nil ?_
   exact ⟨rfl, ⟨(by simp only [hc118]; rfl), rfl, rfl, trivial⟩, rfl, rfl⟩
 intro ρ
 refine jm (.bool ((((decide (i85 = 7)) && (decide (i86 = 0))) && (decide (i95 = 14))) && (decide (i96 = 2)))) rfl <| J.cut 3 ?_
 obtain ⟨t132, ht133, h⟩ := ob h
 refine jmeet [(35, .bool t132), (2, .pointer (some ⟨b102, 0, none⟩))] ?_ ?_
 · rcases bt ((((decide (i85 = 7)) && (decide (i86 = 0))) && (decide (i95 = 14))) && (decide (i96 = 2))) with hc134 | hc134
   · have ht133 := ct hc134 ht133
     refine J.run rfl rfl rfl hc134 <| jv (.agg #[ii 1, ii 1, nos, .slice (some ⟨b103, 0, none⟩) ((([[]] : List (List (Int × Bool)))).length) 1, nos, nos, .slice (some ⟨b106, 0, none⟩) ((([([], (3, 0, 0, [], [], []))] : List ((List (Int × Int × Int × Int × Bool)) × (Int × Int × Int × (List Int) × (List Int) × (List Int))))).length) 1]) (V.ld rfl (Ld.agg (cs := [ii 1, ii 1, nos, .slice (some ⟨b103, 0, none⟩) ((([[]] : List (List (Int × Bool)))).length) 1, nos, nos, .slice (some ⟨b106, 0, none⟩) ((([([], (3, 0, 0, [], [], []))] : List ((List (Int × Int × Int × Int × Bool)) × (Int × Int × Int × (List Int) × (List Int) × (List Int))))).length) 1]) Try.underlying30 sz30 rfl (Rd.cls 0 0 rfl rfl))) <| J.run rfl rfl rfl hc134 ?_
     obtain ⟨r135, hr136, ht133⟩ := ob ht133
     refine J.front 1 rfl <| J.front 2 rfl <| J.op rfl (A.call (L1 := [Row K 26 (.one (.sl (.cons (.int .i64) (.one .bool)))) (.slice (some ⟨b103, 0, none⟩) ((([[]] : List (List (Int × Bool)))).length) 1) (([[]] : List (List (Int × Bool)))), Row K 56 (.cons (.sl (.cons (.int .i64) (.cons (.int .i64) (.cons (.int .i64) (.cons (.int .i64) (.one .bool)))))) (.one (.cons (.int .i64) (.cons (.int .i64) (.cons (.int .i64) (.cons (.sl (.int .i64)) (.cons (.sl (.int .i64)) (.one (.sl (.int .i64)))))))))) (.slice (some ⟨b106, 0, none⟩) ((([([], (3, 0, 0, [], [], []))] : List ((List (Int × Int × Int × Int × Bool)) × (Int × Int × Int × (List Int) × (List Int) × (List Int))))).length) 1) (([([], (3, 0, 0, [], [], []))] : List ((List (Int × Int × Int × Int × Bool)) × (Int × Int × Int × (List Int) × (List Int) × (List Int)))))]) Try.call10 rfl (Tr.lend (Hp.le_refl _) (by decide) (fun K137 hK138 f139 => Tr.lend (Hp.le.trans (Hp.le_refl _) hK138) (by decide) (fun K140 hK141 f142 => valid_OK_ok isNil (f139.mono hK141) isNil isNil f142 hr136))) rfl rfl) ?_
     rintro _ _ _ ⟨v144, _, rfl, ⟨⟨_, ⟨_, ⟨t143, rfl, rfl, rfl⟩, rfl⟩, rfl⟩, rfl⟩, _, rfl⟩
     refine jv (.bool t143) (V.pickT rfl hc134 rfl) <| J.front 4 rfl <| J.front 4 rfl <| J.front 2 rfl <| J.front 3 rfl <| J.front 4 rfl <| J.nil ?_
     obtain rfl := si ht133
     exact ⟨rfl, ⟨rfl, rfl, trivial⟩, rfl, rfl⟩
   have ht133 := cf hc134 ht133
   refine J.skip rfl rfl rfl rfl hc134 <| J.skip rfl rfl rfl rfl hc134 <| jv (.bool false) (V.pickF rfl hc134 rfl) <| J.nil ?_
   obtain rfl := si ht133
   exact ⟨rfl, ⟨rfl, rfl, trivial⟩, rfl, rfl⟩
 intro ρ
 refine jm (.bool t132) rfl <| J.cut 4 ?_
 obtain ⟨t154, ht155, h⟩ := ob h
 refine jmeet [(40, .bool t154)] ?_ ?_
 · rcases bt (t132) with hc156 | hc156
   · have ht155 := ct hc156 ht155
     refine J.run rfl rfl rfl hc156 <| jv (.agg #[ii i95, ii i96, ii i97, ii i98]) (V.ld rfl (Ld.agg (cs := [ii i95, ii i96, ii i97, ii i98]) Try.underlying39 sz39 rfl (Rd.cls 3 0 rfl rfl))) <| J.run rfl rfl rfl hc156 ?_
     obtain ⟨r157, hr158, ht155⟩ := ob ht155
     refine J.op rfl (A.call (L1 := []) Try.call13 rfl (valid_Text_ok hr158) rfl rfl) ?_
     rintro _ _ _ ⟨v160, _, rfl, ⟨⟨s159, rfl, rfl, rfl⟩, rfl⟩, _, rfl⟩
     refine J.run rfl rfl rfl hc156 <| jv (.bool (decide (s159 = ([108, 111, 99, 97, 108, 58, 32, 109, 105, 115, 115, 105, 110, 103] : List UInt8)))) (V.eqs rfl rfl) <| jv (.bool (decide (s159 = ([108, 111, 99, 97, 108, 58, 32, 109, 105, 115, 115, 105, 110, 103] : List UInt8)))) (V.pickT rfl hc156 rfl) <| J.nil ?_
     obtain rfl := si ht155
     exact ⟨rfl, ⟨rfl, trivial⟩, rfl, rfl⟩
   have ht155 := cf hc156 ht155
   refine J.skip rfl rfl rfl rfl hc156 <| J.skip rfl rfl rfl rfl hc156 <| J.skip rfl rfl rfl rfl hc156 <| jv (.bool false) (V.pickF rfl hc156 rfl) <| J.nil ?_
   obtain rfl := si ht155
   exact ⟨rfl, ⟨rfl, trivial⟩, rfl, rfl⟩
 intro ρ
 refine ja (.bool t154) rfl <| J.nil <| CJ.ret ?_
 obtain rfl := si h
 exact ⟨_, _, Res.one rfl rfl, ⟨t154, rfl, rfl, rfl⟩, (Hp.le_refl _), fun w hs => (Sep.dropAt 0 rfl (Sep.dropAt 0 rfl (Sep.dropAt 0 rfl (Sep.dropAt 0 rfl (Sep.dropAt 0 rfl hs)))))⟩

noncomputable def fn_law21_ValidStays (xa : (Int × Int × (List (Int × Int)) × (List (List (Int × Bool))) × (List (Int × Bool)) × (List (Int × (List (Int × Int)) × (List (List (Int × Bool))) × (List (Int × Bool)))) × (List ((List (Int × Int × Int × Int × Bool)) × (Int × Int × Int × (List Int) × (List Int) × (List Int)))))) (xb : (Int × Int)) (xc : Int) (xd : Int) : Option Bool :=
  (fn_ref20_Small (xa.1, xa.2.1, xa.2.2.1, xa.2.2.2.1, xa.2.2.2.2.1, xa.2.2.2.2.2.1, xa.2.2.2.2.2.2)).bind fun t478 => (cond (!t478) (some (true)) ((fn_ref21_OK (xa.1, xa.2.1, xa.2.2.1, xa.2.2.2.1, xa.2.2.2.2.1, xa.2.2.2.2.2.1, xa.2.2.2.2.2.2)).bind fun t494 => some (!t494))).bind fun t489 => cond (t489) ((fn_valid_OK (xa.1, xa.2.1, xa.2.2.1, xa.2.2.2.1, xa.2.2.2.2.1, xa.2.2.2.2.2.1, xa.2.2.2.2.2.2)).bind fun t520 => (fn_ref21_OK (xa.1, xa.2.1, xa.2.2.1, xa.2.2.2.1, xa.2.2.2.2.1, xa.2.2.2.2.2.1, xa.2.2.2.2.2.2)).bind fun t526 => cond (t520 == t526) ((fn_law21_awake).bind fun t533 => some (t533)) (some (false))) (((app (([] : List (Int × Int))) xa.2.2.1).bind fun z695 => (app z695 (([(xb.1, xb.2)] : List (Int × Int)))).bind fun z704 => some (z704) : Option ((List (Int × Int)))).bind fun l636 => (fn_valid_OK (xa.1, xa.2.1, l636, xa.2.2.2.1, xa.2.2.2.2.1, xa.2.2.2.2.2.1, xa.2.2.2.2.2.2)).bind fun t757 => cond (!(t757 == ((((decide (0 ≤ xb.1)) && (decide (xb.1 < xa.1))) && (decide (0 ≤ xb.2))) && (decide (xb.2 < xa.1))))) (some (false)) ((cond (((decide (xc < 0)) || (decide ((((xa.2.2.2.2.2.2.length : Nat) : Int)) ≤ xc))) || (decide (xd < 0))) (some (true)) ((getI xa.2.2.2.2.2.2 xc).bind fun x785 => some (decide ((((x785.1.length : Nat) : Int)) ≤ xd)))).bind fun t782 => cond (t782) ((fn_valid_OK (xa.1, xa.2.1, xa.2.2.1, xa.2.2.2.1, xa.2.2.2.2.1, xa.2.2.2.2.2.1, xa.2.2.2.2.2.2)).bind fun t801 => (cond (t801) ((fn_law21_awake).bind fun t817 => some (t817)) (some (false))).bind fun t812 => some (t812)) ((app (([] : List ((List (Int × Int × Int × Int × Bool)) × (Int × Int × Int × (List Int) × (List Int) × (List Int))))) xa.2.2.2.2.2.2).bind fun z825 => (getI xa.2.2.2.2.2.2 xc).bind fun x831 => (subL x831.1 0 xd).bind fun y878 => (subL x831.1 (IntKind.wrap .i64 (xd + 1)) (((x831.1.length : Nat) : Int))).bind fun y884 => (app (([] : List (Int × Int × Int × Int × Bool))) y878).bind fun z893 => (app z893 y884).bind fun z899 => (getI z825 xc).bind fun x905 => (some (z825.set xc.toNat ((z899, (x905.2.1, x905.2.2.1, x905.2.2.2.1, x905.2.2.2.2.1, x905.2.2.2.2.2.1, x905.2.2.2.2.2.2))))).bind fun z915 => (fn_valid_OK (xa.1, xa.2.1, xa.2.2.1, xa.2.2.2.1, xa.2.2.2.2.1, xa.2.2.2.2.2.1, z915)).bind fun t925 => (cond (t925) ((fn_law21_awake).bind fun t942 => some (t942)) (some (false))).bind fun t937 => some (t937))))
set_option maxRecDepth 100000 in
set_option maxHeartbeats 4000000 in
theorem law21_ValidStays_ok {K : Hp} {xa : (Int × Int × (List (Int × Int)) × (List (List (Int × Bool))) × (List (Int × Bool)) × (List (Int × (List (Int × Int)) × (List (List (Int × Bool))) × (List (Int × Bool)))) × (List ((List (Int × Int × Int × Int × Bool)) × (Int × Int × Int × (List Int) × (List Int) × (List Int)))))} {xb : (Int × Int)} {xc : Int} {xd : Int} {adxa_2 : Option Addr} {cpxa_2 : Nat} {adxa_3 : Option Addr} {cpxa_3 : Nat} {adxa_4 : Option Addr} {cpxa_4 : Nat} {adxa_5 : Option Addr} {cpxa_5 : Nat} {adxa_6 : Option Addr} {cpxa_6 : Nat} (fxa_2 : Is K (.sl (.cons (.int .i64) (.one (.int .i64)))) [.slice adxa_2 xa.2.2.1.length cpxa_2] xa.2.2.1) (fxa_3 : Is K (.sl (.one (.sl (.cons (.int .i64) (.one .bool))))) [.slice adxa_3 xa.2.2.2.1.length cpxa_3] xa.2.2.2.1) (fxa_4 : Is K (.sl (.cons (.int .i64) (.one .bool))) [.slice adxa_4 xa.2.2.2.2.1.length cpxa_4] xa.2.2.2.2.1) (fxa_5 : Is K (.sl (.cons (.int .i64) (.cons (.sl (.cons (.int .i64) (.one (.int .i64)))) (.cons (.sl (.one (.sl (.cons (.int .i64) (.one .bool))))) (.one (.one (.sl (.cons (.int .i64) (.one .bool))))))))) [.slice adxa_5 xa.2.2.2.2.2.1.length cpxa_5] xa.2.2.2.2.2.1) (fxa_6 : Is K (.sl (.cons (.sl (.cons (.int .i64) (.cons (.int .i64) (.cons (.int .i64) (.cons (.int .i64) (.one .bool)))))) (.one (.cons (.int .i64) (.cons (.int .i64) (.cons (.int .i64) (.cons (.sl (.int .i64)) (.cons (.sl (.int .i64)) (.one (.sl (.int .i64))))))))))) [.slice adxa_6 xa.2.2.2.2.2.2.length cpxa_6] xa.2.2.2.2.2.2) {r : Bool} (h : fn_law21_ValidStays xa xb xc xd = some r) :
    Tr Try.prog 4 #[.agg #[ii xa.1, ii xa.2.1, .slice adxa_2 xa.2.2.1.length cpxa_2, .slice adxa_3 xa.2.2.2.1.length cpxa_3, .slice adxa_4 xa.2.2.2.2.1.length cpxa_4, .slice adxa_5 xa.2.2.2.2.2.1.length cpxa_5, .slice adxa_6 xa.2.2.2.2.2.2.length cpxa_6], .agg #[ii xb.1, ii xb.2], ii xc, ii xd] K [] (fun v K' L' => (∃ (t473 : Bool), t473 = r ∧ .bool t473 = v ∧ L' = []) ∧ K = K') := by
 refine Tr.k <| Tr.of Try.func4 rfl Try.ntmps4 rfl fun E F => ?_
 unfold fn_law21_ValidStays at h
 refine cr <| jbx [ii xa.1, ii xa.2.1, .slice adxa_2 xa.2.2.1.length cpxa_2, .slice adxa_3 xa.2.2.2.1.length cpxa_3, .slice adxa_4 xa.2.2.2.2.1.length cpxa_4, .slice adxa_5 xa.2.2.2.2.2.1.length cpxa_5, .slice adxa_6 xa.2.2.2.2.2.2.length cpxa_6] rfl rfl fun b474 => jbx [ii xb.1, ii xb.2] rfl rfl fun b475 => ja (.bool false) rfl <| J.nil <| CJ.seq ?_
 refine cr <| jv (.agg #[ii xa.1, ii xa.2.1, .slice adxa_2 xa.2.2.1.length cpxa_2, .slice adxa_3 xa.2.2.2.1.length cpxa_3, .slice adxa_4 xa.2.2.2.2.1.length cpxa_4, .slice adxa_5 xa.2.2.2.2.2.1.length cpxa_5, .slice adxa_6 xa.2.2.2.2.2.2.length cpxa_6]) (V.ld rfl (Ld.agg (cs := [ii xa.1, ii xa.2.1, .slice adxa_2 xa.2.2.1.length cpxa_2, .slice adxa_3 xa.2.2.2.1.length cpxa_3, .slice adxa_4 xa.2.2.2.2.1.length cpxa_4, .slice adxa_5 xa.2.2.2.2.2.1.length cpxa_5, .slice adxa_6 xa.2.2.2.2.2.2.length cpxa_6]) Try.underlying30 sz30 rfl (Rd.cls 1 0 rfl rfl))) ?_
 obtain ⟨r476, hr477, h⟩ := ob h
 refine J.op rfl (A.call (L1 := []) Try.call6 rfl (ref20_Small_ok fxa_2 fxa_3 fxa_4 fxa_5 fxa_6 hr477) rfl rfl) ?_
 rintro _ _ _ ⟨v479, _, rfl, ⟨⟨t478, rfl, rfl, rfl⟩, rfl⟩, _, rfl⟩
 refine jv (.bool (!t478)) (V.not rfl) <| jm (.bool (!t478)) rfl <| J.cut 4 ?_
 obtain ⟨t489, ht490, h⟩ := ob h
 refine jmeet [(20, .bool t489), (2, ii xc), (3, ii xd), (4, .pointer (some ⟨b474, 0, none⟩)), (5, .pointer (some ⟨b475, 0, none⟩))] ?_ ?_
 · rcases bt (!t478) with hc491 | hc491
   · have ht490 := ct hc491 ht490
     refine J.skip rfl rfl rfl rfl hc491 <| J.skip rfl rfl rfl rfl hc491 <| J.skip rfl rfl rfl rfl hc491 <| jv (.bool true) (V.pickT rfl hc491 rfl) <| J.nil ?_
     obtain rfl := si ht490
     exact ⟨rfl, ⟨rfl, rfl, rfl, rfl, rfl, trivial⟩, rfl, rfl⟩
   have ht490 := cf hc491 ht490
   refine J.run rfl rfl rfl hc491 <| jv (.agg #[ii xa.1, ii xa.2.1, .slice adxa_2 xa.2.2.1.length cpxa_2, .slice adxa_3 xa.2.2.2.1.length cpxa_3, .slice adxa_4 xa.2.2.2.2.1.length cpxa_4, .slice adxa_5 xa.2.2.2.2.2.1.length cpxa_5, .slice adxa_6 xa.2.2.2.2.2.2.length cpxa_6]) (V.ld rfl (Ld.agg (cs := [ii xa.1, ii xa.2.1, .slice adxa_2 xa.2.2.1.length cpxa_2, .slice adxa_3 xa.2.2.2.1.length cpxa_3, .slice adxa_4 xa.2.2.2.2.1.length cpxa_4, .slice adxa_5 xa.2.2.2.2.2.1.length cpxa_5, .slice adxa_6 xa.2.2.2.2.2.2.length cpxa_6]) Try.underlying30 sz30 rfl (Rd.cls 1 0 rfl rfl))) <| J.run rfl rfl rfl hc491 ?_
   obtain ⟨r492, hr493, ht490⟩ := ob ht490
   refine J.op rfl (A.call (L1 := []) Try.call16 rfl (ref21_OK_ok fxa_2 fxa_3 fxa_4 fxa_5 fxa_6 hr493) rfl rfl) ?_
   rintro _ _ _ ⟨v495, _, rfl, ⟨⟨t494, rfl, rfl, rfl⟩, rfl⟩, _, rfl⟩
   refine J.run rfl rfl rfl hc491 <| jv (.bool (!t494)) (V.not rfl) <| jv (.bool (!t494)) (V.pickF rfl hc491 rfl) <| J.nil ?_
   obtain rfl := si ht490
   exact ⟨rfl, ⟨rfl, rfl, rfl, rfl, rfl, trivial⟩, rfl, rfl⟩
 intro ρ
 refine J.nil <| cc rfl h (fun hc498 h => ?_) fun hc498 h => ?_
 · refine CJ.seq <| CJ.mix [Cl b475 50 [ii xb.1, ii xb.2], Cl b474 30 [ii xa.1, ii xa.2.1, .slice adxa_2 xa.2.2.1.length cpxa_2, .slice adxa_3 xa.2.2.2.1.length cpxa_3, .slice adxa_4 xa.2.2.2.2.1.length cpxa_4, .slice adxa_5 xa.2.2.2.2.2.1.length cpxa_5, .slice adxa_6 xa.2.2.2.2.2.2.length cpxa_6]] [([0, 2], 1), ([], 3), ([4, 5], 6)] [] [7, 8] mixO (by decide +kernel) ⟨0, rfl, 0, rfl, trivial⟩ rfl rfl rfl <| JM.cons <| qv (.agg #[ii xa.1, ii xa.2.1, .slice adxa_2 xa.2.2.1.length cpxa_2, .slice adxa_3 xa.2.2.2.1.length cpxa_3, .slice adxa_4 xa.2.2.2.2.1.length cpxa_4, .slice adxa_5 xa.2.2.2.2.2.1.length cpxa_5, .slice adxa_6 xa.2.2.2.2.2.2.length cpxa_6]) (V.ld rfl (Ld.agg (cs := [ii xa.1, ii xa.2.1, .slice adxa_2 xa.2.2.1.length cpxa_2, .slice adxa_3 xa.2.2.2.1.length cpxa_3, .slice adxa_4 xa.2.2.2.2.1.length cpxa_4, .slice adxa_5 xa.2.2.2.2.2.1.length cpxa_5, .slice adxa_6 xa.2.2.2.2.2.2.length cpxa_6]) Try.underlying30 sz30 rfl (Rd.cls 1 0 rfl rfl))) <| qv (.agg #[ii xa.1, ii xa.2.1, .slice adxa_2 xa.2.2.1.length cpxa_2, .slice adxa_3 xa.2.2.2.1.length cpxa_3, .slice adxa_4 xa.2.2.2.2.1.length cpxa_4, .slice adxa_5 xa.2.2.2.2.2.1.length cpxa_5, .slice adxa_6 xa.2.2.2.2.2.2.length cpxa_6]) (V.ld rfl (Ld.agg (cs := [ii xa.1, ii xa.2.1, .slice adxa_2 xa.2.2.1.length cpxa_2, .slice adxa_3 xa.2.2.2.1.length cpxa_3, .slice adxa_4 xa.2.2.2.2.1.length cpxa_4, .slice adxa_5 xa.2.2.2.2.2.1.length cpxa_5, .slice adxa_6 xa.2.2.2.2.2.2.length cpxa_6]) Try.underlying30 sz30 rfl (Rd.cls 1 0 rfl rfl))) <| JQ.nil ?_
   obtain ⟨r518, hr519, h⟩ := ob h
   refine JA.op rfl (A.call (L1 := []) Try.call10 rfl (valid_OK_ok fxa_2 fxa_3 fxa_4 fxa_5 fxa_6 hr519) rfl rfl) ?_
   rintro _ _ _ ⟨v521, _, rfl, ⟨⟨t520, rfl, rfl, rfl⟩, rfl⟩, _, rfl⟩
   refine ⟨fun w hs => Hold.sub (Hp.le_refl _) ⟨0, rfl, 0, rfl, trivial⟩ hs, ?_⟩
   refine JM.cons <| JQ.nil ?_
   obtain ⟨r524, hr525, h⟩ := ob h
   refine JA.op rfl (A.call (L1 := []) Try.call16 rfl (ref21_OK_ok fxa_2 fxa_3 fxa_4 fxa_5 fxa_6 hr525) rfl rfl) ?_
   rintro _ _ _ ⟨v527, _, rfl, ⟨⟨t526, rfl, rfl, rfl⟩, rfl⟩, _, rfl⟩
   refine ⟨fun w hs => Hold.sub (Hp.le_refl _) ⟨0, rfl, 0, rfl, trivial⟩ hs, ?_⟩
   refine JM.cons <| qv (.bool (t520 == t526)) (V.eqb Try.underlying4 rfl rfl) <| qm (.bool (t520 == t526)) rfl <| JQ.nil ?_
   rcases bt (t520 == t526) with hc530 | hc530
   · have h := ct hc530 h
     refine JA.run rfl rfl rfl hc530 ?_
     obtain ⟨r531, hr532, h⟩ := ob h
     refine JA.op rfl (A.call (L1 := []) Try.call7 rfl (law21_awake_ok hr532) rfl rfl) ?_
     rintro _ _ _ ⟨v534, _, rfl, ⟨⟨t533, rfl, rfl, rfl⟩, rfl⟩, _, rfl⟩
     refine ⟨fun w hs => Hold.sub (Hp.le_refl _) ⟨0, rfl, 0, rfl, trivial⟩ hs, ?_⟩
     refine JM.nil <| JQ.nil <| jv (.bool t533) (V.pickT rfl hc530 rfl) <| ja (.bool t533) rfl <| J.nil <| CJ.ret ?_
     obtain rfl := si h
     exact ⟨_, _, Res.one rfl rfl, ⟨t533, rfl, rfl, rfl⟩, (Hp.le_refl _), fun w hs => (Sep.dropAt 0 rfl (Sep.dropAt 0 rfl hs))⟩
   have h := cf hc530 h
   refine JA.skip rfl rfl rfl rfl hc530 <| JM.nil <| JQ.nil <| jv (.bool false) (V.pickF rfl hc530 rfl) <| ja (.bool false) rfl <| J.nil <| CJ.ret ?_
   obtain rfl := si h
   exact ⟨_, _, Res.one rfl rfl, ⟨false, rfl, rfl, rfl⟩, (Hp.le_refl _), fun w hs => (Sep.dropAt 0 rfl (Sep.dropAt 0 rfl hs))⟩
 refine CJ.skip <| cr <| jv (.agg #[ii xa.1, ii xa.2.1, .slice adxa_2 xa.2.2.1.length cpxa_2, .slice adxa_3 xa.2.2.2.1.length cpxa_3, .slice adxa_4 xa.2.2.2.2.1.length cpxa_4, .slice adxa_5 xa.2.2.2.2.2.1.length cpxa_5, .slice adxa_6 xa.2.2.2.2.2.2.length cpxa_6]) (V.ld rfl (Ld.agg (cs := [ii xa.1, ii xa.2.1, .slice adxa_2 xa.2.2.1.length cpxa_2, .slice adxa_3 xa.2.2.2.1.length cpxa_3, .slice adxa_4 xa.2.2.2.2.1.length cpxa_4, .slice adxa_5 xa.2.2.2.2.2.1.length cpxa_5, .slice adxa_6 xa.2.2.2.2.2.2.length cpxa_6]) Try.underlying30 sz30 rfl (Rd.cls 1 0 rfl rfl))) <| jal inf30 [ii 0, ii 0, nos, nos, nos, nos, nos] rfl fun b537 => js [ii xa.1, ii xa.2.1, .slice adxa_2 xa.2.2.1.length cpxa_2, .slice adxa_3 xa.2.2.2.1.length cpxa_3, .slice adxa_4 xa.2.2.2.2.1.length cpxa_4, .slice adxa_5 xa.2.2.2.2.2.1.length cpxa_5, .slice adxa_6 xa.2.2.2.2.2.2.length cpxa_6] sz30 rfl rfl rfl rfl rfl rfl <| J.nil ?_
 refine CJ.seq ?_
 obtain ⟨o641, ho642, h⟩ := ob h
 refine CJ.meetN (fun ρ K' L' => ∃ (l636 : (List (Int × Int))) (ad637 : Option Addr) (cp638 : Nat), l636 = o641 ∧ Fits [(2, ii xc), (3, ii xd), (4, .pointer (some ⟨b474, 0, none⟩)), (5, .pointer (some ⟨b475, 0, none⟩)), (9, .pointer (some ⟨b537, 0, none⟩))] ρ ∧ K = K' ∧ L' = Cl b474 30 [ii xa.1, ii xa.2.1, .slice adxa_2 xa.2.2.1.length cpxa_2, .slice adxa_3 xa.2.2.2.1.length cpxa_3, .slice adxa_4 xa.2.2.2.2.1.length cpxa_4, .slice adxa_5 xa.2.2.2.2.2.1.length cpxa_5, .slice adxa_6 xa.2.2.2.2.2.2.length cpxa_6] :: Cl b475 50 [ii xb.1, ii xb.2] :: Cl b537 30 [ii xa.1, ii xa.2.1, .slice ad637 l636.length cp638, .slice adxa_3 xa.2.2.2.1.length cpxa_3, .slice adxa_4 xa.2.2.2.2.1.length cpxa_4, .slice adxa_5 xa.2.2.2.2.2.1.length cpxa_5, .slice adxa_6 xa.2.2.2.2.2.2.length cpxa_6] :: Row Hp.nil 50 (.cons (.int .i64) (.one (.int .i64))) (.slice ad637 l636.length cp638) l636 :: F) ?_ ?_
 · refine CJ.tree [Cl b475 50 [ii xb.1, ii xb.2], Cl b474 30 [ii xa.1, ii xa.2.1, .slice adxa_2 xa.2.2.1.length cpxa_2, .slice adxa_3 xa.2.2.2.1.length cpxa_3, .slice adxa_4 xa.2.2.2.2.1.length cpxa_4, .slice adxa_5 xa.2.2.2.2.2.1.length cpxa_5, .slice adxa_6 xa.2.2.2.2.2.2.length cpxa_6]] (.still [1, 2, 4] (.alt 0 (.alt 3 (.alt 5 (.alt 6 (.still [7] (.alt 8 (.leaf []) .done)) .done) .done) (.alt 5 (.alt 3 (.alt 6 (.still [7] (.alt 8 (.leaf []) .done)) .done) .done) .done)) (.alt 5 (.alt 0 (.alt 3 (.alt 6 (.still [7] (.alt 8 (.leaf []) .done)) .done) .done) .done) .done))) [] mixO (by decide +kernel) ⟨1, rfl, 1, rfl, trivial⟩ rfl <| JT.still rfl <| qv _ (V.fad Try.underlying30 rfl nz22 rfl) <| qv (.slice adxa_2 xa.2.2.1.length cpxa_2) (V.ld rfl (Ld.sc sc22 (Rd.cl 1 rfl rfl))) <| qv (.agg #[ii xb.1, ii xb.2]) (V.ld rfl (Ld.agg (cs := [ii xb.1, ii xb.2]) Try.underlying50 sz50 rfl (Rd.cls 0 0 rfl rfl))) <| JQ.nil <| JT.alt rfl ?_ ?_
   · refine JB.op rfl (A.lit (K0 := Hp.nil) (ty := (.cons (.int .i64) (.one (.int .i64)))) (xs := ([] : List (Int × Int))) Try.underlying22 inf50 rfl (by decide) rfl rfl rfl rfl rfl (by decide)) ?_
     rintro _ _ _ ⟨b692, rfl, rfl, rfl⟩
     have hn693 : ([] : List (Int × Int)) ≠ [] → ∃ g, (some ⟨b692, 0, none⟩ : Option Addr) = some ⟨g, 0, none⟩ := fun _ => ⟨b692, rfl⟩
     refine ⟨fun w hs => Hold.sub (Hp.le_refl _) ⟨2, rfl, 2, rfl, trivial⟩ hs, ?_⟩
     obtain ⟨z695, hz696, ho642⟩ := ob ho642
     refine JT.alt rfl ?_ ?_
     · refine JB.op rfl (A.appP (Kr := Hp.nil) (K1 := K) Try.underlying22 inf50 rfl rfl (by decide) (by decide) rfl rfl fxa_2 (Hp.le_refl _) (Els.flat rfl) (Els.flat rfl) hz696) ?_
       rintro _ _ _ ⟨v697, rfl, rfl, rfl⟩
       refine ⟨fun w hs => Hold.sub (Hp.le_refl _) ⟨2, rfl, 2, rfl, trivial⟩ hs, ?_⟩
       refine JT.wit Row.form ?_
       rintro ⟨ad698, cp699, rfl, _, _, hn700⟩
       refine JT.alt rfl ?_ JT.done
       refine JB.op rfl (A.lit (K0 := Hp.nil) (ty := (.cons (.int .i64) (.one (.int .i64)))) (xs := ([(xb.1, xb.2)] : List (Int × Int))) Try.underlying22 inf50 rfl (by decide) rfl rfl rfl ⟨_, _, rfl, ⟨_, _, rfl, rfl, rfl, rfl⟩, rfl⟩ rfl (by decide)) ?_
       rintro _ _ _ ⟨b701, rfl, rfl, rfl⟩
       have hn702 : ([(xb.1, xb.2)] : List (Int × Int)) ≠ [] → ∃ g, (some ⟨b701, 0, none⟩ : Option Addr) = some ⟨g, 0, none⟩ := fun _ => ⟨b701, rfl⟩
       refine ⟨fun w hs => Hold.sub (Hp.le_refl _) ⟨3, rfl, 3, rfl, trivial⟩ hs, ?_⟩
       refine JT.alt rfl ?_ JT.done
       obtain ⟨z704, hz705, ho642⟩ := ob ho642
       refine JB.front 1 rfl <| JB.op rfl (A.appR (Kr := Hp.nil) Try.underlying22 inf50 rfl rfl (by decide) (by decide) rfl rfl (Els.flat rfl) (Els.flat rfl) hz705) ?_
       rintro _ _ _ ⟨v706, rfl, rfl, rfl⟩
       refine ⟨fun w hs => Hold.sub (Hp.le_refl _) ⟨2, rfl, 2, rfl, trivial⟩ hs, ?_⟩
       refine JT.wit Row.form ?_
       rintro ⟨ad707, cp708, rfl, _, _, hn709⟩
       refine JT.still rfl <| qv _ (V.fad Try.underlying30 rfl nz22 rfl) <| JQ.nil <| JT.alt rfl ?_ JT.done
       refine JB.front 1 rfl <| JB.op rfl (A.store1 (v := .slice ad707 z704.length cp708) (cs' := [ii xa.1, ii xa.2.1, .slice ad707 z704.length cp708, .slice adxa_3 xa.2.2.2.1.length cpxa_3, .slice adxa_4 xa.2.2.2.2.1.length cpxa_4, .slice adxa_5 xa.2.2.2.2.2.1.length cpxa_5, .slice adxa_6 xa.2.2.2.2.2.2.length cpxa_6]) sz22 rfl rfl rfl rfl rfl rfl) ?_
       rintro _ _ _ ⟨rfl, rfl, rfl⟩
       refine ⟨fun w hs => Hold.sub (Hp.le_refl _) ⟨2, rfl, 2, rfl, trivial⟩ hs, ?_⟩
       refine JT.leaf rfl <| JQ.nil <| J.front 1 rfl <| J.front 1 rfl <| J.front 2 rfl <| J.front 3 rfl <| J.nil ?_
       obtain rfl := si ho642
       exact ⟨rfl, ⟨z704, ad707, cp708, rfl, ⟨rfl, rfl, rfl, rfl, rfl, trivial⟩, rfl, rfl⟩⟩
     refine JT.alt rfl ?_ JT.done
     refine JB.op rfl (A.lit (K0 := Hp.nil) (ty := (.cons (.int .i64) (.one (.int .i64)))) (xs := ([(xb.1, xb.2)] : List (Int × Int))) Try.underlying22 inf50 rfl (by decide) rfl rfl rfl ⟨_, _, rfl, ⟨_, _, rfl, rfl, rfl, rfl⟩, rfl⟩ rfl (by decide)) ?_
     rintro _ _ _ ⟨b710, rfl, rfl, rfl⟩
     have hn711 : ([(xb.1, xb.2)] : List (Int × Int)) ≠ [] → ∃ g, (some ⟨b710, 0, none⟩ : Option Addr) = some ⟨g, 0, none⟩ := fun _ => ⟨b710, rfl⟩
     refine ⟨fun w hs => Hold.sub (Hp.le_refl _) ⟨3, rfl, 3, rfl, trivial⟩ hs, ?_⟩
     refine JT.alt rfl ?_ JT.done
     refine JB.front 1 rfl <| JB.op rfl (A.appP (Kr := Hp.nil) (K1 := K) Try.underlying22 inf50 rfl rfl (by decide) (by decide) rfl rfl fxa_2 (Hp.le_refl _) (Els.flat rfl) (Els.flat rfl) hz696) ?_
     rintro _ _ _ ⟨v713, rfl, rfl, rfl⟩
     refine ⟨fun w hs => Hold.sub (Hp.le_refl _) ⟨3, rfl, 3, rfl, trivial⟩ hs, ?_⟩
     refine JT.wit Row.form ?_
     rintro ⟨ad714, cp715, rfl, _, _, hn716⟩
     refine JT.alt rfl ?_ JT.done
     obtain ⟨z717, hz718, ho642⟩ := ob ho642
     refine JB.front 1 rfl <| JB.front 1 rfl <| JB.op rfl (A.appR (Kr := Hp.nil) Try.underlying22 inf50 rfl rfl (by decide) (by decide) rfl rfl (Els.flat rfl) (Els.flat rfl) hz718) ?_
     rintro _ _ _ ⟨v719, rfl, rfl, rfl⟩
     refine ⟨fun w hs => Hold.sub (Hp.le_refl _) ⟨2, rfl, 2, rfl, trivial⟩ hs, ?_⟩
     refine JT.wit Row.form ?_
     rintro ⟨ad720, cp721, rfl, _, _, hn722⟩
     refine JT.still rfl <| qv _ (V.fad Try.underlying30 rfl nz22 rfl) <| JQ.nil <| JT.alt rfl ?_ JT.done
     refine JB.front 1 rfl <| JB.op rfl (A.store1 (v := .slice ad720 z717.length cp721) (cs' := [ii xa.1, ii xa.2.1, .slice ad720 z717.length cp721, .slice adxa_3 xa.2.2.2.1.length cpxa_3, .slice adxa_4 xa.2.2.2.2.1.length cpxa_4, .slice adxa_5 xa.2.2.2.2.2.1.length cpxa_5, .slice adxa_6 xa.2.2.2.2.2.2.length cpxa_6]) sz22 rfl rfl rfl rfl rfl rfl) ?_
     rintro _ _ _ ⟨rfl, rfl, rfl⟩
     refine ⟨fun w hs => Hold.sub (Hp.le_refl _) ⟨2, rfl, 2, rfl, trivial⟩ hs, ?_⟩
     refine JT.leaf rfl <| JQ.nil <| J.front 1 rfl <| J.front 1 rfl <| J.front 2 rfl <| J.front 3 rfl <| J.nil ?_
     obtain rfl := si ho642
     exact ⟨rfl, ⟨z717, ad720, cp721, rfl, ⟨rfl, rfl, rfl, rfl, rfl, trivial⟩, rfl, rfl⟩⟩
   refine JT.alt rfl ?_ JT.done
   refine JB.op rfl (A.lit (K0 := Hp.nil) (ty := (.cons (.int .i64) (.one (.int .i64)))) (xs := ([(xb.1, xb.2)] : List (Int × Int))) Try.underlying22 inf50 rfl (by decide) rfl rfl rfl ⟨_, _, rfl, ⟨_, _, rfl, rfl, rfl, rfl⟩, rfl⟩ rfl (by decide)) ?_
   rintro _ _ _ ⟨b723, rfl, rfl, rfl⟩
   have hn724 : ([(xb.1, xb.2)] : List (Int × Int)) ≠ [] → ∃ g, (some ⟨b723, 0, none⟩ : Option Addr) = some ⟨g, 0, none⟩ := fun _ => ⟨b723, rfl⟩
   refine ⟨fun w hs => Hold.sub (Hp.le_refl _) ⟨2, rfl, 2, rfl, trivial⟩ hs, ?_⟩
   refine JT.alt rfl ?_ JT.done
   refine JB.op rfl (A.lit (K0 := Hp.nil) (ty := (.cons (.int .i64) (.one (.int .i64)))) (xs := ([] : List (Int × Int))) Try.underlying22 inf50 rfl (by decide) rfl rfl rfl rfl rfl (by decide)) ?_
   rintro _ _ _ ⟨b726, rfl, rfl, rfl⟩
   have hn727 : ([] : List (Int × Int)) ≠ [] → ∃ g, (some ⟨b726, 0, none⟩ : Option Addr) = some ⟨g, 0, none⟩ := fun _ => ⟨b726, rfl⟩
   refine ⟨fun w hs => Hold.sub (Hp.le_refl _) ⟨3, rfl, 3, rfl, trivial⟩ hs, ?_⟩
   refine JT.alt rfl ?_ JT.done
   obtain ⟨z729, hz730, ho642⟩ := ob ho642
   refine JB.op rfl (A.appP (Kr := Hp.nil) (K1 := K) Try.underlying22 inf50 rfl rfl (by decide) (by decide) rfl rfl fxa_2 (Hp.le_refl _) (Els.flat rfl) (Els.flat rfl) hz730) ?_
   rintro _ _ _ ⟨v731, rfl, rfl, rfl⟩
   refine ⟨fun w hs => Hold.sub (Hp.le_refl _) ⟨3, rfl, 3, rfl, trivial⟩ hs, ?_⟩
   refine JT.wit Row.form ?_
   rintro ⟨ad732, cp733, rfl, _, _, hn734⟩
   refine JT.alt rfl ?_ JT.done
   obtain ⟨z735, hz736, ho642⟩ := ob ho642
   refine JB.front 1 rfl <| JB.front 1 rfl <| JB.op rfl (A.appR (Kr := Hp.nil) Try.underlying22 inf50 rfl rfl (by decide) (by decide) rfl rfl (Els.flat rfl) (Els.flat rfl) hz736) ?_
   rintro _ _ _ ⟨v737, rfl, rfl, rfl⟩
   refine ⟨fun w hs => Hold.sub (Hp.le_refl _) ⟨2, rfl, 2, rfl, trivial⟩ hs, ?_⟩
   refine JT.wit Row.form ?_
   rintro ⟨ad738, cp739, rfl, _, _, hn740⟩
   refine JT.still rfl <| qv _ (V.fad Try.underlying30 rfl nz22 rfl) <| JQ.nil <| JT.alt rfl ?_ JT.done
   refine JB.front 1 rfl <| JB.op rfl (A.store1 (v := .slice ad738 z735.length cp739) (cs' := [ii xa.1, ii xa.2.1, .slice ad738 z735.length cp739, .slice adxa_3 xa.2.2.2.1.length cpxa_3, .slice adxa_4 xa.2.2.2.2.1.length cpxa_4, .slice adxa_5 xa.2.2.2.2.2.1.length cpxa_5, .slice adxa_6 xa.2.2.2.2.2.2.length cpxa_6]) sz22 rfl rfl rfl rfl rfl rfl) ?_
   rintro _ _ _ ⟨rfl, rfl, rfl⟩
   refine ⟨fun w hs => Hold.sub (Hp.le_refl _) ⟨2, rfl, 2, rfl, trivial⟩ hs, ?_⟩
   refine JT.leaf rfl <| JQ.nil <| J.front 1 rfl <| J.front 1 rfl <| J.front 2 rfl <| J.front 3 rfl <| J.nil ?_
   obtain rfl := si ho642
   exact ⟨rfl, ⟨z735, ad738, cp739, rfl, ⟨rfl, rfl, rfl, rfl, rfl, trivial⟩, rfl, rfl⟩⟩
 rintro ρ _ _ ⟨l636, ad637, cp638, rfl, hf741, rfl, rfl⟩
 obtain ⟨ρ, rfl⟩ := hf741.ex
 refine PJ.front 3 rfl <| PJ.wit Row.hn fun hn640 => PJ.done <| cr <| jv _ (V.fad Try.underlying50 rfl nz3 rfl) <| jv (ii xb.1) (V.ld rfl (Ld.sc sc3 (Rd.cl 2 rfl rfl))) ?_
 refine jv (.bool (decide (0 ≤ xb.1))) (V.geq rfl rfl) <| jm (.bool (decide (0 ≤ xb.1))) rfl <| J.cut 6 <| jmeet [(47, .bool ((decide (0 ≤ xb.1)) && (decide (xb.1 < xa.1)))), (2, ii xc), (3, ii xd), (4, .pointer (some ⟨b474, 0, none⟩)), (5, .pointer (some ⟨b475, 0, none⟩)), (9, .pointer (some ⟨b537, 0, none⟩))] ?_ ?_
 · rcases bt (decide (0 ≤ xb.1)) with hc745 | hc745
   · refine J.run rfl rfl rfl hc745 <| jv _ (V.fad Try.underlying50 rfl nz3 rfl) <| J.run rfl rfl rfl hc745 <| jv (ii xb.1) (V.ld rfl (Ld.sc sc3 (Rd.cl 2 rfl rfl))) <| J.run rfl rfl rfl hc745 <| jv _ (V.fad Try.underlying30 rfl nz3 rfl) <| J.run rfl rfl rfl hc745 ?_
     refine jv (ii xa.1) (V.ld rfl (Ld.sc sc3 (Rd.cl 1 rfl rfl))) <| J.run rfl rfl rfl hc745 <| jv (.bool (decide (xb.1 < xa.1))) (V.lss rfl rfl) <| jv (.bool (decide (xb.1 < xa.1))) (V.pickT rfl hc745 rfl) <| J.nil ?_
     exact ⟨rfl, ⟨(by simp only [hc745]; rfl), rfl, rfl, rfl, rfl, rfl, trivial⟩, rfl, rfl⟩
   refine J.skip rfl rfl rfl rfl hc745 <| J.skip rfl rfl rfl rfl hc745 <| J.skip rfl rfl rfl rfl hc745 <| J.skip rfl rfl rfl rfl hc745 <| J.skip rfl rfl rfl rfl hc745 <| jv (.bool false) (V.pickF rfl hc745 rfl) <| J.nil ?_
   exact ⟨rfl, ⟨(by simp only [hc745]; rfl), rfl, rfl, rfl, rfl, rfl, trivial⟩, rfl, rfl⟩
 intro ρ
 refine jm (.bool ((decide (0 ≤ xb.1)) && (decide (xb.1 < xa.1)))) rfl <| J.cut 4 <| jmeet [(52, .bool (((decide (0 ≤ xb.1)) && (decide (xb.1 < xa.1))) && (decide (0 ≤ xb.2)))), (2, ii xc), (3, ii xd), (4, .pointer (some ⟨b474, 0, none⟩)), (5, .pointer (some ⟨b475, 0, none⟩)), (9, .pointer (some ⟨b537, 0, none⟩))] ?_ ?_
 · rcases bt ((decide (0 ≤ xb.1)) && (decide (xb.1 < xa.1))) with hc748 | hc748
   · refine J.run rfl rfl rfl hc748 <| jv _ (V.fad Try.underlying50 rfl nz3 rfl) <| J.run rfl rfl rfl hc748 <| jv (ii xb.2) (V.ld rfl (Ld.sc sc3 (Rd.cl 2 rfl rfl))) <| J.run rfl rfl rfl hc748 <| jv (.bool (decide (0 ≤ xb.2))) (V.geq rfl rfl) <| jv (.bool (decide (0 ≤ xb.2))) (V.pickT rfl hc748 rfl) ?_
     refine J.nil ?_
     exact ⟨rfl, ⟨(by simp only [hc748]; rfl), rfl, rfl, rfl, rfl, rfl, trivial⟩, rfl, rfl⟩
   refine J.skip rfl rfl rfl rfl hc748 <| J.skip rfl rfl rfl rfl hc748 <| J.skip rfl rfl rfl rfl hc748 <| jv (.bool false) (V.pickF rfl hc748 rfl) <| J.nil ?_
   exact ⟨rfl, ⟨(by simp only [hc748]; rfl), rfl, rfl, rfl, rfl, rfl, trivial⟩, rfl, rfl⟩
 intro ρ
 refine jm (.bool (((decide (0 ≤ xb.1)) && (decide (xb.1 < xa.1))) && (decide (0 ≤ xb.2)))) rfl <| J.cut 6 <| jmeet [(59, .bool ((((decide (0 ≤ xb.1)) && (decide (xb.1 < xa.1))) && (decide (0 ≤ xb.2))) && (decide (xb.2 < xa.1)))), (2, ii xc), (3, ii xd), (4, .pointer (some ⟨b474, 0, none⟩)), (9, .pointer (some ⟨b537, 0, none⟩))] ?_ ?_
 · rcases bt (((decide (0 ≤ xb.1)) && (decide (xb.1 < xa.1))) && (decide (0 ≤ xb.2))) with hc751 | hc751
   · refine J.run rfl rfl rfl hc751 <| jv _ (V.fad Try.underlying50 rfl nz3 rfl) <| J.run rfl rfl rfl hc751 <| jv (ii xb.2) (V.ld rfl (Ld.sc sc3 (Rd.cl 2 rfl rfl))) <| J.run rfl rfl rfl hc751 <| jv _ (V.fad Try.underlying30 rfl nz3 rfl) <| J.run rfl rfl rfl hc751 ?_
     refine jv (ii xa.1) (V.ld rfl (Ld.sc sc3 (Rd.cl 1 rfl rfl))) <| J.run rfl rfl rfl hc751 <| jv (.bool (decide (xb.2 < xa.1))) (V.lss rfl rfl) <| jv (.bool (decide (xb.2 < xa.1))) (V.pickT rfl hc751 rfl) <| J.nil ?_
     exact ⟨rfl, ⟨(by simp only [hc751]; rfl), rfl, rfl, rfl, rfl, trivial⟩, rfl, rfl⟩
   refine J.skip rfl rfl rfl rfl hc751 <| J.skip rfl rfl rfl rfl hc751 <| J.skip rfl rfl rfl rfl hc751 <| J.skip rfl rfl rfl rfl hc751 <| J.skip rfl rfl rfl rfl hc751 <| jv (.bool false) (V.pickF rfl hc751 rfl) <| J.nil ?_
   exact ⟨rfl, ⟨(by simp only [hc751]; rfl), rfl, rfl, rfl, rfl, trivial⟩, rfl, rfl⟩
 intro ρ
 refine ja (.bool ((((decide (0 ≤ xb.1)) && (decide (xb.1 < xa.1))) && (decide (0 ≤ xb.2))) && (decide (xb.2 < xa.1)))) rfl <| J.nil <| CJ.seq <| cr <| jv (.agg #[ii xa.1, ii xa.2.1, .slice ad637 l636.length cp638, .slice adxa_3 xa.2.2.2.1.length cpxa_3, .slice adxa_4 xa.2.2.2.2.1.length cpxa_4, .slice adxa_5 xa.2.2.2.2.2.1.length cpxa_5, .slice adxa_6 xa.2.2.2.2.2.2.length cpxa_6]) (V.ld rfl (Ld.agg (cs := [ii xa.1, ii xa.2.1, .slice ad637 l636.length cp638, .slice adxa_3 xa.2.2.2.1.length cpxa_3, .slice adxa_4 xa.2.2.2.2.1.length cpxa_4, .slice adxa_5 xa.2.2.2.2.2.1.length cpxa_5, .slice adxa_6 xa.2.2.2.2.2.2.length cpxa_6]) Try.underlying30 sz30 rfl (Rd.cls 3 0 rfl rfl))) ?_
 obtain ⟨r752, hr753, h⟩ := ob h
 refine J.op rfl (A.call (L1 := [Row Hp.nil 50 (.cons (.int .i64) (.one (.int .i64))) (.slice ad637 l636.length cp638) l636]) Try.call10 rfl (Tr.lend (Hp.nil_le _) (by decide) (fun K754 hK755 f756 => valid_OK_ok (xa := (xa.1, xa.2.1, l636, xa.2.2.2.1, xa.2.2.2.2.1, xa.2.2.2.2.2.1, xa.2.2.2.2.2.2)) f756 (fxa_3.mono hK755) (fxa_4.mono hK755) (fxa_5.mono hK755) (fxa_6.mono hK755) hr753)) rfl rfl) ?_
 rintro _ _ _ ⟨v758, _, rfl, ⟨⟨_, ⟨t757, rfl, rfl, rfl⟩, rfl⟩, rfl⟩, _, rfl⟩
 refine jm (.bool ((((decide (0 ≤ xb.1)) && (decide (xb.1 < xa.1))) && (decide (0 ≤ xb.2))) && (decide (xb.2 < xa.1)))) rfl <| jv (.bool (!(t757 == ((((decide (0 ≤ xb.1)) && (decide (xb.1 < xa.1))) && (decide (0 ≤ xb.2))) && (decide (xb.2 < xa.1)))))) (V.neb Try.underlying4 rfl rfl) <| J.nil <| cc rfl h (fun hc761 h => ?_) fun hc761 h => ?_
 · refine cr <| ja (.bool false) rfl <| J.nil <| CJ.ret ?_
   obtain rfl := si h
   exact ⟨_, _, Res.one rfl rfl, ⟨false, rfl, rfl, rfl⟩, (Hp.le_refl _), fun w hs => (Sep.dropAt 0 rfl (Sep.dropAt 0 rfl (Sep.dropAt 0 rfl (Sep.dropAt 0 rfl hs))))⟩
 refine CJ.skip <| CJ.seq <| cr <| jm (ii xc) rfl <| jv (.bool (decide (xc < 0))) (V.lss rfl rfl) <| jm (.bool (decide (xc < 0))) rfl ?_
 refine J.cut 6 <| jmeet [(72, .bool ((decide (xc < 0)) || (decide ((((xa.2.2.2.2.2.2.length : Nat) : Int)) ≤ xc)))), (2, ii xc), (3, ii xd), (4, .pointer (some ⟨b474, 0, none⟩))] ?_ ?_
 · rcases bt (decide (xc < 0)) with hc764 | hc764
   · refine J.skip rfl rfl rfl rfl hc764 <| J.skip rfl rfl rfl rfl hc764 <| J.skip rfl rfl rfl rfl hc764 <| J.skip rfl rfl rfl rfl hc764 <| J.skip rfl rfl rfl rfl hc764 <| jv (.bool true) (V.pickT rfl hc764 rfl) <| J.nil ?_
     exact ⟨rfl, ⟨(by simp only [hc764]; rfl), rfl, rfl, rfl, trivial⟩, rfl, rfl⟩
   refine J.run rfl rfl rfl hc764 <| jm (ii xc) rfl <| J.run rfl rfl rfl hc764 <| jv _ (V.fad Try.underlying30 rfl nz28 rfl) <| J.run rfl rfl rfl hc764 <| jv (.slice adxa_6 xa.2.2.2.2.2.2.length cpxa_6) (V.ld rfl (Ld.sc sc28 (Rd.cl 1 rfl rfl))) <| J.run rfl rfl rfl hc764 ?_
   refine jv (ii (((xa.2.2.2.2.2.2.length : Nat) : Int))) (V.len Try.underlying28 rfl) <| J.run rfl rfl rfl hc764 <| jv (.bool (decide ((((xa.2.2.2.2.2.2.length : Nat) : Int)) ≤ xc))) (V.geq rfl rfl) <| jv (.bool (decide ((((xa.2.2.2.2.2.2.length : Nat) : Int)) ≤ xc))) (V.pickF rfl hc764 rfl) <| J.nil ?_
   exact ⟨rfl, ⟨(by simp only [hc764]; rfl), rfl, rfl, rfl, trivial⟩, rfl, rfl⟩
 intro ρ
 refine jm (.bool ((decide (xc < 0)) || (decide ((((xa.2.2.2.2.2.2.length : Nat) : Int)) ≤ xc)))) rfl <| J.cut 3 <| jmeet [(76, .bool (((decide (xc < 0)) || (decide ((((xa.2.2.2.2.2.2.length : Nat) : Int)) ≤ xc))) || (decide (xd < 0)))), (2, ii xc), (3, ii xd), (4, .pointer (some ⟨b474, 0, none⟩))] ?_ ?_
 · rcases bt ((decide (xc < 0)) || (decide ((((xa.2.2.2.2.2.2.length : Nat) : Int)) ≤ xc))) with hc767 | hc767
   · refine J.skip rfl rfl rfl rfl hc767 <| J.skip rfl rfl rfl rfl hc767 <| jv (.bool true) (V.pickT rfl hc767 rfl) <| J.nil ?_
     exact ⟨rfl, ⟨(by simp only [hc767]; rfl), rfl, rfl, rfl, trivial⟩, rfl, rfl⟩
   refine J.run rfl rfl rfl hc767 <| jm (ii xd) rfl <| J.run rfl rfl rfl hc767 <| jv (.bool (decide (xd < 0))) (V.lss rfl rfl) <| jv (.bool (decide (xd < 0))) (V.pickF rfl hc767 rfl) <| J.nil ?_
   exact ⟨rfl, ⟨(by simp only [hc767]; rfl), rfl, rfl, rfl, trivial⟩, rfl, rfl⟩
 intro ρ
 refine jm (.bool (((decide (xc < 0)) || (decide ((((xa.2.2.2.2.2.2.length : Nat) : Int)) ≤ xc))) || (decide (xd < 0)))) rfl <| J.cut 10 ?_
 obtain ⟨t782, ht783, h⟩ := ob h
 refine jmeet [(87, .bool t782), (2, ii xc), (3, ii xd), (4, .pointer (some ⟨b474, 0, none⟩))] ?_ ?_
 · rcases bt (((decide (xc < 0)) || (decide ((((xa.2.2.2.2.2.2.length : Nat) : Int)) ≤ xc))) || (decide (xd < 0))) with hc784 | hc784
   · have ht783 := ct hc784 ht783
     refine J.skip rfl rfl rfl rfl hc784 <| J.skip rfl rfl rfl rfl hc784 <| J.skip rfl rfl rfl rfl hc784 <| J.skip rfl rfl rfl rfl hc784 <| J.skip rfl rfl rfl rfl hc784 <| J.skip rfl rfl rfl rfl hc784 <| J.skip rfl rfl rfl rfl hc784 ?_
     refine J.skip rfl rfl rfl rfl hc784 <| J.skip rfl rfl rfl rfl hc784 <| jv (.bool true) (V.pickT rfl hc784 rfl) <| J.nil ?_
     obtain rfl := si ht783
     exact ⟨rfl, ⟨rfl, rfl, rfl, rfl, trivial⟩, rfl, rfl⟩
   have ht783 := cf hc784 ht783
   refine J.run rfl rfl rfl hc784 <| jm (ii xd) rfl <| J.run rfl rfl rfl hc784 <| jv _ (V.fad Try.underlying30 rfl nz28 rfl) <| J.run rfl rfl rfl hc784 <| jv (.slice adxa_6 xa.2.2.2.2.2.2.length cpxa_6) (V.ld rfl (Ld.sc sc28 (Rd.cl 1 rfl rfl))) <| J.run rfl rfl rfl hc784 ?_
   refine jm (ii xc) rfl <| J.run rfl rfl rfl hc784 ?_
   obtain ⟨x785, hx786, ht783⟩ := ob ht783
   obtain ⟨p787, p788, p789⟩ := getI_some hx786
   obtain ⟨b790, o791, e792, a793⟩ := (fxa_6).at p788
   refine jv _ (V.iad Try.underlying28 sz56 rfl e792 rfl p787 p789) <| J.run rfl rfl rfl hc784 <| jv _ (V.fad Try.underlying56 rfl nz51 rfl) <| J.run rfl rfl rfl hc784 ?_
   obtain ⟨ad794, cp795, c796, f797⟩ := ((a793).fst).sl
   refine jv (.slice ad794 x785.1.length cp795) (V.ld rfl (Ld.sc sc51 (Rd.k c796 (Hp.le_refl _)))) <| J.run rfl rfl rfl hc784 <| jv (ii (((x785.1.length : Nat) : Int))) (V.len Try.underlying51 rfl) <| J.run rfl rfl rfl hc784 <| jv (.bool (decide ((((x785.1.length : Nat) : Int)) ≤ xd))) (V.geq rfl rfl) <| jv (.bool (decide ((((x785.1.length : Nat) : Int)) ≤ xd))) (V.pickF rfl hc784 rfl) <| J.nil ?_
   obtain rfl := si ht783
   exact ⟨rfl, ⟨rfl, rfl, rfl, rfl, trivial⟩, rfl, rfl⟩
 intro ρ
 refine J.nil <| cc rfl h (fun hc798 h => ?_) fun hc798 h => ?_
 · refine cr <| jv (.agg #[ii xa.1, ii xa.2.1, .slice adxa_2 xa.2.2.1.length cpxa_2, .slice adxa_3 xa.2.2.2.1.length cpxa_3, .slice adxa_4 xa.2.2.2.2.1.length cpxa_4, .slice adxa_5 xa.2.2.2.2.2.1.length cpxa_5, .slice adxa_6 xa.2.2.2.2.2.2.length cpxa_6]) (V.ld rfl (Ld.agg (cs := [ii xa.1, ii xa.2.1, .slice adxa_2 xa.2.2.1.length cpxa_2, .slice adxa_3 xa.2.2.2.1.length cpxa_3, .slice adxa_4 xa.2.2.2.2.1.length cpxa_4, .slice adxa_5 xa.2.2.2.2.2.1.length cpxa_5, .slice adxa_6 xa.2.2.2.2.2.2.length cpxa_6]) Try.underlying30 sz30 rfl (Rd.cls 1 0 rfl rfl))) ?_
   obtain ⟨r799, hr800, h⟩ := ob h
   refine J.op rfl (A.call (L1 := []) Try.call10 rfl (valid_OK_ok fxa_2 fxa_3 fxa_4 fxa_5 fxa_6 hr800) rfl rfl) ?_
   rintro _ _ _ ⟨v802, _, rfl, ⟨⟨t801, rfl, rfl, rfl⟩, rfl⟩, _, rfl⟩
   refine jm (.bool t801) rfl <| J.cut 2 ?_
   obtain ⟨t812, ht813, h⟩ := ob h
   refine jmeet [(92, .bool t812)] ?_ ?_
   · rcases bt (t801) with hc814 | hc814
     · have ht813 := ct hc814 ht813
       refine J.run rfl rfl rfl hc814 ?_
       obtain ⟨r815, hr816, ht813⟩ := ob ht813
       refine J.op rfl (A.call (L1 := []) Try.call7 rfl (law21_awake_ok hr816) rfl rfl) ?_
       rintro _ _ _ ⟨v818, _, rfl, ⟨⟨t817, rfl, rfl, rfl⟩, rfl⟩, _, rfl⟩
       refine jv (.bool t817) (V.pickT rfl hc814 rfl) <| J.nil ?_
       obtain rfl := si ht813
       exact ⟨rfl, ⟨rfl, trivial⟩, rfl, rfl⟩
     have ht813 := cf hc814 ht813
     refine J.skip rfl rfl rfl rfl hc814 <| jv (.bool false) (V.pickF rfl hc814 rfl) <| J.nil ?_
     obtain rfl := si ht813
     exact ⟨rfl, ⟨rfl, trivial⟩, rfl, rfl⟩
   intro ρ
   refine ja (.bool t812) rfl <| J.nil <| CJ.ret ?_
   obtain rfl := si h
   exact ⟨_, _, Res.one rfl rfl, ⟨t812, rfl, rfl, rfl⟩, (Hp.le_refl _), fun w hs => (Sep.dropAt 0 rfl (Sep.dropAt 0 rfl (Sep.dropAt 0 rfl (Sep.dropAt 0 rfl hs))))⟩
 refine CJ.skip <| cr <| jv (.agg #[ii xa.1, ii xa.2.1, .slice adxa_2 xa.2.2.1.length cpxa_2, .slice adxa_3 xa.2.2.2.1.length cpxa_3, .slice adxa_4 xa.2.2.2.2.1.length cpxa_4, .slice adxa_5 xa.2.2.2.2.2.1.length cpxa_5, .slice adxa_6 xa.2.2.2.2.2.2.length cpxa_6]) (V.ld rfl (Ld.agg (cs := [ii xa.1, ii xa.2.1, .slice adxa_2 xa.2.2.1.length cpxa_2, .slice adxa_3 xa.2.2.2.1.length cpxa_3, .slice adxa_4 xa.2.2.2.2.1.length cpxa_4, .slice adxa_5 xa.2.2.2.2.2.1.length cpxa_5, .slice adxa_6 xa.2.2.2.2.2.2.length cpxa_6]) Try.underlying30 sz30 rfl (Rd.cls 1 0 rfl rfl))) <| jal inf30 [ii 0, ii 0, nos, nos, nos, nos, nos] rfl fun b821 => js [ii xa.1, ii xa.2.1, .slice adxa_2 xa.2.2.1.length cpxa_2, .slice adxa_3 xa.2.2.2.1.length cpxa_3, .slice adxa_4 xa.2.2.2.2.1.length cpxa_4, .slice adxa_5 xa.2.2.2.2.2.1.length cpxa_5, .slice adxa_6 xa.2.2.2.2.2.2.length cpxa_6] sz30 rfl rfl rfl rfl rfl rfl <| J.nil ?_
 refine CJ.seq <| CJ.region ?_
 refine J.op rfl (A.lit (K0 := K) (ty := (.cons (.sl (.cons (.int .i64) (.cons (.int .i64) (.cons (.int .i64) (.cons (.int .i64) (.one .bool)))))) (.one (.cons (.int .i64) (.cons (.int .i64) (.cons (.int .i64) (.cons (.sl (.int .i64)) (.cons (.sl (.int .i64)) (.one (.sl (.int .i64))))))))))) (xs := ([] : List ((List (Int × Int × Int × Int × Bool)) × (Int × Int × Int × (List Int) × (List Int) × (List Int))))) Try.underlying28 inf56 rfl (by decide) rfl rfl rfl rfl rfl (by decide)) ?_
 rintro _ _ _ ⟨b822, rfl, rfl, rfl⟩
 have hn823 : ([] : List ((List (Int × Int × Int × Int × Bool)) × (Int × Int × Int × (List Int) × (List Int) × (List Int)))) ≠ [] → ∃ g, (some ⟨b822, 0, none⟩ : Option Addr) = some ⟨g, 0, none⟩ := fun _ => ⟨b822, rfl⟩
 refine jv _ (V.fad Try.underlying30 rfl nz28 rfl) <| jv (.slice adxa_6 xa.2.2.2.2.2.2.length cpxa_6) (V.ld rfl (Ld.sc sc28 (Rd.cl 3 rfl rfl))) ?_
 obtain ⟨z825, hz826, h⟩ := ob h
 refine J.op rfl (A.appP (Kr := K) (K1 := K) Try.underlying28 inf56 rfl rfl (by decide) (by decide) rfl rfl fxa_6 (Hp.le_refl _) (Els.mono (Hp.le_refl _)) (Els.mono (Hp.le_refl _)) hz826) ?_
 rintro _ _ _ ⟨v827, rfl, rfl, rfl⟩
 refine J.wit Row.form ?_
 rintro ⟨ad828, cp829, rfl, _, _, hn830⟩
 refine jv _ (V.fad Try.underlying30 rfl nz28 rfl) <| J.front 1 rfl <| js1 [ii xa.1, ii xa.2.1, .slice adxa_2 xa.2.2.1.length cpxa_2, .slice adxa_3 xa.2.2.2.1.length cpxa_3, .slice adxa_4 xa.2.2.2.2.1.length cpxa_4, .slice adxa_5 xa.2.2.2.2.2.1.length cpxa_5, .slice ad828 z825.length cp829] sz28 rfl rfl rfl rfl rfl rfl <| J.nil <| cr <| jv _ (V.fad Try.underlying30 rfl nz28 rfl) ?_
 refine jv (.slice adxa_6 xa.2.2.2.2.2.2.length cpxa_6) (V.ld rfl (Ld.sc sc28 (Rd.cl 3 rfl rfl))) <| jm (ii xc) rfl ?_
 obtain ⟨x831, hx832, h⟩ := ob h
 obtain ⟨p833, p834, p835⟩ := getI_some hx832
 obtain ⟨b836, o837, e838, a839⟩ := (fxa_6).at p834
 refine jv _ (V.iad Try.underlying28 sz56 rfl e838 rfl p833 p835) <| jv _ (V.fad Try.underlying56 rfl nz51 rfl) ?_
 obtain ⟨ad840, cp841, c842, f843⟩ := ((a839).fst).sl
 refine jv (.slice ad840 x831.1.length cp841) (V.ld rfl (Ld.sc sc51 (Rd.k c842 (Hp.le_refl _)))) <| ja (.slice ad840 x831.1.length cp841) rfl <| J.nil <| CJ.seq <| CJ.mix [Cl b821 30 [ii xa.1, ii xa.2.1, .slice adxa_2 xa.2.2.1.length cpxa_2, .slice adxa_3 xa.2.2.2.1.length cpxa_3, .slice adxa_4 xa.2.2.2.2.1.length cpxa_4, .slice adxa_5 xa.2.2.2.2.2.1.length cpxa_5, .slice ad828 z825.length cp829], Row K 56 (.cons (.sl (.cons (.int .i64) (.cons (.int .i64) (.cons (.int .i64) (.cons (.int .i64) (.one .bool)))))) (.one (.cons (.int .i64) (.cons (.int .i64) (.cons (.int .i64) (.cons (.sl (.int .i64)) (.cons (.sl (.int .i64)) (.one (.sl (.int .i64)))))))))) (.slice ad828 z825.length cp829) z825, Row Hp.nil 50 (.cons (.int .i64) (.one (.int .i64))) (.slice ad637 l636.length cp638) l636, Cl b474 30 [ii xa.1, ii xa.2.1, .slice adxa_2 xa.2.2.1.length cpxa_2, .slice adxa_3 xa.2.2.2.1.length cpxa_3, .slice adxa_4 xa.2.2.2.2.1.length cpxa_4, .slice adxa_5 xa.2.2.2.2.2.1.length cpxa_5, .slice adxa_6 xa.2.2.2.2.2.2.length cpxa_6], Cl b475 50 [ii xb.1, ii xb.2], Cl b537 30 [ii xa.1, ii xa.2.1, .slice ad637 l636.length cp638, .slice adxa_3 xa.2.2.2.1.length cpxa_3, .slice adxa_4 xa.2.2.2.2.1.length cpxa_4, .slice adxa_5 xa.2.2.2.2.2.1.length cpxa_5, .slice adxa_6 xa.2.2.2.2.2.2.length cpxa_6]] [([0, 1, 2, 4, 5, 6, 8, 9, 10, 11], 3), ([], 7), ([], 12)] [13, 14] [15] mixO (by decide +kernel) ⟨0, rfl, 0, rfl, 0, rfl, 0, rfl, 0, rfl, 0, rfl, trivial⟩ rfl rfl rfl <| JM.cons <| qv _ (V.fad Try.underlying30 rfl nz28 rfl) ?_
 refine qv (.slice ad828 z825.length cp829) (V.ld rfl (Ld.sc sc28 (Rd.cl 0 rfl rfl))) <| qm (ii xc) rfl <| qm (.slice ad840 x831.1.length cp841) rfl <| qm (ii xd) rfl ?_
 obtain ⟨y878, hy879, h⟩ := ob h
 obtain ⟨ad880, cp881, hv882, f883⟩ := V.subI (tp := (.cons (.int .i64) (.cons (.int .i64) (.cons (.int .i64) (.cons (.int .i64) (.one .bool)))))) Try.underlying51 sz76 f843 hy879
 refine qv (.slice ad880 y878.length cp881) (hv882 rfl nofun (fun _ => rfl) (fun _ h => by cases h; exact ⟨_, rfl⟩) nofun) <| qm (.slice ad840 x831.1.length cp841) rfl <| qm (ii xd) rfl <| qv (ii (IntKind.wrap .i64 (xd + 1))) (V.add rfl rfl) ?_
 obtain ⟨y884, hy885, h⟩ := ob h
 obtain ⟨ad886, cp887, hv888, f889⟩ := V.subI (tp := (.cons (.int .i64) (.cons (.int .i64) (.cons (.int .i64) (.cons (.int .i64) (.one .bool)))))) Try.underlying51 sz76 f843 hy885
 refine qv (.slice ad886 y884.length cp887) (hv888 rfl (fun _ h => by cases h; exact ⟨_, rfl⟩) nofun nofun (fun _ => rfl)) <| JQ.nil ?_
 refine JA.op rfl (A.lit (K0 := Hp.nil) (ty := (.cons (.int .i64) (.cons (.int .i64) (.cons (.int .i64) (.cons (.int .i64) (.one .bool)))))) (xs := ([] : List (Int × Int × Int × Int × Bool))) Try.underlying51 inf76 rfl (by decide) rfl rfl rfl rfl rfl (by decide)) ?_
 rintro _ _ _ ⟨b890, rfl, rfl, rfl⟩
 have hn891 : ([] : List (Int × Int × Int × Int × Bool)) ≠ [] → ∃ g, (some ⟨b890, 0, none⟩ : Option Addr) = some ⟨g, 0, none⟩ := fun _ => ⟨b890, rfl⟩
 refine ⟨fun w hs => Hold.sub (Hp.le_refl _) ⟨1, rfl, 1, rfl, 1, rfl, 1, rfl, 1, rfl, 1, rfl, trivial⟩ hs, ?_⟩
 refine JM.cons <| JQ.nil ?_
 obtain ⟨z893, hz894, h⟩ := ob h
 refine JA.op rfl (A.appP (Kr := Hp.nil) (K1 := K) Try.underlying51 inf76 rfl rfl (by decide) (by decide) rfl rfl f883 (Hp.le_refl _) (Els.flat rfl) (Els.flat rfl) hz894) ?_
 rintro _ _ _ ⟨v895, rfl, rfl, rfl⟩
 refine ⟨fun w hs => Hold.sub (Hp.le_refl _) ⟨1, rfl, 1, rfl, 1, rfl, 1, rfl, 1, rfl, 1, rfl, trivial⟩ hs, ?_⟩
 refine JM.wit Row.form ?_
 rintro ⟨ad896, cp897, rfl, _, _, hn898⟩
 refine JM.cons <| JQ.nil ?_
 obtain ⟨z899, hz900, h⟩ := ob h
 refine JA.op rfl (A.appP (Kr := Hp.nil) (K1 := K) Try.underlying51 inf76 rfl rfl (by decide) (by decide) rfl rfl f889 (Hp.le_refl _) (Els.flat rfl) (Els.flat rfl) hz900) ?_
 rintro _ _ _ ⟨v901, rfl, rfl, rfl⟩
 refine ⟨fun w hs => Hold.sub (Hp.le_refl _) ⟨1, rfl, 1, rfl, 1, rfl, 1, rfl, 1, rfl, 1, rfl, trivial⟩ hs, ?_⟩
 refine JM.wit Row.form ?_
 rintro ⟨ad902, cp903, rfl, _, _, hn904⟩
 refine JM.nil ?_
 obtain ⟨x905, hx906, h⟩ := ob h
 obtain ⟨p907, p908, p909⟩ := getI_some hx906
 obtain ⟨g910, e911⟩ := hn830 (fun e => by rw [e] at p908; simp at p908)
 refine qv _ (V.iad Try.underlying28 sz56 rfl e911 rfl p907 p909) <| qv _ (V.fad Try.underlying56 rfl nz51 rfl) <| JQ.nil <| J.front 2 rfl <| J.front 1 rfl <| J.persist (Hp.nil_le _) (by decide) fun K912 hK913 f914 => J.by (fun w hs => hs.mono (Row.mono hK913)) ?_
 obtain ⟨z915, hz916, h⟩ := ob h
 have e917 := Option.some.inj hz916
 have hl918 : z915.length = z825.length := by rw [← e917, List.length_set]
 refine J.op rfl (A.storeR (ty := (.cons (.sl (.cons (.int .i64) (.cons (.int .i64) (.cons (.int .i64) (.cons (.int .i64) (.one .bool)))))) (.one (.cons (.int .i64) (.cons (.int .i64) (.cons (.int .i64) (.cons (.sl (.int .i64)) (.cons (.sl (.int .i64)) (.one (.sl (.int .i64))))))))))) (q := 0) (y0 := (z899, (x905.2.1, x905.2.2.1, x905.2.2.2.1, x905.2.2.2.2.1, x905.2.2.2.2.2.1, x905.2.2.2.2.2.2))) (zs := z915) sz51 rfl rfl rfl rfl e911 p908 (by simp [Tp.size]) (by decide) (Is.setF (by decide) (Is.setC f914 rfl)) e917) ?_
 rintro _ _ _ ⟨rfl, rfl, rfl⟩
 have hn919 : z915 ≠ [] → _ := fun h => hn830 (fun e => h (List.length_eq_zero_iff.1 (by rw [hl918]; exact List.length_eq_zero_iff.2 e)))
 refine J.nil <| cr <| jv (.agg #[ii xa.1, ii xa.2.1, .slice adxa_2 xa.2.2.1.length cpxa_2, .slice adxa_3 xa.2.2.2.1.length cpxa_3, .slice adxa_4 xa.2.2.2.2.1.length cpxa_4, .slice adxa_5 xa.2.2.2.2.2.1.length cpxa_5, .slice ad828 z825.length cp829]) (V.ld rfl (Ld.agg (cs := [ii xa.1, ii xa.2.1, .slice adxa_2 xa.2.2.1.length cpxa_2, .slice adxa_3 xa.2.2.2.1.length cpxa_3, .slice adxa_4 xa.2.2.2.2.1.length cpxa_4, .slice adxa_5 xa.2.2.2.2.2.1.length cpxa_5, .slice ad828 z825.length cp829]) Try.underlying30 sz30 rfl (Rd.cls 1 0 rfl rfl))) ?_
 obtain ⟨r920, hr921, h⟩ := ob h
 refine J.by (fun w hs => Sep.nrow hl918.symm hs) <| J.op rfl (A.call (L1 := [Row K912 56 (.cons (.sl (.cons (.int .i64) (.cons (.int .i64) (.cons (.int .i64) (.cons (.int .i64) (.one .bool)))))) (.one (.cons (.int .i64) (.cons (.int .i64) (.cons (.int .i64) (.cons (.sl (.int .i64)) (.cons (.sl (.int .i64)) (.one (.sl (.int .i64)))))))))) (.slice ad828 z915.length cp829) z915]) Try.call10 rfl (Tr.lend (Hp.le_refl _) (by decide) (fun K922 hK923 f924 => valid_OK_ok (xa := (xa.1, xa.2.1, xa.2.2.1, xa.2.2.2.1, xa.2.2.2.2.1, xa.2.2.2.2.2.1, z915)) ((fxa_2.mono hK913).mono hK923) ((fxa_3.mono hK913).mono hK923) ((fxa_4.mono hK913).mono hK923) ((fxa_5.mono hK913).mono hK923) f924 hr921)) (by rw [hl918]; first | done | rfl) rfl) ?_
 rintro _ _ _ ⟨v926, _, rfl, ⟨⟨_, ⟨t925, rfl, rfl, rfl⟩, rfl⟩, rfl⟩, _, rfl⟩
 have hl929 := hl918
 refine J.by (fun w hs => Sep.nrow hl929 hs) <| jm (.bool t925) rfl <| J.cut 2 ?_
 obtain ⟨t937, ht938, h⟩ := ob h
 refine jmeet [(124, .bool t937)] ?_ ?_
 · rcases bt (t925) with hc939 | hc939
   · have ht938 := ct hc939 ht938
     refine J.run rfl rfl rfl hc939 ?_
     obtain ⟨r940, hr941, ht938⟩ := ob ht938
     refine J.op rfl (A.call (L1 := []) Try.call7 rfl (law21_awake_ok hr941) rfl rfl) ?_
     rintro _ _ _ ⟨v943, _, rfl, ⟨⟨t942, rfl, rfl, rfl⟩, rfl⟩, _, rfl⟩
     refine jv (.bool t942) (V.pickT rfl hc939 rfl) <| J.nil ?_
     obtain rfl := si ht938
     exact ⟨rfl, ⟨rfl, trivial⟩, rfl, rfl⟩
   have ht938 := cf hc939 ht938
   refine J.skip rfl rfl rfl rfl hc939 <| jv (.bool false) (V.pickF rfl hc939 rfl) <| J.nil ?_
   obtain rfl := si ht938
   exact ⟨rfl, ⟨rfl, trivial⟩, rfl, rfl⟩
 intro ρ
 refine ja (.bool t937) rfl <| J.nil <| CJ.ret ?_
 obtain rfl := si h
 exact ⟨_, _, Res.one rfl rfl, ⟨t937, rfl, rfl, rfl⟩, hK913, fun w hs => (Sep.dropAt 0 rfl (Sep.dropAt 0 rfl (Sep.dropAt 0 rfl (Sep.dropAt 0 rfl (Sep.dropAt 0 rfl (Sep.dropAt 0 rfl hs))))))⟩
end Go.Proofs.Ytbaaamdljojknaa
