/- What Go functions answer: generated. -/
import Derived.Test.YtejndphglkpnnaaF4
namespace Go.Proofs.Ytejndphglkpnnaa
open Go.RowKit
set_option linter.unusedVariables false
set_option linter.unnecessarySimpa false
set_option linter.unusedSimpArgs false
set_option maxRecDepth 20000

noncomputable def fn_point_Points_Of (xa : (Option ((List Int) × Int))) (xb : Int) (xc : Int) : Option (Int × Bool) :=
  cond (decide (xb < 0)) (some ((0, false))) ((fn_point_Points_Blocks xa).bind fun i122 => cond (decide (i122 ≤ xb)) (some ((0, false))) (cond (decide (xc < 0)) (some ((0, false))) ((xa : Option ((List Int) × Int)).bind fun y128 => (getI y128.1 xb).bind fun x138 => (fn_point_Points_end xa xb).bind fun i149 => cond (decide ((IntKind.wrap .i64 (i149 - x138)) ≤ xc)) (some ((0, false))) ((getI y128.1 xb).bind fun x158 => some ((IntKind.wrap .i64 (x158 + xc), true))))))
set_option maxRecDepth 100000 in
set_option maxHeartbeats 4000000 in
theorem point_Points_Of_ok {K : Hp} {xa : (Option ((List Int) × Int))} {xb : Int} {xc : Int} {vxa_0 : Value} (fxa_0 : Is K (.ptr (.cons (.sl (.int .i64)) (.one (.int .i64)))) [vxa_0] xa) {r : (Int × Bool)} (h : fn_point_Points_Of xa xb xc = some r) :
    Tr Try.prog 9 #[vxa_0, ii xb, ii xc] K [] (fun v K' L' => (∃ (i83 : Int) (t84 : Bool), (i83, t84) = r ∧ .tuple #[ii i83, .bool t84] = v ∧ L' = []) ∧ K = K') := by
 refine Tr.k <| Tr.of Try.func9 rfl Try.ntmps9 rfl fun E F => ?_
 unfold fn_point_Points_Of at h
 refine CJ.seq <| CJ.region <| ja (ii 0) rfl <| ja (.bool false) rfl <| J.nil <| CJ.seq <| CJ.seq ?_
 refine CJ.mix [] [([0, 1, 2, 3, 4], 5), ([6, 7, 8, 9, 10, 11, 12, 13, 14, 15, 17, 18, 19, 20, 21, 22, 23], 16)] [24, 25, 26] [] mixO (by decide +kernel) trivial rfl rfl rfl <| JM.cons <| qm (ii xb) rfl <| qv (.bool (decide (xb < 0))) (V.lss rfl rfl) <| qm (.bool (decide (xb < 0))) rfl ?_
 rcases bt (decide (xb < 0)) with hc119 | hc119
 · have h := ct hc119 h
   refine JQ.skip rfl rfl rfl rfl hc119 <| JQ.skip rfl rfl rfl rfl hc119 <| JQ.nil <| JA.skip rfl rfl rfl rfl hc119 <| JM.cons <| JQ.skip rfl rfl rfl rfl hc119 <| qv (.bool true) (V.pickT rfl hc119 rfl) ?_
   refine qm (.bool true) rfl <| JQ.skip rfl rfl rfl rfl rfl <| JQ.skip rfl rfl rfl rfl rfl <| qv (.bool true) (V.pickT rfl rfl rfl) <| qm (.bool true) rfl <| JQ.skip rfl rfl rfl rfl rfl <| JQ.skip rfl rfl rfl rfl rfl ?_
   refine JQ.skip rfl rfl rfl rfl rfl <| JQ.skip rfl rfl rfl rfl rfl <| JQ.skip rfl rfl rfl rfl rfl <| JQ.skip rfl rfl rfl rfl rfl <| JQ.skip rfl rfl rfl rfl rfl <| JQ.skip rfl rfl rfl rfl rfl <| JQ.skip rfl rfl rfl rfl rfl ?_
   refine JQ.skip rfl rfl rfl rfl rfl <| JQ.nil <| JA.skip rfl rfl rfl rfl rfl <| JM.nil <| JQ.skip rfl rfl rfl rfl rfl <| JQ.skip rfl rfl rfl rfl rfl <| qv (.bool true) (V.pickT rfl rfl rfl) ?_
   refine JQ.nil <| J.nil <| CJ.condK (b := true) rfl rfl <| CJ.seq <| CJ.region <| ja (ii 0) rfl <| ja (.bool false) rfl ?_
   refine J.nil <| CJ.ret ?_
   obtain rfl := si h
   exact ⟨_, _, Res.two rfl rfl rfl, ⟨0, false, rfl, rfl, rfl⟩, (Hp.le_refl _), fun w hs => hs⟩
 have h := cf hc119 h
 refine JQ.run rfl rfl rfl hc119 <| qm (ii xb) rfl <| JQ.run rfl rfl rfl hc119 <| qm vxa_0 rfl <| JQ.nil <| JA.run rfl rfl rfl hc119 ?_
 obtain ⟨r120, hr121, h⟩ := ob h
 refine JA.op rfl (A.call (L1 := []) Try.call12 rfl (point_Points_Blocks_ok fxa_0 hr121) rfl rfl) ?_
 rintro _ _ _ ⟨v123, _, rfl, ⟨⟨i122, rfl, rfl, rfl⟩, rfl⟩, _, rfl⟩
 refine ⟨fun w hs => Hold.sub (Hp.le_refl _) trivial hs, ?_⟩
 refine JM.cons <| JQ.run rfl rfl rfl hc119 <| qv (.bool (decide (i122 ≤ xb))) (V.geq rfl rfl) <| qv (.bool (decide (i122 ≤ xb))) (V.pickF rfl hc119 rfl) <| qm (.bool (decide (i122 ≤ xb))) rfl ?_
 rcases bt (decide (i122 ≤ xb)) with hc126 | hc126
 · have h := ct hc126 h
   refine JQ.skip rfl rfl rfl rfl hc126 <| JQ.skip rfl rfl rfl rfl hc126 <| qv (.bool true) (V.pickT rfl hc126 rfl) <| qm (.bool true) rfl <| JQ.skip rfl rfl rfl rfl rfl <| JQ.skip rfl rfl rfl rfl rfl <| JQ.skip rfl rfl rfl rfl rfl ?_
   refine JQ.skip rfl rfl rfl rfl rfl <| JQ.skip rfl rfl rfl rfl rfl <| JQ.skip rfl rfl rfl rfl rfl <| JQ.skip rfl rfl rfl rfl rfl <| JQ.skip rfl rfl rfl rfl rfl <| JQ.skip rfl rfl rfl rfl rfl <| JQ.skip rfl rfl rfl rfl rfl ?_
   refine JQ.nil <| JA.skip rfl rfl rfl rfl rfl <| JM.nil <| JQ.skip rfl rfl rfl rfl rfl <| JQ.skip rfl rfl rfl rfl rfl <| qv (.bool true) (V.pickT rfl rfl rfl) <| JQ.nil ?_
   refine J.nil <| CJ.condK (b := true) rfl rfl <| CJ.seq <| CJ.region <| ja (ii 0) rfl <| ja (.bool false) rfl <| J.nil ?_
   refine CJ.ret ?_
   obtain rfl := si h
   exact ⟨_, _, Res.two rfl rfl rfl, ⟨0, false, rfl, rfl, rfl⟩, (Hp.le_refl _), fun w hs => hs⟩
 have h := cf hc126 h
 refine JQ.run rfl rfl rfl hc126 <| qm (ii xc) rfl <| JQ.run rfl rfl rfl hc126 <| qv (.bool (decide (xc < 0))) (V.lss rfl rfl) <| qv (.bool (decide (xc < 0))) (V.pickF rfl hc126 rfl) <| qm (.bool (decide (xc < 0))) rfl ?_
 rcases bt (decide (xc < 0)) with hc127 | hc127
 · have h := ct hc127 h
   refine JQ.skip rfl rfl rfl rfl hc127 <| JQ.skip rfl rfl rfl rfl hc127 <| JQ.skip rfl rfl rfl rfl hc127 <| JQ.skip rfl rfl rfl rfl hc127 <| JQ.skip rfl rfl rfl rfl hc127 <| JQ.skip rfl rfl rfl rfl hc127 <| JQ.skip rfl rfl rfl rfl hc127 ?_
   refine JQ.skip rfl rfl rfl rfl hc127 <| JQ.skip rfl rfl rfl rfl hc127 <| JQ.skip rfl rfl rfl rfl hc127 <| JQ.nil <| JA.skip rfl rfl rfl rfl hc127 <| JM.nil <| JQ.skip rfl rfl rfl rfl hc127 ?_
   refine JQ.skip rfl rfl rfl rfl hc127 <| qv (.bool true) (V.pickT rfl hc127 rfl) <| JQ.nil <| J.nil <| CJ.condK (b := true) rfl rfl <| CJ.seq <| CJ.region ?_
   refine ja (ii 0) rfl <| ja (.bool false) rfl <| J.nil <| CJ.ret ?_
   obtain rfl := si h
   exact ⟨_, _, Res.two rfl rfl rfl, ⟨0, false, rfl, rfl, rfl⟩, (Hp.le_refl _), fun w hs => hs⟩
 have h := cf hc127 h
 refine JQ.run rfl rfl rfl hc127 <| qm (ii xc) rfl <| JQ.run rfl rfl rfl hc127 <| qm vxa_0 rfl <| JQ.run rfl rfl rfl hc127 <| qm (ii xb) rfl <| JQ.run rfl rfl rfl hc127 ?_
 refine qm vxa_0 rfl <| JQ.run rfl rfl rfl hc127 ?_
 obtain ⟨y128, hy129, h⟩ := ob h
 obtain ⟨b130, o131, hv132, a133⟩ := Is.psome fxa_0 hy129
 refine qv _ (V.nck hv132) <| JQ.run rfl rfl rfl hc127 <| qv _ (V.fad Try.underlying62 rfl nz37 rfl) <| JQ.run rfl rfl rfl hc127 ?_
 obtain ⟨ad134, cp135, c136, f137⟩ := ((a133).fst).sl
 refine qv (.slice ad134 y128.1.length cp135) (V.ld rfl (Ld.sc sc37 (Rd.k c136 (Hp.le_refl _)))) <| JQ.run rfl rfl rfl hc127 <| qm (ii xb) rfl <| JQ.run rfl rfl rfl hc127 ?_
 obtain ⟨x138, hx139, h⟩ := ob h
 obtain ⟨p140, p141, p142⟩ := getI_some hx139
 obtain ⟨b143, o144, e145, a146⟩ := (f137).at p141
 refine qv _ (V.iad Try.underlying37 sz3 rfl e145 rfl p140 p142) <| JQ.run rfl rfl rfl hc127 <| qv (ii x138) (V.ld rfl (Ld.sc sc3 (Rd.k (a146).int (Hp.le_refl _)))) <| JQ.nil <| JA.run rfl rfl rfl hc127 ?_
 obtain ⟨r147, hr148, h⟩ := ob h
 refine JA.op rfl (A.call (L1 := []) Try.call21 rfl (point_Points_end_ok fxa_0 hr148) rfl rfl) ?_
 rintro _ _ _ ⟨v150, _, rfl, ⟨⟨i149, rfl, rfl, rfl⟩, rfl⟩, _, rfl⟩
 refine ⟨fun w hs => Hold.sub (Hp.le_refl _) trivial hs, ?_⟩
 refine JM.nil <| JQ.run rfl rfl rfl hc127 <| qv (ii (IntKind.wrap .i64 (i149 - x138))) (V.sub rfl rfl) <| JQ.run rfl rfl rfl hc127 <| qv (.bool (decide ((IntKind.wrap .i64 (i149 - x138)) ≤ xc))) (V.geq rfl rfl) <| qv (.bool (decide ((IntKind.wrap .i64 (i149 - x138)) ≤ xc))) (V.pickF rfl hc127 rfl) <| JQ.nil ?_
 refine J.nil <| cc rfl h (fun hc153 h => ?_) fun hc153 h => ?_
 · refine CJ.seq <| CJ.region <| ja (ii 0) rfl <| ja (.bool false) rfl <| J.nil <| CJ.ret ?_
   obtain rfl := si h
   exact ⟨_, _, Res.two rfl rfl rfl, ⟨0, false, rfl, rfl, rfl⟩, (Hp.le_refl _), fun w hs => hs⟩
 refine CJ.skip <| CJ.seq <| CJ.region <| jm vxa_0 rfl <| jv _ (V.nck hv132) <| jv _ (V.fad Try.underlying62 rfl nz37 rfl) ?_
 obtain ⟨ad154, cp155, c156, f157⟩ := ((a133).fst).sl
 refine jv (.slice ad154 y128.1.length cp155) (V.ld rfl (Ld.sc sc37 (Rd.k c156 (Hp.le_refl _)))) <| jm (ii xb) rfl ?_
 obtain ⟨x158, hx159, h⟩ := ob h
 obtain ⟨p160, p161, p162⟩ := getI_some hx159
 obtain ⟨b163, o164, e165, a166⟩ := (f157).at p161
 refine jv _ (V.iad Try.underlying37 sz3 rfl e165 rfl p160 p162) <| jv (ii x158) (V.ld rfl (Ld.sc sc3 (Rd.k (a166).int (Hp.le_refl _)))) <| jm (ii xc) rfl <| jv (ii (IntKind.wrap .i64 (x158 + xc))) (V.add rfl rfl) <| ja (ii (IntKind.wrap .i64 (x158 + xc))) rfl <| ja (.bool true) rfl <| J.nil ?_
 refine CJ.ret ?_
 obtain rfl := si h
 exact ⟨_, _, Res.two rfl rfl rfl, ⟨IntKind.wrap .i64 (x158 + xc), true, rfl, rfl, rfl⟩, (Hp.le_refl _), fun w hs => hs⟩
noncomputable def fn_ref22_Of_l1 (xa : (List (Int × Int × Bool))) (xb : Int) (xc : Int) : Int → Option (Int ⊕ (Unit ⊕ (Int × Bool))) := fun (i362 : Int) => cond (decide (i362 < (((xa.length : Nat) : Int)))) ((getI xa i362).bind fun x402 => (cond (decide (x402.1 = xb)) ((getI xa i362).bind fun x424 => some (decide (x424.2.1 = xc))) (some (false))).bind fun t421 => cond (t421) (some (.inr ((.inr ((i362, true)))))) (some (.inl (IntKind.wrap .i64 (i362 + 1))))) (some (.inr ((.inl ()))))
noncomputable def fn_ref22_Of (xa : (List (Int × Int × Bool))) (xb : Int) (xc : Int) : Option (Int × Bool) :=
  (loop (fn_ref22_Of_l1 xa xb xc) 0 : Option (Unit ⊕ (Int × Bool))).bind fun o => match o with | .inr r => some r | .inl () => some ((0, false))
set_option maxRecDepth 100000 in
set_option maxHeartbeats 4000000 in
theorem ref22_Of_ok {K : Hp} {xa : (List (Int × Int × Bool))} {xb : Int} {xc : Int} {adxa_0 : Option Addr} {cpxa_0 : Nat} (fxa_0 : Is K (.sl (.cons (.int .i64) (.cons (.int .i64) (.one .bool)))) [.slice adxa_0 xa.length cpxa_0] xa) {r : (Int × Bool)} (h : fn_ref22_Of xa xb xc = some r) :
    Tr Try.prog 10 #[.slice adxa_0 xa.length cpxa_0, ii xb, ii xc] K [] (fun v K' L' => (∃ (i218 : Int) (t219 : Bool), (i218, t219) = r ∧ .tuple #[ii i218, .bool t219] = v ∧ L' = []) ∧ K = K') := by
 refine Tr.k <| Tr.of Try.func10 rfl Try.ntmps10 rfl fun E F => ?_
 unfold fn_ref22_Of at h
 refine CJ.seq <| CJ.region <| ja (ii 0) rfl <| ja (.bool false) rfl <| J.nil <| CJ.seq <| CJ.seq ?_
 refine CJ.region <| ja (ii 0) rfl <| J.nil ?_
 obtain ⟨o326, ho327, h⟩ := ob h
 refine CJ.joinN (o := o326) (fun s ρ K' L' => () = s ∧ Fits [] ρ ∧ K = K' ∧ F = L') ?_ ?_
 · refine CJ.block <| CJ.loop (fun s ρ K' L' => ∃ (i362 : Int), i362 = s ∧ Fits [(0, .slice adxa_0 xa.length cpxa_0), (1, ii xb), (2, ii xc), (8, ii i362)] ρ ∧ K = K' ∧ F = L') ho327 ⟨0, rfl, ⟨rfl, rfl, rfl, rfl, trivial⟩, rfl, rfl⟩ ?_
   rintro s ρ _ _ r400 ⟨i362, rfl, hf398, rfl, rfl⟩ h397
   obtain ⟨ρ, rfl⟩ := hf398.ex
   refine CJ.seq <| CJ.seq <| CJ.region <| jm (ii i362) rfl <| jm (.slice adxa_0 xa.length cpxa_0) rfl <| jv (ii (((xa.length : Nat) : Int))) (V.len Try.underlying35 rfl) <| jv (.bool (decide (i362 < (((xa.length : Nat) : Int))))) (V.lss rfl rfl) ?_
   refine J.nil <| cc rfl h397 (fun hc401 h397 => ?_) fun hc401 h397 => ?_
   · refine CJ.skip <| CJ.seq <| CJ.block <| CJ.seq <| CJ.region <| jm (.slice adxa_0 xa.length cpxa_0) rfl <| jm (ii i362) rfl ?_
     obtain ⟨x402, hx403, h397⟩ := ob h397
     obtain ⟨p404, p405, p406⟩ := getI_some hx403
     obtain ⟨b407, o408, e409, a410⟩ := (fxa_0).at p405
     refine jv _ (V.iad Try.underlying35 sz39 rfl e409 rfl p404 p406) <| jv _ (V.fad Try.underlying39 rfl nz3 rfl) <| jv (ii x402.1) (V.ld rfl (Ld.sc sc3 (Rd.k ((a410).fst).int (Hp.le_refl _)))) <| jm (ii xb) rfl <| jv (.bool (decide (x402.1 = xb))) (V.eql rfl rfl) <| jm (.bool (decide (x402.1 = xb))) rfl <| J.cut 8 ?_
     obtain ⟨t421, ht422, h397⟩ := ob h397
     refine jmeet [(30, .bool t421), (0, .slice adxa_0 xa.length cpxa_0), (1, ii xb), (2, ii xc), (8, ii i362)] ?_ ?_
     · rcases bt (decide (x402.1 = xb)) with hc423 | hc423
       · have ht422 := ct hc423 ht422
         refine J.run rfl rfl rfl hc423 <| jm (.slice adxa_0 xa.length cpxa_0) rfl <| J.run rfl rfl rfl hc423 <| jm (ii i362) rfl <| J.run rfl rfl rfl hc423 ?_
         obtain ⟨x424, hx425, ht422⟩ := ob ht422
         obtain ⟨p426, p427, p428⟩ := getI_some hx425
         obtain ⟨b429, o430, e431, a432⟩ := (fxa_0).at p427
         refine jv _ (V.iad Try.underlying35 sz39 rfl e431 rfl p426 p428) <| J.run rfl rfl rfl hc423 <| jv _ (V.fad Try.underlying39 rfl nz3 rfl) <| J.run rfl rfl rfl hc423 <| jv (ii x424.2.1) (V.ld rfl (Ld.sc sc3 (Rd.k (((a432).snd).fst).int (Hp.le_refl _)))) <| J.run rfl rfl rfl hc423 <| jm (ii xc) rfl ?_
         refine J.run rfl rfl rfl hc423 <| jv (.bool (decide (x424.2.1 = xc))) (V.eql rfl rfl) <| jv (.bool (decide (x424.2.1 = xc))) (V.pickT rfl hc423 rfl) <| J.nil ?_
         obtain rfl := si ht422
         exact ⟨rfl, ⟨rfl, rfl, rfl, rfl, rfl, trivial⟩, rfl, rfl⟩
       have ht422 := cf hc423 ht422
       refine J.skip rfl rfl rfl rfl hc423 <| J.skip rfl rfl rfl rfl hc423 <| J.skip rfl rfl rfl rfl hc423 <| J.skip rfl rfl rfl rfl hc423 <| J.skip rfl rfl rfl rfl hc423 <| J.skip rfl rfl rfl rfl hc423 <| J.skip rfl rfl rfl rfl hc423 ?_
       refine jv (.bool false) (V.pickF rfl hc423 rfl) <| J.nil ?_
       obtain rfl := si ht422
       exact ⟨rfl, ⟨rfl, rfl, rfl, rfl, rfl, trivial⟩, rfl, rfl⟩
     intro ρ
     refine J.nil <| cc rfl h397 (fun hc433 h397 => ?_) fun hc433 h397 => ?_
     · refine CJ.seq <| CJ.region <| jm (ii i362) rfl <| ja (ii i362) rfl <| ja (.bool true) rfl <| J.nil <| CJ.ret ?_
       obtain rfl := si h397
       refine ⟨nofun, fun e => ?_⟩
       subst e
       refine .inr ⟨nofun, ?_⟩
       obtain rfl := si h
       exact ⟨_, _, Res.two rfl rfl rfl, ⟨i362, true, rfl, rfl, rfl⟩, (Hp.le_refl _), fun w hs => hs⟩
     refine CJ.skip <| CJ.region <| jm (ii i362) rfl <| jv (ii (IntKind.wrap .i64 (i362 + 1))) (V.add rfl rfl) <| ja (ii (IntKind.wrap .i64 (i362 + 1))) rfl <| J.nil ?_
     obtain rfl := si h397
     exact ⟨rfl, ⟨IntKind.wrap .i64 (i362 + 1), rfl, ⟨rfl, rfl, rfl, rfl, trivial⟩, rfl, rfl⟩⟩
   refine CJ.exit ?_
   obtain rfl := si h397
   refine ⟨nofun, fun e => ?_⟩
   subst e
   exact .inl ⟨rfl, _, rfl, ⟨rfl, trivial, rfl, rfl⟩⟩
 rintro s ρ _ _ ho434 ⟨rfl, hf435, rfl, rfl⟩
 subst ho434
 obtain ⟨ρ, rfl⟩ := hf435.ex
 refine PJ.done <| CJ.seq <| CJ.region <| ja (ii 0) rfl <| ja (.bool false) rfl <| J.nil <| CJ.ret ?_
 obtain rfl := si h
 exact ⟨_, _, Res.two rfl rfl rfl, ⟨0, false, rfl, rfl, rfl⟩, (Hp.le_refl _), fun w hs => hs⟩

noncomputable def fn_slices_Clone_int_int (xa : (List Int)) : Option (List Int) :=
  nilb xa (some ([])) ((app ([] : List Int) xa).bind fun z21 => some (z21))
set_option maxRecDepth 100000 in
set_option maxHeartbeats 4000000 in
theorem slices_Clone_int_int_ok {K : Hp} {xa : (List Int)} {adxa_0 : Option Addr} {cpxa_0 : Nat} (fxa_0 : Is K (.sl (.int .i64)) [.slice adxa_0 xa.length cpxa_0] xa) {r : (List Int)} (h : fn_slices_Clone_int_int xa = some r) :
    Tr Try.prog 22 #[.slice adxa_0 xa.length cpxa_0] K [] (fun v K' L' => (∃ (l11 : (List Int)) (ad12 : Option Addr) (cp13 : Nat), l11 = r ∧ .slice ad12 l11.length cp13 = v ∧ L' = [Row Hp.nil 3 (.int .i64) (.slice ad12 l11.length cp13) l11]) ∧ K = K') := by
 refine Tr.k <| Tr.of Try.func22 rfl Try.ntmps22 rfl fun E F => ?_
 unfold fn_slices_Clone_int_int at h
 refine CJ.seq <| CJ.region <| ja (.slice none 0 0) rfl <| J.nil <| CJ.seq <| CJ.seq <| CJ.region ?_
 refine jm (.slice adxa_0 xa.length cpxa_0) rfl <| jv (.bool adxa_0.isNone) (V.sn_eql Try.underlying37 rfl rfl) <| J.nil ?_
 rcases adxa_0 with _ | ad16
 · have h := nilb_nil ((fxa_0).nil_of) h
   refine CJ.condK (b := true) rfl rfl <| CJ.seq <| CJ.region <| ja (.slice none 0 0) rfl <| J.nil <| CJ.by (fun w hs => Sep.rowNil (e := 3) (t := (.int .i64)) hs) <| CJ.ret ?_
   obtain rfl := si h
   exact ⟨_, _, Res.one rfl rfl, ⟨[], none, 0, rfl, rfl, rfl⟩, (Hp.le_refl _), fun w hs => hs⟩
 have h := nilb_cons h
 refine CJ.condK (b := false) rfl rfl <| CJ.skip <| CJ.seq <| CJ.region ?_
 refine J.op rfl (A.lit (K0 := Hp.nil) (ty := (.int .i64)) (xs := ([] : List Int)) Try.underlying37 inf3 rfl (by decide) rfl rfl rfl rfl rfl (by decide)) ?_
 rintro _ _ _ ⟨b18, rfl, rfl, rfl⟩
 have hn19 : ([] : List Int) ≠ [] → ∃ g, (some ⟨b18, 0, none⟩ : Option Addr) = some ⟨g, 0, none⟩ := fun _ => ⟨b18, rfl⟩
 refine jm (.slice (some ad16) xa.length cpxa_0) rfl ?_
 obtain ⟨z21, hz22, h⟩ := ob h
 refine J.op rfl (A.appP (Kr := Hp.nil) (K1 := K) Try.underlying37 inf3 rfl rfl (by decide) (by decide) rfl rfl fxa_0 (Hp.le_refl _) (Els.flat rfl) (Els.flat rfl) hz22) ?_
 rintro _ _ _ ⟨v23, rfl, rfl, rfl⟩
 refine J.wit Row.form ?_
 rintro ⟨ad24, cp25, rfl, _, _, hn26⟩
 refine ja (.slice ad24 z21.length cp25) rfl <| J.nil <| CJ.ret ?_
 obtain rfl := si h
 exact ⟨_, _, Res.one rfl rfl, ⟨z21, ad24, cp25, rfl, rfl, rfl⟩, (Hp.le_refl _), fun w hs => hs⟩

noncomputable def fn_point_Points_Begins (xa : (Option ((List Int) × Int))) : Option (List Int) :=
  cond (xa.isNone) (some ([])) ((xa : Option ((List Int) × Int)).bind fun y29 => (fn_slices_Clone_int_int y29.1).bind fun l41 => some (l41))
set_option maxRecDepth 100000 in
set_option maxHeartbeats 4000000 in
theorem point_Points_Begins_ok {K : Hp} {xa : (Option ((List Int) × Int))} {vxa_0 : Value} (fxa_0 : Is K (.ptr (.cons (.sl (.int .i64)) (.one (.int .i64)))) [vxa_0] xa) {r : (List Int)} (h : fn_point_Points_Begins xa = some r) :
    Tr Try.prog 14 #[vxa_0] K [] (fun v K' L' => (∃ (l22 : (List Int)) (ad23 : Option Addr) (cp24 : Nat), l22 = r ∧ .slice ad23 l22.length cp24 = v ∧ L' = [Row Hp.nil 3 (.int .i64) (.slice ad23 l22.length cp24) l22]) ∧ K = K') := by
 refine Tr.k <| Tr.of Try.func14 rfl Try.ntmps14 rfl fun E F => ?_
 unfold fn_point_Points_Begins at h
 refine CJ.seq <| CJ.region <| ja (.slice none 0 0) rfl <| J.nil <| CJ.seq <| CJ.seq <| CJ.region ?_
 refine jm vxa_0 rfl <| jv (.bool xa.isNone) (V.kp_eql Try.underlying33 fxa_0 rfl rfl) <| J.nil <| cc rfl h (fun hc27 h => ?_) fun hc27 h => ?_
 · refine CJ.seq <| CJ.region <| ja (.slice none 0 0) rfl <| J.nil <| CJ.by (fun w hs => Sep.rowNil (e := 3) (t := (.int .i64)) hs) <| CJ.ret ?_
   obtain rfl := si h
   exact ⟨_, _, Res.one rfl rfl, ⟨[], none, 0, rfl, rfl, rfl⟩, (Hp.le_refl _), fun w hs => hs⟩
 refine CJ.skip <| CJ.seq <| CJ.region <| jm vxa_0 rfl ?_
 obtain ⟨y29, hy30, h⟩ := ob h
 obtain ⟨b31, o32, hv33, a34⟩ := Is.psome fxa_0 hy30
 refine jv _ (V.nck hv33) <| jv _ (V.fad Try.underlying62 rfl nz37 rfl) ?_
 obtain ⟨ad35, cp36, c37, f38⟩ := ((a34).fst).sl
 refine jv (.slice ad35 y29.1.length cp36) (V.ld rfl (Ld.sc sc37 (Rd.k c37 (Hp.le_refl _)))) ?_
 obtain ⟨r39, hr40, h⟩ := ob h
 refine J.op rfl (A.call (L1 := []) Try.call22 rfl (slices_Clone_int_int_ok f38 hr40) rfl rfl) ?_
 rintro _ _ _ ⟨v45, _, rfl, ⟨⟨l41, ad42, cp43, rfl, rfl, rfl⟩, rfl⟩, _, rfl⟩
 refine J.wit Row.hn fun hn44 => ja (.slice ad42 l41.length cp43) rfl <| J.nil <| CJ.ret ?_
 obtain rfl := si h
 exact ⟨_, _, Res.one rfl rfl, ⟨l41, ad42, cp43, rfl, rfl, rfl⟩, (Hp.le_refl _), fun w hs => hs⟩
noncomputable def fn_ref01_Same_l1 (xa : (List Int)) (xb : (List Int)) : Int → Option (Int ⊕ (Unit ⊕ Bool)) := fun (i413 : Int) => cond (decide (i413 < (((xa.length : Nat) : Int)))) ((getI xa i413).bind fun x476 => (getI xb i413).bind fun x485 => cond (!decide (x476 = x485)) (some (.inr ((.inr (false))))) (some (.inl (IntKind.wrap .i64 (i413 + 1))))) (some (.inr ((.inl ()))))
noncomputable def fn_ref01_Same (xa : (List Int)) (xb : (List Int)) : Option Bool :=
  cond (!decide ((((xa.length : Nat) : Int)) = (((xb.length : Nat) : Int)))) (some (false)) ((loop (fn_ref01_Same_l1 xa xb) 0 : Option (Unit ⊕ Bool)).bind fun o => match o with | .inr r => some r | .inl () => some (true))
set_option maxRecDepth 100000 in
set_option maxHeartbeats 4000000 in
theorem ref01_Same_ok {K : Hp} {xa : (List Int)} {xb : (List Int)} {adxa_0 : Option Addr} {cpxa_0 : Nat} {adxb_0 : Option Addr} {cpxb_0 : Nat} (fxa_0 : Is K (.sl (.int .i64)) [.slice adxa_0 xa.length cpxa_0] xa) (fxb_0 : Is K (.sl (.int .i64)) [.slice adxb_0 xb.length cpxb_0] xb) {r : Bool} (h : fn_ref01_Same xa xb = some r) :
    Tr Try.prog 13 #[.slice adxa_0 xa.length cpxa_0, .slice adxb_0 xb.length cpxb_0] K [] (fun v K' L' => (∃ (t249 : Bool), t249 = r ∧ .bool t249 = v ∧ L' = []) ∧ K = K') := by
 refine Tr.k <| Tr.of Try.func13 rfl Try.ntmps13 rfl fun E F => ?_
 unfold fn_ref01_Same at h
 refine CJ.seq <| CJ.region <| ja (.bool false) rfl <| J.nil <| CJ.seq <| CJ.seq <| CJ.region ?_
 refine jm (.slice adxa_0 xa.length cpxa_0) rfl <| jv (ii (((xa.length : Nat) : Int))) (V.len Try.underlying37 rfl) <| jm (.slice adxb_0 xb.length cpxb_0) rfl <| jv (ii (((xb.length : Nat) : Int))) (V.len Try.underlying37 rfl) <| jv (.bool (!decide ((((xa.length : Nat) : Int)) = (((xb.length : Nat) : Int))))) (V.neq rfl rfl) <| J.nil <| cc rfl h (fun hc250 h => ?_) fun hc250 h => ?_
 · refine CJ.seq <| CJ.region <| ja (.bool false) rfl <| J.nil <| CJ.ret ?_
   obtain rfl := si h
   exact ⟨_, _, Res.one rfl rfl, ⟨false, rfl, rfl, rfl⟩, (Hp.le_refl _), fun w hs => hs⟩
 refine CJ.skip <| CJ.seq <| CJ.seq <| CJ.region <| ja (ii 0) rfl <| J.nil ?_
 obtain ⟨o372, ho373, h⟩ := ob h
 refine CJ.joinN (o := o372) (fun s ρ K' L' => () = s ∧ Fits [] ρ ∧ K = K' ∧ F = L') ?_ ?_
 · refine CJ.block <| CJ.loop (fun s ρ K' L' => ∃ (i413 : Int), i413 = s ∧ Fits [(0, .slice adxa_0 xa.length cpxa_0), (1, .slice adxb_0 xb.length cpxb_0), (5, ii i413)] ρ ∧ K = K' ∧ F = L') ho373 ⟨0, rfl, ⟨rfl, rfl, rfl, trivial⟩, rfl, rfl⟩ ?_
   rintro s ρ _ _ r456 ⟨i413, rfl, hf454, rfl, rfl⟩ h453
   obtain ⟨ρ, rfl⟩ := hf454.ex
   refine CJ.seq <| CJ.seq <| CJ.region <| jm (ii i413) rfl <| jm (.slice adxa_0 xa.length cpxa_0) rfl <| jv (ii (((xa.length : Nat) : Int))) (V.len Try.underlying37 rfl) <| jv (.bool (decide (i413 < (((xa.length : Nat) : Int))))) (V.lss rfl rfl) ?_
   refine J.nil <| cc rfl h453 (fun hc457 h453 => ?_) fun hc457 h453 => ?_
   · refine CJ.skip <| CJ.seq <| CJ.block <| CJ.seq <| CJ.mix [] [] [0, 1, 2, 3, 4, 5, 6, 7, 8] [] mixO (by decide +kernel) trivial rfl rfl rfl <| JM.nil <| qm (.slice adxa_0 xa.length cpxa_0) rfl ?_
     refine qm (ii i413) rfl ?_
     obtain ⟨x476, hx477, h453⟩ := ob h453
     obtain ⟨p478, p479, p480⟩ := getI_some hx477
     obtain ⟨b481, o482, e483, a484⟩ := (fxa_0).at p479
     refine qv _ (V.iad Try.underlying37 sz3 rfl e483 rfl p478 p480) <| qv (ii x476) (V.ld rfl (Ld.sc sc3 (Rd.k (a484).int (Hp.le_refl _)))) <| qm (.slice adxb_0 xb.length cpxb_0) rfl <| qm (ii i413) rfl ?_
     obtain ⟨x485, hx486, h453⟩ := ob h453
     obtain ⟨p487, p488, p489⟩ := getI_some hx486
     obtain ⟨b490, o491, e492, a493⟩ := (fxb_0).at p488
     refine qv _ (V.iad Try.underlying37 sz3 rfl e492 rfl p487 p489) <| qv (ii x485) (V.ld rfl (Ld.sc sc3 (Rd.k (a493).int (Hp.le_refl _)))) <| qv (.bool (!decide (x476 = x485))) (V.neq rfl rfl) <| JQ.nil <| J.nil <| cc rfl h453 (fun hc494 h453 => ?_) fun hc494 h453 => ?_
     · refine CJ.seq <| CJ.region <| ja (.bool false) rfl <| J.nil <| CJ.ret ?_
       obtain rfl := si h453
       refine ⟨nofun, fun e => ?_⟩
       subst e
       refine .inr ⟨nofun, ?_⟩
       obtain rfl := si h
       exact ⟨_, _, Res.one rfl rfl, ⟨false, rfl, rfl, rfl⟩, (Hp.le_refl _), fun w hs => hs⟩
     refine CJ.skip <| CJ.region <| jm (ii i413) rfl <| jv (ii (IntKind.wrap .i64 (i413 + 1))) (V.add rfl rfl) <| ja (ii (IntKind.wrap .i64 (i413 + 1))) rfl <| J.nil ?_
     obtain rfl := si h453
     exact ⟨rfl, ⟨IntKind.wrap .i64 (i413 + 1), rfl, ⟨rfl, rfl, rfl, trivial⟩, rfl, rfl⟩⟩
   refine CJ.exit ?_
   obtain rfl := si h453
   refine ⟨nofun, fun e => ?_⟩
   subst e
   exact .inl ⟨rfl, _, rfl, ⟨rfl, trivial, rfl, rfl⟩⟩
 rintro s ρ _ _ ho495 ⟨rfl, hf496, rfl, rfl⟩
 subst ho495
 obtain ⟨ρ, rfl⟩ := hf496.ex
 refine PJ.done <| CJ.seq <| CJ.region <| ja (.bool true) rfl <| J.nil <| CJ.ret ?_
 obtain rfl := si h
 exact ⟨_, _, Res.one rfl rfl, ⟨true, rfl, rfl, rfl⟩, (Hp.le_refl _), fun w hs => hs⟩
noncomputable def fn_law22_PointTells_l1 (l447 : (List (Int × Int × Bool))) : ((List Int) × Int × Int) → Option (((List Int) × Int × Int) ⊕ ((List Int) × Int)) := fun ((l570, i575, i576) : ((List Int) × Int × Int)) => cond (decide (i576 < (((l447.length : Nat) : Int)))) ((getI l447 i576).bind fun x607 => cond (decide (x607.2.1 = 0)) ((app l570 ([i576] : List Int)).bind fun z618 => some (.inl ((z618, IntKind.wrap .i64 (i575 + 1), IntKind.wrap .i64 (i576 + 1))))) (some (.inl ((l570, i575, IntKind.wrap .i64 (i576 + 1)))))) (some (.inr (((l570, i575)))))
noncomputable def fn_law22_PointTells (xa : (Int × Int × (List (Int × Int)) × (List (List (Int × Bool))) × (List (Int × Bool)) × (List (Int × (List (Int × Int)) × (List (List (Int × Bool))) × (List (Int × Bool)))) × (List ((List (Int × Int × Int × Int × Bool)) × (Int × Int × Int × (List Int) × (List Int) × (List Int)))))) (xb : Int) (xc : Int) (xd : Int) : Option Bool :=
  (fn_ref20_Small (xa.1, xa.2.1, xa.2.2.1, xa.2.2.2.1, xa.2.2.2.2.1, xa.2.2.2.2.2.1, xa.2.2.2.2.2.2)).bind fun t426 => cond (!t426) ((fn_law22_awake).bind fun t433 => some (t433)) ((fn_point_New (xa.1, xa.2.1, xa.2.2.1, xa.2.2.2.1, xa.2.2.2.2.1, xa.2.2.2.2.2.1, xa.2.2.2.2.2.2)).bind fun p439 => (fn_ref22_All (xa.1, xa.2.1, xa.2.2.1, xa.2.2.2.1, xa.2.2.2.2.1, xa.2.2.2.2.2.1, xa.2.2.2.2.2.2)).bind fun l447 => (loop (fn_law22_PointTells_l1 l447) ((([] : List Int), 0, 0)) : Option (((List Int) × Int))).bind fun (l537, i542) => (fn_point_Points_Of p439 xc xd).bind fun (i628, t629) => (fn_ref22_Of l447 xc xd).bind fun (i638, t639) => (fn_point_Points_Len p439).bind fun i645 => (cond (!decide (i645 = (((l447.length : Nat) : Int)))) (some (true)) ((fn_point_Points_Blocks p439).bind fun i661 => some (!decide (i661 = i542)))).bind fun t656 => (cond ((t656 || (!decide (i628 = i638))) || (!(t629 == t639))) (some (true)) ((fn_point_Points_Begins p439).bind fun l699 => (fn_ref01_Same l699 l537).bind fun t715 => some (!t715))).bind fun t694 => cond (t694) (some (false)) ((fn_point_Points_At p439 xb).bind fun (i722, i723, t724) => cond ((decide (xb < 0)) || (decide ((((l447.length : Nat) : Int)) ≤ xb))) ((cond (((decide (i722 = 0)) && (decide (i723 = 0))) && (!t724)) ((fn_point_Points_Ends p439 xb).bind fun t750 => some (!t750)) (some (false))).bind fun t745 => (cond (t745) ((fn_law22_awake).bind fun t766 => some (t766)) (some (false))).bind fun t761 => some (t761)) ((getI l447 xb).bind fun x807 => cond (decide (i722 = x807.1)) ((getI l447 xb).bind fun x815 => cond (decide (i723 = x815.2.1)) (cond (t724) ((getI l447 xb).bind fun x824 => (fn_point_Points_Ends p439 xb).bind fun t833 => cond (t833 == x824.2.2) ((fn_law22_awake).bind fun t840 => some (t840)) (some (false))) (some (false))) (some (false))) (some (false)))))
set_option maxRecDepth 100000 in
set_option maxHeartbeats 4000000 in
theorem law22_PointTells_ok {K : Hp} {xa : (Int × Int × (List (Int × Int)) × (List (List (Int × Bool))) × (List (Int × Bool)) × (List (Int × (List (Int × Int)) × (List (List (Int × Bool))) × (List (Int × Bool)))) × (List ((List (Int × Int × Int × Int × Bool)) × (Int × Int × Int × (List Int) × (List Int) × (List Int)))))} {xb : Int} {xc : Int} {xd : Int} {adxa_2 : Option Addr} {cpxa_2 : Nat} {adxa_3 : Option Addr} {cpxa_3 : Nat} {adxa_4 : Option Addr} {cpxa_4 : Nat} {adxa_5 : Option Addr} {cpxa_5 : Nat} {adxa_6 : Option Addr} {cpxa_6 : Nat} (fxa_2 : Is K (.sl (.cons (.int .i64) (.one (.int .i64)))) [.slice adxa_2 xa.2.2.1.length cpxa_2] xa.2.2.1) (fxa_3 : Is K (.sl (.one (.sl (.cons (.int .i64) (.one .bool))))) [.slice adxa_3 xa.2.2.2.1.length cpxa_3] xa.2.2.2.1) (fxa_4 : Is K (.sl (.cons (.int .i64) (.one .bool))) [.slice adxa_4 xa.2.2.2.2.1.length cpxa_4] xa.2.2.2.2.1) (fxa_5 : Is K (.sl (.cons (.int .i64) (.cons (.sl (.cons (.int .i64) (.one (.int .i64)))) (.cons (.sl (.one (.sl (.cons (.int .i64) (.one .bool))))) (.one (.one (.sl (.cons (.int .i64) (.one .bool))))))))) [.slice adxa_5 xa.2.2.2.2.2.1.length cpxa_5] xa.2.2.2.2.2.1) (fxa_6 : Is K (.sl (.cons (.sl (.cons (.int .i64) (.cons (.int .i64) (.cons (.int .i64) (.cons (.int .i64) (.one .bool)))))) (.one (.cons (.int .i64) (.cons (.int .i64) (.cons (.int .i64) (.cons (.sl (.int .i64)) (.cons (.sl (.int .i64)) (.one (.sl (.int .i64))))))))))) [.slice adxa_6 xa.2.2.2.2.2.2.length cpxa_6] xa.2.2.2.2.2.2) {r : Bool} (h : fn_law22_PointTells xa xb xc xd = some r) :
    Tr Try.prog 3 #[.agg #[ii xa.1, ii xa.2.1, .slice adxa_2 xa.2.2.1.length cpxa_2, .slice adxa_3 xa.2.2.2.1.length cpxa_3, .slice adxa_4 xa.2.2.2.2.1.length cpxa_4, .slice adxa_5 xa.2.2.2.2.2.1.length cpxa_5, .slice adxa_6 xa.2.2.2.2.2.2.length cpxa_6], ii xb, ii xc, ii xd] K [] (fun v K' L' => (∃ (t422 : Bool), t422 = r ∧ .bool t422 = v ∧ L' = []) ∧ K = K') := by
 refine Tr.k <| Tr.of Try.func3 rfl Try.ntmps3 rfl fun E F => ?_
 unfold fn_law22_PointTells at h
 refine CJ.seq <| CJ.region <| jbx [ii xa.1, ii xa.2.1, .slice adxa_2 xa.2.2.1.length cpxa_2, .slice adxa_3 xa.2.2.2.1.length cpxa_3, .slice adxa_4 xa.2.2.2.2.1.length cpxa_4, .slice adxa_5 xa.2.2.2.2.2.1.length cpxa_5, .slice adxa_6 xa.2.2.2.2.2.2.length cpxa_6] rfl rfl fun b423 => ja (.bool false) rfl <| J.nil <| CJ.seq <| CJ.seq ?_
 refine CJ.region <| jv (.agg #[ii xa.1, ii xa.2.1, .slice adxa_2 xa.2.2.1.length cpxa_2, .slice adxa_3 xa.2.2.2.1.length cpxa_3, .slice adxa_4 xa.2.2.2.2.1.length cpxa_4, .slice adxa_5 xa.2.2.2.2.2.1.length cpxa_5, .slice adxa_6 xa.2.2.2.2.2.2.length cpxa_6]) (V.ld rfl (Ld.agg (cs := [ii xa.1, ii xa.2.1, .slice adxa_2 xa.2.2.1.length cpxa_2, .slice adxa_3 xa.2.2.2.1.length cpxa_3, .slice adxa_4 xa.2.2.2.2.1.length cpxa_4, .slice adxa_5 xa.2.2.2.2.2.1.length cpxa_5, .slice adxa_6 xa.2.2.2.2.2.2.length cpxa_6]) Try.underlying30 sz30 rfl (Rd.cls 0 0 rfl rfl))) ?_
 obtain ⟨r424, hr425, h⟩ := ob h
 refine J.op rfl (A.call (L1 := []) Try.call5 rfl (ref20_Small_ok fxa_2 fxa_3 fxa_4 fxa_5 fxa_6 hr425) rfl rfl) ?_
 rintro _ _ _ ⟨v427, _, rfl, ⟨⟨t426, rfl, rfl, rfl⟩, rfl⟩, _, rfl⟩
 refine jv (.bool (!t426)) (V.not rfl) <| J.nil <| cc rfl h (fun hc430 h => ?_) fun hc430 h => ?_
 · refine CJ.seq <| CJ.region ?_
   obtain ⟨r431, hr432, h⟩ := ob h
   refine J.op rfl (A.call (L1 := []) Try.call6 rfl (law22_awake_ok hr432) rfl rfl) ?_
   rintro _ _ _ ⟨v434, _, rfl, ⟨⟨t433, rfl, rfl, rfl⟩, rfl⟩, _, rfl⟩
   refine ja (.bool t433) rfl <| J.nil <| CJ.ret ?_
   obtain rfl := si h
   exact ⟨_, _, Res.one rfl rfl, ⟨t433, rfl, rfl, rfl⟩, (Hp.le_refl _), fun w hs => (Sep.dropAt 0 rfl hs)⟩
 refine CJ.skip <| CJ.seq <| CJ.region <| jv (.agg #[ii xa.1, ii xa.2.1, .slice adxa_2 xa.2.2.1.length cpxa_2, .slice adxa_3 xa.2.2.2.1.length cpxa_3, .slice adxa_4 xa.2.2.2.2.1.length cpxa_4, .slice adxa_5 xa.2.2.2.2.2.1.length cpxa_5, .slice adxa_6 xa.2.2.2.2.2.2.length cpxa_6]) (V.ld rfl (Ld.agg (cs := [ii xa.1, ii xa.2.1, .slice adxa_2 xa.2.2.1.length cpxa_2, .slice adxa_3 xa.2.2.2.1.length cpxa_3, .slice adxa_4 xa.2.2.2.2.1.length cpxa_4, .slice adxa_5 xa.2.2.2.2.2.1.length cpxa_5, .slice adxa_6 xa.2.2.2.2.2.2.length cpxa_6]) Try.underlying30 sz30 rfl (Rd.cls 0 0 rfl rfl))) ?_
 obtain ⟨r437, hr438, h⟩ := ob h
 refine J.op rfl (A.call (L1 := []) Try.call7 rfl (point_New_ok fxa_2 fxa_3 fxa_4 fxa_5 fxa_6 hr438) rfl rfl) ?_
 rintro _ K443 _ ⟨v442, _, rfl, ⟨p439, v440, rfl, rfl, f441, rfl⟩, hK444, rfl⟩
 refine ja v440 rfl <| J.nil <| CJ.seq <| CJ.region <| jv (.agg #[ii xa.1, ii xa.2.1, .slice adxa_2 xa.2.2.1.length cpxa_2, .slice adxa_3 xa.2.2.2.1.length cpxa_3, .slice adxa_4 xa.2.2.2.2.1.length cpxa_4, .slice adxa_5 xa.2.2.2.2.2.1.length cpxa_5, .slice adxa_6 xa.2.2.2.2.2.2.length cpxa_6]) (V.ld rfl (Ld.agg (cs := [ii xa.1, ii xa.2.1, .slice adxa_2 xa.2.2.1.length cpxa_2, .slice adxa_3 xa.2.2.2.1.length cpxa_3, .slice adxa_4 xa.2.2.2.2.1.length cpxa_4, .slice adxa_5 xa.2.2.2.2.2.1.length cpxa_5, .slice adxa_6 xa.2.2.2.2.2.2.length cpxa_6]) Try.underlying30 sz30 rfl (Rd.cls 0 0 rfl rfl))) ?_
 obtain ⟨r445, hr446, h⟩ := ob h
 refine J.op rfl (A.call (L1 := []) Try.call8 rfl (ref22_All_ok (fxa_2.mono hK444) (fxa_3.mono hK444) (fxa_4.mono hK444) (fxa_5.mono hK444) (fxa_6.mono hK444) hr446) rfl rfl) ?_
 rintro _ _ _ ⟨v451, _, rfl, ⟨⟨l447, ad448, cp449, rfl, rfl, rfl⟩, rfl⟩, _, rfl⟩
 refine J.wit Row.hn fun hn450 => ja (.slice ad448 l447.length cp449) rfl <| J.nil <| CJ.seq <| CJ.region ?_
 refine J.op rfl (A.lit (K0 := Hp.nil) (ty := (.int .i64)) (xs := ([] : List Int)) Try.underlying37 inf3 rfl (by decide) rfl rfl rfl rfl rfl (by decide)) ?_
 rintro _ _ _ ⟨b455, rfl, rfl, rfl⟩
 have hn456 : ([] : List Int) ≠ [] → ∃ g, (some ⟨b455, 0, none⟩ : Option Addr) = some ⟨g, 0, none⟩ := fun _ => ⟨b455, rfl⟩
 refine ja (.slice (some ⟨b455, 0, none⟩) (([] : List Int).length) 0) rfl <| J.nil <| CJ.seq <| CJ.region <| ja (ii 0) rfl <| J.nil <| CJ.seq ?_
 refine CJ.seq <| CJ.region <| ja (ii 0) rfl <| J.nil ?_
 obtain ⟨o543, ho544, h⟩ := ob h
 refine CJ.meetN (fun ρ K' L' => ∃ (l537 : (List Int)) (i542 : Int) (ad538 : Option Addr) (cp539 : Nat), (l537, i542) = o543 ∧ Fits [(1, ii xb), (2, ii xc), (3, ii xd), (9, v440), (10, .slice ad448 l447.length cp449), (11, .slice ad538 l537.length cp539), (12, ii i542)] ρ ∧ K443 = K' ∧ L' = Row Hp.nil 39 (.cons (.int .i64) (.cons (.int .i64) (.one .bool))) (.slice ad448 l447.length cp449) l447 :: Row Hp.nil 3 (.int .i64) (.slice ad538 l537.length cp539) l537 :: F) ?_ ?_
 · refine CJ.block <| CJ.dropAt 2 rfl <| CJ.front 1 rfl <| CJ.loop (fun s ρ K' L' => ∃ (l570 : (List Int)) (i575 : Int) (i576 : Int) (ad571 : Option Addr) (cp572 : Nat), (l570, i575, i576) = s ∧ Fits [(1, ii xb), (2, ii xc), (3, ii xd), (9, v440), (10, .slice ad448 l447.length cp449), (11, .slice ad571 l570.length cp572), (12, ii i575), (13, ii i576)] ρ ∧ K443 = K' ∧ L' = Row Hp.nil 39 (.cons (.int .i64) (.cons (.int .i64) (.one .bool))) (.slice ad448 l447.length cp449) l447 :: Row Hp.nil 3 (.int .i64) (.slice ad571 l570.length cp572) l570 :: F) ho544 ⟨([] : List Int), 0, 0, (some ⟨b455, 0, none⟩), 0, rfl, ⟨rfl, rfl, rfl, rfl, rfl, rfl, rfl, rfl, trivial⟩, rfl, rfl⟩ ?_
   rintro s ρ _ _ r605 ⟨l570, i575, i576, ad571, cp572, rfl, hf603, rfl, rfl⟩ h602
   obtain ⟨ρ, rfl⟩ := hf603.ex
   refine CJ.front 1 rfl <| CJ.wit Row.hn fun hn574 => CJ.seq <| CJ.seq <| CJ.region <| jm (ii i576) rfl <| jm (.slice ad448 l447.length cp449) rfl ?_
   refine jv (ii (((l447.length : Nat) : Int))) (V.len Try.underlying35 rfl) <| jv (.bool (decide (i576 < (((l447.length : Nat) : Int))))) (V.lss rfl rfl) <| J.nil <| cc rfl h602 (fun hc606 h602 => ?_) fun hc606 h602 => ?_
   · refine CJ.skip <| CJ.seq <| CJ.block <| CJ.seq <| CJ.region <| jm (.slice ad448 l447.length cp449) rfl <| jm (ii i576) rfl ?_
     obtain ⟨x607, hx608, h602⟩ := ob h602
     obtain ⟨p609, p610, p611⟩ := getI_some hx608
     obtain ⟨g612, e613⟩ := hn450 (fun e => by rw [e] at p610; simp at p610)
     refine jv _ (V.iad Try.underlying35 sz39 rfl e613 rfl p609 p611) <| jv _ (V.fad Try.underlying39 rfl nz3 rfl) <| jv (ii x607.2.1) (V.ld rfl (Ld.sc sc3 (Rd.row 1 rfl e613 p610 (q := 1) (by simp [Tp.size]) (by decide) (by rintro _ ⟨_, _, rfl, _, rfl, ⟨_, _, rfl, _, rfl, rfl⟩⟩; rfl)))) <| jv (.bool (decide (x607.2.1 = 0))) (V.eql rfl rfl) <| J.nil <| cc rfl h602 (fun hc614 h602 => ?_) fun hc614 h602 => ?_
     · refine CJ.seq <| CJ.region <| jm (.slice ad571 l570.length cp572) rfl <| jm (ii i576) rfl ?_
       refine J.op rfl (A.lit (K0 := Hp.nil) (ty := (.int .i64)) (xs := ([i576] : List Int)) Try.underlying37 inf3 rfl (by decide) rfl rfl rfl ⟨_, _, rfl, rfl, rfl⟩ rfl (by decide)) ?_
       rintro _ _ _ ⟨b615, rfl, rfl, rfl⟩
       have hn616 : ([i576] : List Int) ≠ [] → ∃ g, (some ⟨b615, 0, none⟩ : Option Addr) = some ⟨g, 0, none⟩ := fun _ => ⟨b615, rfl⟩
       obtain ⟨z618, hz619, h602⟩ := ob h602
       refine J.front 1 rfl <| J.op rfl (A.appR (Kr := Hp.nil) Try.underlying37 inf3 rfl rfl (by decide) (by decide) rfl rfl (Els.flat rfl) (Els.flat rfl) hz619) ?_
       rintro _ _ _ ⟨v620, rfl, rfl, rfl⟩
       refine J.wit Row.form ?_
       rintro ⟨ad621, cp622, rfl, _, _, hn623⟩
       refine ja (.slice ad621 z618.length cp622) rfl <| J.nil <| CJ.region <| jm (ii i575) rfl <| jv (ii (IntKind.wrap .i64 (i575 + 1))) (V.add rfl rfl) <| ja (ii (IntKind.wrap .i64 (i575 + 1))) rfl <| J.nil ?_
       refine CJ.region <| jm (ii i576) rfl <| jv (ii (IntKind.wrap .i64 (i576 + 1))) (V.add rfl rfl) <| ja (ii (IntKind.wrap .i64 (i576 + 1))) rfl <| J.front 1 rfl <| J.nil ?_
       obtain rfl := si h602
       exact ⟨rfl, ⟨z618, IntKind.wrap .i64 (i575 + 1), IntKind.wrap .i64 (i576 + 1), ad621, cp622, rfl, ⟨rfl, rfl, rfl, rfl, rfl, rfl, rfl, rfl, trivial⟩, rfl, rfl⟩⟩
     refine CJ.skip <| CJ.region <| jm (ii i576) rfl <| jv (ii (IntKind.wrap .i64 (i576 + 1))) (V.add rfl rfl) <| ja (ii (IntKind.wrap .i64 (i576 + 1))) rfl <| J.front 1 rfl <| J.nil ?_
     obtain rfl := si h602
     exact ⟨rfl, ⟨l570, i575, IntKind.wrap .i64 (i576 + 1), ad571, cp572, rfl, ⟨rfl, rfl, rfl, rfl, rfl, rfl, rfl, rfl, trivial⟩, rfl, rfl⟩⟩
   refine CJ.front 1 rfl <| CJ.exit ?_
   obtain rfl := si h602
   refine ⟨nofun, fun e => ?_⟩
   subst e
   exact ⟨rfl, ⟨l570, i575, ad571, cp572, rfl, ⟨rfl, rfl, rfl, rfl, rfl, rfl, rfl, trivial⟩, rfl, rfl⟩⟩
 rintro ρ _ _ ⟨l537, i542, ad538, cp539, rfl, hf624, rfl, rfl⟩
 obtain ⟨ρ, rfl⟩ := hf624.ex
 refine PJ.front 1 rfl <| PJ.wit Row.hn fun hn541 => PJ.done <| CJ.seq <| CJ.region <| jm v440 rfl <| jm (ii xc) rfl ?_
 refine jm (ii xd) rfl ?_
 obtain ⟨r626, hr627, h⟩ := ob h
 refine J.op rfl (A.call (L1 := []) Try.call9 rfl (point_Points_Of_ok f441 hr627) rfl rfl) ?_
 rintro _ _ _ ⟨v630, _, rfl, ⟨⟨i628, t629, rfl, rfl, rfl⟩, rfl⟩, _, rfl⟩
 refine jm (.tuple #[ii i628, .bool t629]) rfl <| jx (ii i628) rfl rfl <| jx (.bool t629) rfl rfl <| ja (ii i628) rfl <| ja (.bool t629) rfl <| J.nil <| CJ.seq ?_
 refine CJ.region <| jm (.slice ad448 l447.length cp449) rfl <| jm (ii xc) rfl <| jm (ii xd) rfl ?_
 obtain ⟨r633, hr634, h⟩ := ob h
 refine J.front 1 rfl <| J.op rfl (A.call (L1 := [Row Hp.nil 39 (.cons (.int .i64) (.cons (.int .i64) (.one .bool))) (.slice ad448 l447.length cp449) l447]) Try.call10 rfl (Tr.lend (Hp.nil_le _) (by decide) (fun K635 hK636 f637 => ref22_Of_ok f637 hr634)) rfl rfl) ?_
 rintro _ _ _ ⟨v640, _, rfl, ⟨⟨_, ⟨i638, t639, rfl, rfl, rfl⟩, rfl⟩, rfl⟩, _, rfl⟩
 refine jm (.tuple #[ii i638, .bool t639]) rfl <| jx (ii i638) rfl rfl <| jx (.bool t639) rfl rfl <| ja (ii i638) rfl <| ja (.bool t639) rfl <| J.nil <| CJ.seq ?_
 refine CJ.seq <| CJ.region <| jm v440 rfl ?_
 obtain ⟨r643, hr644, h⟩ := ob h
 refine J.op rfl (A.call (L1 := []) Try.call11 rfl (point_Points_Len_ok f441 hr644) rfl rfl) ?_
 rintro _ _ _ ⟨v646, _, rfl, ⟨⟨i645, rfl, rfl, rfl⟩, rfl⟩, _, rfl⟩
 refine jm (.slice ad448 l447.length cp449) rfl <| jv (ii (((l447.length : Nat) : Int))) (V.len Try.underlying35 rfl) <| jv (.bool (!decide (i645 = (((l447.length : Nat) : Int))))) (V.neq rfl rfl) <| jm (.bool (!decide (i645 = (((l447.length : Nat) : Int))))) rfl <| J.cut 5 ?_
 obtain ⟨t656, ht657, h⟩ := ob h
 refine jmeet [(72, .bool t656), (1, ii xb), (9, v440), (10, .slice ad448 l447.length cp449), (11, .slice ad538 l537.length cp539), (14, ii i628), (15, .bool t629), (16, ii i638), (17, .bool t639)] ?_ ?_
 · rcases bt (!decide (i645 = (((l447.length : Nat) : Int)))) with hc658 | hc658
   · have ht657 := ct hc658 ht657
     refine J.skip rfl rfl rfl rfl hc658 <| J.skip rfl rfl rfl rfl hc658 <| J.skip rfl rfl rfl rfl hc658 <| J.skip rfl rfl rfl rfl hc658 <| jv (.bool true) (V.pickT rfl hc658 rfl) <| J.nil ?_
     obtain rfl := si ht657
     exact ⟨rfl, ⟨rfl, rfl, rfl, rfl, rfl, rfl, rfl, rfl, rfl, trivial⟩, rfl, rfl⟩
   have ht657 := cf hc658 ht657
   refine J.run rfl rfl rfl hc658 <| jm v440 rfl <| J.run rfl rfl rfl hc658 ?_
   obtain ⟨r659, hr660, ht657⟩ := ob ht657
   refine J.op rfl (A.call (L1 := []) Try.call12 rfl (point_Points_Blocks_ok f441 hr660) rfl rfl) ?_
   rintro _ _ _ ⟨v662, _, rfl, ⟨⟨i661, rfl, rfl, rfl⟩, rfl⟩, _, rfl⟩
   refine J.run rfl rfl rfl hc658 <| jm (ii i542) rfl <| J.run rfl rfl rfl hc658 <| jv (.bool (!decide (i661 = i542))) (V.neq rfl rfl) <| jv (.bool (!decide (i661 = i542))) (V.pickF rfl hc658 rfl) <| J.nil ?_
   obtain rfl := si ht657
   exact ⟨rfl, ⟨rfl, rfl, rfl, rfl, rfl, rfl, rfl, rfl, rfl, trivial⟩, rfl, rfl⟩
 intro ρ
 refine jm (.bool t656) rfl <| J.cut 4 <| jmeet [(77, .bool (t656 || (!decide (i628 = i638)))), (1, ii xb), (9, v440), (10, .slice ad448 l447.length cp449), (11, .slice ad538 l537.length cp539), (15, .bool t629), (17, .bool t639)] ?_ ?_
 · rcases bt (t656) with hc667 | hc667
   · refine J.skip rfl rfl rfl rfl hc667 <| J.skip rfl rfl rfl rfl hc667 <| J.skip rfl rfl rfl rfl hc667 <| jv (.bool true) (V.pickT rfl hc667 rfl) <| J.nil ?_
     exact ⟨rfl, ⟨(by simp only [hc667]; rfl), rfl, rfl, rfl, rfl, rfl, rfl, trivial⟩, rfl, rfl⟩
   refine J.run rfl rfl rfl hc667 <| jm (ii i628) rfl <| J.run rfl rfl rfl hc667 <| jm (ii i638) rfl <| J.run rfl rfl rfl hc667 <| jv (.bool (!decide (i628 = i638))) (V.neq rfl rfl) <| jv (.bool (!decide (i628 = i638))) (V.pickF rfl hc667 rfl) ?_
   refine J.nil ?_
   exact ⟨rfl, ⟨(by simp only [hc667]; rfl), rfl, rfl, rfl, rfl, rfl, rfl, trivial⟩, rfl, rfl⟩
 intro ρ
 refine jm (.bool (t656 || (!decide (i628 = i638)))) rfl <| J.cut 4 <| jmeet [(82, .bool ((t656 || (!decide (i628 = i638))) || (!(t629 == t639)))), (1, ii xb), (9, v440), (10, .slice ad448 l447.length cp449), (11, .slice ad538 l537.length cp539)] ?_ ?_
 · rcases bt (t656 || (!decide (i628 = i638))) with hc670 | hc670
   · refine J.skip rfl rfl rfl rfl hc670 <| J.skip rfl rfl rfl rfl hc670 <| J.skip rfl rfl rfl rfl hc670 <| jv (.bool true) (V.pickT rfl hc670 rfl) <| J.nil ?_
     exact ⟨rfl, ⟨(by simp only [hc670]; rfl), rfl, rfl, rfl, rfl, trivial⟩, rfl, rfl⟩
   refine J.run rfl rfl rfl hc670 <| jm (.bool t629) rfl <| J.run rfl rfl rfl hc670 <| jm (.bool t639) rfl <| J.run rfl rfl rfl hc670 <| jv (.bool (!(t629 == t639))) (V.neb Try.underlying4 rfl rfl) <| jv (.bool (!(t629 == t639))) (V.pickF rfl hc670 rfl) ?_
   refine J.nil ?_
   exact ⟨rfl, ⟨(by simp only [hc670]; rfl), rfl, rfl, rfl, rfl, trivial⟩, rfl, rfl⟩
 intro ρ
 refine jm (.bool ((t656 || (!decide (i628 = i638))) || (!(t629 == t639)))) rfl <| J.cut 6 ?_
 obtain ⟨t694, ht695, h⟩ := ob h
 refine jmeet [(89, .bool t694), (1, ii xb), (9, v440), (10, .slice ad448 l447.length cp449)] ?_ ?_
 · rcases bt ((t656 || (!decide (i628 = i638))) || (!(t629 == t639))) with hc696 | hc696
   · have ht695 := ct hc696 ht695
     refine J.skip rfl rfl rfl rfl hc696 <| J.skip rfl rfl rfl rfl hc696 <| J.skip rfl rfl rfl rfl hc696 <| J.skip rfl rfl rfl rfl hc696 <| J.skip rfl rfl rfl rfl hc696 <| jv (.bool true) (V.pickT rfl hc696 rfl) <| J.nil ?_
     obtain rfl := si ht695
     exact ⟨rfl, ⟨rfl, rfl, rfl, rfl, trivial⟩, rfl, rfl⟩
   have ht695 := cf hc696 ht695
   refine J.run rfl rfl rfl hc696 <| jm v440 rfl <| J.run rfl rfl rfl hc696 ?_
   obtain ⟨r697, hr698, ht695⟩ := ob ht695
   refine J.op rfl (A.call (L1 := []) Try.call14 rfl (point_Points_Begins_ok f441 hr698) rfl rfl) ?_
   rintro _ _ _ ⟨v703, _, rfl, ⟨⟨l699, ad700, cp701, rfl, rfl, rfl⟩, rfl⟩, _, rfl⟩
   refine J.wit Row.hn fun hn702 => J.run rfl rfl rfl hc696 <| jm (.slice ad538 l537.length cp539) rfl <| J.run rfl rfl rfl hc696 ?_
   obtain ⟨r707, hr708, ht695⟩ := ob ht695
   refine J.front 2 rfl <| J.front 1 rfl <| J.op rfl (A.call (L1 := [Row Hp.nil 3 (.int .i64) (.slice ad700 l699.length cp701) l699, Row Hp.nil 3 (.int .i64) (.slice ad538 l537.length cp539) l537]) Try.call13 rfl (Tr.lend (Hp.nil_le _) (by decide) (fun K709 hK710 f711 => Tr.lend (Hp.nil_le _) (by decide) (fun K712 hK713 f714 => ref01_Same_ok (f711.mono hK713) f714 hr708))) rfl rfl) ?_
   rintro _ _ _ ⟨v716, _, rfl, ⟨⟨_, ⟨_, ⟨t715, rfl, rfl, rfl⟩, rfl⟩, rfl⟩, rfl⟩, _, rfl⟩
   refine J.run rfl rfl rfl hc696 <| jv (.bool (!t715)) (V.not rfl) <| jv (.bool (!t715)) (V.pickF rfl hc696 rfl) <| J.dropAt 0 rfl <| J.front 1 rfl <| J.nil ?_
   obtain rfl := si ht695
   exact ⟨rfl, ⟨rfl, rfl, rfl, rfl, trivial⟩, rfl, rfl⟩
 intro ρ
 refine J.nil <| cc rfl h (fun hc719 h => ?_) fun hc719 h => ?_
 · refine CJ.seq <| CJ.region <| ja (.bool false) rfl <| J.nil <| CJ.ret ?_
   obtain rfl := si h
   exact ⟨_, _, Res.one rfl rfl, ⟨false, rfl, rfl, rfl⟩, hK444, fun w hs => (Sep.dropAt 0 rfl (Sep.dropAt 0 rfl hs))⟩
 refine CJ.skip <| CJ.seq <| CJ.region <| jm v440 rfl <| jm (ii xb) rfl ?_
 obtain ⟨r720, hr721, h⟩ := ob h
 refine J.op rfl (A.call (L1 := []) Try.call15 rfl (point_Points_At_ok f441 hr721) rfl rfl) ?_
 rintro _ _ _ ⟨v725, _, rfl, ⟨⟨i722, i723, t724, rfl, rfl, rfl⟩, rfl⟩, _, rfl⟩
 refine jm (.tuple #[ii i722, ii i723, .bool t724]) rfl <| jx (ii i722) rfl rfl <| jx (ii i723) rfl rfl <| jx (.bool t724) rfl rfl <| ja (ii i722) rfl <| ja (ii i723) rfl <| ja (.bool t724) rfl ?_
 refine J.nil <| CJ.seq <| CJ.seq <| CJ.region <| jm (ii xb) rfl <| jv (.bool (decide (xb < 0))) (V.lss rfl rfl) <| jm (.bool (decide (xb < 0))) rfl ?_
 refine J.cut 5 <| jmeet [(104, .bool ((decide (xb < 0)) || (decide ((((l447.length : Nat) : Int)) ≤ xb)))), (1, ii xb), (9, v440), (10, .slice ad448 l447.length cp449), (18, ii i722), (19, ii i723), (20, .bool t724)] ?_ ?_
 · rcases bt (decide (xb < 0)) with hc730 | hc730
   · refine J.skip rfl rfl rfl rfl hc730 <| J.skip rfl rfl rfl rfl hc730 <| J.skip rfl rfl rfl rfl hc730 <| J.skip rfl rfl rfl rfl hc730 <| jv (.bool true) (V.pickT rfl hc730 rfl) <| J.nil ?_
     exact ⟨rfl, ⟨(by simp only [hc730]; rfl), rfl, rfl, rfl, rfl, rfl, rfl, trivial⟩, rfl, rfl⟩
   refine J.run rfl rfl rfl hc730 <| jm (ii xb) rfl <| J.run rfl rfl rfl hc730 <| jm (.slice ad448 l447.length cp449) rfl <| J.run rfl rfl rfl hc730 <| jv (ii (((l447.length : Nat) : Int))) (V.len Try.underlying35 rfl) <| J.run rfl rfl rfl hc730 ?_
   refine jv (.bool (decide ((((l447.length : Nat) : Int)) ≤ xb))) (V.geq rfl rfl) <| jv (.bool (decide ((((l447.length : Nat) : Int)) ≤ xb))) (V.pickF rfl hc730 rfl) <| J.nil ?_
   exact ⟨rfl, ⟨(by simp only [hc730]; rfl), rfl, rfl, rfl, rfl, rfl, rfl, trivial⟩, rfl, rfl⟩
 intro ρ
 refine J.nil <| cc rfl h (fun hc731 h => ?_) fun hc731 h => ?_
 · refine CJ.seq <| CJ.region <| jm (ii i722) rfl <| jv (.bool (decide (i722 = 0))) (V.eql rfl rfl) <| jm (.bool (decide (i722 = 0))) rfl <| J.cut 3 <| jmeet [(110, .bool ((decide (i722 = 0)) && (decide (i723 = 0)))), (1, ii xb), (9, v440), (20, .bool t724)] ?_ ?_
   · rcases bt (decide (i722 = 0)) with hc734 | hc734
     · refine J.run rfl rfl rfl hc734 <| jm (ii i723) rfl <| J.run rfl rfl rfl hc734 <| jv (.bool (decide (i723 = 0))) (V.eql rfl rfl) <| jv (.bool (decide (i723 = 0))) (V.pickT rfl hc734 rfl) <| J.nil ?_
       exact ⟨rfl, ⟨(by simp only [hc734]; rfl), rfl, rfl, rfl, trivial⟩, rfl, rfl⟩
     refine J.skip rfl rfl rfl rfl hc734 <| J.skip rfl rfl rfl rfl hc734 <| jv (.bool false) (V.pickF rfl hc734 rfl) <| J.nil ?_
     exact ⟨rfl, ⟨(by simp only [hc734]; rfl), rfl, rfl, rfl, trivial⟩, rfl, rfl⟩
   intro ρ
   refine jm (.bool ((decide (i722 = 0)) && (decide (i723 = 0)))) rfl <| J.cut 3 <| jmeet [(114, .bool (((decide (i722 = 0)) && (decide (i723 = 0))) && (!t724))), (1, ii xb), (9, v440)] ?_ ?_
   · rcases bt ((decide (i722 = 0)) && (decide (i723 = 0))) with hc737 | hc737
     · refine J.run rfl rfl rfl hc737 <| jm (.bool t724) rfl <| J.run rfl rfl rfl hc737 <| jv (.bool (!t724)) (V.not rfl) <| jv (.bool (!t724)) (V.pickT rfl hc737 rfl) <| J.nil ?_
       exact ⟨rfl, ⟨(by simp only [hc737]; rfl), rfl, rfl, trivial⟩, rfl, rfl⟩
     refine J.skip rfl rfl rfl rfl hc737 <| J.skip rfl rfl rfl rfl hc737 <| jv (.bool false) (V.pickF rfl hc737 rfl) <| J.nil ?_
     exact ⟨rfl, ⟨(by simp only [hc737]; rfl), rfl, rfl, trivial⟩, rfl, rfl⟩
   intro ρ
   refine jm (.bool (((decide (i722 = 0)) && (decide (i723 = 0))) && (!t724))) rfl <| J.cut 5 ?_
   obtain ⟨t745, ht746, h⟩ := ob h
   refine jmeet [(120, .bool t745)] ?_ ?_
   · rcases bt (((decide (i722 = 0)) && (decide (i723 = 0))) && (!t724)) with hc747 | hc747
     · have ht746 := ct hc747 ht746
       refine J.run rfl rfl rfl hc747 <| jm v440 rfl <| J.run rfl rfl rfl hc747 <| jm (ii xb) rfl <| J.run rfl rfl rfl hc747 ?_
       obtain ⟨r748, hr749, ht746⟩ := ob ht746
       refine J.op rfl (A.call (L1 := []) Try.call16 rfl (point_Points_Ends_ok f441 hr749) rfl rfl) ?_
       rintro _ _ _ ⟨v751, _, rfl, ⟨⟨t750, rfl, rfl, rfl⟩, rfl⟩, _, rfl⟩
       refine J.run rfl rfl rfl hc747 <| jv (.bool (!t750)) (V.not rfl) <| jv (.bool (!t750)) (V.pickT rfl hc747 rfl) <| J.nil ?_
       obtain rfl := si ht746
       exact ⟨rfl, ⟨rfl, trivial⟩, rfl, rfl⟩
     have ht746 := cf hc747 ht746
     refine J.skip rfl rfl rfl rfl hc747 <| J.skip rfl rfl rfl rfl hc747 <| J.skip rfl rfl rfl rfl hc747 <| J.skip rfl rfl rfl rfl hc747 <| jv (.bool false) (V.pickF rfl hc747 rfl) <| J.nil ?_
     obtain rfl := si ht746
     exact ⟨rfl, ⟨rfl, trivial⟩, rfl, rfl⟩
   intro ρ
   refine jm (.bool t745) rfl <| J.cut 2 ?_
   obtain ⟨t761, ht762, h⟩ := ob h
   refine jmeet [(123, .bool t761)] ?_ ?_
   · rcases bt (t745) with hc763 | hc763
     · have ht762 := ct hc763 ht762
       refine J.run rfl rfl rfl hc763 ?_
       obtain ⟨r764, hr765, ht762⟩ := ob ht762
       refine J.op rfl (A.call (L1 := []) Try.call6 rfl (law22_awake_ok hr765) rfl rfl) ?_
       rintro _ _ _ ⟨v767, _, rfl, ⟨⟨t766, rfl, rfl, rfl⟩, rfl⟩, _, rfl⟩
       refine jv (.bool t766) (V.pickT rfl hc763 rfl) <| J.nil ?_
       obtain rfl := si ht762
       exact ⟨rfl, ⟨rfl, trivial⟩, rfl, rfl⟩
     have ht762 := cf hc763 ht762
     refine J.skip rfl rfl rfl rfl hc763 <| jv (.bool false) (V.pickF rfl hc763 rfl) <| J.nil ?_
     obtain rfl := si ht762
     exact ⟨rfl, ⟨rfl, trivial⟩, rfl, rfl⟩
   intro ρ
   refine ja (.bool t761) rfl <| J.nil <| CJ.ret ?_
   obtain rfl := si h
   exact ⟨_, _, Res.one rfl rfl, ⟨t761, rfl, rfl, rfl⟩, hK444, fun w hs => (Sep.dropAt 0 rfl (Sep.dropAt 0 rfl hs))⟩
 refine CJ.skip <| CJ.seq <| CJ.mix [Row Hp.nil 39 (.cons (.int .i64) (.cons (.int .i64) (.one .bool))) (.slice ad448 l447.length cp449) l447, Row Hp.nil 3 (.int .i64) (.slice ad538 l537.length cp539) l537] [([0, 1, 2, 3, 4, 5, 6, 7, 8, 9, 10, 11, 12, 13, 14, 15, 16, 17, 18, 19, 20, 21, 23, 24, 25, 26, 27], 22), ([28, 29, 30], 31)] [32, 33] [] mixO (by decide +kernel) ⟨0, rfl, 0, rfl, trivial⟩ rfl rfl rfl <| JM.cons <| qm (ii i722) rfl <| qm (.slice ad448 l447.length cp449) rfl <| qm (ii xb) rfl ?_
 obtain ⟨x807, hx808, h⟩ := ob h
 obtain ⟨p809, p810, p811⟩ := getI_some hx808
 obtain ⟨g812, e813⟩ := hn450 (fun e => by rw [e] at p810; simp at p810)
 refine qv _ (V.iad Try.underlying35 sz39 rfl e813 rfl p809 p811) <| qv _ (V.fad Try.underlying39 rfl nz3 rfl) <| qv (ii x807.1) (V.ld rfl (Ld.sc sc3 (Rd.row 0 rfl e813 p810 (q := 0) (by simp [Tp.size]) (by decide) (by rintro _ ⟨_, _, rfl, _, rfl, ⟨_, _, rfl, _, rfl, rfl⟩⟩; rfl)))) <| qv (.bool (decide (i722 = x807.1))) (V.eql rfl rfl) <| qm (.bool (decide (i722 = x807.1))) rfl ?_
 rcases bt (decide (i722 = x807.1)) with hc814 | hc814
 · have h := ct hc814 h
   refine JQ.run rfl rfl rfl hc814 <| qm (ii i723) rfl <| JQ.run rfl rfl rfl hc814 <| qm (.slice ad448 l447.length cp449) rfl <| JQ.run rfl rfl rfl hc814 <| qm (ii xb) rfl <| JQ.run rfl rfl rfl hc814 ?_
   obtain ⟨x815, hx816, h⟩ := ob h
   obtain ⟨p817, p818, p819⟩ := getI_some hx816
   obtain ⟨g820, e821⟩ := hn450 (fun e => by rw [e] at p818; simp at p818)
   refine qv _ (V.iad Try.underlying35 sz39 rfl e821 rfl p817 p819) <| JQ.run rfl rfl rfl hc814 <| qv _ (V.fad Try.underlying39 rfl nz3 rfl) <| JQ.run rfl rfl rfl hc814 <| qv (ii x815.2.1) (V.ld rfl (Ld.sc sc3 (Rd.row 0 rfl e821 p818 (q := 1) (by simp [Tp.size]) (by decide) (by rintro _ ⟨_, _, rfl, _, rfl, ⟨_, _, rfl, _, rfl, rfl⟩⟩; rfl)))) <| JQ.run rfl rfl rfl hc814 <| qv (.bool (decide (i723 = x815.2.1))) (V.eql rfl rfl) ?_
   refine qv (.bool (decide (i723 = x815.2.1))) (V.pickT rfl hc814 rfl) <| qm (.bool (decide (i723 = x815.2.1))) rfl ?_
   rcases bt (decide (i723 = x815.2.1)) with hc822 | hc822
   · have h := ct hc822 h
     refine JQ.run rfl rfl rfl hc822 <| qm (.bool t724) rfl <| qv (.bool t724) (V.pickT rfl hc822 rfl) <| qm (.bool t724) rfl ?_
     rcases bt (t724) with hc823 | hc823
     · have h := ct hc823 h
       refine JQ.run rfl rfl rfl hc823 <| qm v440 rfl <| JQ.run rfl rfl rfl hc823 <| qm (ii xb) rfl <| JQ.run rfl rfl rfl hc823 <| qm (.slice ad448 l447.length cp449) rfl <| JQ.run rfl rfl rfl hc823 ?_
       refine qm (ii xb) rfl <| JQ.run rfl rfl rfl hc823 ?_
       obtain ⟨x824, hx825, h⟩ := ob h
       obtain ⟨p826, p827, p828⟩ := getI_some hx825
       obtain ⟨g829, e830⟩ := hn450 (fun e => by rw [e] at p827; simp at p827)
       refine qv _ (V.iad Try.underlying35 sz39 rfl e830 rfl p826 p828) <| JQ.run rfl rfl rfl hc823 <| qv _ (V.fad Try.underlying39 rfl nz4 rfl) <| JQ.run rfl rfl rfl hc823 <| qv (.bool x824.2.2) (V.ld rfl (Ld.sc sc4 (Rd.row 0 rfl e830 p827 (q := 2) (by simp [Tp.size]) (by decide) (by rintro _ ⟨_, _, rfl, _, rfl, ⟨_, _, rfl, _, rfl, rfl⟩⟩; rfl)))) <| JQ.nil <| JA.run rfl rfl rfl hc823 ?_
       obtain ⟨r831, hr832, h⟩ := ob h
       refine JA.op rfl (A.call (L1 := []) Try.call16 rfl (point_Points_Ends_ok f441 hr832) rfl rfl) ?_
       rintro _ _ _ ⟨v834, _, rfl, ⟨⟨t833, rfl, rfl, rfl⟩, rfl⟩, _, rfl⟩
       refine ⟨fun w hs => Hold.sub (Hp.le_refl _) ⟨0, rfl, 0, rfl, trivial⟩ hs, ?_⟩
       refine JM.cons <| JQ.run rfl rfl rfl hc823 <| qv (.bool (t833 == x824.2.2)) (V.eqb Try.underlying4 rfl rfl) <| qv (.bool (t833 == x824.2.2)) (V.pickT rfl hc823 rfl) <| qm (.bool (t833 == x824.2.2)) rfl <| JQ.nil ?_
       rcases bt (t833 == x824.2.2) with hc837 | hc837
       · have h := ct hc837 h
         refine JA.run rfl rfl rfl hc837 ?_
         obtain ⟨r838, hr839, h⟩ := ob h
         refine JA.op rfl (A.call (L1 := []) Try.call6 rfl (law22_awake_ok hr839) rfl rfl) ?_
         rintro _ _ _ ⟨v841, _, rfl, ⟨⟨t840, rfl, rfl, rfl⟩, rfl⟩, _, rfl⟩
         refine ⟨fun w hs => Hold.sub (Hp.le_refl _) ⟨0, rfl, 0, rfl, trivial⟩ hs, ?_⟩
         refine JM.nil <| qv (.bool t840) (V.pickT rfl hc837 rfl) <| qa (.bool t840) rfl <| JQ.nil <| J.nil <| CJ.ret ?_
         obtain rfl := si h
         exact ⟨_, _, Res.one rfl rfl, ⟨t840, rfl, rfl, rfl⟩, hK444, fun w hs => (Sep.dropAt 0 rfl (Sep.dropAt 0 rfl hs))⟩
       have h := cf hc837 h
       refine JA.skip rfl rfl rfl rfl hc837 <| JM.nil <| qv (.bool false) (V.pickF rfl hc837 rfl) <| qa (.bool false) rfl <| JQ.nil <| J.nil <| CJ.ret ?_
       obtain rfl := si h
       exact ⟨_, _, Res.one rfl rfl, ⟨false, rfl, rfl, rfl⟩, hK444, fun w hs => (Sep.dropAt 0 rfl (Sep.dropAt 0 rfl hs))⟩
     have h := cf hc823 h
     refine JQ.skip rfl rfl rfl rfl hc823 <| JQ.skip rfl rfl rfl rfl hc823 <| JQ.skip rfl rfl rfl rfl hc823 <| JQ.skip rfl rfl rfl rfl hc823 <| JQ.skip rfl rfl rfl rfl hc823 <| JQ.skip rfl rfl rfl rfl hc823 <| JQ.skip rfl rfl rfl rfl hc823 ?_
     refine JQ.nil <| JA.skip rfl rfl rfl rfl hc823 <| JM.cons <| JQ.skip rfl rfl rfl rfl hc823 <| qv (.bool false) (V.pickF rfl hc823 rfl) <| qm (.bool false) rfl <| JQ.nil ?_
     refine JA.skip rfl rfl rfl rfl rfl <| JM.nil <| qv (.bool false) (V.pickF rfl rfl rfl) <| qa (.bool false) rfl <| JQ.nil <| J.nil <| CJ.ret ?_
     obtain rfl := si h
     exact ⟨_, _, Res.one rfl rfl, ⟨false, rfl, rfl, rfl⟩, hK444, fun w hs => (Sep.dropAt 0 rfl (Sep.dropAt 0 rfl hs))⟩
   have h := cf hc822 h
   refine JQ.skip rfl rfl rfl rfl hc822 <| qv (.bool false) (V.pickF rfl hc822 rfl) <| qm (.bool false) rfl <| JQ.skip rfl rfl rfl rfl rfl <| JQ.skip rfl rfl rfl rfl rfl <| JQ.skip rfl rfl rfl rfl rfl <| JQ.skip rfl rfl rfl rfl rfl ?_
   refine JQ.skip rfl rfl rfl rfl rfl <| JQ.skip rfl rfl rfl rfl rfl <| JQ.skip rfl rfl rfl rfl rfl <| JQ.nil <| JA.skip rfl rfl rfl rfl rfl <| JM.cons <| JQ.skip rfl rfl rfl rfl rfl ?_
   refine qv (.bool false) (V.pickF rfl rfl rfl) <| qm (.bool false) rfl <| JQ.nil <| JA.skip rfl rfl rfl rfl rfl <| JM.nil <| qv (.bool false) (V.pickF rfl rfl rfl) <| qa (.bool false) rfl ?_
   refine JQ.nil <| J.nil <| CJ.ret ?_
   obtain rfl := si h
   exact ⟨_, _, Res.one rfl rfl, ⟨false, rfl, rfl, rfl⟩, hK444, fun w hs => (Sep.dropAt 0 rfl (Sep.dropAt 0 rfl hs))⟩
 have h := cf hc814 h
 refine JQ.skip rfl rfl rfl rfl hc814 <| JQ.skip rfl rfl rfl rfl hc814 <| JQ.skip rfl rfl rfl rfl hc814 <| JQ.skip rfl rfl rfl rfl hc814 <| JQ.skip rfl rfl rfl rfl hc814 <| JQ.skip rfl rfl rfl rfl hc814 <| JQ.skip rfl rfl rfl rfl hc814 ?_
 refine qv (.bool false) (V.pickF rfl hc814 rfl) <| qm (.bool false) rfl <| JQ.skip rfl rfl rfl rfl rfl <| qv (.bool false) (V.pickF rfl rfl rfl) <| qm (.bool false) rfl <| JQ.skip rfl rfl rfl rfl rfl <| JQ.skip rfl rfl rfl rfl rfl ?_
 refine JQ.skip rfl rfl rfl rfl rfl <| JQ.skip rfl rfl rfl rfl rfl <| JQ.skip rfl rfl rfl rfl rfl <| JQ.skip rfl rfl rfl rfl rfl <| JQ.skip rfl rfl rfl rfl rfl <| JQ.nil <| JA.skip rfl rfl rfl rfl rfl ?_
 refine JM.cons <| JQ.skip rfl rfl rfl rfl rfl <| qv (.bool false) (V.pickF rfl rfl rfl) <| qm (.bool false) rfl <| JQ.nil <| JA.skip rfl rfl rfl rfl rfl <| JM.nil ?_
 refine qv (.bool false) (V.pickF rfl rfl rfl) <| qa (.bool false) rfl <| JQ.nil <| J.nil <| CJ.ret ?_
 obtain rfl := si h
 exact ⟨_, _, Res.one rfl rfl, ⟨false, rfl, rfl, rfl⟩, hK444, fun w hs => (Sep.dropAt 0 rfl (Sep.dropAt 0 rfl hs))⟩
noncomputable def fn_law22_PointBack_l1 (p398 : (Option ((List Int) × Int))) : (Int × Int) → Option ((Int × Int) ⊕ (Int ⊕ Bool)) := fun ((i563, i564) : (Int × Int)) => (fn_point_Points_Len p398).bind fun i609 => cond (decide (i564 < i609)) ((fn_point_Points_At p398 i564).bind fun (i616, i617, t618) => (fn_point_Points_Of p398 i616 i617).bind fun (i624, t625) => cond (((!t618) || (!t625)) || (!decide (i624 = i564))) (some (.inr ((.inr (false))))) ((fn_point_Points_Ends p398 i564).bind fun t638 => cond (t638) (some (.inl ((IntKind.wrap .i64 (i563 + 1), IntKind.wrap .i64 (i564 + 1))))) (some (.inl ((i563, IntKind.wrap .i64 (i564 + 1))))))) (some (.inr (.inl i563)))
noncomputable def fn_law22_PointBack (xa : (Int × Int × (List (Int × Int)) × (List (List (Int × Bool))) × (List (Int × Bool)) × (List (Int × (List (Int × Int)) × (List (List (Int × Bool))) × (List (Int × Bool)))) × (List ((List (Int × Int × Int × Int × Bool)) × (Int × Int × Int × (List Int) × (List Int) × (List Int)))))) : Option Bool :=
  (fn_ref20_Small (xa.1, xa.2.1, xa.2.2.1, xa.2.2.2.1, xa.2.2.2.2.1, xa.2.2.2.2.2.1, xa.2.2.2.2.2.2)).bind fun t385 => cond (!t385) ((fn_law22_awake).bind fun t392 => some (t392)) ((fn_point_New (xa.1, xa.2.1, xa.2.2.1, xa.2.2.2.1, xa.2.2.2.2.1, xa.2.2.2.2.2.1, xa.2.2.2.2.2.2)).bind fun p398 => (loop (fn_law22_PointBack_l1 p398) (0, 0) : Option (Int ⊕ Bool)).bind fun o => match o with | .inr r => some r | .inl i522 => (fn_point_Points_At none 0).bind fun (i648, i649, t650) => (fn_point_Points_Of none 0 0).bind fun (i656, t657) => (fn_point_Points_Blocks p398).bind fun i663 => (cond (decide (i522 = i663)) ((fn_point_Points_Len none).bind fun i679 => some (decide (i679 = 0))) (some (false))).bind fun t674 => (cond (t674) ((fn_point_Points_Blocks none).bind fun i695 => some (decide (i695 = 0))) (some (false))).bind fun t690 => (cond ((t690 && (!t650)) && (!t657)) ((fn_point_Points_Ends none 0).bind fun t717 => some (!t717)) (some (false))).bind fun t712 => (cond (t712) ((fn_point_Points_Begins none).bind fun l737 => some (decide ((((l737.length : Nat) : Int)) = 0))) (some (false))).bind fun t732 => (cond (t732) ((fn_law22_awake).bind fun t757 => some (t757)) (some (false))).bind fun t752 => some (t752))
set_option maxRecDepth 100000 in
set_option maxHeartbeats 4000000 in
theorem law22_PointBack_ok {K : Hp} {xa : (Int × Int × (List (Int × Int)) × (List (List (Int × Bool))) × (List (Int × Bool)) × (List (Int × (List (Int × Int)) × (List (List (Int × Bool))) × (List (Int × Bool)))) × (List ((List (Int × Int × Int × Int × Bool)) × (Int × Int × Int × (List Int) × (List Int) × (List Int)))))} {adxa_2 : Option Addr} {cpxa_2 : Nat} {adxa_3 : Option Addr} {cpxa_3 : Nat} {adxa_4 : Option Addr} {cpxa_4 : Nat} {adxa_5 : Option Addr} {cpxa_5 : Nat} {adxa_6 : Option Addr} {cpxa_6 : Nat} (fxa_2 : Is K (.sl (.cons (.int .i64) (.one (.int .i64)))) [.slice adxa_2 xa.2.2.1.length cpxa_2] xa.2.2.1) (fxa_3 : Is K (.sl (.one (.sl (.cons (.int .i64) (.one .bool))))) [.slice adxa_3 xa.2.2.2.1.length cpxa_3] xa.2.2.2.1) (fxa_4 : Is K (.sl (.cons (.int .i64) (.one .bool))) [.slice adxa_4 xa.2.2.2.2.1.length cpxa_4] xa.2.2.2.2.1) (fxa_5 : Is K (.sl (.cons (.int .i64) (.cons (.sl (.cons (.int .i64) (.one (.int .i64)))) (.cons (.sl (.one (.sl (.cons (.int .i64) (.one .bool))))) (.one (.one (.sl (.cons (.int .i64) (.one .bool))))))))) [.slice adxa_5 xa.2.2.2.2.2.1.length cpxa_5] xa.2.2.2.2.2.1) (fxa_6 : Is K (.sl (.cons (.sl (.cons (.int .i64) (.cons (.int .i64) (.cons (.int .i64) (.cons (.int .i64) (.one .bool)))))) (.one (.cons (.int .i64) (.cons (.int .i64) (.cons (.int .i64) (.cons (.sl (.int .i64)) (.cons (.sl (.int .i64)) (.one (.sl (.int .i64))))))))))) [.slice adxa_6 xa.2.2.2.2.2.2.length cpxa_6] xa.2.2.2.2.2.2) {r : Bool} (h : fn_law22_PointBack xa = some r) :
    Tr Try.prog 4 #[.agg #[ii xa.1, ii xa.2.1, .slice adxa_2 xa.2.2.1.length cpxa_2, .slice adxa_3 xa.2.2.2.1.length cpxa_3, .slice adxa_4 xa.2.2.2.2.1.length cpxa_4, .slice adxa_5 xa.2.2.2.2.2.1.length cpxa_5, .slice adxa_6 xa.2.2.2.2.2.2.length cpxa_6]] K [] (fun v K' L' => (∃ (t381 : Bool), t381 = r ∧ .bool t381 = v ∧ L' = []) ∧ K = K') := by
 refine Tr.k <| Tr.of Try.func4 rfl Try.ntmps4 rfl fun E F => ?_
 unfold fn_law22_PointBack at h
 refine CJ.seq <| CJ.region <| jbx [ii xa.1, ii xa.2.1, .slice adxa_2 xa.2.2.1.length cpxa_2, .slice adxa_3 xa.2.2.2.1.length cpxa_3, .slice adxa_4 xa.2.2.2.2.1.length cpxa_4, .slice adxa_5 xa.2.2.2.2.2.1.length cpxa_5, .slice adxa_6 xa.2.2.2.2.2.2.length cpxa_6] rfl rfl fun b382 => ja (.bool false) rfl <| J.nil <| CJ.seq <| CJ.seq ?_
 refine CJ.region <| jv (.agg #[ii xa.1, ii xa.2.1, .slice adxa_2 xa.2.2.1.length cpxa_2, .slice adxa_3 xa.2.2.2.1.length cpxa_3, .slice adxa_4 xa.2.2.2.2.1.length cpxa_4, .slice adxa_5 xa.2.2.2.2.2.1.length cpxa_5, .slice adxa_6 xa.2.2.2.2.2.2.length cpxa_6]) (V.ld rfl (Ld.agg (cs := [ii xa.1, ii xa.2.1, .slice adxa_2 xa.2.2.1.length cpxa_2, .slice adxa_3 xa.2.2.2.1.length cpxa_3, .slice adxa_4 xa.2.2.2.2.1.length cpxa_4, .slice adxa_5 xa.2.2.2.2.2.1.length cpxa_5, .slice adxa_6 xa.2.2.2.2.2.2.length cpxa_6]) Try.underlying30 sz30 rfl (Rd.cls 0 0 rfl rfl))) ?_
 obtain ⟨r383, hr384, h⟩ := ob h
 refine J.op rfl (A.call (L1 := []) Try.call5 rfl (ref20_Small_ok fxa_2 fxa_3 fxa_4 fxa_5 fxa_6 hr384) rfl rfl) ?_
 rintro _ _ _ ⟨v386, _, rfl, ⟨⟨t385, rfl, rfl, rfl⟩, rfl⟩, _, rfl⟩
 refine jv (.bool (!t385)) (V.not rfl) <| J.nil <| cc rfl h (fun hc389 h => ?_) fun hc389 h => ?_
 · refine CJ.seq <| CJ.region ?_
   obtain ⟨r390, hr391, h⟩ := ob h
   refine J.op rfl (A.call (L1 := []) Try.call6 rfl (law22_awake_ok hr391) rfl rfl) ?_
   rintro _ _ _ ⟨v393, _, rfl, ⟨⟨t392, rfl, rfl, rfl⟩, rfl⟩, _, rfl⟩
   refine ja (.bool t392) rfl <| J.nil <| CJ.ret ?_
   obtain rfl := si h
   exact ⟨_, _, Res.one rfl rfl, ⟨t392, rfl, rfl, rfl⟩, (Hp.le_refl _), fun w hs => (Sep.dropAt 0 rfl hs)⟩
 refine CJ.skip <| CJ.seq <| CJ.region <| jv (.agg #[ii xa.1, ii xa.2.1, .slice adxa_2 xa.2.2.1.length cpxa_2, .slice adxa_3 xa.2.2.2.1.length cpxa_3, .slice adxa_4 xa.2.2.2.2.1.length cpxa_4, .slice adxa_5 xa.2.2.2.2.2.1.length cpxa_5, .slice adxa_6 xa.2.2.2.2.2.2.length cpxa_6]) (V.ld rfl (Ld.agg (cs := [ii xa.1, ii xa.2.1, .slice adxa_2 xa.2.2.1.length cpxa_2, .slice adxa_3 xa.2.2.2.1.length cpxa_3, .slice adxa_4 xa.2.2.2.2.1.length cpxa_4, .slice adxa_5 xa.2.2.2.2.2.1.length cpxa_5, .slice adxa_6 xa.2.2.2.2.2.2.length cpxa_6]) Try.underlying30 sz30 rfl (Rd.cls 0 0 rfl rfl))) ?_
 obtain ⟨r396, hr397, h⟩ := ob h
 refine J.op rfl (A.call (L1 := []) Try.call7 rfl (point_New_ok fxa_2 fxa_3 fxa_4 fxa_5 fxa_6 hr397) rfl rfl) ?_
 rintro _ K402 _ ⟨v401, _, rfl, ⟨p398, v399, rfl, rfl, f400, rfl⟩, hK403, rfl⟩
 refine ja v399 rfl <| J.nil <| CJ.seq <| CJ.region <| ja (ii 0) rfl <| J.nil <| CJ.seq ?_
 refine CJ.seq <| CJ.region <| ja (ii 0) rfl <| J.nil ?_
 obtain ⟨o523, ho524, h⟩ := ob h
 refine CJ.joinN (o := o523) (fun s ρ K' L' => ∃ (i522 : Int), i522 = s ∧ Fits [(3, v399), (4, ii i522)] ρ ∧ K402 = K' ∧ F = L') ?_ ?_
 · refine CJ.block <| CJ.dropAt 0 rfl <| CJ.loop (fun s ρ K' L' => ∃ (i563 : Int) (i564 : Int), (i563, i564) = s ∧ Fits [(3, v399), (4, ii i563), (5, ii i564)] ρ ∧ K402 = K' ∧ F = L') ho524 ⟨0, 0, rfl, ⟨rfl, rfl, rfl, trivial⟩, rfl, rfl⟩ ?_
   rintro s ρ _ _ r606 ⟨i563, i564, rfl, hf604, rfl, rfl⟩ h603
   obtain ⟨ρ, rfl⟩ := hf604.ex
   refine CJ.seq <| CJ.seq <| CJ.region <| jm (ii i564) rfl <| jm v399 rfl ?_
   obtain ⟨r607, hr608, h603⟩ := ob h603
   refine J.op rfl (A.call (L1 := []) Try.call11 rfl (point_Points_Len_ok f400 hr608) rfl rfl) ?_
   rintro _ _ _ ⟨v610, _, rfl, ⟨⟨i609, rfl, rfl, rfl⟩, rfl⟩, _, rfl⟩
   refine jv (.bool (decide (i564 < i609))) (V.lss rfl rfl) <| J.nil <| cc rfl h603 (fun hc613 h603 => ?_) fun hc613 h603 => ?_
   · refine CJ.skip <| CJ.seq <| CJ.block <| CJ.seq <| CJ.region <| jm v399 rfl <| jm (ii i564) rfl ?_
     obtain ⟨r614, hr615, h603⟩ := ob h603
     refine J.op rfl (A.call (L1 := []) Try.call15 rfl (point_Points_At_ok f400 hr615) rfl rfl) ?_
     rintro _ _ _ ⟨v619, _, rfl, ⟨⟨i616, i617, t618, rfl, rfl, rfl⟩, rfl⟩, _, rfl⟩
     refine jm (.tuple #[ii i616, ii i617, .bool t618]) rfl <| jx (ii i616) rfl rfl <| jx (ii i617) rfl rfl <| jx (.bool t618) rfl rfl <| ja (ii i616) rfl <| ja (ii i617) rfl <| ja (.bool t618) rfl ?_
     refine J.nil <| CJ.seq <| CJ.region <| jm v399 rfl <| jm (ii i616) rfl <| jm (ii i617) rfl ?_
     obtain ⟨r622, hr623, h603⟩ := ob h603
     refine J.op rfl (A.call (L1 := []) Try.call9 rfl (point_Points_Of_ok f400 hr623) rfl rfl) ?_
     rintro _ _ _ ⟨v626, _, rfl, ⟨⟨i624, t625, rfl, rfl, rfl⟩, rfl⟩, _, rfl⟩
     refine jm (.tuple #[ii i624, .bool t625]) rfl <| jx (ii i624) rfl rfl <| jx (.bool t625) rfl rfl <| ja (ii i624) rfl <| ja (.bool t625) rfl <| J.nil <| CJ.seq ?_
     refine CJ.seq <| CJ.region <| jm (.bool t618) rfl <| jv (.bool (!t618)) (V.not rfl) <| jm (.bool (!t618)) rfl <| J.cut 3 <| jmeet [(48, .bool ((!t618) || (!t625))), (3, v399), (4, ii i563), (5, ii i564), (9, ii i624)] ?_ ?_
     · rcases bt (!t618) with hc631 | hc631
       · refine J.skip rfl rfl rfl rfl hc631 <| J.skip rfl rfl rfl rfl hc631 <| jv (.bool true) (V.pickT rfl hc631 rfl) <| J.nil ?_
         exact ⟨rfl, ⟨(by simp only [hc631]; rfl), rfl, rfl, rfl, rfl, trivial⟩, rfl, rfl⟩
       refine J.run rfl rfl rfl hc631 <| jm (.bool t625) rfl <| J.run rfl rfl rfl hc631 <| jv (.bool (!t625)) (V.not rfl) <| jv (.bool (!t625)) (V.pickF rfl hc631 rfl) <| J.nil ?_
       exact ⟨rfl, ⟨(by simp only [hc631]; rfl), rfl, rfl, rfl, rfl, trivial⟩, rfl, rfl⟩
     intro ρ
     refine jm (.bool ((!t618) || (!t625))) rfl <| J.cut 4 <| jmeet [(53, .bool (((!t618) || (!t625)) || (!decide (i624 = i564)))), (3, v399), (4, ii i563), (5, ii i564)] ?_ ?_
     · rcases bt ((!t618) || (!t625)) with hc634 | hc634
       · refine J.skip rfl rfl rfl rfl hc634 <| J.skip rfl rfl rfl rfl hc634 <| J.skip rfl rfl rfl rfl hc634 <| jv (.bool true) (V.pickT rfl hc634 rfl) <| J.nil ?_
         exact ⟨rfl, ⟨(by simp only [hc634]; rfl), rfl, rfl, rfl, trivial⟩, rfl, rfl⟩
       refine J.run rfl rfl rfl hc634 <| jm (ii i624) rfl <| J.run rfl rfl rfl hc634 <| jm (ii i564) rfl <| J.run rfl rfl rfl hc634 <| jv (.bool (!decide (i624 = i564))) (V.neq rfl rfl) <| jv (.bool (!decide (i624 = i564))) (V.pickF rfl hc634 rfl) ?_
       refine J.nil ?_
       exact ⟨rfl, ⟨(by simp only [hc634]; rfl), rfl, rfl, rfl, trivial⟩, rfl, rfl⟩
     intro ρ
     refine J.nil <| cc rfl h603 (fun hc635 h603 => ?_) fun hc635 h603 => ?_
     · refine CJ.seq <| CJ.region <| ja (.bool false) rfl <| J.nil <| CJ.ret ?_
       obtain rfl := si h603
       refine ⟨nofun, fun e => ?_⟩
       subst e
       refine .inr ⟨nofun, ?_⟩
       obtain rfl := si h
       exact ⟨_, _, Res.one rfl rfl, ⟨false, rfl, rfl, rfl⟩, hK403, fun w hs => hs⟩
     refine CJ.skip <| CJ.seq <| CJ.region <| jm v399 rfl <| jm (ii i564) rfl ?_
     obtain ⟨r636, hr637, h603⟩ := ob h603
     refine J.op rfl (A.call (L1 := []) Try.call16 rfl (point_Points_Ends_ok f400 hr637) rfl rfl) ?_
     rintro _ _ _ ⟨v639, _, rfl, ⟨⟨t638, rfl, rfl, rfl⟩, rfl⟩, _, rfl⟩
     refine J.nil <| cc rfl h603 (fun hc642 h603 => ?_) fun hc642 h603 => ?_
     · refine CJ.region <| jm (ii i563) rfl <| jv (ii (IntKind.wrap .i64 (i563 + 1))) (V.add rfl rfl) <| ja (ii (IntKind.wrap .i64 (i563 + 1))) rfl <| J.nil <| CJ.region <| jm (ii i564) rfl ?_
       refine jv (ii (IntKind.wrap .i64 (i564 + 1))) (V.add rfl rfl) <| ja (ii (IntKind.wrap .i64 (i564 + 1))) rfl <| J.nil ?_
       obtain rfl := si h603
       exact ⟨rfl, ⟨IntKind.wrap .i64 (i563 + 1), IntKind.wrap .i64 (i564 + 1), rfl, ⟨rfl, rfl, rfl, trivial⟩, rfl, rfl⟩⟩
     refine CJ.skip <| CJ.region <| jm (ii i564) rfl <| jv (ii (IntKind.wrap .i64 (i564 + 1))) (V.add rfl rfl) <| ja (ii (IntKind.wrap .i64 (i564 + 1))) rfl <| J.nil ?_
     obtain rfl := si h603
     exact ⟨rfl, ⟨i563, IntKind.wrap .i64 (i564 + 1), rfl, ⟨rfl, rfl, rfl, trivial⟩, rfl, rfl⟩⟩
   refine CJ.exit ?_
   obtain rfl := si h603
   refine ⟨nofun, fun e => ?_⟩
   subst e
   exact .inl ⟨rfl, _, rfl, ⟨i563, rfl, ⟨rfl, rfl, trivial⟩, rfl, rfl⟩⟩
 rintro s ρ _ _ ho643 ⟨i522, rfl, hf644, rfl, rfl⟩
 subst ho643
 obtain ⟨ρ, rfl⟩ := hf644.ex
 refine PJ.done <| CJ.seq <| CJ.region <| ja (.pointer none) rfl <| J.nil <| CJ.seq <| CJ.region ?_
 refine jm (.pointer none) rfl ?_
 obtain ⟨r646, hr647, h⟩ := ob h
 refine J.op rfl (A.call (L1 := []) Try.call15 rfl (point_Points_At_ok Is.ptr_nil hr647) rfl rfl) ?_
 rintro _ _ _ ⟨v651, _, rfl, ⟨⟨i648, i649, t650, rfl, rfl, rfl⟩, rfl⟩, _, rfl⟩
 refine jm (.tuple #[ii i648, ii i649, .bool t650]) rfl <| jx (ii i648) rfl rfl <| jx (ii i649) rfl rfl <| jx (.bool t650) rfl rfl <| ja (ii i648) rfl <| ja (ii i649) rfl <| ja (.bool t650) rfl ?_
 refine J.nil <| CJ.seq <| CJ.region <| jm (.pointer none) rfl ?_
 obtain ⟨r654, hr655, h⟩ := ob h
 refine J.op rfl (A.call (L1 := []) Try.call9 rfl (point_Points_Of_ok Is.ptr_nil hr655) rfl rfl) ?_
 rintro _ _ _ ⟨v658, _, rfl, ⟨⟨i656, t657, rfl, rfl, rfl⟩, rfl⟩, _, rfl⟩
 refine jm (.tuple #[ii i656, .bool t657]) rfl <| jx (ii i656) rfl rfl <| jx (.bool t657) rfl rfl <| ja (ii i656) rfl <| ja (.bool t657) rfl <| J.nil <| CJ.seq ?_
 refine CJ.region <| jm (ii i522) rfl <| jm v399 rfl ?_
 obtain ⟨r661, hr662, h⟩ := ob h
 refine J.op rfl (A.call (L1 := []) Try.call12 rfl (point_Points_Blocks_ok f400 hr662) rfl rfl) ?_
 rintro _ _ _ ⟨v664, _, rfl, ⟨⟨i663, rfl, rfl, rfl⟩, rfl⟩, _, rfl⟩
 refine jv (.bool (decide (i522 = i663))) (V.eql rfl rfl) <| jm (.bool (decide (i522 = i663))) rfl <| J.cut 4 ?_
 obtain ⟨t674, ht675, h⟩ := ob h
 refine jmeet [(78, .bool t674), (11, .pointer none), (14, .bool t650), (16, .bool t657)] ?_ ?_
 · rcases bt (decide (i522 = i663)) with hc676 | hc676
   · have ht675 := ct hc676 ht675
     refine J.run rfl rfl rfl hc676 <| jm (.pointer none) rfl <| J.run rfl rfl rfl hc676 ?_
     obtain ⟨r677, hr678, ht675⟩ := ob ht675
     refine J.op rfl (A.call (L1 := []) Try.call11 rfl (point_Points_Len_ok Is.ptr_nil hr678) rfl rfl) ?_
     rintro _ _ _ ⟨v680, _, rfl, ⟨⟨i679, rfl, rfl, rfl⟩, rfl⟩, _, rfl⟩
     refine J.run rfl rfl rfl hc676 <| jv (.bool (decide (i679 = 0))) (V.eql rfl rfl) <| jv (.bool (decide (i679 = 0))) (V.pickT rfl hc676 rfl) <| J.nil ?_
     obtain rfl := si ht675
     exact ⟨rfl, ⟨rfl, rfl, rfl, rfl, trivial⟩, rfl, rfl⟩
   have ht675 := cf hc676 ht675
   refine J.skip rfl rfl rfl rfl hc676 <| J.skip rfl rfl rfl rfl hc676 <| J.skip rfl rfl rfl rfl hc676 <| jv (.bool false) (V.pickF rfl hc676 rfl) <| J.nil ?_
   obtain rfl := si ht675
   exact ⟨rfl, ⟨rfl, rfl, rfl, rfl, trivial⟩, rfl, rfl⟩
 intro ρ
 refine jm (.bool t674) rfl <| J.cut 4 ?_
 obtain ⟨t690, ht691, h⟩ := ob h
 refine jmeet [(83, .bool t690), (11, .pointer none), (14, .bool t650), (16, .bool t657)] ?_ ?_
 · rcases bt (t674) with hc692 | hc692
   · have ht691 := ct hc692 ht691
     refine J.run rfl rfl rfl hc692 <| jm (.pointer none) rfl <| J.run rfl rfl rfl hc692 ?_
     obtain ⟨r693, hr694, ht691⟩ := ob ht691
     refine J.op rfl (A.call (L1 := []) Try.call12 rfl (point_Points_Blocks_ok Is.ptr_nil hr694) rfl rfl) ?_
     rintro _ _ _ ⟨v696, _, rfl, ⟨⟨i695, rfl, rfl, rfl⟩, rfl⟩, _, rfl⟩
     refine J.run rfl rfl rfl hc692 <| jv (.bool (decide (i695 = 0))) (V.eql rfl rfl) <| jv (.bool (decide (i695 = 0))) (V.pickT rfl hc692 rfl) <| J.nil ?_
     obtain rfl := si ht691
     exact ⟨rfl, ⟨rfl, rfl, rfl, rfl, trivial⟩, rfl, rfl⟩
   have ht691 := cf hc692 ht691
   refine J.skip rfl rfl rfl rfl hc692 <| J.skip rfl rfl rfl rfl hc692 <| J.skip rfl rfl rfl rfl hc692 <| jv (.bool false) (V.pickF rfl hc692 rfl) <| J.nil ?_
   obtain rfl := si ht691
   exact ⟨rfl, ⟨rfl, rfl, rfl, rfl, trivial⟩, rfl, rfl⟩
 intro ρ
 refine jm (.bool t690) rfl <| J.cut 3 <| jmeet [(87, .bool (t690 && (!t650))), (11, .pointer none), (16, .bool t657)] ?_ ?_
 · rcases bt (t690) with hc701 | hc701
   · refine J.run rfl rfl rfl hc701 <| jm (.bool t650) rfl <| J.run rfl rfl rfl hc701 <| jv (.bool (!t650)) (V.not rfl) <| jv (.bool (!t650)) (V.pickT rfl hc701 rfl) <| J.nil ?_
     exact ⟨rfl, ⟨(by simp only [hc701]; rfl), rfl, rfl, trivial⟩, rfl, rfl⟩
   refine J.skip rfl rfl rfl rfl hc701 <| J.skip rfl rfl rfl rfl hc701 <| jv (.bool false) (V.pickF rfl hc701 rfl) <| J.nil ?_
   exact ⟨rfl, ⟨(by simp only [hc701]; rfl), rfl, rfl, trivial⟩, rfl, rfl⟩
 intro ρ
 refine jm (.bool (t690 && (!t650))) rfl <| J.cut 3 <| jmeet [(91, .bool ((t690 && (!t650)) && (!t657))), (11, .pointer none)] ?_ ?_
 · rcases bt (t690 && (!t650)) with hc704 | hc704
   · refine J.run rfl rfl rfl hc704 <| jm (.bool t657) rfl <| J.run rfl rfl rfl hc704 <| jv (.bool (!t657)) (V.not rfl) <| jv (.bool (!t657)) (V.pickT rfl hc704 rfl) <| J.nil ?_
     exact ⟨rfl, ⟨(by simp only [hc704]; rfl), rfl, trivial⟩, rfl, rfl⟩
   refine J.skip rfl rfl rfl rfl hc704 <| J.skip rfl rfl rfl rfl hc704 <| jv (.bool false) (V.pickF rfl hc704 rfl) <| J.nil ?_
   exact ⟨rfl, ⟨(by simp only [hc704]; rfl), rfl, trivial⟩, rfl, rfl⟩
 intro ρ
 refine jm (.bool ((t690 && (!t650)) && (!t657))) rfl <| J.cut 4 ?_
 obtain ⟨t712, ht713, h⟩ := ob h
 refine jmeet [(96, .bool t712), (11, .pointer none)] ?_ ?_
 · rcases bt ((t690 && (!t650)) && (!t657)) with hc714 | hc714
   · have ht713 := ct hc714 ht713
     refine J.run rfl rfl rfl hc714 <| jm (.pointer none) rfl <| J.run rfl rfl rfl hc714 ?_
     obtain ⟨r715, hr716, ht713⟩ := ob ht713
     refine J.op rfl (A.call (L1 := []) Try.call16 rfl (point_Points_Ends_ok Is.ptr_nil hr716) rfl rfl) ?_
     rintro _ _ _ ⟨v718, _, rfl, ⟨⟨t717, rfl, rfl, rfl⟩, rfl⟩, _, rfl⟩
     refine J.run rfl rfl rfl hc714 <| jv (.bool (!t717)) (V.not rfl) <| jv (.bool (!t717)) (V.pickT rfl hc714 rfl) <| J.nil ?_
     obtain rfl := si ht713
     exact ⟨rfl, ⟨rfl, rfl, trivial⟩, rfl, rfl⟩
   have ht713 := cf hc714 ht713
   refine J.skip rfl rfl rfl rfl hc714 <| J.skip rfl rfl rfl rfl hc714 <| J.skip rfl rfl rfl rfl hc714 <| jv (.bool false) (V.pickF rfl hc714 rfl) <| J.nil ?_
   obtain rfl := si ht713
   exact ⟨rfl, ⟨rfl, rfl, trivial⟩, rfl, rfl⟩
 intro ρ
 refine jm (.bool t712) rfl <| J.cut 5 ?_
 obtain ⟨t732, ht733, h⟩ := ob h
 refine jmeet [(102, .bool t732)] ?_ ?_
 · rcases bt (t712) with hc734 | hc734
   · have ht733 := ct hc734 ht733
     refine J.run rfl rfl rfl hc734 <| jm (.pointer none) rfl <| J.run rfl rfl rfl hc734 ?_
     obtain ⟨r735, hr736, ht733⟩ := ob ht733
     refine J.op rfl (A.call (L1 := []) Try.call14 rfl (point_Points_Begins_ok Is.ptr_nil hr736) rfl rfl) ?_
     rintro _ _ _ ⟨v741, _, rfl, ⟨⟨l737, ad738, cp739, rfl, rfl, rfl⟩, rfl⟩, _, rfl⟩
     refine J.wit Row.hn fun hn740 => J.run rfl rfl rfl hc734 <| jv (ii (((l737.length : Nat) : Int))) (V.len Try.underlying37 rfl) <| J.run rfl rfl rfl hc734 <| jv (.bool (decide ((((l737.length : Nat) : Int)) = 0))) (V.eql rfl rfl) <| jv (.bool (decide ((((l737.length : Nat) : Int)) = 0))) (V.pickT rfl hc734 rfl) <| J.dropAt 0 rfl ?_
     refine J.nil ?_
     obtain rfl := si ht733
     exact ⟨rfl, ⟨rfl, trivial⟩, rfl, rfl⟩
   have ht733 := cf hc734 ht733
   refine J.skip rfl rfl rfl rfl hc734 <| J.skip rfl rfl rfl rfl hc734 <| J.skip rfl rfl rfl rfl hc734 <| J.skip rfl rfl rfl rfl hc734 <| jv (.bool false) (V.pickF rfl hc734 rfl) <| J.nil ?_
   obtain rfl := si ht733
   exact ⟨rfl, ⟨rfl, trivial⟩, rfl, rfl⟩
 intro ρ
 refine jm (.bool t732) rfl <| J.cut 2 ?_
 obtain ⟨t752, ht753, h⟩ := ob h
 refine jmeet [(105, .bool t752)] ?_ ?_
 · rcases bt (t732) with hc754 | hc754
   · have ht753 := ct hc754 ht753
     refine J.run rfl rfl rfl hc754 ?_
     obtain ⟨r755, hr756, ht753⟩ := ob ht753
     refine J.op rfl (A.call (L1 := []) Try.call6 rfl (law22_awake_ok hr756) rfl rfl) ?_
     rintro _ _ _ ⟨v758, _, rfl, ⟨⟨t757, rfl, rfl, rfl⟩, rfl⟩, _, rfl⟩
     refine jv (.bool t757) (V.pickT rfl hc754 rfl) <| J.nil ?_
     obtain rfl := si ht753
     exact ⟨rfl, ⟨rfl, trivial⟩, rfl, rfl⟩
   have ht753 := cf hc754 ht753
   refine J.skip rfl rfl rfl rfl hc754 <| jv (.bool false) (V.pickF rfl hc754 rfl) <| J.nil ?_
   obtain rfl := si ht753
   exact ⟨rfl, ⟨rfl, trivial⟩, rfl, rfl⟩
 intro ρ
 refine ja (.bool t752) rfl <| J.nil <| CJ.ret ?_
 obtain rfl := si h
 exact ⟨_, _, Res.one rfl rfl, ⟨t752, rfl, rfl, rfl⟩, hK403, fun w hs => hs⟩
end Go.Proofs.Ytejndphglkpnnaa
