/- What Go functions answer: generated. -/
import Derived.Test.YtbaaamdljojknaaF2
namespace Go.Proofs.Ytbaaamdljojknaa
open Go.RowKit
set_option linter.unusedVariables false
set_option linter.unnecessarySimpa false
set_option linter.unusedSimpArgs false
set_option maxRecDepth 20000

noncomputable def fn_valid_ret_az (xa : (Int × Int × (List (Int × Int)) × (List (List (Int × Bool))) × (List (Int × Bool)) × (List (Int × (List (Int × Int)) × (List (List (Int × Bool))) × (List (Int × Bool)))) × (List ((List (Int × Int × Int × Int × Bool)) × (Int × Int × Int × (List Int) × (List Int) × (List Int)))))) : Option (Int × Int × Int × Int) :=
  (fn_row_Check xa.2.2.2.2.1 xa.1).bind fun i59 => cond (decide (i59 = 0)) ((getI xa.2.2.2.1 0).bind fun x85 => (fn_row_Shape xa.2.2.2.2.1 x85).bind fun t100 => cond (!t100) (some ((8, 3, 0, 0))) (some ((i59, 3, 0, 0)))) (some ((i59, 3, 0, 0)))
set_option maxRecDepth 100000 in
set_option maxHeartbeats 4000000 in
theorem valid_ret_az_ok {K : Hp} {xa : (Int × Int × (List (Int × Int)) × (List (List (Int × Bool))) × (List (Int × Bool)) × (List (Int × (List (Int × Int)) × (List (List (Int × Bool))) × (List (Int × Bool)))) × (List ((List (Int × Int × Int × Int × Bool)) × (Int × Int × Int × (List Int) × (List Int) × (List Int)))))} {adxa_2 : Option Addr} {cpxa_2 : Nat} {adxa_3 : Option Addr} {cpxa_3 : Nat} {adxa_4 : Option Addr} {cpxa_4 : Nat} {adxa_5 : Option Addr} {cpxa_5 : Nat} {adxa_6 : Option Addr} {cpxa_6 : Nat} (fxa_2 : Is K (.sl (.cons (.int .i64) (.one (.int .i64)))) [.slice adxa_2 xa.2.2.1.length cpxa_2] xa.2.2.1) (fxa_3 : Is K (.sl (.one (.sl (.cons (.int .i64) (.one .bool))))) [.slice adxa_3 xa.2.2.2.1.length cpxa_3] xa.2.2.2.1) (fxa_4 : Is K (.sl (.cons (.int .i64) (.one .bool))) [.slice adxa_4 xa.2.2.2.2.1.length cpxa_4] xa.2.2.2.2.1) (fxa_5 : Is K (.sl (.cons (.int .i64) (.cons (.sl (.cons (.int .i64) (.one (.int .i64)))) (.cons (.sl (.one (.sl (.cons (.int .i64) (.one .bool))))) (.one (.one (.sl (.cons (.int .i64) (.one .bool))))))))) [.slice adxa_5 xa.2.2.2.2.2.1.length cpxa_5] xa.2.2.2.2.2.1) (fxa_6 : Is K (.sl (.cons (.sl (.cons (.int .i64) (.cons (.int .i64) (.cons (.int .i64) (.cons (.int .i64) (.one .bool)))))) (.one (.cons (.int .i64) (.cons (.int .i64) (.cons (.int .i64) (.cons (.sl (.int .i64)) (.cons (.sl (.int .i64)) (.one (.sl (.int .i64))))))))))) [.slice adxa_6 xa.2.2.2.2.2.2.length cpxa_6] xa.2.2.2.2.2.2) {r : (Int × Int × Int × Int)} (h : fn_valid_ret_az xa = some r) :
    Tr Try.prog 23 #[.agg #[ii xa.1, ii xa.2.1, .slice adxa_2 xa.2.2.1.length cpxa_2, .slice adxa_3 xa.2.2.2.1.length cpxa_3, .slice adxa_4 xa.2.2.2.2.1.length cpxa_4, .slice adxa_5 xa.2.2.2.2.2.1.length cpxa_5, .slice adxa_6 xa.2.2.2.2.2.2.length cpxa_6], .pointer none] K [] (fun v K' L' => (∃ (i51 : Int) (i52 : Int) (i53 : Int) (i54 : Int), (i51, i52, i53, i54) = r ∧ .agg #[ii i51, ii i52, ii i53, ii i54] = v ∧ L' = []) ∧ K = K') := by
 refine Tr.k <| Tr.of Try.func23 rfl Try.ntmps23 rfl fun E F => ?_
 unfold fn_valid_ret_az at h
 refine cr <| jbx [ii xa.1, ii xa.2.1, .slice adxa_2 xa.2.2.1.length cpxa_2, .slice adxa_3 xa.2.2.2.1.length cpxa_3, .slice adxa_4 xa.2.2.2.2.1.length cpxa_4, .slice adxa_5 xa.2.2.2.2.2.1.length cpxa_5, .slice adxa_6 xa.2.2.2.2.2.2.length cpxa_6] rfl rfl fun b55 => jal inf39 [ii 0, ii 0, ii 0, ii 0] rfl fun b56 => J.nil <| CJ.seq <| CJ.region ?_
 refine jv _ (V.fad Try.underlying30 rfl nz26 rfl) <| jv (.agg #[.slice adxa_4 xa.2.2.2.2.1.length cpxa_4]) (V.ld rfl (Ld.agg (cs := [.slice adxa_4 xa.2.2.2.2.1.length cpxa_4]) Try.underlying26 sz26 rfl (Rd.cls 1 4 rfl rfl))) <| jv _ (V.fad Try.underlying30 rfl nz3 rfl) <| jv (ii xa.1) (V.ld rfl (Ld.sc sc3 (Rd.cl 1 rfl rfl))) ?_
 obtain ⟨r57, hr58, h⟩ := ob h
 refine J.op rfl (A.call (L1 := []) Try.call33 rfl (row_Check_ok fxa_4 hr58) rfl rfl) ?_
 rintro _ _ _ ⟨v60, _, rfl, ⟨⟨i59, rfl, rfl, rfl⟩, rfl⟩, _, rfl⟩
 refine jv (.agg #[ii i59, ii 3, ii 0, ii 0]) (V.build inf39 places39 rfl rfl) <| jal inf39 [ii 0, ii 0, ii 0, ii 0] rfl fun b63 => js [ii i59, ii 3, ii 0, ii 0] sz39 rfl rfl rfl rfl rfl rfl <| J.nil <| CJ.seq <| CJ.seq <| CJ.mix [Cl b63 39 [ii i59, ii 3, ii 0, ii 0], Cl b56 39 [ii 0, ii 0, ii 0, ii 0], Cl b55 30 [ii xa.1, ii xa.2.1, .slice adxa_2 xa.2.2.1.length cpxa_2, .slice adxa_3 xa.2.2.2.1.length cpxa_3, .slice adxa_4 xa.2.2.2.2.1.length cpxa_4, .slice adxa_5 xa.2.2.2.2.2.1.length cpxa_5, .slice adxa_6 xa.2.2.2.2.2.2.length cpxa_6]] [([0, 1, 2, 3, 4, 5, 6, 7, 8, 9], 10)] [11, 12] [] mixO (by decide +kernel) ⟨0, rfl, 0, rfl, 0, rfl, trivial⟩ rfl rfl rfl ?_
 refine JM.cons <| qv _ (V.fad Try.underlying39 rfl nz31 rfl) <| qv (ii i59) (V.ld rfl (Ld.sc sc31 (Rd.cl 0 rfl rfl))) <| qv (.bool (decide (i59 = 0))) (V.eql rfl rfl) <| qm (.bool (decide (i59 = 0))) rfl ?_
 rcases bt (decide (i59 = 0)) with hc84 | hc84
 · have h := ct hc84 h
   refine JQ.run rfl rfl rfl hc84 <| qv _ (V.fad Try.underlying30 rfl nz26 rfl) <| JQ.run rfl rfl rfl hc84 <| qv (.agg #[.slice adxa_4 xa.2.2.2.2.1.length cpxa_4]) (V.ld rfl (Ld.agg (cs := [.slice adxa_4 xa.2.2.2.2.1.length cpxa_4]) Try.underlying26 sz26 rfl (Rd.cls 2 4 rfl rfl))) <| JQ.run rfl rfl rfl hc84 <| qv _ (V.fad Try.underlying30 rfl nz23 rfl) <| JQ.run rfl rfl rfl hc84 ?_
   refine qv (.slice adxa_3 xa.2.2.2.1.length cpxa_3) (V.ld rfl (Ld.sc sc23 (Rd.cl 2 rfl rfl))) <| JQ.run rfl rfl rfl hc84 ?_
   obtain ⟨x85, hx86, h⟩ := ob h
   obtain ⟨p87, p88, p89⟩ := getI_some hx86
   obtain ⟨b90, o91, e92, a93⟩ := (fxa_3).at p88
   refine qv _ (V.iad Try.underlying23 sz26 rfl e92 rfl p87 p89) <| JQ.run rfl rfl rfl hc84 ?_
   obtain ⟨ad94, cp95, c96, f97⟩ := ((a93).one).sl
   refine qv (.agg #[.slice ad94 x85.length cp95]) (V.ld rfl (Ld.aggK (cs := [.slice ad94 x85.length cp95]) Try.underlying26 sz26 rfl ⟨c96, trivial⟩ (Hp.le_refl _))) <| JQ.nil <| JA.run rfl rfl rfl hc84 ?_
   obtain ⟨r98, hr99, h⟩ := ob h
   refine JA.op rfl (A.call (L1 := []) Try.call34 rfl (row_Shape_ok fxa_4 f97 hr99) rfl rfl) ?_
   rintro _ _ _ ⟨v101, _, rfl, ⟨⟨t100, rfl, rfl, rfl⟩, rfl⟩, _, rfl⟩
   refine ⟨fun w hs => Hold.sub (Hp.le_refl _) ⟨0, rfl, 0, rfl, 0, rfl, trivial⟩ hs, ?_⟩
   refine JM.nil <| JQ.run rfl rfl rfl hc84 <| qv (.bool (!t100)) (V.not rfl) <| qv (.bool (!t100)) (V.pickT rfl hc84 rfl) <| JQ.nil <| J.nil <| cc rfl h (fun hc104 h => ?_) fun hc104 h => ?_
   · refine CJ.region <| jv _ (V.fad Try.underlying39 rfl nz31 rfl) <| js1 [ii 8, ii 3, ii 0, ii 0] sz31 rfl rfl rfl rfl rfl rfl <| J.nil <| cr <| jv (.agg #[ii 8, ii 3, ii 0, ii 0]) (V.ld rfl (Ld.agg (cs := [ii 8, ii 3, ii 0, ii 0]) Try.underlying39 sz39 rfl (Rd.cls 0 0 rfl rfl))) ?_
     refine J.front 1 rfl <| js [ii 8, ii 3, ii 0, ii 0] sz39 rfl rfl rfl rfl rfl rfl <| J.nil <| CJ.ret ?_
     obtain rfl := si h
     exact ⟨_, _, Res.one rfl ⟨_, _, rfl, Ld.agg (cs := [ii 8, ii 3, ii 0, ii 0]) Try.underlying39 sz39 rfl (Rd.cls 0 0 rfl rfl)⟩, ⟨8, 3, 0, 0, rfl, rfl, rfl⟩, (Hp.le_refl _), fun w hs => (Sep.dropAt 0 rfl (Sep.dropAt 0 rfl (Sep.dropAt 0 rfl hs)))⟩
   refine CJ.skip <| cr <| jv (.agg #[ii i59, ii 3, ii 0, ii 0]) (V.ld rfl (Ld.agg (cs := [ii i59, ii 3, ii 0, ii 0]) Try.underlying39 sz39 rfl (Rd.cls 0 0 rfl rfl))) <| J.front 1 rfl <| js [ii i59, ii 3, ii 0, ii 0] sz39 rfl rfl rfl rfl rfl rfl <| J.nil ?_
   refine CJ.ret ?_
   obtain rfl := si h
   exact ⟨_, _, Res.one rfl ⟨_, _, rfl, Ld.agg (cs := [ii i59, ii 3, ii 0, ii 0]) Try.underlying39 sz39 rfl (Rd.cls 0 0 rfl rfl)⟩, ⟨i59, 3, 0, 0, rfl, rfl, rfl⟩, (Hp.le_refl _), fun w hs => (Sep.dropAt 0 rfl (Sep.dropAt 0 rfl (Sep.dropAt 0 rfl hs)))⟩
 have h := cf hc84 h
 refine JQ.skip rfl rfl rfl rfl hc84 <| JQ.skip rfl rfl rfl rfl hc84 <| JQ.skip rfl rfl rfl rfl hc84 <| JQ.skip rfl rfl rfl rfl hc84 <| JQ.skip rfl rfl rfl rfl hc84 <| JQ.skip rfl rfl rfl rfl hc84 <| JQ.nil ?_
 refine JA.skip rfl rfl rfl rfl hc84 <| JM.nil <| JQ.skip rfl rfl rfl rfl hc84 <| qv (.bool false) (V.pickF rfl hc84 rfl) <| JQ.nil <| J.nil <| CJ.condK (b := false) rfl rfl ?_
 refine CJ.skip <| cr <| jv (.agg #[ii i59, ii 3, ii 0, ii 0]) (V.ld rfl (Ld.agg (cs := [ii i59, ii 3, ii 0, ii 0]) Try.underlying39 sz39 rfl (Rd.cls 0 0 rfl rfl))) <| J.front 1 rfl <| js [ii i59, ii 3, ii 0, ii 0] sz39 rfl rfl rfl rfl rfl rfl <| J.nil ?_
 refine CJ.ret ?_
 obtain rfl := si h
 exact ⟨_, _, Res.one rfl ⟨_, _, rfl, Ld.agg (cs := [ii i59, ii 3, ii 0, ii 0]) Try.underlying39 sz39 rfl (Rd.cls 0 0 rfl rfl)⟩, ⟨i59, 3, 0, 0, rfl, rfl, rfl⟩, (Hp.le_refl _), fun w hs => (Sep.dropAt 0 rfl (Sep.dropAt 0 rfl (Sep.dropAt 0 rfl hs)))⟩

noncomputable def fn_sig_Check_1_ip0_ikkk (xa : Int) (qa0 : Int) (qa1 : (List (Int × Int))) (qa2 : (List (List (Int × Bool)))) (qa3 : (List (Int × Bool))) : Option Bool :=
  some ((decide (0 ≤ xa)) && (decide (xa < qa0)))
set_option maxRecDepth 100000 in
set_option maxHeartbeats 4000000 in
theorem sig_Check_1_ip0_ikkk_ok {K : Hp} {xa : Int} {qa0 : Int} {qa1 : (List (Int × Int))} {qa2 : (List (List (Int × Bool)))} {qa3 : (List (Int × Bool))} {pba : Nat} {adqa1 : Option Addr} {cpqa1 : Nat} {adqa2 : Option Addr} {cpqa2 : Nat} {adqa3 : Option Addr} {cpqa3 : Nat} (fqa1 : Is K (.sl (.cons (.int .i64) (.one (.int .i64)))) [.slice adqa1 qa1.length cpqa1] qa1) (fqa2 : Is K (.sl (.one (.sl (.cons (.int .i64) (.one .bool))))) [.slice adqa2 qa2.length cpqa2] qa2) (fqa3 : Is K (.sl (.cons (.int .i64) (.one .bool))) [.slice adqa3 qa3.length cpqa3] qa3) {r : Bool} (h : fn_sig_Check_1_ip0_ikkk xa qa0 qa1 qa2 qa3 = some r) :
    Tr Try.prog 46 #[ii xa, .pointer (some ⟨pba, 0, none⟩)] K [Cl pba 62 [ii qa0, .slice adqa1 qa1.length cpqa1, .slice adqa2 qa2.length cpqa2, .slice adqa3 qa3.length cpqa3]] (fun v K' L' => (∃ (t4 : Bool), t4 = r ∧ .bool t4 = v ∧ L' = [Cl pba 62 [ii qa0, .slice adqa1 qa1.length cpqa1, .slice adqa2 qa2.length cpqa2, .slice adqa3 qa3.length cpqa3]]) ∧ K = K') := by
 refine Tr.k <| Tr.of Try.func46 rfl Try.ntmps46 rfl fun E F => ?_
 unfold fn_sig_Check_1_ip0_ikkk at h
 refine cr <| ja (.bool false) rfl <| J.nil <| cr <| jm (ii xa) rfl ?_
 refine jv (.bool (decide (0 ≤ xa))) (V.geq rfl rfl) <| jm (.bool (decide (0 ≤ xa))) rfl <| J.cut 5 <| jmeet [(11, .bool ((decide (0 ≤ xa)) && (decide (xa < qa0))))] ?_ ?_
 · rcases bt (decide (0 ≤ xa)) with hc7 | hc7
   · refine J.run rfl rfl rfl hc7 <| jm (ii xa) rfl <| J.run rfl rfl rfl hc7 <| jv _ (V.fad Try.underlying62 rfl nz3 rfl) <| J.run rfl rfl rfl hc7 <| jv (ii qa0) (V.ld rfl (Ld.sc sc3 (Rd.cl 0 rfl rfl))) <| J.run rfl rfl rfl hc7 ?_
     refine jv (.bool (decide (xa < qa0))) (V.lss rfl rfl) <| jv (.bool (decide (xa < qa0))) (V.pickT rfl hc7 rfl) <| J.nil ?_
     exact ⟨rfl, ⟨(by simp only [hc7]; rfl), trivial⟩, rfl, rfl⟩
   refine J.skip rfl rfl rfl rfl hc7 <| J.skip rfl rfl rfl rfl hc7 <| J.skip rfl rfl rfl rfl hc7 <| J.skip rfl rfl rfl rfl hc7 <| jv (.bool false) (V.pickF rfl hc7 rfl) <| J.nil ?_
   exact ⟨rfl, ⟨(by simp only [hc7]; rfl), trivial⟩, rfl, rfl⟩
 intro ρ
 refine ja (.bool ((decide (0 ≤ xa)) && (decide (xa < qa0)))) rfl <| J.nil <| CJ.ret ?_
 obtain rfl := si h
 exact ⟨_, _, Res.one rfl rfl, ⟨(decide (0 ≤ xa)) && (decide (xa < qa0)), rfl, rfl, rfl⟩, (Hp.le_refl _), fun w hs => hs⟩
noncomputable def fn_sig_Check_l1 (xa : (Int × (List (Int × Int)) × (List (List (Int × Bool))) × (List (Int × Bool)))) : Int → Option (Int ⊕ (Unit ⊕ Int)) := fun (i546 : Int) => cond (decide (i546 < (((xa.2.1.length : Nat) : Int)))) ((getI xa.2.1 i546).bind fun x587 => (fn_sig_Check_1_ip0_ikkk x587.1 xa.1 xa.2.1 xa.2.2.1 xa.2.2.2).bind fun t599 => (cond (!t599) (some (true)) ((fn_sig_Check_1_ip0_ikkk x587.2 xa.1 xa.2.1 xa.2.2.1 xa.2.2.2).bind fun t615 => some (!t615))).bind fun t610 => cond (t610) (some (.inr ((.inr (7))))) (some (.inl (IntKind.wrap .i64 (i546 + 1))))) (some (.inr ((.inl ()))))
noncomputable def fn_sig_Check_l2 (xa : (Int × (List (Int × Int)) × (List (List (Int × Bool))) × (List (Int × Bool)))) : Int → Option (Int ⊕ (Unit ⊕ Int)) := fun (i721 : Int) => cond (decide (i721 < (((xa.2.2.1.length : Nat) : Int)))) ((getI xa.2.2.1 i721).bind fun x750 => (fn_row_Check x750 xa.1).bind fun i766 => cond (!decide (i766 = 0)) (some (.inr ((.inr (i766))))) (some (.inl (IntKind.wrap .i64 (i721 + 1))))) (some (.inr ((.inl ()))))
noncomputable def fn_sig_Check (xa : (Int × (List (Int × Int)) × (List (List (Int × Bool))) × (List (Int × Bool)))) : Option Int :=
  cond (decide (xa.1 < 0)) (some (7)) (cond (((decide (16 < xa.1)) || (decide (16 < (((xa.2.1.length : Nat) : Int))))) || (decide (16 < (((xa.2.2.1.length : Nat) : Int))))) (some (6)) ((loop (fn_sig_Check_l1 xa) 0 : Option (Unit ⊕ Int)).bind fun o => match o with | .inr r => some r | .inl () => (loop (fn_sig_Check_l2 xa) 0 : Option (Unit ⊕ Int)).bind fun o => match o with | .inr r => some r | .inl () => (fn_row_Check xa.2.2.2 xa.1).bind fun i776 => some (i776)))
set_option maxRecDepth 100000 in
set_option maxHeartbeats 4000000 in
theorem sig_Check_ok {K : Hp} {xa : (Int × (List (Int × Int)) × (List (List (Int × Bool))) × (List (Int × Bool)))} {adxa_1 : Option Addr} {cpxa_1 : Nat} {adxa_2 : Option Addr} {cpxa_2 : Nat} {adxa_3 : Option Addr} {cpxa_3 : Nat} (fxa_1 : Is K (.sl (.cons (.int .i64) (.one (.int .i64)))) [.slice adxa_1 xa.2.1.length cpxa_1] xa.2.1) (fxa_2 : Is K (.sl (.one (.sl (.cons (.int .i64) (.one .bool))))) [.slice adxa_2 xa.2.2.1.length cpxa_2] xa.2.2.1) (fxa_3 : Is K (.sl (.cons (.int .i64) (.one .bool))) [.slice adxa_3 xa.2.2.2.length cpxa_3] xa.2.2.2) {r : Int} (h : fn_sig_Check xa = some r) :
    Tr Try.prog 35 #[.agg #[ii xa.1, .slice adxa_1 xa.2.1.length cpxa_1, .slice adxa_2 xa.2.2.1.length cpxa_2, .slice adxa_3 xa.2.2.2.length cpxa_3]] K [] (fun v K' L' => (∃ (i390 : Int), i390 = r ∧ ii i390 = v ∧ L' = []) ∧ K = K') := by
 refine Tr.k <| Tr.of Try.func35 rfl Try.ntmps35 rfl fun E F => ?_
 unfold fn_sig_Check at h
 refine cr <| jbx [ii xa.1, .slice adxa_1 xa.2.1.length cpxa_1, .slice adxa_2 xa.2.2.1.length cpxa_2, .slice adxa_3 xa.2.2.2.length cpxa_3] rfl rfl fun b391 => ja (ii 0) rfl <| J.nil <| CJ.seq <| CJ.seq ?_
 refine CJ.region <| jv _ (V.fad Try.underlying62 rfl nz3 rfl) <| jv (ii xa.1) (V.ld rfl (Ld.sc sc3 (Rd.cl 0 rfl rfl))) <| jv (.bool (decide (xa.1 < 0))) (V.lss rfl rfl) <| J.nil <| cc rfl h (fun hc392 h => ?_) fun hc392 h => ?_
 · refine cr <| ja (ii 7) rfl <| J.nil <| CJ.ret ?_
   obtain rfl := si h
   exact ⟨_, _, Res.one rfl rfl, ⟨7, rfl, rfl, rfl⟩, (Hp.le_refl _), fun w hs => (Sep.dropAt 0 rfl hs)⟩
 refine CJ.skip <| CJ.seq <| cr <| jv _ (V.fad Try.underlying62 rfl nz3 rfl) <| jv (ii xa.1) (V.ld rfl (Ld.sc sc3 (Rd.cl 0 rfl rfl))) <| jv (.bool (decide (16 < xa.1))) (V.gtr rfl rfl) ?_
 refine jm (.bool (decide (16 < xa.1))) rfl <| J.cut 5 <| jmeet [(20, .bool ((decide (16 < xa.1)) || (decide (16 < (((xa.2.1.length : Nat) : Int)))))), (1, .pointer (some ⟨b391, 0, none⟩))] ?_ ?_
 · rcases bt (decide (16 < xa.1)) with hc395 | hc395
   · refine J.skip rfl rfl rfl rfl hc395 <| J.skip rfl rfl rfl rfl hc395 <| J.skip rfl rfl rfl rfl hc395 <| J.skip rfl rfl rfl rfl hc395 <| jv (.bool true) (V.pickT rfl hc395 rfl) <| J.nil ?_
     exact ⟨rfl, ⟨(by simp only [hc395]; rfl), rfl, trivial⟩, rfl, rfl⟩
   refine J.run rfl rfl rfl hc395 <| jv _ (V.fad Try.underlying62 rfl nz22 rfl) <| J.run rfl rfl rfl hc395 <| jv (.slice adxa_1 xa.2.1.length cpxa_1) (V.ld rfl (Ld.sc sc22 (Rd.cl 0 rfl rfl))) <| J.run rfl rfl rfl hc395 <| jv (ii (((xa.2.1.length : Nat) : Int))) (V.len Try.underlying22 rfl) <| J.run rfl rfl rfl hc395 ?_
   refine jv (.bool (decide (16 < (((xa.2.1.length : Nat) : Int))))) (V.gtr rfl rfl) <| jv (.bool (decide (16 < (((xa.2.1.length : Nat) : Int))))) (V.pickF rfl hc395 rfl) <| J.nil ?_
   exact ⟨rfl, ⟨(by simp only [hc395]; rfl), rfl, trivial⟩, rfl, rfl⟩
 intro ρ
 refine jm (.bool ((decide (16 < xa.1)) || (decide (16 < (((xa.2.1.length : Nat) : Int)))))) rfl <| J.cut 5 <| jmeet [(26, .bool (((decide (16 < xa.1)) || (decide (16 < (((xa.2.1.length : Nat) : Int))))) || (decide (16 < (((xa.2.2.1.length : Nat) : Int)))))), (1, .pointer (some ⟨b391, 0, none⟩))] ?_ ?_
 · rcases bt ((decide (16 < xa.1)) || (decide (16 < (((xa.2.1.length : Nat) : Int))))) with hc398 | hc398
   · refine J.skip rfl rfl rfl rfl hc398 <| J.skip rfl rfl rfl rfl hc398 <| J.skip rfl rfl rfl rfl hc398 <| J.skip rfl rfl rfl rfl hc398 <| jv (.bool true) (V.pickT rfl hc398 rfl) <| J.nil ?_
     exact ⟨rfl, ⟨(by simp only [hc398]; rfl), rfl, trivial⟩, rfl, rfl⟩
   refine J.run rfl rfl rfl hc398 <| jv _ (V.fad Try.underlying62 rfl nz23 rfl) <| J.run rfl rfl rfl hc398 <| jv (.slice adxa_2 xa.2.2.1.length cpxa_2) (V.ld rfl (Ld.sc sc23 (Rd.cl 0 rfl rfl))) <| J.run rfl rfl rfl hc398 <| jv (ii (((xa.2.2.1.length : Nat) : Int))) (V.len Try.underlying23 rfl) <| J.run rfl rfl rfl hc398 ?_
   refine jv (.bool (decide (16 < (((xa.2.2.1.length : Nat) : Int))))) (V.gtr rfl rfl) <| jv (.bool (decide (16 < (((xa.2.2.1.length : Nat) : Int))))) (V.pickF rfl hc398 rfl) <| J.nil ?_
   exact ⟨rfl, ⟨(by simp only [hc398]; rfl), rfl, trivial⟩, rfl, rfl⟩
 intro ρ
 refine J.nil <| cc rfl h (fun hc399 h => ?_) fun hc399 h => ?_
 · refine cr <| ja (ii 6) rfl <| J.nil <| CJ.ret ?_
   obtain rfl := si h
   exact ⟨_, _, Res.one rfl rfl, ⟨6, rfl, rfl, rfl⟩, (Hp.le_refl _), fun w hs => (Sep.dropAt 0 rfl hs)⟩
 refine CJ.skip <| cr <| jv (.func (.func 46) #[] #[.pointer (some ⟨b391, 0, none⟩)]) (V.mkf rfl) <| ja (.func (.func 46) #[] #[.pointer (some ⟨b391, 0, none⟩)]) rfl <| J.nil <| CJ.seq ?_
 refine cr <| jv _ (V.fad Try.underlying62 rfl nz22 rfl) <| jv (.slice adxa_1 xa.2.1.length cpxa_1) (V.ld rfl (Ld.sc sc22 (Rd.cl 0 rfl rfl))) <| jv (ii (((xa.2.1.length : Nat) : Int))) (V.len Try.underlying22 rfl) <| jm (ii 0) rfl <| J.nil ?_
 obtain ⟨o509, ho510, h⟩ := ob h
 refine CJ.joinN (o := o509) (fun s ρ K' L' => () = s ∧ Fits [(1, .pointer (some ⟨b391, 0, none⟩))] ρ ∧ K = K' ∧ L' = Cl b391 62 [ii xa.1, .slice adxa_1 xa.2.1.length cpxa_1, .slice adxa_2 xa.2.2.1.length cpxa_2, .slice adxa_3 xa.2.2.2.length cpxa_3] :: F) ?_ ?_
 · refine CJ.block <| CJ.loop (fun s ρ K' L' => ∃ (i546 : Int), i546 = s ∧ Fits [(1, .pointer (some ⟨b391, 0, none⟩)), (3, .func (.func 46) #[] #[.pointer (some ⟨b391, 0, none⟩)]), (29, .slice adxa_1 xa.2.1.length cpxa_1), (30, ii (((xa.2.1.length : Nat) : Int))), (31, ii i546)] ρ ∧ K = K' ∧ L' = Cl b391 62 [ii xa.1, .slice adxa_1 xa.2.1.length cpxa_1, .slice adxa_2 xa.2.2.1.length cpxa_2, .slice adxa_3 xa.2.2.2.length cpxa_3] :: F) ho510 ⟨0, rfl, ⟨rfl, rfl, rfl, rfl, rfl, trivial⟩, rfl, rfl⟩ ?_
   rintro s ρ _ _ r585 ⟨i546, rfl, hf583, rfl, rfl⟩ h582
   obtain ⟨ρ, rfl⟩ := hf583.ex
   refine cr <| jv (.bool (decide (i546 < (((xa.2.1.length : Nat) : Int))))) (V.lss rfl rfl) <| J.nil <| CJ.seq <| cc rfl h582 (fun hc586 h582 => ?_) fun hc586 h582 => ?_
   · refine CJ.skip <| CJ.seq <| CJ.block <| CJ.seq <| CJ.region ?_
     obtain ⟨x587, hx588, h582⟩ := ob h582
     obtain ⟨p589, p590, p591⟩ := getI_some hx588
     obtain ⟨b592, o593, e594, a595⟩ := (fxa_1).at p590
     refine jv _ (V.iad Try.underlying22 sz50 rfl e594 rfl p589 p591) <| jv (.agg #[ii x587.1, ii x587.2]) (V.ld rfl (Ld.aggK (cs := [ii x587.1, ii x587.2]) Try.underlying50 sz50 rfl ⟨((a595).fst).int, (((a595).snd).one).int, trivial⟩ (Hp.le_refl _))) <| jal inf50 [ii 0, ii 0] rfl fun b596 => js [ii x587.1, ii x587.2] sz50 rfl rfl rfl rfl rfl rfl <| J.nil <| CJ.seq <| CJ.region ?_
     refine jm (.func (.func 46) #[] #[.pointer (some ⟨b391, 0, none⟩)]) rfl <| jv _ (V.fad Try.underlying50 rfl nz3 rfl) <| jv (ii x587.1) (V.ld rfl (Ld.sc sc3 (Rd.cl 0 rfl rfl))) ?_
     obtain ⟨r597, hr598, h582⟩ := ob h582
     refine J.front 1 rfl <| J.op rfl (A.call (L1 := [Cl b391 62 [ii xa.1, .slice adxa_1 xa.2.1.length cpxa_1, .slice adxa_2 xa.2.2.1.length cpxa_2, .slice adxa_3 xa.2.2.2.length cpxa_3]]) Try.call46 rfl (sig_Check_1_ip0_ikkk_ok fxa_1 fxa_2 fxa_3 hr598) rfl rfl) ?_
     rintro _ _ _ ⟨v600, _, rfl, ⟨⟨t599, rfl, rfl, rfl⟩, rfl⟩, _, rfl⟩
     refine jv (.bool (!t599)) (V.not rfl) <| jm (.bool (!t599)) rfl <| J.cut 6 ?_
     obtain ⟨t610, ht611, h582⟩ := ob h582
     refine jmeet [(46, .bool t610), (1, .pointer (some ⟨b391, 0, none⟩)), (3, .func (.func 46) #[] #[.pointer (some ⟨b391, 0, none⟩)]), (29, .slice adxa_1 xa.2.1.length cpxa_1), (30, ii (((xa.2.1.length : Nat) : Int))), (31, ii i546)] ?_ ?_
     · rcases bt (!t599) with hc612 | hc612
       · have ht611 := ct hc612 ht611
         refine J.skip rfl rfl rfl rfl hc612 <| J.skip rfl rfl rfl rfl hc612 <| J.skip rfl rfl rfl rfl hc612 <| J.skip rfl rfl rfl rfl hc612 <| J.skip rfl rfl rfl rfl hc612 <| jv (.bool true) (V.pickT rfl hc612 rfl) <| J.nil ?_
         obtain rfl := si ht611
         exact ⟨rfl, ⟨rfl, rfl, rfl, rfl, rfl, rfl, trivial⟩, rfl, rfl⟩
       have ht611 := cf hc612 ht611
       refine J.run rfl rfl rfl hc612 <| jm (.func (.func 46) #[] #[.pointer (some ⟨b391, 0, none⟩)]) rfl <| J.run rfl rfl rfl hc612 <| jv _ (V.fad Try.underlying50 rfl nz3 rfl) <| J.run rfl rfl rfl hc612 <| jv (ii x587.2) (V.ld rfl (Ld.sc sc3 (Rd.cl 1 rfl rfl))) <| J.run rfl rfl rfl hc612 ?_
       obtain ⟨r613, hr614, ht611⟩ := ob ht611
       refine J.op rfl (A.call (L1 := [Cl b391 62 [ii xa.1, .slice adxa_1 xa.2.1.length cpxa_1, .slice adxa_2 xa.2.2.1.length cpxa_2, .slice adxa_3 xa.2.2.2.length cpxa_3]]) Try.call46 rfl (sig_Check_1_ip0_ikkk_ok fxa_1 fxa_2 fxa_3 hr614) rfl rfl) ?_
       rintro _ _ _ ⟨v616, _, rfl, ⟨⟨t615, rfl, rfl, rfl⟩, rfl⟩, _, rfl⟩
       refine J.run rfl rfl rfl hc612 <| jv (.bool (!t615)) (V.not rfl) <| jv (.bool (!t615)) (V.pickF rfl hc612 rfl) <| J.nil ?_
       obtain rfl := si ht611
       exact ⟨rfl, ⟨rfl, rfl, rfl, rfl, rfl, rfl, trivial⟩, rfl, rfl⟩
     intro ρ
     refine J.nil <| cc rfl h582 (fun hc619 h582 => ?_) fun hc619 h582 => ?_
     · refine cr <| ja (ii 7) rfl <| J.nil <| CJ.ret ?_
       obtain rfl := si h582
       refine ⟨nofun, fun e => ?_⟩
       subst e
       refine .inr ⟨nofun, ?_⟩
       obtain rfl := si h
       exact ⟨_, _, Res.one rfl rfl, ⟨7, rfl, rfl, rfl⟩, (Hp.le_refl _), fun w hs => (Sep.dropAt 0 rfl (Sep.dropAt 0 rfl hs))⟩
     refine CJ.skip <| CJ.region <| jv (ii (IntKind.wrap .i64 (i546 + 1))) (V.add rfl rfl) <| jm (ii (IntKind.wrap .i64 (i546 + 1))) rfl <| J.dropAt 1 rfl <| J.nil ?_
     obtain rfl := si h582
     exact ⟨rfl, ⟨IntKind.wrap .i64 (i546 + 1), rfl, ⟨rfl, rfl, rfl, rfl, rfl, trivial⟩, rfl, rfl⟩⟩
   refine CJ.exit ?_
   obtain rfl := si h582
   refine ⟨nofun, fun e => ?_⟩
   subst e
   exact .inl ⟨rfl, _, rfl, ⟨rfl, ⟨rfl, trivial⟩, rfl, rfl⟩⟩
 rintro s ρ _ _ ho620 ⟨rfl, hf621, rfl, rfl⟩
 subst ho620
 obtain ⟨ρ, rfl⟩ := hf621.ex
 refine PJ.done <| CJ.seq <| cr <| jv _ (V.fad Try.underlying62 rfl nz23 rfl) <| jv (.slice adxa_2 xa.2.2.1.length cpxa_2) (V.ld rfl (Ld.sc sc23 (Rd.cl 0 rfl rfl))) <| jv (ii (((xa.2.2.1.length : Nat) : Int))) (V.len Try.underlying23 rfl) ?_
 refine jm (ii 0) rfl <| J.nil ?_
 obtain ⟨o696, ho697, h⟩ := ob h
 refine CJ.joinN (o := o696) (fun s ρ K' L' => () = s ∧ Fits [(1, .pointer (some ⟨b391, 0, none⟩))] ρ ∧ K = K' ∧ L' = Cl b391 62 [ii xa.1, .slice adxa_1 xa.2.1.length cpxa_1, .slice adxa_2 xa.2.2.1.length cpxa_2, .slice adxa_3 xa.2.2.2.length cpxa_3] :: F) ?_ ?_
 · refine CJ.block <| CJ.loop (fun s ρ K' L' => ∃ (i721 : Int), i721 = s ∧ Fits [(1, .pointer (some ⟨b391, 0, none⟩)), (49, .slice adxa_2 xa.2.2.1.length cpxa_2), (50, ii (((xa.2.2.1.length : Nat) : Int))), (51, ii i721)] ρ ∧ K = K' ∧ L' = Cl b391 62 [ii xa.1, .slice adxa_1 xa.2.1.length cpxa_1, .slice adxa_2 xa.2.2.1.length cpxa_2, .slice adxa_3 xa.2.2.2.length cpxa_3] :: F) ho697 ⟨0, rfl, ⟨rfl, rfl, rfl, rfl, trivial⟩, rfl, rfl⟩ ?_
   rintro s ρ _ _ r748 ⟨i721, rfl, hf746, rfl, rfl⟩ h745
   obtain ⟨ρ, rfl⟩ := hf746.ex
   refine cr <| jv (.bool (decide (i721 < (((xa.2.2.1.length : Nat) : Int))))) (V.lss rfl rfl) <| J.nil <| CJ.seq <| cc rfl h745 (fun hc749 h745 => ?_) fun hc749 h745 => ?_
   · refine CJ.skip <| CJ.seq <| CJ.block <| CJ.seq <| CJ.region ?_
     obtain ⟨x750, hx751, h745⟩ := ob h745
     obtain ⟨p752, p753, p754⟩ := getI_some hx751
     obtain ⟨b755, o756, e757, a758⟩ := (fxa_2).at p753
     refine jv _ (V.iad Try.underlying23 sz26 rfl e757 rfl p752 p754) ?_
     obtain ⟨ad759, cp760, c761, f762⟩ := ((a758).one).sl
     refine jv (.agg #[.slice ad759 x750.length cp760]) (V.ld rfl (Ld.aggK (cs := [.slice ad759 x750.length cp760]) Try.underlying26 sz26 rfl ⟨c761, trivial⟩ (Hp.le_refl _))) <| jal inf26 [nos] rfl fun b763 => js [.slice ad759 x750.length cp760] sz26 rfl rfl rfl rfl rfl rfl <| J.nil <| cr <| jv (.agg #[.slice ad759 x750.length cp760]) (V.ld rfl (Ld.agg (cs := [.slice ad759 x750.length cp760]) Try.underlying26 sz26 rfl (Rd.cls 0 0 rfl rfl))) ?_
     refine jv _ (V.fad Try.underlying62 rfl nz3 rfl) <| jv (ii xa.1) (V.ld rfl (Ld.sc sc3 (Rd.cl 1 rfl rfl))) ?_
     obtain ⟨r764, hr765, h745⟩ := ob h745
     refine J.op rfl (A.call (L1 := []) Try.call33 rfl (row_Check_ok f762 hr765) rfl rfl) ?_
     rintro _ _ _ ⟨v767, _, rfl, ⟨⟨i766, rfl, rfl, rfl⟩, rfl⟩, _, rfl⟩
     refine ja (ii i766) rfl <| J.nil <| cr <| jm (ii i766) rfl <| jv (.bool (!decide (i766 = 0))) (V.neq rfl rfl) <| J.nil ?_
     refine cc rfl h745 (fun hc770 h745 => ?_) fun hc770 h745 => ?_
     · refine cr <| jm (ii i766) rfl <| ja (ii i766) rfl <| J.nil <| CJ.ret ?_
       obtain rfl := si h745
       refine ⟨nofun, fun e => ?_⟩
       subst e
       refine .inr ⟨nofun, ?_⟩
       obtain rfl := si h
       exact ⟨_, _, Res.one rfl rfl, ⟨i766, rfl, rfl, rfl⟩, (Hp.le_refl _), fun w hs => (Sep.dropAt 0 rfl (Sep.dropAt 0 rfl hs))⟩
     refine CJ.skip <| CJ.region <| jv (ii (IntKind.wrap .i64 (i721 + 1))) (V.add rfl rfl) <| jm (ii (IntKind.wrap .i64 (i721 + 1))) rfl <| J.dropAt 0 rfl <| J.nil ?_
     obtain rfl := si h745
     exact ⟨rfl, ⟨IntKind.wrap .i64 (i721 + 1), rfl, ⟨rfl, rfl, rfl, rfl, trivial⟩, rfl, rfl⟩⟩
   refine CJ.exit ?_
   obtain rfl := si h745
   refine ⟨nofun, fun e => ?_⟩
   subst e
   exact .inl ⟨rfl, _, rfl, ⟨rfl, ⟨rfl, trivial⟩, rfl, rfl⟩⟩
 rintro s ρ _ _ ho771 ⟨rfl, hf772, rfl, rfl⟩
 subst ho771
 obtain ⟨ρ, rfl⟩ := hf772.ex
 refine PJ.done <| cr <| jv _ (V.fad Try.underlying62 rfl nz26 rfl) <| jv (.agg #[.slice adxa_3 xa.2.2.2.length cpxa_3]) (V.ld rfl (Ld.agg (cs := [.slice adxa_3 xa.2.2.2.length cpxa_3]) Try.underlying26 sz26 rfl (Rd.cls 0 3 rfl rfl))) <| jv _ (V.fad Try.underlying62 rfl nz3 rfl) <| jv (ii xa.1) (V.ld rfl (Ld.sc sc3 (Rd.cl 0 rfl rfl))) ?_
 obtain ⟨r774, hr775, h⟩ := ob h
 refine J.op rfl (A.call (L1 := []) Try.call33 rfl (row_Check_ok fxa_3 hr775) rfl rfl) ?_
 rintro _ _ _ ⟨v777, _, rfl, ⟨⟨i776, rfl, rfl, rfl⟩, rfl⟩, _, rfl⟩
 refine ja (ii i776) rfl <| J.nil <| CJ.ret ?_
 obtain rfl := si h
 exact ⟨_, _, Res.one rfl rfl, ⟨i776, rfl, rfl, rfl⟩, (Hp.le_refl _), fun w hs => (Sep.dropAt 0 rfl hs)⟩
noncomputable def fn_valid_sigs_az_l1 (xa : (Int × Int × (List (Int × Int)) × (List (List (Int × Bool))) × (List (Int × Bool)) × (List (Int × (List (Int × Int)) × (List (List (Int × Bool))) × (List (Int × Bool)))) × (List ((List (Int × Int × Int × Int × Bool)) × (Int × Int × Int × (List Int) × (List Int) × (List Int)))))) : Int → Option (Int ⊕ (Unit ⊕ (Int × Int × Int × Int))) := fun (i390 : Int) => cond (decide (i390 < (((xa.2.2.2.2.2.1.length : Nat) : Int)))) ((getI xa.2.2.2.2.2.1 i390).bind fun x432 => (fn_tick_Counter_Add_zii 1 1).bind fun _ => (fn_sig_Check (x432.1, x432.2.1, x432.2.2.1, x432.2.2.2)).bind fun i461 => cond (!decide (i461 = 0)) (some (.inr ((.inr ((i461, 4, i390, 0)))))) (some (.inl (IntKind.wrap .i64 (i390 + 1))))) (some (.inr ((.inl ()))))
noncomputable def fn_valid_sigs_az (xa : (Int × Int × (List (Int × Int)) × (List (List (Int × Bool))) × (List (Int × Bool)) × (List (Int × (List (Int × Int)) × (List (List (Int × Bool))) × (List (Int × Bool)))) × (List ((List (Int × Int × Int × Int × Bool)) × (Int × Int × Int × (List Int) × (List Int) × (List Int)))))) : Option (Int × Int × Int × Int) :=
  cond (decide (65536 < (((xa.2.2.2.2.2.1.length : Nat) : Int)))) (some ((6, 4, 0, 0))) ((loop (fn_valid_sigs_az_l1 xa) 0 : Option (Unit ⊕ (Int × Int × Int × Int))).bind fun o => match o with | .inr r => some r | .inl () => some ((0, 0, 0, 0)))
set_option maxRecDepth 100000 in
set_option maxHeartbeats 4000000 in
theorem valid_sigs_az_ok {K : Hp} {xa : (Int × Int × (List (Int × Int)) × (List (List (Int × Bool))) × (List (Int × Bool)) × (List (Int × (List (Int × Int)) × (List (List (Int × Bool))) × (List (Int × Bool)))) × (List ((List (Int × Int × Int × Int × Bool)) × (Int × Int × Int × (List Int) × (List Int) × (List Int)))))} {adxa_2 : Option Addr} {cpxa_2 : Nat} {adxa_3 : Option Addr} {cpxa_3 : Nat} {adxa_4 : Option Addr} {cpxa_4 : Nat} {adxa_5 : Option Addr} {cpxa_5 : Nat} {adxa_6 : Option Addr} {cpxa_6 : Nat} (fxa_2 : Is K (.sl (.cons (.int .i64) (.one (.int .i64)))) [.slice adxa_2 xa.2.2.1.length cpxa_2] xa.2.2.1) (fxa_3 : Is K (.sl (.one (.sl (.cons (.int .i64) (.one .bool))))) [.slice adxa_3 xa.2.2.2.1.length cpxa_3] xa.2.2.2.1) (fxa_4 : Is K (.sl (.cons (.int .i64) (.one .bool))) [.slice adxa_4 xa.2.2.2.2.1.length cpxa_4] xa.2.2.2.2.1) (fxa_5 : Is K (.sl (.cons (.int .i64) (.cons (.sl (.cons (.int .i64) (.one (.int .i64)))) (.cons (.sl (.one (.sl (.cons (.int .i64) (.one .bool))))) (.one (.one (.sl (.cons (.int .i64) (.one .bool))))))))) [.slice adxa_5 xa.2.2.2.2.2.1.length cpxa_5] xa.2.2.2.2.2.1) (fxa_6 : Is K (.sl (.cons (.sl (.cons (.int .i64) (.cons (.int .i64) (.cons (.int .i64) (.cons (.int .i64) (.one .bool)))))) (.one (.cons (.int .i64) (.cons (.int .i64) (.cons (.int .i64) (.cons (.sl (.int .i64)) (.cons (.sl (.int .i64)) (.one (.sl (.int .i64))))))))))) [.slice adxa_6 xa.2.2.2.2.2.2.length cpxa_6] xa.2.2.2.2.2.2) {r : (Int × Int × Int × Int)} (h : fn_valid_sigs_az xa = some r) :
    Tr Try.prog 24 #[.agg #[ii xa.1, ii xa.2.1, .slice adxa_2 xa.2.2.1.length cpxa_2, .slice adxa_3 xa.2.2.2.1.length cpxa_3, .slice adxa_4 xa.2.2.2.2.1.length cpxa_4, .slice adxa_5 xa.2.2.2.2.2.1.length cpxa_5, .slice adxa_6 xa.2.2.2.2.2.2.length cpxa_6], .pointer none] K [] (fun v K' L' => (∃ (i233 : Int) (i234 : Int) (i235 : Int) (i236 : Int), (i233, i234, i235, i236) = r ∧ .agg #[ii i233, ii i234, ii i235, ii i236] = v ∧ L' = []) ∧ K = K') := by
 refine Tr.k <| Tr.of Try.func24 rfl Try.ntmps24 rfl fun E F => ?_
 unfold fn_valid_sigs_az at h
 refine cr <| jbx [ii xa.1, ii xa.2.1, .slice adxa_2 xa.2.2.1.length cpxa_2, .slice adxa_3 xa.2.2.2.1.length cpxa_3, .slice adxa_4 xa.2.2.2.2.1.length cpxa_4, .slice adxa_5 xa.2.2.2.2.2.1.length cpxa_5, .slice adxa_6 xa.2.2.2.2.2.2.length cpxa_6] rfl rfl fun b237 => jal inf39 [ii 0, ii 0, ii 0, ii 0] rfl fun b238 => J.nil <| CJ.seq <| CJ.seq ?_
 refine CJ.region <| jv _ (V.fad Try.underlying30 rfl nz27 rfl) <| jv (.slice adxa_5 xa.2.2.2.2.2.1.length cpxa_5) (V.ld rfl (Ld.sc sc27 (Rd.cl 1 rfl rfl))) <| jv (ii (((xa.2.2.2.2.2.1.length : Nat) : Int))) (V.len Try.underlying27 rfl) <| jv (.bool (decide (65536 < (((xa.2.2.2.2.2.1.length : Nat) : Int))))) (V.gtr rfl rfl) <| J.nil <| cc rfl h (fun hc239 h => ?_) fun hc239 h => ?_
 · refine cr <| jv (.agg #[ii 6, ii 4, ii 0, ii 0]) (V.build inf39 places39 rfl rfl) <| js [ii 6, ii 4, ii 0, ii 0] sz39 rfl rfl rfl rfl rfl rfl <| J.nil <| CJ.ret ?_
   obtain rfl := si h
   exact ⟨_, _, Res.one rfl ⟨_, _, rfl, Ld.agg (cs := [ii 6, ii 4, ii 0, ii 0]) Try.underlying39 sz39 rfl (Rd.cls 0 0 rfl rfl)⟩, ⟨6, 4, 0, 0, rfl, rfl, rfl⟩, (Hp.le_refl _), fun w hs => (Sep.dropAt 0 rfl (Sep.dropAt 0 rfl hs))⟩
 refine CJ.skip <| CJ.seq <| cr <| jv _ (V.fad Try.underlying30 rfl nz27 rfl) <| jv (.slice adxa_5 xa.2.2.2.2.2.1.length cpxa_5) (V.ld rfl (Ld.sc sc27 (Rd.cl 1 rfl rfl))) <| jv (ii (((xa.2.2.2.2.2.1.length : Nat) : Int))) (V.len Try.underlying27 rfl) ?_
 refine jm (ii 0) rfl <| J.nil ?_
 obtain ⟨o352, ho353, h⟩ := ob h
 refine CJ.joinN (o := o352) (fun s ρ K' L' => () = s ∧ Fits [(4, .pointer (some ⟨b238, 0, none⟩))] ρ ∧ K = K' ∧ L' = Cl b238 39 [ii 0, ii 0, ii 0, ii 0] :: F) ?_ ?_
 · refine CJ.block <| CJ.dropAt 1 rfl <| CJ.loop (fun s ρ K' L' => ∃ (i390 : Int), i390 = s ∧ Fits [(1, .pointer none), (4, .pointer (some ⟨b238, 0, none⟩)), (14, .slice adxa_5 xa.2.2.2.2.2.1.length cpxa_5), (15, ii (((xa.2.2.2.2.2.1.length : Nat) : Int))), (16, ii i390)] ρ ∧ K = K' ∧ L' = Cl b238 39 [ii 0, ii 0, ii 0, ii 0] :: F) ho353 ⟨0, rfl, ⟨rfl, rfl, rfl, rfl, rfl, trivial⟩, rfl, rfl⟩ ?_
   rintro s ρ _ _ r430 ⟨i390, rfl, hf428, rfl, rfl⟩ h427
   obtain ⟨ρ, rfl⟩ := hf428.ex
   refine cr <| jv (.bool (decide (i390 < (((xa.2.2.2.2.2.1.length : Nat) : Int))))) (V.lss rfl rfl) <| J.nil <| CJ.seq <| cc rfl h427 (fun hc431 h427 => ?_) fun hc431 h427 => ?_
   · refine CJ.skip <| CJ.seq <| CJ.block <| cr <| jm (ii i390) rfl ?_
     obtain ⟨x432, hx433, h427⟩ := ob h427
     obtain ⟨p434, p435, p436⟩ := getI_some hx433
     obtain ⟨b437, o438, e439, a440⟩ := (fxa_5).at p435
     refine jv _ (V.iad Try.underlying27 sz62 rfl e439 rfl p434 p436) ?_
     obtain ⟨ad441, cp442, c443, f444⟩ := (((a440).snd).fst).sl
     obtain ⟨ad445, cp446, c447, f448⟩ := ((((a440).snd).snd).fst).sl
     obtain ⟨ad449, cp450, c451, f452⟩ := ((((((a440).snd).snd).snd).one).one).sl
     refine jv (.agg #[ii x432.1, .slice ad441 x432.2.1.length cp442, .slice ad445 x432.2.2.1.length cp446, .slice ad449 x432.2.2.2.length cp450]) (V.ld rfl (Ld.aggK (cs := [ii x432.1, .slice ad441 x432.2.1.length cp442, .slice ad445 x432.2.2.1.length cp446, .slice ad449 x432.2.2.2.length cp450]) Try.underlying62 sz62 rfl ⟨((a440).fst).int, c443, c447, c451, trivial⟩ (Hp.le_refl _))) <| jal inf62 [ii 0, nos, nos, nos] rfl fun b453 => ja (ii i390) rfl <| js [ii x432.1, .slice ad441 x432.2.1.length cp442, .slice ad445 x432.2.2.1.length cp446, .slice ad449 x432.2.2.2.length cp450] sz62 rfl rfl rfl rfl rfl rfl <| J.nil <| CJ.seq <| CJ.region ?_
     refine jm (.pointer none) rfl ?_
     obtain ⟨r454, hr455, h427⟩ := ob h427
     refine J.op rfl (A.call (L1 := []) Try.call19 rfl (tick_Counter_Add_zii_ok hr455) rfl rfl) ?_
     rintro _ _ _ ⟨v456, _, rfl, ⟨⟨rfl, rfl, rfl⟩, rfl⟩, _, rfl⟩
     refine J.nil <| cr <| jv (.agg #[ii x432.1, .slice ad441 x432.2.1.length cp442, .slice ad445 x432.2.2.1.length cp446, .slice ad449 x432.2.2.2.length cp450]) (V.ld rfl (Ld.agg (cs := [ii x432.1, .slice ad441 x432.2.1.length cp442, .slice ad445 x432.2.2.1.length cp446, .slice ad449 x432.2.2.2.length cp450]) Try.underlying62 sz62 rfl (Rd.cls 0 0 rfl rfl))) ?_
     obtain ⟨r459, hr460, h427⟩ := ob h427
     refine J.op rfl (A.call (L1 := []) Try.call35 rfl (sig_Check_ok f444 f448 f452 hr460) rfl rfl) ?_
     rintro _ _ _ ⟨v462, _, rfl, ⟨⟨i461, rfl, rfl, rfl⟩, rfl⟩, _, rfl⟩
     refine ja (ii i461) rfl <| J.nil <| cr <| jm (ii i461) rfl <| jv (.bool (!decide (i461 = 0))) (V.neq rfl rfl) <| J.nil ?_
     refine cc rfl h427 (fun hc465 h427 => ?_) fun hc465 h427 => ?_
     · refine cr <| jm (ii i461) rfl <| jm (ii i390) rfl <| jv (.agg #[ii i461, ii 4, ii i390, ii 0]) (V.build inf39 places39 rfl rfl) <| J.front 1 rfl <| js [ii i461, ii 4, ii i390, ii 0] sz39 rfl rfl rfl rfl rfl rfl ?_
       refine J.nil <| CJ.ret ?_
       obtain rfl := si h427
       refine ⟨nofun, fun e => ?_⟩
       subst e
       refine .inr ⟨nofun, ?_⟩
       obtain rfl := si h
       exact ⟨_, _, Res.one rfl ⟨_, _, rfl, Ld.agg (cs := [ii i461, ii 4, ii i390, ii 0]) Try.underlying39 sz39 rfl (Rd.cls 0 0 rfl rfl)⟩, ⟨i461, 4, i390, 0, rfl, rfl, rfl⟩, (Hp.le_refl _), fun w hs => (Sep.dropAt 0 rfl (Sep.dropAt 0 rfl hs))⟩
     refine CJ.skip <| CJ.region <| jv (ii (IntKind.wrap .i64 (i390 + 1))) (V.add rfl rfl) <| jm (ii (IntKind.wrap .i64 (i390 + 1))) rfl <| J.dropAt 0 rfl <| J.nil ?_
     obtain rfl := si h427
     exact ⟨rfl, ⟨IntKind.wrap .i64 (i390 + 1), rfl, ⟨rfl, rfl, rfl, rfl, rfl, trivial⟩, rfl, rfl⟩⟩
   refine CJ.exit ?_
   obtain rfl := si h427
   refine ⟨nofun, fun e => ?_⟩
   subst e
   exact .inl ⟨rfl, _, rfl, ⟨rfl, ⟨rfl, trivial⟩, rfl, rfl⟩⟩
 rintro s ρ _ _ ho466 ⟨rfl, hf467, rfl, rfl⟩
 subst ho466
 obtain ⟨ρ, rfl⟩ := hf467.ex
 refine PJ.done <| cr <| jv (.agg #[ii 0, ii 0, ii 0, ii 0]) (V.build inf39 places39 rfl rfl) <| js [ii 0, ii 0, ii 0, ii 0] sz39 rfl rfl rfl rfl rfl rfl <| J.nil <| CJ.ret ?_
 obtain rfl := si h
 exact ⟨_, _, Res.one rfl ⟨_, _, rfl, Ld.agg (cs := [ii 0, ii 0, ii 0, ii 0]) Try.underlying39 sz39 rfl (Rd.cls 0 0 rfl rfl)⟩, ⟨0, 0, 0, 0, rfl, rfl, rfl⟩, (Hp.le_refl _), fun w hs => (Sep.dropAt 0 rfl hs)⟩
noncomputable def fn_valid_blocks_az_l1 (xa : (Int × Int × (List (Int × Int)) × (List (List (Int × Bool))) × (List (Int × Bool)) × (List (Int × (List (Int × Int)) × (List (List (Int × Bool))) × (List (Int × Bool)))) × (List ((List (Int × Int × Int × Int × Bool)) × (Int × Int × Int × (List Int) × (List Int) × (List Int)))))) : (Int × Int) → Option ((Int × Int) ⊕ (Unit ⊕ (Int × Int × Int × Int))) := fun ((i382, i383) : (Int × Int)) => cond (decide (i383 < (((xa.2.2.2.2.2.2.length : Nat) : Int)))) ((getI xa.2.2.2.2.2.2 i383).bind fun x424 => (fn_tick_Counter_Add_zii 1 1).bind fun _ => cond (decide (65536 < (IntKind.wrap .i64 (i382 + (((x424.1.length : Nat) : Int)))))) (some (.inr ((.inr ((6, 5, i383, 0)))))) (some (.inl ((IntKind.wrap .i64 (i382 + (((x424.1.length : Nat) : Int))), IntKind.wrap .i64 (i383 + 1)))))) (some (.inr ((.inl ()))))
noncomputable def fn_valid_blocks_az (xa : (Int × Int × (List (Int × Int)) × (List (List (Int × Bool))) × (List (Int × Bool)) × (List (Int × (List (Int × Int)) × (List (List (Int × Bool))) × (List (Int × Bool)))) × (List ((List (Int × Int × Int × Int × Bool)) × (Int × Int × Int × (List Int) × (List Int) × (List Int)))))) : Option (Int × Int × Int × Int) :=
  cond (decide ((((xa.2.2.2.2.2.2.length : Nat) : Int)) = 0)) (some ((14, 5, 0, 0))) (cond (decide (65536 < (((xa.2.2.2.2.2.2.length : Nat) : Int)))) (some ((6, 5, 0, 0))) ((loop (fn_valid_blocks_az_l1 xa) (0, 0) : Option (Unit ⊕ (Int × Int × Int × Int))).bind fun o => match o with | .inr r => some r | .inl () => some ((0, 0, 0, 0))))
set_option maxRecDepth 100000 in
set_option maxHeartbeats 4000000 in
theorem valid_blocks_az_ok {K : Hp} {xa : (Int × Int × (List (Int × Int)) × (List (List (Int × Bool))) × (List (Int × Bool)) × (List (Int × (List (Int × Int)) × (List (List (Int × Bool))) × (List (Int × Bool)))) × (List ((List (Int × Int × Int × Int × Bool)) × (Int × Int × Int × (List Int) × (List Int) × (List Int)))))} {adxa_2 : Option Addr} {cpxa_2 : Nat} {adxa_3 : Option Addr} {cpxa_3 : Nat} {adxa_4 : Option Addr} {cpxa_4 : Nat} {adxa_5 : Option Addr} {cpxa_5 : Nat} {adxa_6 : Option Addr} {cpxa_6 : Nat} (fxa_2 : Is K (.sl (.cons (.int .i64) (.one (.int .i64)))) [.slice adxa_2 xa.2.2.1.length cpxa_2] xa.2.2.1) (fxa_3 : Is K (.sl (.one (.sl (.cons (.int .i64) (.one .bool))))) [.slice adxa_3 xa.2.2.2.1.length cpxa_3] xa.2.2.2.1) (fxa_4 : Is K (.sl (.cons (.int .i64) (.one .bool))) [.slice adxa_4 xa.2.2.2.2.1.length cpxa_4] xa.2.2.2.2.1) (fxa_5 : Is K (.sl (.cons (.int .i64) (.cons (.sl (.cons (.int .i64) (.one (.int .i64)))) (.cons (.sl (.one (.sl (.cons (.int .i64) (.one .bool))))) (.one (.one (.sl (.cons (.int .i64) (.one .bool))))))))) [.slice adxa_5 xa.2.2.2.2.2.1.length cpxa_5] xa.2.2.2.2.2.1) (fxa_6 : Is K (.sl (.cons (.sl (.cons (.int .i64) (.cons (.int .i64) (.cons (.int .i64) (.cons (.int .i64) (.one .bool)))))) (.one (.cons (.int .i64) (.cons (.int .i64) (.cons (.int .i64) (.cons (.sl (.int .i64)) (.cons (.sl (.int .i64)) (.one (.sl (.int .i64))))))))))) [.slice adxa_6 xa.2.2.2.2.2.2.length cpxa_6] xa.2.2.2.2.2.2) {r : (Int × Int × Int × Int)} (h : fn_valid_blocks_az xa = some r) :
    Tr Try.prog 25 #[.agg #[ii xa.1, ii xa.2.1, .slice adxa_2 xa.2.2.1.length cpxa_2, .slice adxa_3 xa.2.2.2.1.length cpxa_3, .slice adxa_4 xa.2.2.2.2.1.length cpxa_4, .slice adxa_5 xa.2.2.2.2.2.1.length cpxa_5, .slice adxa_6 xa.2.2.2.2.2.2.length cpxa_6], .pointer none] K [] (fun v K' L' => (∃ (i228 : Int) (i229 : Int) (i230 : Int) (i231 : Int), (i228, i229, i230, i231) = r ∧ .agg #[ii i228, ii i229, ii i230, ii i231] = v ∧ L' = []) ∧ K = K') := by
 refine Tr.k <| Tr.of Try.func25 rfl Try.ntmps25 rfl fun E F => ?_
 unfold fn_valid_blocks_az at h
 refine cr <| jbx [ii xa.1, ii xa.2.1, .slice adxa_2 xa.2.2.1.length cpxa_2, .slice adxa_3 xa.2.2.2.1.length cpxa_3, .slice adxa_4 xa.2.2.2.2.1.length cpxa_4, .slice adxa_5 xa.2.2.2.2.2.1.length cpxa_5, .slice adxa_6 xa.2.2.2.2.2.2.length cpxa_6] rfl rfl fun b232 => jal inf39 [ii 0, ii 0, ii 0, ii 0] rfl fun b233 => J.nil <| CJ.seq <| CJ.seq ?_
 refine CJ.region <| jv _ (V.fad Try.underlying30 rfl nz28 rfl) <| jv (.slice adxa_6 xa.2.2.2.2.2.2.length cpxa_6) (V.ld rfl (Ld.sc sc28 (Rd.cl 1 rfl rfl))) <| jv (ii (((xa.2.2.2.2.2.2.length : Nat) : Int))) (V.len Try.underlying28 rfl) <| jv (.bool (decide ((((xa.2.2.2.2.2.2.length : Nat) : Int)) = 0))) (V.eql rfl rfl) <| J.nil <| cc rfl h (fun hc234 h => ?_) fun hc234 h => ?_
 · refine cr <| jv (.agg #[ii 14, ii 5, ii 0, ii 0]) (V.build inf39 places39 rfl rfl) <| js [ii 14, ii 5, ii 0, ii 0] sz39 rfl rfl rfl rfl rfl rfl <| J.nil <| CJ.ret ?_
   obtain rfl := si h
   exact ⟨_, _, Res.one rfl ⟨_, _, rfl, Ld.agg (cs := [ii 14, ii 5, ii 0, ii 0]) Try.underlying39 sz39 rfl (Rd.cls 0 0 rfl rfl)⟩, ⟨14, 5, 0, 0, rfl, rfl, rfl⟩, (Hp.le_refl _), fun w hs => (Sep.dropAt 0 rfl (Sep.dropAt 0 rfl hs))⟩
 refine CJ.skip <| CJ.seq <| cr <| jv _ (V.fad Try.underlying30 rfl nz28 rfl) <| jv (.slice adxa_6 xa.2.2.2.2.2.2.length cpxa_6) (V.ld rfl (Ld.sc sc28 (Rd.cl 1 rfl rfl))) <| jv (ii (((xa.2.2.2.2.2.2.length : Nat) : Int))) (V.len Try.underlying28 rfl) ?_
 refine jv (.bool (decide (65536 < (((xa.2.2.2.2.2.2.length : Nat) : Int))))) (V.gtr rfl rfl) <| J.nil <| cc rfl h (fun hc235 h => ?_) fun hc235 h => ?_
 · refine cr <| jv (.agg #[ii 6, ii 5, ii 0, ii 0]) (V.build inf39 places39 rfl rfl) <| js [ii 6, ii 5, ii 0, ii 0] sz39 rfl rfl rfl rfl rfl rfl <| J.nil <| CJ.ret ?_
   obtain rfl := si h
   exact ⟨_, _, Res.one rfl ⟨_, _, rfl, Ld.agg (cs := [ii 6, ii 5, ii 0, ii 0]) Try.underlying39 sz39 rfl (Rd.cls 0 0 rfl rfl)⟩, ⟨6, 5, 0, 0, rfl, rfl, rfl⟩, (Hp.le_refl _), fun w hs => (Sep.dropAt 0 rfl (Sep.dropAt 0 rfl hs))⟩
 refine CJ.skip <| cr <| ja (ii 0) rfl <| J.nil <| CJ.seq <| CJ.seq ?_
 refine CJ.region <| jv _ (V.fad Try.underlying30 rfl nz28 rfl) <| jv (.slice adxa_6 xa.2.2.2.2.2.2.length cpxa_6) (V.ld rfl (Ld.sc sc28 (Rd.cl 1 rfl rfl))) <| jv (ii (((xa.2.2.2.2.2.2.length : Nat) : Int))) (V.len Try.underlying28 rfl) <| jm (ii 0) rfl <| J.nil ?_
 obtain ⟨o345, ho346, h⟩ := ob h
 refine CJ.joinN (o := o345) (fun s ρ K' L' => () = s ∧ Fits [(4, .pointer (some ⟨b233, 0, none⟩))] ρ ∧ K = K' ∧ L' = Cl b233 39 [ii 0, ii 0, ii 0, ii 0] :: F) ?_ ?_
 · refine CJ.block <| CJ.dropAt 1 rfl <| CJ.loop (fun s ρ K' L' => ∃ (i382 : Int) (i383 : Int), (i382, i383) = s ∧ Fits [(1, .pointer none), (4, .pointer (some ⟨b233, 0, none⟩)), (5, ii i382), (19, .slice adxa_6 xa.2.2.2.2.2.2.length cpxa_6), (20, ii (((xa.2.2.2.2.2.2.length : Nat) : Int))), (21, ii i383)] ρ ∧ K = K' ∧ L' = Cl b233 39 [ii 0, ii 0, ii 0, ii 0] :: F) ho346 ⟨0, 0, rfl, ⟨rfl, rfl, rfl, rfl, rfl, rfl, trivial⟩, rfl, rfl⟩ ?_
   rintro s ρ _ _ r422 ⟨i382, i383, rfl, hf420, rfl, rfl⟩ h419
   obtain ⟨ρ, rfl⟩ := hf420.ex
   refine cr <| jv (.bool (decide (i383 < (((xa.2.2.2.2.2.2.length : Nat) : Int))))) (V.lss rfl rfl) <| J.nil <| CJ.seq <| cc rfl h419 (fun hc423 h419 => ?_) fun hc423 h419 => ?_
   · refine CJ.skip <| CJ.seq <| CJ.block <| cr <| jm (ii i383) rfl ?_
     obtain ⟨x424, hx425, h419⟩ := ob h419
     obtain ⟨p426, p427, p428⟩ := getI_some hx425
     obtain ⟨b429, o430, e431, a432⟩ := (fxa_6).at p427
     refine jv _ (V.iad Try.underlying28 sz56 rfl e431 rfl p426 p428) ?_
     obtain ⟨ad433, cp434, c435, f436⟩ := ((a432).fst).sl
     obtain ⟨ad437, cp438, c439, f440⟩ := (((((((a432).snd).one).snd).snd).snd).fst).sl
     obtain ⟨ad441, cp442, c443, f444⟩ := ((((((((a432).snd).one).snd).snd).snd).snd).fst).sl
     obtain ⟨ad445, cp446, c447, f448⟩ := (((((((((a432).snd).one).snd).snd).snd).snd).snd).one).sl
     refine jv (.agg #[.slice ad433 x424.1.length cp434, ii x424.2.1, ii x424.2.2.1, ii x424.2.2.2.1, .slice ad437 x424.2.2.2.2.1.length cp438, .slice ad441 x424.2.2.2.2.2.1.length cp442, .slice ad445 x424.2.2.2.2.2.2.length cp446]) (V.ld rfl (Ld.aggK (cs := [.slice ad433 x424.1.length cp434, ii x424.2.1, ii x424.2.2.1, ii x424.2.2.2.1, .slice ad437 x424.2.2.2.2.1.length cp438, .slice ad441 x424.2.2.2.2.2.1.length cp442, .slice ad445 x424.2.2.2.2.2.2.length cp446]) Try.underlying56 sz56 rfl ⟨c435, ((((a432).snd).one).fst).int, (((((a432).snd).one).snd).fst).int, ((((((a432).snd).one).snd).snd).fst).int, c439, c443, c447, trivial⟩ (Hp.le_refl _))) <| jal inf56 [nos, ii 0, ii 0, ii 0, nos, nos, nos] rfl fun b449 => ja (ii i383) rfl <| js [.slice ad433 x424.1.length cp434, ii x424.2.1, ii x424.2.2.1, ii x424.2.2.2.1, .slice ad437 x424.2.2.2.2.1.length cp438, .slice ad441 x424.2.2.2.2.2.1.length cp442, .slice ad445 x424.2.2.2.2.2.2.length cp446] sz56 rfl rfl rfl rfl rfl rfl <| J.nil <| CJ.seq <| CJ.region ?_
     refine jm (.pointer none) rfl ?_
     obtain ⟨r450, hr451, h419⟩ := ob h419
     refine J.op rfl (A.call (L1 := []) Try.call19 rfl (tick_Counter_Add_zii_ok hr451) rfl rfl) ?_
     rintro _ _ _ ⟨v452, _, rfl, ⟨⟨rfl, rfl, rfl⟩, rfl⟩, _, rfl⟩
     refine J.nil <| cr <| jm (ii i382) rfl <| jv _ (V.fad Try.underlying56 rfl nz51 rfl) <| jv (.slice ad433 x424.1.length cp434) (V.ld rfl (Ld.sc sc51 (Rd.cl 0 rfl rfl))) <| jv (ii (((x424.1.length : Nat) : Int))) (V.len Try.underlying51 rfl) ?_
     refine jv (ii (IntKind.wrap .i64 (i382 + (((x424.1.length : Nat) : Int))))) (V.add rfl rfl) <| ja (ii (IntKind.wrap .i64 (i382 + (((x424.1.length : Nat) : Int))))) rfl <| J.nil <| cr <| jm (ii (IntKind.wrap .i64 (i382 + (((x424.1.length : Nat) : Int))))) rfl <| jv (.bool (decide (65536 < (IntKind.wrap .i64 (i382 + (((x424.1.length : Nat) : Int))))))) (V.gtr rfl rfl) ?_
     refine J.nil <| cc rfl h419 (fun hc455 h419 => ?_) fun hc455 h419 => ?_
     · refine cr <| jm (ii i383) rfl <| jv (.agg #[ii 6, ii 5, ii i383, ii 0]) (V.build inf39 places39 rfl rfl) <| J.front 1 rfl <| js [ii 6, ii 5, ii i383, ii 0] sz39 rfl rfl rfl rfl rfl rfl <| J.nil ?_
       refine CJ.ret ?_
       obtain rfl := si h419
       refine ⟨nofun, fun e => ?_⟩
       subst e
       refine .inr ⟨nofun, ?_⟩
       obtain rfl := si h
       exact ⟨_, _, Res.one rfl ⟨_, _, rfl, Ld.agg (cs := [ii 6, ii 5, ii i383, ii 0]) Try.underlying39 sz39 rfl (Rd.cls 0 0 rfl rfl)⟩, ⟨6, 5, i383, 0, rfl, rfl, rfl⟩, (Hp.le_refl _), fun w hs => (Sep.dropAt 0 rfl (Sep.dropAt 0 rfl hs))⟩
     refine CJ.skip <| CJ.region <| jv (ii (IntKind.wrap .i64 (i383 + 1))) (V.add rfl rfl) <| jm (ii (IntKind.wrap .i64 (i383 + 1))) rfl <| J.dropAt 0 rfl <| J.nil ?_
     obtain rfl := si h419
     exact ⟨rfl, ⟨IntKind.wrap .i64 (i382 + (((x424.1.length : Nat) : Int))), IntKind.wrap .i64 (i383 + 1), rfl, ⟨rfl, rfl, rfl, rfl, rfl, rfl, trivial⟩, rfl, rfl⟩⟩
   refine CJ.exit ?_
   obtain rfl := si h419
   refine ⟨nofun, fun e => ?_⟩
   subst e
   exact .inl ⟨rfl, _, rfl, ⟨rfl, ⟨rfl, trivial⟩, rfl, rfl⟩⟩
 rintro s ρ _ _ ho456 ⟨rfl, hf457, rfl, rfl⟩
 subst ho456
 obtain ⟨ρ, rfl⟩ := hf457.ex
 refine PJ.done <| cr <| jv (.agg #[ii 0, ii 0, ii 0, ii 0]) (V.build inf39 places39 rfl rfl) <| js [ii 0, ii 0, ii 0, ii 0] sz39 rfl rfl rfl rfl rfl rfl <| J.nil <| CJ.ret ?_
 obtain rfl := si h
 exact ⟨_, _, Res.one rfl ⟨_, _, rfl, Ld.agg (cs := [ii 0, ii 0, ii 0, ii 0]) Try.underlying39 sz39 rfl (Rd.cls 0 0 rfl rfl)⟩, ⟨0, 0, 0, 0, rfl, rfl, rfl⟩, (Hp.le_refl _), fun w hs => (Sep.dropAt 0 rfl hs)⟩

noncomputable def fn_stmt_fieldsOf (xa : Int) : Option (Bool × Bool × Bool × Bool) :=
  cond (decide (xa = 0)) (some ((false, false, false, true))) (cond (decide (xa = 1)) (some ((true, true, false, true))) ((cond (decide (xa = 2)) (some (decide (xa = 2))) (some (decide (xa = 3))) : Option Bool).bind fun t22 => cond (t22) (some ((true, true, true, true))) (cond (decide (xa = 4)) (some ((false, true, false, true))) (cond (decide (xa = 5)) (some ((true, false, false, true))) (some ((false, false, false, false)))))))
set_option maxRecDepth 100000 in
set_option maxHeartbeats 4000000 in
theorem stmt_fieldsOf_ok {K : Hp} {xa : Int}   {r : (Bool × Bool × Bool × Bool)} (h : fn_stmt_fieldsOf xa = some r) :
    Tr Try.prog 73 #[ii xa] K [] (fun v K' L' => (∃ (t14 : Bool) (t15 : Bool) (t16 : Bool) (t17 : Bool), (t14, t15, t16, t17) = r ∧ .tuple #[.agg #[.bool t14, .bool t15, .bool t16], .bool t17] = v ∧ L' = []) ∧ K = K') := by
 refine Tr.k <| Tr.of Try.func73 rfl Try.ntmps73 rfl fun E F => ?_
 unfold fn_stmt_fieldsOf at h
 refine cr <| jal inf101 [.bool false, .bool false, .bool false] rfl fun b18 => ja (.bool false) rfl <| J.nil <| CJ.seq <| CJ.seq ?_
 refine CJ.region <| jm (ii xa) rfl <| J.nil <| CJ.block <| cr <| jv (.bool (decide (xa = 0))) (V.eql rfl rfl) ?_
 refine ja (.bool (decide (xa = 0))) rfl <| J.nil <| cc rfl h (fun hc19 h => ?_) fun hc19 h => ?_
 · refine cr <| jv (.agg #[.bool false, .bool false, .bool false]) (V.build inf101 places101 rfl rfl) <| js [.bool false, .bool false, .bool false] sz101 rfl rfl rfl rfl rfl rfl <| ja (.bool true) rfl <| J.nil <| CJ.ret ?_
   obtain rfl := si h
   exact ⟨_, _, Res.two rfl ⟨_, _, rfl, Ld.agg (cs := [.bool false, .bool false, .bool false]) Try.underlying101 sz101 rfl (Rd.cls 0 0 rfl rfl)⟩ rfl, ⟨false, false, false, true, rfl, rfl, rfl⟩, (Hp.le_refl _), fun w hs => (Sep.dropAt 0 rfl hs)⟩
 refine cr <| jv (.bool (decide (xa = 1))) (V.eql rfl rfl) <| ja (.bool (decide (xa = 1))) rfl <| J.nil <| cc rfl h (fun hc20 h => ?_) fun hc20 h => ?_
 · refine cr <| jv (.agg #[.bool true, .bool true, .bool false]) (V.build inf101 places101 rfl rfl) <| js [.bool true, .bool true, .bool false] sz101 rfl rfl rfl rfl rfl rfl <| ja (.bool true) rfl <| J.nil <| CJ.ret ?_
   obtain rfl := si h
   exact ⟨_, _, Res.two rfl ⟨_, _, rfl, Ld.agg (cs := [.bool true, .bool true, .bool false]) Try.underlying101 sz101 rfl (Rd.cls 0 0 rfl rfl)⟩ rfl, ⟨true, true, false, true, rfl, rfl, rfl⟩, (Hp.le_refl _), fun w hs => (Sep.dropAt 0 rfl hs)⟩
 refine CJ.seq ?_
 obtain ⟨o23, ho24, h⟩ := ob h
 refine CJ.meetN (fun ρ K' L' => ∃ (t22 : Bool), t22 = o23 ∧ Fits [(2, .pointer (some ⟨b18, 0, none⟩)), (4, ii xa), (11, .bool t22)] ρ ∧ K = K' ∧ L' = Cl b18 101 [.bool false, .bool false, .bool false] :: F) ?_ ?_
 · refine cr <| jv (.bool (decide (xa = 2))) (V.eql rfl rfl) <| ja (.bool (decide (xa = 2))) rfl <| J.nil <| cc rfl ho24 (fun hc25 ho24 => ?_) fun hc25 ho24 => ?_
   · refine CJ.skip ?_
     obtain rfl := si ho24
     exact ⟨rfl, ⟨decide (xa = 2), rfl, ⟨rfl, rfl, rfl, trivial⟩, rfl, rfl⟩⟩
   refine CJ.region <| jv (.bool (decide (xa = 3))) (V.eql rfl rfl) <| ja (.bool (decide (xa = 3))) rfl <| J.nil ?_
   obtain rfl := si ho24
   exact ⟨rfl, ⟨decide (xa = 3), rfl, ⟨rfl, rfl, rfl, trivial⟩, rfl, rfl⟩⟩
 rintro ρ _ _ ⟨t22, rfl, hf26, rfl, rfl⟩
 obtain ⟨ρ, rfl⟩ := hf26.ex
 refine PJ.done <| cc rfl h (fun hc28 h => ?_) fun hc28 h => ?_
 · refine cr <| jv (.agg #[.bool true, .bool true, .bool true]) (V.build inf101 places101 rfl rfl) <| js [.bool true, .bool true, .bool true] sz101 rfl rfl rfl rfl rfl rfl <| ja (.bool true) rfl <| J.nil <| CJ.ret ?_
   obtain rfl := si h
   exact ⟨_, _, Res.two rfl ⟨_, _, rfl, Ld.agg (cs := [.bool true, .bool true, .bool true]) Try.underlying101 sz101 rfl (Rd.cls 0 0 rfl rfl)⟩ rfl, ⟨true, true, true, true, rfl, rfl, rfl⟩, (Hp.le_refl _), fun w hs => (Sep.dropAt 0 rfl hs)⟩
 refine cr <| jv (.bool (decide (xa = 4))) (V.eql rfl rfl) <| ja (.bool (decide (xa = 4))) rfl <| J.nil <| cc rfl h (fun hc29 h => ?_) fun hc29 h => ?_
 · refine cr <| jv (.agg #[.bool false, .bool true, .bool false]) (V.build inf101 places101 rfl rfl) <| js [.bool false, .bool true, .bool false] sz101 rfl rfl rfl rfl rfl rfl <| ja (.bool true) rfl <| J.nil <| CJ.ret ?_
   obtain rfl := si h
   exact ⟨_, _, Res.two rfl ⟨_, _, rfl, Ld.agg (cs := [.bool false, .bool true, .bool false]) Try.underlying101 sz101 rfl (Rd.cls 0 0 rfl rfl)⟩ rfl, ⟨false, true, false, true, rfl, rfl, rfl⟩, (Hp.le_refl _), fun w hs => (Sep.dropAt 0 rfl hs)⟩
 refine cr <| jv (.bool (decide (xa = 5))) (V.eql rfl rfl) <| ja (.bool (decide (xa = 5))) rfl <| J.nil <| cc rfl h (fun hc30 h => ?_) fun hc30 h => ?_
 · refine cr <| jv (.agg #[.bool true, .bool false, .bool false]) (V.build inf101 places101 rfl rfl) <| js [.bool true, .bool false, .bool false] sz101 rfl rfl rfl rfl rfl rfl <| ja (.bool true) rfl <| J.nil <| CJ.ret ?_
   obtain rfl := si h
   exact ⟨_, _, Res.two rfl ⟨_, _, rfl, Ld.agg (cs := [.bool true, .bool false, .bool false]) Try.underlying101 sz101 rfl (Rd.cls 0 0 rfl rfl)⟩ rfl, ⟨true, false, false, true, rfl, rfl, rfl⟩, (Hp.le_refl _), fun w hs => (Sep.dropAt 0 rfl hs)⟩
 refine CJ.skip <| cr <| jv (.agg #[.bool false, .bool false, .bool false]) (V.build inf101 places101 rfl rfl) <| js [.bool false, .bool false, .bool false] sz101 rfl rfl rfl rfl rfl rfl <| ja (.bool false) rfl <| J.nil ?_
 refine CJ.ret ?_
 obtain rfl := si h
 exact ⟨_, _, Res.two rfl ⟨_, _, rfl, Ld.agg (cs := [.bool false, .bool false, .bool false]) Try.underlying101 sz101 rfl (Rd.cls 0 0 rfl rfl)⟩ rfl, ⟨false, false, false, false, rfl, rfl, rfl⟩, (Hp.le_refl _), fun w hs => (Sep.dropAt 0 rfl hs)⟩

noncomputable def fn_stmt_own (xa : (Int × Int × Int × Int × Bool)) (xb : (Bool × Bool × Bool)) : Option (Int × Int × Int × Int × Bool) :=
  (cond (xb.1) (some (xa.2.1)) (some (0)) : Option Int).bind fun i30 => (cond (xb.2.1) (some (xa.2.2.1)) (some (0)) : Option Int).bind fun i37 => cond (xb.2.2) (some ((xa.1, i30, i37, xa.2.2.2.1, xa.2.2.2.2))) (some ((xa.1, i30, i37, 0, false)))
set_option maxRecDepth 100000 in
set_option maxHeartbeats 4000000 in
theorem stmt_own_ok {K : Hp} {xa : (Int × Int × Int × Int × Bool)} {xb : (Bool × Bool × Bool)}   {r : (Int × Int × Int × Int × Bool)} (h : fn_stmt_own xa xb = some r) :
    Tr Try.prog 74 #[.agg #[ii xa.1, ii xa.2.1, ii xa.2.2.1, ii xa.2.2.2.1, .bool xa.2.2.2.2], .agg #[.bool xb.1, .bool xb.2.1, .bool xb.2.2]] K [] (fun v K' L' => (∃ (i20 : Int) (i21 : Int) (i22 : Int) (i23 : Int) (t24 : Bool), (i20, i21, i22, i23, t24) = r ∧ .agg #[ii i20, ii i21, ii i22, ii i23, .bool t24] = v ∧ L' = []) ∧ K = K') := by
 refine Tr.k <| Tr.of Try.func74 rfl Try.ntmps74 rfl fun E F => ?_
 unfold fn_stmt_own at h
 refine cr <| jbx [ii xa.1, ii xa.2.1, ii xa.2.2.1, ii xa.2.2.2.1, .bool xa.2.2.2.2] rfl rfl fun b25 => jbx [.bool xb.1, .bool xb.2.1, .bool xb.2.2] rfl rfl fun b26 => jal inf76 [ii 0, ii 0, ii 0, ii 0, .bool false] rfl fun b27 => J.nil <| CJ.seq ?_
 refine CJ.region <| jv _ (V.fad Try.underlying76 rfl nz3 rfl) <| jv (ii xa.1) (V.ld rfl (Ld.sc sc3 (Rd.cl 2 rfl rfl))) <| jv (.agg #[ii xa.1, ii 0, ii 0, ii 0, .bool false]) (V.build inf76 places76 rfl rfl) <| jal inf76 [ii 0, ii 0, ii 0, ii 0, .bool false] rfl fun b28 => js [ii xa.1, ii 0, ii 0, ii 0, .bool false] sz76 rfl rfl rfl rfl rfl rfl <| J.nil ?_
 refine CJ.seq ?_
 obtain ⟨o31, ho32, h⟩ := ob h
 refine CJ.meetN (fun ρ K' L' => ∃ (i30 : Int), i30 = o31 ∧ Fits [(2, .pointer (some ⟨b25, 0, none⟩)), (3, .pointer (some ⟨b26, 0, none⟩)), (4, .pointer (some ⟨b27, 0, none⟩)), (5, .pointer (some ⟨b28, 0, none⟩))] ρ ∧ K = K' ∧ L' = Cl b25 76 [ii xa.1, ii xa.2.1, ii xa.2.2.1, ii xa.2.2.2.1, .bool xa.2.2.2.2] :: Cl b26 101 [.bool xb.1, .bool xb.2.1, .bool xb.2.2] :: Cl b27 76 [ii 0, ii 0, ii 0, ii 0, .bool false] :: Cl b28 76 [ii xa.1, ii i30, ii 0, ii 0, .bool false] :: F) ?_ ?_
 · refine cr <| jv _ (V.fad Try.underlying101 rfl nz4 rfl) <| jv (.bool xb.1) (V.ld rfl (Ld.sc sc4 (Rd.cl 2 rfl rfl))) <| J.nil <| cc rfl ho32 (fun hc33 ho32 => ?_) fun hc33 ho32 => ?_
   · refine CJ.region <| jv _ (V.fad Try.underlying76 rfl nz3 rfl) <| jv (ii xa.2.1) (V.ld rfl (Ld.sc sc3 (Rd.cl 3 rfl rfl))) <| jv _ (V.fad Try.underlying76 rfl nz3 rfl) <| js1 [ii xa.1, ii xa.2.1, ii 0, ii 0, .bool false] sz3 rfl rfl rfl rfl rfl rfl <| J.front 1 rfl <| J.front 2 rfl ?_
     refine J.front 3 rfl <| J.nil ?_
     obtain rfl := si ho32
     exact ⟨rfl, ⟨xa.2.1, rfl, ⟨rfl, rfl, rfl, rfl, trivial⟩, rfl, rfl⟩⟩
   refine CJ.front 1 rfl <| CJ.front 2 rfl <| CJ.front 3 rfl <| CJ.skip ?_
   obtain rfl := si ho32
   exact ⟨rfl, ⟨0, rfl, ⟨rfl, rfl, rfl, rfl, trivial⟩, rfl, rfl⟩⟩
 rintro ρ _ _ ⟨i30, rfl, hf34, rfl, rfl⟩
 obtain ⟨ρ, rfl⟩ := hf34.ex
 refine PJ.done <| CJ.seq ?_
 obtain ⟨o38, ho39, h⟩ := ob h
 refine CJ.meetN (fun ρ K' L' => ∃ (i37 : Int), i37 = o38 ∧ Fits [(2, .pointer (some ⟨b25, 0, none⟩)), (3, .pointer (some ⟨b26, 0, none⟩)), (4, .pointer (some ⟨b27, 0, none⟩)), (5, .pointer (some ⟨b28, 0, none⟩))] ρ ∧ K = K' ∧ L' = Cl b25 76 [ii xa.1, ii xa.2.1, ii xa.2.2.1, ii xa.2.2.2.1, .bool xa.2.2.2.2] :: Cl b26 101 [.bool xb.1, .bool xb.2.1, .bool xb.2.2] :: Cl b27 76 [ii 0, ii 0, ii 0, ii 0, .bool false] :: Cl b28 76 [ii xa.1, ii i30, ii i37, ii 0, .bool false] :: F) ?_ ?_
 · refine cr <| jv _ (V.fad Try.underlying101 rfl nz4 rfl) <| jv (.bool xb.2.1) (V.ld rfl (Ld.sc sc4 (Rd.cl 1 rfl rfl))) <| J.nil <| cc rfl ho39 (fun hc40 ho39 => ?_) fun hc40 ho39 => ?_
   · refine CJ.region <| jv _ (V.fad Try.underlying76 rfl nz3 rfl) <| jv (ii xa.2.2.1) (V.ld rfl (Ld.sc sc3 (Rd.cl 0 rfl rfl))) <| jv _ (V.fad Try.underlying76 rfl nz3 rfl) <| J.front 3 rfl <| js1 [ii xa.1, ii i30, ii xa.2.2.1, ii 0, .bool false] sz3 rfl rfl rfl rfl rfl rfl <| J.front 3 rfl ?_
     refine J.front 3 rfl <| J.front 3 rfl <| J.nil ?_
     obtain rfl := si ho39
     exact ⟨rfl, ⟨xa.2.2.1, rfl, ⟨rfl, rfl, rfl, rfl, trivial⟩, rfl, rfl⟩⟩
   refine CJ.skip ?_
   obtain rfl := si ho39
   exact ⟨rfl, ⟨0, rfl, ⟨rfl, rfl, rfl, rfl, trivial⟩, rfl, rfl⟩⟩
 rintro ρ _ _ ⟨i37, rfl, hf41, rfl, rfl⟩
 obtain ⟨ρ, rfl⟩ := hf41.ex
 refine PJ.done <| CJ.seq <| cr <| jv _ (V.fad Try.underlying101 rfl nz4 rfl) <| jv (.bool xb.2.2) (V.ld rfl (Ld.sc sc4 (Rd.cl 1 rfl rfl))) <| J.nil ?_
 refine cc rfl h (fun hc43 h => ?_) fun hc43 h => ?_
 · refine CJ.mix [Cl b25 76 [ii xa.1, ii xa.2.1, ii xa.2.2.1, ii xa.2.2.2.1, .bool xa.2.2.2.2], Cl b26 101 [.bool xb.1, .bool xb.2.1, .bool xb.2.2], Cl b27 76 [ii 0, ii 0, ii 0, ii 0, .bool false]] [([0, 1, 2, 3, 4], 5)] [6] [7] mixO (by decide +kernel) ⟨0, rfl, 0, rfl, 0, rfl, trivial⟩ rfl rfl rfl <| JM.cons <| qv _ (V.fad Try.underlying76 rfl nz3 rfl) <| qv (ii xa.2.2.2.1) (V.ld rfl (Ld.sc sc3 (Rd.cl 0 rfl rfl))) <| qv _ (V.fad Try.underlying76 rfl nz4 rfl) <| qv (.bool xa.2.2.2.2) (V.ld rfl (Ld.sc sc4 (Rd.cl 0 rfl rfl))) <| qv _ (V.fad Try.underlying76 rfl nz3 rfl) ?_
   refine JQ.nil <| JA.front 3 rfl <| JA.op rfl (A.store1 (v := ii xa.2.2.2.1) (cs' := [ii xa.1, ii i30, ii i37, ii xa.2.2.2.1, .bool false]) sz3 rfl rfl rfl rfl rfl rfl) ?_
   rintro _ _ _ ⟨rfl, rfl, rfl⟩
   refine ⟨fun w hs => Hold.sub (Hp.le_refl _) ⟨1, rfl, 1, rfl, 1, rfl, trivial⟩ hs, ?_⟩
   refine JM.nil <| qv _ (V.fad Try.underlying76 rfl nz4 rfl) <| JQ.nil <| js1 [ii xa.1, ii i30, ii i37, ii xa.2.2.2.1, .bool xa.2.2.2.2] sz4 rfl rfl rfl rfl rfl rfl <| J.nil <| CJ.seq <| CJ.region ?_
   refine jv (.agg #[ii xa.1, ii i30, ii i37, ii xa.2.2.2.1, .bool xa.2.2.2.2]) (V.ld rfl (Ld.agg (cs := [ii xa.1, ii i30, ii i37, ii xa.2.2.2.1, .bool xa.2.2.2.2]) Try.underlying76 sz76 rfl (Rd.cls 0 0 rfl rfl))) <| J.front 3 rfl <| js [ii xa.1, ii i30, ii i37, ii xa.2.2.2.1, .bool xa.2.2.2.2] sz76 rfl rfl rfl rfl rfl rfl <| J.nil <| CJ.ret ?_
   obtain rfl := si h
   exact ⟨_, _, Res.one rfl ⟨_, _, rfl, Ld.agg (cs := [ii xa.1, ii i30, ii i37, ii xa.2.2.2.1, .bool xa.2.2.2.2]) Try.underlying76 sz76 rfl (Rd.cls 0 0 rfl rfl)⟩, ⟨xa.1, i30, i37, xa.2.2.2.1, xa.2.2.2.2, rfl, rfl, rfl⟩, (Hp.le_refl _), fun w hs => (Sep.dropAt 0 rfl (Sep.dropAt 0 rfl (Sep.dropAt 0 rfl (Sep.dropAt 0 rfl hs))))⟩
 refine CJ.skip <| cr <| jv (.agg #[ii xa.1, ii i30, ii i37, ii 0, .bool false]) (V.ld rfl (Ld.agg (cs := [ii xa.1, ii i30, ii i37, ii 0, .bool false]) Try.underlying76 sz76 rfl (Rd.cls 3 0 rfl rfl))) <| J.front 2 rfl <| js [ii xa.1, ii i30, ii i37, ii 0, .bool false] sz76 rfl rfl rfl rfl rfl rfl <| J.nil ?_
 refine CJ.ret ?_
 obtain rfl := si h
 exact ⟨_, _, Res.one rfl ⟨_, _, rfl, Ld.agg (cs := [ii xa.1, ii i30, ii i37, ii 0, .bool false]) Try.underlying76 sz76 rfl (Rd.cls 0 0 rfl rfl)⟩, ⟨xa.1, i30, i37, 0, false, rfl, rfl, rfl⟩, (Hp.le_refl _), fun w hs => (Sep.dropAt 0 rfl (Sep.dropAt 0 rfl (Sep.dropAt 0 rfl (Sep.dropAt 0 rfl hs))))⟩

noncomputable def fn_stmt_form (xa : (Int × Int × Int × Int × Bool)) : Option (Bool × Bool × Bool × Int) :=
  (fn_stmt_fieldsOf xa.1).bind fun (t45, t46, t47, t48) => cond (!t48) (some ((false, false, false, 3))) ((fn_stmt_own (xa.1, xa.2.1, xa.2.2.1, xa.2.2.2.1, xa.2.2.2.2) (t45, t46, t47)).bind fun (i67, i68, i69, i70, t71) => cond (!((decide (xa.1 = i67)) && ((decide (xa.2.1 = i68)) && ((decide (xa.2.2.1 = i69)) && ((decide (xa.2.2.2.1 = i70)) && (xa.2.2.2.2 == t71)))))) (some ((false, false, false, 3))) (some ((t45, t46, t47, 0))))
set_option maxRecDepth 100000 in
set_option maxHeartbeats 4000000 in
theorem stmt_form_ok {K : Hp} {xa : (Int × Int × Int × Int × Bool)}   {r : (Bool × Bool × Bool × Int)} (h : fn_stmt_form xa = some r) :
    Tr Try.prog 61 #[.agg #[ii xa.1, ii xa.2.1, ii xa.2.2.1, ii xa.2.2.2.1, .bool xa.2.2.2.2]] K [] (fun v K' L' => (∃ (t37 : Bool) (t38 : Bool) (t39 : Bool) (i40 : Int), (t37, t38, t39, i40) = r ∧ .tuple #[.agg #[.bool t37, .bool t38, .bool t39], ii i40] = v ∧ L' = []) ∧ K = K') := by
 refine Tr.k <| Tr.of Try.func61 rfl Try.ntmps61 rfl fun E F => ?_
 unfold fn_stmt_form at h
 refine cr <| jbx [ii xa.1, ii xa.2.1, ii xa.2.2.1, ii xa.2.2.2.1, .bool xa.2.2.2.2] rfl rfl fun b41 => jal inf101 [.bool false, .bool false, .bool false] rfl fun b42 => ja (ii 0) rfl <| J.nil <| CJ.seq ?_
 refine CJ.region <| jv _ (V.fad Try.underlying76 rfl nz3 rfl) <| jv (ii xa.1) (V.ld rfl (Ld.sc sc3 (Rd.cl 1 rfl rfl))) ?_
 obtain ⟨r43, hr44, h⟩ := ob h
 refine J.op rfl (A.call (L1 := []) Try.call73 rfl (stmt_fieldsOf_ok hr44) rfl rfl) ?_
 rintro _ _ _ ⟨v49, _, rfl, ⟨⟨t45, t46, t47, t48, rfl, rfl, rfl⟩, rfl⟩, _, rfl⟩
 refine jm (.tuple #[.agg #[.bool t45, .bool t46, .bool t47], .bool t48]) rfl <| jx (.agg #[.bool t45, .bool t46, .bool t47]) rfl rfl <| jx (.bool t48) rfl rfl <| jal inf101 [.bool false, .bool false, .bool false] rfl fun b52 => js [.bool t45, .bool t46, .bool t47] sz101 rfl rfl rfl rfl rfl rfl <| ja (.bool t48) rfl <| J.nil ?_
 refine CJ.seq <| CJ.seq <| CJ.mix [Cl b52 101 [.bool t45, .bool t46, .bool t47], Cl b42 101 [.bool false, .bool false, .bool false], Cl b41 76 [ii xa.1, ii xa.2.1, ii xa.2.2.1, ii xa.2.2.2.1, .bool xa.2.2.2.2]] [([0, 1, 2, 3, 4, 5], 6)] [7, 8] [] mixO (by decide +kernel) ⟨0, rfl, 0, rfl, 0, rfl, trivial⟩ rfl rfl rfl <| JM.cons <| qm (.bool t48) rfl <| qv (.bool (!t48)) (V.not rfl) <| qm (.bool (!t48)) rfl ?_
 rcases bt (!t48) with hc64 | hc64
 · have h := ct hc64 h
   refine JQ.skip rfl rfl rfl rfl hc64 <| JQ.skip rfl rfl rfl rfl hc64 <| JQ.skip rfl rfl rfl rfl hc64 <| JQ.nil <| JA.skip rfl rfl rfl rfl hc64 <| JM.nil <| JQ.skip rfl rfl rfl rfl hc64 ?_
   refine qv (.bool true) (V.pickT rfl hc64 rfl) <| JQ.nil <| J.nil <| CJ.condK (b := true) rfl rfl <| cr <| jv (.agg #[.bool false, .bool false, .bool false]) (V.build inf101 places101 rfl rfl) ?_
   refine J.front 1 rfl <| js [.bool false, .bool false, .bool false] sz101 rfl rfl rfl rfl rfl rfl <| ja (ii 3) rfl <| J.nil <| CJ.ret ?_
   obtain rfl := si h
   exact ⟨_, _, Res.two rfl ⟨_, _, rfl, Ld.agg (cs := [.bool false, .bool false, .bool false]) Try.underlying101 sz101 rfl (Rd.cls 0 0 rfl rfl)⟩ rfl, ⟨false, false, false, 3, rfl, rfl, rfl⟩, (Hp.le_refl _), fun w hs => (Sep.dropAt 0 rfl (Sep.dropAt 0 rfl (Sep.dropAt 0 rfl hs)))⟩
 have h := cf hc64 h
 refine JQ.run rfl rfl rfl hc64 <| qv (.agg #[ii xa.1, ii xa.2.1, ii xa.2.2.1, ii xa.2.2.2.1, .bool xa.2.2.2.2]) (V.ld rfl (Ld.agg (cs := [ii xa.1, ii xa.2.1, ii xa.2.2.1, ii xa.2.2.2.1, .bool xa.2.2.2.2]) Try.underlying76 sz76 rfl (Rd.cls 2 0 rfl rfl))) <| JQ.run rfl rfl rfl hc64 <| qv (.agg #[ii xa.1, ii xa.2.1, ii xa.2.2.1, ii xa.2.2.2.1, .bool xa.2.2.2.2]) (V.ld rfl (Ld.agg (cs := [ii xa.1, ii xa.2.1, ii xa.2.2.1, ii xa.2.2.2.1, .bool xa.2.2.2.2]) Try.underlying76 sz76 rfl (Rd.cls 2 0 rfl rfl))) <| JQ.run rfl rfl rfl hc64 <| qv (.agg #[.bool t45, .bool t46, .bool t47]) (V.ld rfl (Ld.agg (cs := [.bool t45, .bool t46, .bool t47]) Try.underlying101 sz101 rfl (Rd.cls 0 0 rfl rfl))) <| JQ.nil ?_
 refine JA.run rfl rfl rfl hc64 ?_
 obtain ⟨r65, hr66, h⟩ := ob h
 refine JA.op rfl (A.call (L1 := []) Try.call74 rfl (stmt_own_ok hr66) rfl rfl) ?_
 rintro _ _ _ ⟨v72, _, rfl, ⟨⟨i67, i68, i69, i70, t71, rfl, rfl, rfl⟩, rfl⟩, _, rfl⟩
 refine ⟨fun w hs => Hold.sub (Hp.le_refl _) ⟨0, rfl, 0, rfl, 0, rfl, trivial⟩ hs, ?_⟩
 refine JM.nil <| JQ.run rfl rfl rfl hc64 <| qv (.bool (!((decide (xa.1 = i67)) && ((decide (xa.2.1 = i68)) && ((decide (xa.2.2.1 = i69)) && ((decide (xa.2.2.2.1 = i70)) && (xa.2.2.2.2 == t71))))))) (V.nest eqg76 (EqIn.st (d := 9999) rfl Try.underlying76 sih76 (EqFs.cons (by decide) (Ld0.sc sc3 rfl) (Ld0.sc sc3 rfl) (EqIn.int (d := 9998) rfl Try.underlying3) (EqFs.cons (by decide) (Ld0.sc sc3 rfl) (Ld0.sc sc3 rfl) (EqIn.int (d := 9998) rfl Try.underlying3) (EqFs.cons (by decide) (Ld0.sc sc3 rfl) (Ld0.sc sc3 rfl) (EqIn.int (d := 9998) rfl Try.underlying3) (EqFs.cons (by decide) (Ld0.sc sc3 rfl) (Ld0.sc sc3 rfl) (EqIn.int (d := 9998) rfl Try.underlying3) (EqFs.last (by decide) (Ld0.sc sc4 rfl) (Ld0.sc sc4 rfl) (EqIn.bool (d := 9998) rfl Try.underlying4))))))) rfl rfl) <| qv (.bool (!((decide (xa.1 = i67)) && ((decide (xa.2.1 = i68)) && ((decide (xa.2.2.1 = i69)) && ((decide (xa.2.2.2.1 = i70)) && (xa.2.2.2.2 == t71))))))) (V.pickF rfl hc64 rfl) <| JQ.nil <| J.nil <| cc rfl h (fun hc75 h => ?_) fun hc75 h => ?_
 · refine cr <| jv (.agg #[.bool false, .bool false, .bool false]) (V.build inf101 places101 rfl rfl) <| J.front 1 rfl <| js [.bool false, .bool false, .bool false] sz101 rfl rfl rfl rfl rfl rfl <| ja (ii 3) rfl <| J.nil ?_
   refine CJ.ret ?_
   obtain rfl := si h
   exact ⟨_, _, Res.two rfl ⟨_, _, rfl, Ld.agg (cs := [.bool false, .bool false, .bool false]) Try.underlying101 sz101 rfl (Rd.cls 0 0 rfl rfl)⟩ rfl, ⟨false, false, false, 3, rfl, rfl, rfl⟩, (Hp.le_refl _), fun w hs => (Sep.dropAt 0 rfl (Sep.dropAt 0 rfl (Sep.dropAt 0 rfl hs)))⟩
 refine CJ.skip <| cr <| jv (.agg #[.bool t45, .bool t46, .bool t47]) (V.ld rfl (Ld.agg (cs := [.bool t45, .bool t46, .bool t47]) Try.underlying101 sz101 rfl (Rd.cls 0 0 rfl rfl))) <| J.front 1 rfl <| js [.bool t45, .bool t46, .bool t47] sz101 rfl rfl rfl rfl rfl rfl <| ja (ii 0) rfl ?_
 refine J.nil <| CJ.ret ?_
 obtain rfl := si h
 exact ⟨_, _, Res.two rfl ⟨_, _, rfl, Ld.agg (cs := [.bool t45, .bool t46, .bool t47]) Try.underlying101 sz101 rfl (Rd.cls 0 0 rfl rfl)⟩ rfl, ⟨t45, t46, t47, 0, rfl, rfl, rfl⟩, (Hp.le_refl _), fun w hs => (Sep.dropAt 0 rfl (Sep.dropAt 0 rfl (Sep.dropAt 0 rfl hs)))⟩

noncomputable def fn_stmt_Needs_1_ip0_k (xa : Int) (qa0 : (List (List (Int × Bool)))) : Option Bool :=
  some ((decide (0 ≤ xa)) && (decide (xa < (((qa0.length : Nat) : Int)))))
set_option maxRecDepth 100000 in
set_option maxHeartbeats 4000000 in
theorem stmt_Needs_1_ip0_k_ok {K : Hp} {xa : Int} {qa0 : (List (List (Int × Bool)))} {pba : Nat} {adqa0 : Option Addr} {cpqa0 : Nat} (fqa0 : Is K (.sl (.one (.sl (.cons (.int .i64) (.one .bool))))) [.slice adqa0 qa0.length cpqa0] qa0) {r : Bool} (h : fn_stmt_Needs_1_ip0_k xa qa0 = some r) :
    Tr Try.prog 62 #[ii xa, .pointer (some ⟨pba, 0, none⟩)] K [Cl pba 23 [.slice adqa0 qa0.length cpqa0]] (fun v K' L' => (∃ (t4 : Bool), t4 = r ∧ .bool t4 = v ∧ L' = [Cl pba 23 [.slice adqa0 qa0.length cpqa0]]) ∧ K = K') := by
 refine Tr.k <| Tr.of Try.func62 rfl Try.ntmps62 rfl fun E F => ?_
 unfold fn_stmt_Needs_1_ip0_k at h
 refine cr <| ja (.bool false) rfl <| J.nil <| cr <| jm (ii xa) rfl ?_
 refine jv (.bool (decide (0 ≤ xa))) (V.geq rfl rfl) <| jm (.bool (decide (0 ≤ xa))) rfl <| J.cut 5 <| jmeet [(11, .bool ((decide (0 ≤ xa)) && (decide (xa < (((qa0.length : Nat) : Int))))))] ?_ ?_
 · rcases bt (decide (0 ≤ xa)) with hc7 | hc7
   · refine J.run rfl rfl rfl hc7 <| jm (ii xa) rfl <| J.run rfl rfl rfl hc7 <| jv (.slice adqa0 qa0.length cpqa0) (V.ld rfl (Ld.sc sc23 (Rd.cl 0 rfl rfl))) <| J.run rfl rfl rfl hc7 <| jv (ii (((qa0.length : Nat) : Int))) (V.len Try.underlying23 rfl) <| J.run rfl rfl rfl hc7 ?_
     refine jv (.bool (decide (xa < (((qa0.length : Nat) : Int))))) (V.lss rfl rfl) <| jv (.bool (decide (xa < (((qa0.length : Nat) : Int))))) (V.pickT rfl hc7 rfl) <| J.nil ?_
     exact ⟨rfl, ⟨(by simp only [hc7]; rfl), trivial⟩, rfl, rfl⟩
   refine J.skip rfl rfl rfl rfl hc7 <| J.skip rfl rfl rfl rfl hc7 <| J.skip rfl rfl rfl rfl hc7 <| J.skip rfl rfl rfl rfl hc7 <| jv (.bool false) (V.pickF rfl hc7 rfl) <| J.nil ?_
   exact ⟨rfl, ⟨(by simp only [hc7]; rfl), trivial⟩, rfl, rfl⟩
 intro ρ
 refine ja (.bool ((decide (0 ≤ xa)) && (decide (xa < (((qa0.length : Nat) : Int)))))) rfl <| J.nil <| CJ.ret ?_
 obtain rfl := si h
 exact ⟨_, _, Res.one rfl rfl, ⟨(decide (0 ≤ xa)) && (decide (xa < (((qa0.length : Nat) : Int)))), rfl, rfl, rfl⟩, (Hp.le_refl _), fun w hs => hs⟩
noncomputable def fn_relate_related_l1 (xa : (List (Int × Bool))) (xb : (List (Int × Bool))) (xc : Int) (xd : Int) : ((List (Int × Int × Int × Int × Bool)) × Int) → Option (((List (Int × Int × Int × Int × Bool)) × Int) ⊕ (List (Int × Int × Int × Int × Bool))) := fun ((l1175, i1180) : ((List (Int × Int × Int × Int × Bool)) × Int)) => cond (decide (i1180 < (((xa.length : Nat) : Int)))) ((getI xa i1180).bind fun x1321 => (getI xb i1180).bind fun x1330 => (app l1175 (([(x1321.1, x1330.1, xc, IntKind.wrap .i64 (xd + i1180), false)] : List (Int × Int × Int × Int × Bool)))).bind fun z1342 => (getI xb i1180).bind fun x1348 => cond (x1348.2) ((getI xb i1180).bind fun x1379 => (getI xa i1180).bind fun x1388 => (app z1342 (([(x1379.1, x1388.1, xc, IntKind.wrap .i64 (xd + i1180), true)] : List (Int × Int × Int × Int × Bool)))).bind fun z1400 => some (.inl ((z1400, IntKind.wrap .i64 (i1180 + 1))))) (some (.inl ((z1342, IntKind.wrap .i64 (i1180 + 1)))))) (some (.inr (l1175)))
noncomputable def fn_relate_related (xa : (List (Int × Bool))) (xb : (List (Int × Bool))) (xc : Int) (xd : Int) : Option ((List (Int × Int × Int × Int × Bool))) :=
  (loop (fn_relate_related_l1 xa xb xc xd) ([], 0) : Option ((List (Int × Int × Int × Int × Bool)))).bind fun l1053 => some (l1053)
set_option maxRecDepth 100000 in
set_option maxHeartbeats 4000000 in
theorem relate_related_ok {K : Hp} {xa : (List (Int × Bool))} {xb : (List (Int × Bool))} {xc : Int} {xd : Int} {adxa_0 : Option Addr} {cpxa_0 : Nat} {adxb_0 : Option Addr} {cpxb_0 : Nat} (fxa_0 : Is K (.sl (.cons (.int .i64) (.one .bool))) [.slice adxa_0 xa.length cpxa_0] xa) (fxb_0 : Is K (.sl (.cons (.int .i64) (.one .bool))) [.slice adxb_0 xb.length cpxb_0] xb) {r : (List (Int × Int × Int × Int × Bool))} (h : fn_relate_related xa xb xc xd = some r) :
    Tr Try.prog 75 #[.slice adxa_0 xa.length cpxa_0, .slice adxb_0 xb.length cpxb_0, ii xc, ii xd] K [] (fun v K' L' => (∃ (l702 : (List (Int × Int × Int × Int × Bool))) (ad703 : Option Addr) (cp704 : Nat), l702 = r ∧ .slice ad703 l702.length cp704 = v ∧ L' = [Row Hp.nil 119 (.cons (.int .i64) (.cons (.int .i64) (.cons (.int .i64) (.cons (.int .i64) (.one .bool))))) (.slice ad703 l702.length cp704) l702]) ∧ K = K') := by
 refine Tr.k <| Tr.of Try.func75 rfl Try.ntmps75 rfl fun E F => ?_
 unfold fn_relate_related at h
 refine cr <| ja (nos) rfl <| J.nil <| cr <| ja (nos) rfl ?_
 refine J.nil <| CJ.seq <| cr <| jm (.slice adxa_0 xa.length cpxa_0) rfl <| jv (ii (((xa.length : Nat) : Int))) (V.len Try.underlying24 rfl) <| jm (ii 0) rfl ?_
 refine J.nil ?_
 obtain ⟨o1058, ho1059, h⟩ := ob h
 refine CJ.meetN (fun ρ K' L' => ∃ (l1053 : (List (Int × Int × Int × Int × Bool))) (ad1054 : Option Addr) (cp1055 : Nat), l1053 = o1058 ∧ Fits [(9, .slice ad1054 l1053.length cp1055)] ρ ∧ K = K' ∧ L' = Row Hp.nil 119 (.cons (.int .i64) (.cons (.int .i64) (.cons (.int .i64) (.cons (.int .i64) (.one .bool))))) (.slice ad1054 l1053.length cp1055) l1053 :: F) ?_ ?_
 · refine CJ.block <| CJ.by (fun w hs => Sep.rowNil (e := 119) (t := (.cons (.int .i64) (.cons (.int .i64) (.cons (.int .i64) (.cons (.int .i64) (.one .bool)))))) hs) <| CJ.loop (fun s ρ K' L' => ∃ (l1175 : (List (Int × Int × Int × Int × Bool))) (i1180 : Int) (ad1176 : Option Addr) (cp1177 : Nat), (l1175, i1180) = s ∧ Fits [(0, .slice adxa_0 xa.length cpxa_0), (1, .slice adxb_0 xb.length cpxb_0), (2, ii xc), (3, ii xd), (9, .slice ad1176 l1175.length cp1177), (12, ii (((xa.length : Nat) : Int))), (13, ii i1180)] ρ ∧ K = K' ∧ L' = Row Hp.nil 119 (.cons (.int .i64) (.cons (.int .i64) (.cons (.int .i64) (.cons (.int .i64) (.one .bool))))) (.slice ad1176 l1175.length cp1177) l1175 :: F) ho1059 ⟨[], 0, none, 0, rfl, ⟨rfl, rfl, rfl, rfl, rfl, rfl, rfl, trivial⟩, rfl, rfl⟩ ?_
   rintro s ρ _ _ r1298 ⟨l1175, i1180, ad1176, cp1177, rfl, hf1296, rfl, rfl⟩ h1294
   obtain ⟨ρ, rfl⟩ := hf1296.ex
   refine CJ.wit Row.hn fun hn1179 => cr <| jv (.bool (decide (i1180 < (((xa.length : Nat) : Int))))) (V.lss rfl rfl) <| J.nil <| CJ.seq <| cc rfl h1294 (fun hc1299 h1294 => ?_) fun hc1299 h1294 => ?_
   · refine CJ.skip <| CJ.seq <| CJ.block <| cr <| jm (ii i1180) rfl <| ja (ii i1180) rfl ?_
     refine J.nil <| CJ.seq <| CJ.mix [Row Hp.nil 119 (.cons (.int .i64) (.cons (.int .i64) (.cons (.int .i64) (.cons (.int .i64) (.one .bool))))) (.slice ad1176 l1175.length cp1177) l1175] [([0, 1, 2, 3, 4, 5, 6, 7, 8, 9, 10, 11, 12, 13, 14, 15], 16)] [] [17, 18] mixO (by decide +kernel) ⟨0, rfl, trivial⟩ rfl rfl rfl <| JM.cons <| qm (.slice ad1176 l1175.length cp1177) rfl <| qm (.slice adxa_0 xa.length cpxa_0) rfl <| qm (ii i1180) rfl ?_
     obtain ⟨x1321, hx1322, h1294⟩ := ob h1294
     obtain ⟨p1323, p1324, p1325⟩ := getI_some hx1322
     obtain ⟨b1326, o1327, e1328, a1329⟩ := (fxa_0).at p1324
     refine qv _ (V.iad Try.underlying24 sz86 rfl e1328 rfl p1323 p1325) <| qv _ (V.fad Try.underlying86 rfl nz3 rfl) <| qv (ii x1321.1) (V.ld rfl (Ld.sc sc3 (Rd.k ((a1329).fst).int (Hp.le_refl _)))) <| qm (.slice adxb_0 xb.length cpxb_0) rfl <| qm (ii i1180) rfl ?_
     obtain ⟨x1330, hx1331, h1294⟩ := ob h1294
     obtain ⟨p1332, p1333, p1334⟩ := getI_some hx1331
     obtain ⟨b1335, o1336, e1337, a1338⟩ := (fxb_0).at p1333
     refine qv _ (V.iad Try.underlying24 sz86 rfl e1337 rfl p1332 p1334) <| qv _ (V.fad Try.underlying86 rfl nz3 rfl) <| qv (ii x1330.1) (V.ld rfl (Ld.sc sc3 (Rd.k ((a1338).fst).int (Hp.le_refl _)))) <| qm (ii xc) rfl <| qm (ii xd) rfl <| qm (ii i1180) rfl <| qv (ii (IntKind.wrap .i64 (xd + i1180))) (V.add rfl rfl) ?_
     refine qv (.agg #[ii x1321.1, ii x1330.1, ii xc, ii (IntKind.wrap .i64 (xd + i1180)), .bool false]) (V.build inf119 places119 rfl rfl) <| JQ.nil ?_
     refine JA.op rfl (A.lit (K0 := Hp.nil) (ty := (.cons (.int .i64) (.cons (.int .i64) (.cons (.int .i64) (.cons (.int .i64) (.one .bool)))))) (xs := ([(x1321.1, x1330.1, xc, IntKind.wrap .i64 (xd + i1180), false)] : List (Int × Int × Int × Int × Bool))) Try.underlying88 inf119 rfl (by decide) rfl rfl rfl ⟨_, _, rfl, ⟨_, _, rfl, rfl, rfl, ⟨_, _, rfl, rfl, rfl, ⟨_, _, rfl, rfl, rfl, ⟨_, _, rfl, rfl, rfl, rfl⟩⟩⟩⟩, rfl⟩ rfl (by decide)) ?_
     rintro _ _ _ ⟨b1339, rfl, rfl, rfl⟩
     have hn1340 : ([(x1321.1, x1330.1, xc, IntKind.wrap .i64 (xd + i1180), false)] : List (Int × Int × Int × Int × Bool)) ≠ [] → ∃ g, (some ⟨b1339, 0, none⟩ : Option Addr) = some ⟨g, 0, none⟩ := fun _ => ⟨b1339, rfl⟩
     refine ⟨fun w hs => Hold.sub (Hp.le_refl _) ⟨1, rfl, trivial⟩ hs, ?_⟩
     refine JM.nil <| JQ.nil ?_
     obtain ⟨z1342, hz1343, h1294⟩ := ob h1294
     refine J.front 1 rfl <| J.op rfl (A.appR (Kr := Hp.nil) Try.underlying88 inf119 rfl rfl (by decide) (by decide) rfl rfl (Els.flat rfl) (Els.flat rfl) hz1343) ?_
     rintro _ _ _ ⟨v1344, rfl, rfl, rfl⟩
     refine J.wit Row.form ?_
     rintro ⟨ad1345, cp1346, rfl, _, _, hn1347⟩
     refine ja (.slice ad1345 z1342.length cp1346) rfl <| J.nil <| cr <| jm (.slice adxb_0 xb.length cpxb_0) rfl <| jm (ii i1180) rfl ?_
     obtain ⟨x1348, hx1349, h1294⟩ := ob h1294
     obtain ⟨p1350, p1351, p1352⟩ := getI_some hx1349
     obtain ⟨b1353, o1354, e1355, a1356⟩ := (fxb_0).at p1351
     refine jv _ (V.iad Try.underlying24 sz86 rfl e1355 rfl p1350 p1352) <| jv _ (V.fad Try.underlying86 rfl nz4 rfl) <| jv (.bool x1348.2) (V.ld rfl (Ld.sc sc4 (Rd.k (((a1356).snd).one).bool (Hp.le_refl _)))) <| J.nil <| cc rfl h1294 (fun hc1357 h1294 => ?_) fun hc1357 h1294 => ?_
     · refine CJ.mix [Row Hp.nil 119 (.cons (.int .i64) (.cons (.int .i64) (.cons (.int .i64) (.cons (.int .i64) (.one .bool))))) (.slice ad1345 z1342.length cp1346) z1342] [([0, 1, 2, 3, 4, 5, 6, 7, 8, 9, 10, 11, 12, 13, 14, 15], 16)] [] [17, 18] mixO (by decide +kernel) ⟨0, rfl, trivial⟩ rfl rfl rfl <| JM.cons <| qm (.slice ad1345 z1342.length cp1346) rfl <| qm (.slice adxb_0 xb.length cpxb_0) rfl <| qm (ii i1180) rfl ?_
       obtain ⟨x1379, hx1380, h1294⟩ := ob h1294
       obtain ⟨p1381, p1382, p1383⟩ := getI_some hx1380
       obtain ⟨b1384, o1385, e1386, a1387⟩ := (fxb_0).at p1382
       refine qv _ (V.iad Try.underlying24 sz86 rfl e1386 rfl p1381 p1383) <| qv _ (V.fad Try.underlying86 rfl nz3 rfl) <| qv (ii x1379.1) (V.ld rfl (Ld.sc sc3 (Rd.k ((a1387).fst).int (Hp.le_refl _)))) <| qm (.slice adxa_0 xa.length cpxa_0) rfl <| qm (ii i1180) rfl ?_
       obtain ⟨x1388, hx1389, h1294⟩ := ob h1294
       obtain ⟨p1390, p1391, p1392⟩ := getI_some hx1389
       obtain ⟨b1393, o1394, e1395, a1396⟩ := (fxa_0).at p1391
       refine qv _ (V.iad Try.underlying24 sz86 rfl e1395 rfl p1390 p1392) <| qv _ (V.fad Try.underlying86 rfl nz3 rfl) <| qv (ii x1388.1) (V.ld rfl (Ld.sc sc3 (Rd.k ((a1396).fst).int (Hp.le_refl _)))) <| qm (ii xc) rfl <| qm (ii xd) rfl <| qm (ii i1180) rfl <| qv (ii (IntKind.wrap .i64 (xd + i1180))) (V.add rfl rfl) ?_
       refine qv (.agg #[ii x1379.1, ii x1388.1, ii xc, ii (IntKind.wrap .i64 (xd + i1180)), .bool true]) (V.build inf119 places119 rfl rfl) <| JQ.nil ?_
       refine JA.op rfl (A.lit (K0 := Hp.nil) (ty := (.cons (.int .i64) (.cons (.int .i64) (.cons (.int .i64) (.cons (.int .i64) (.one .bool)))))) (xs := ([(x1379.1, x1388.1, xc, IntKind.wrap .i64 (xd + i1180), true)] : List (Int × Int × Int × Int × Bool))) Try.underlying88 inf119 rfl (by decide) rfl rfl rfl ⟨_, _, rfl, ⟨_, _, rfl, rfl, rfl, ⟨_, _, rfl, rfl, rfl, ⟨_, _, rfl, rfl, rfl, ⟨_, _, rfl, rfl, rfl, rfl⟩⟩⟩⟩, rfl⟩ rfl (by decide)) ?_
       rintro _ _ _ ⟨b1397, rfl, rfl, rfl⟩
       have hn1398 : ([(x1379.1, x1388.1, xc, IntKind.wrap .i64 (xd + i1180), true)] : List (Int × Int × Int × Int × Bool)) ≠ [] → ∃ g, (some ⟨b1397, 0, none⟩ : Option Addr) = some ⟨g, 0, none⟩ := fun _ => ⟨b1397, rfl⟩
       refine ⟨fun w hs => Hold.sub (Hp.le_refl _) ⟨1, rfl, trivial⟩ hs, ?_⟩
       refine JM.nil <| JQ.nil ?_
       obtain ⟨z1400, hz1401, h1294⟩ := ob h1294
       refine J.front 1 rfl <| J.op rfl (A.appR (Kr := Hp.nil) Try.underlying88 inf119 rfl rfl (by decide) (by decide) rfl rfl (Els.flat rfl) (Els.flat rfl) hz1401) ?_
       rintro _ _ _ ⟨v1402, rfl, rfl, rfl⟩
       refine J.wit Row.form ?_
       rintro ⟨ad1403, cp1404, rfl, _, _, hn1405⟩
       refine ja (.slice ad1403 z1400.length cp1404) rfl <| J.nil <| CJ.region <| jv (ii (IntKind.wrap .i64 (i1180 + 1))) (V.add rfl rfl) <| jm (ii (IntKind.wrap .i64 (i1180 + 1))) rfl <| J.nil ?_
       obtain rfl := si h1294
       exact ⟨rfl, ⟨z1400, IntKind.wrap .i64 (i1180 + 1), ad1403, cp1404, rfl, ⟨rfl, rfl, rfl, rfl, rfl, rfl, rfl, trivial⟩, rfl, rfl⟩⟩
     refine CJ.skip <| CJ.region <| jv (ii (IntKind.wrap .i64 (i1180 + 1))) (V.add rfl rfl) <| jm (ii (IntKind.wrap .i64 (i1180 + 1))) rfl <| J.nil ?_
     obtain rfl := si h1294
     exact ⟨rfl, ⟨z1342, IntKind.wrap .i64 (i1180 + 1), ad1345, cp1346, rfl, ⟨rfl, rfl, rfl, rfl, rfl, rfl, rfl, trivial⟩, rfl, rfl⟩⟩
   refine CJ.exit ?_
   obtain rfl := si h1294
   refine ⟨nofun, fun e => ?_⟩
   subst e
   exact ⟨rfl, ⟨l1175, ad1176, cp1177, rfl, ⟨rfl, trivial⟩, rfl, rfl⟩⟩
 rintro ρ _ _ ⟨l1053, ad1054, cp1055, rfl, hf1406, rfl, rfl⟩
 obtain ⟨ρ, rfl⟩ := hf1406.ex
 refine PJ.wit Row.hn fun hn1057 => PJ.done <| cr <| jm (.slice ad1054 l1053.length cp1055) rfl <| ja (.slice ad1054 l1053.length cp1055) rfl <| J.nil ?_
 refine CJ.ret ?_
 obtain rfl := si h
 exact ⟨_, _, Res.one rfl rfl, ⟨l1053, ad1054, cp1055, rfl, rfl, rfl⟩, (Hp.le_refl _), fun w hs => hs⟩

noncomputable def fn_relate_Flow (xa : (List (Int × Bool))) (xb : (List (Int × Bool))) (xc : Int) (xd : Int) : Option (((List (Int × Int × Int × Int × Bool)) × Int)) :=
  (fn_row_Shape xa xb).bind fun t30 => cond (!t30) (some (([], 8))) ((fn_relate_related xa xb xc xd).bind fun l38 => some ((l38, 0)))
set_option maxRecDepth 100000 in
set_option maxHeartbeats 4000000 in
theorem relate_Flow_ok {K : Hp} {xa : (List (Int × Bool))} {xb : (List (Int × Bool))} {xc : Int} {xd : Int} {adxa_0 : Option Addr} {cpxa_0 : Nat} {adxb_0 : Option Addr} {cpxb_0 : Nat} (fxa_0 : Is K (.sl (.cons (.int .i64) (.one .bool))) [.slice adxa_0 xa.length cpxa_0] xa) (fxb_0 : Is K (.sl (.cons (.int .i64) (.one .bool))) [.slice adxb_0 xb.length cpxb_0] xb) {r : ((List (Int × Int × Int × Int × Bool)) × Int)} (h : fn_relate_Flow xa xb xc xd = some r) :
    Tr Try.prog 63 #[.agg #[.slice adxa_0 xa.length cpxa_0], .agg #[.slice adxb_0 xb.length cpxb_0], ii xc, ii xd] K [] (fun v K' L' => (∃ (l20 : (List (Int × Int × Int × Int × Bool))) (i25 : Int) (ad21 : Option Addr) (cp22 : Nat), (l20, i25) = r ∧ .tuple #[.slice ad21 l20.length cp22, ii i25] = v ∧ L' = [Row Hp.nil 119 (.cons (.int .i64) (.cons (.int .i64) (.cons (.int .i64) (.cons (.int .i64) (.one .bool))))) (.slice ad21 l20.length cp22) l20]) ∧ K = K') := by
 refine Tr.k <| Tr.of Try.func63 rfl Try.ntmps63 rfl fun E F => ?_
 unfold fn_relate_Flow at h
 refine cr <| jbx [.slice adxa_0 xa.length cpxa_0] rfl rfl fun b26 => jbx [.slice adxb_0 xb.length cpxb_0] rfl rfl fun b27 => ja (nos) rfl <| ja (ii 0) rfl <| J.nil ?_
 refine CJ.seq <| cr <| jv (.agg #[.slice adxa_0 xa.length cpxa_0]) (V.ld rfl (Ld.agg (cs := [.slice adxa_0 xa.length cpxa_0]) Try.underlying26 sz26 rfl (Rd.cls 1 0 rfl rfl))) <| jv (.agg #[.slice adxb_0 xb.length cpxb_0]) (V.ld rfl (Ld.agg (cs := [.slice adxb_0 xb.length cpxb_0]) Try.underlying26 sz26 rfl (Rd.cls 0 0 rfl rfl))) ?_
 obtain ⟨r28, hr29, h⟩ := ob h
 refine J.op rfl (A.call (L1 := []) Try.call34 rfl (row_Shape_ok fxa_0 fxb_0 hr29) rfl rfl) ?_
 rintro _ _ _ ⟨v31, _, rfl, ⟨⟨t30, rfl, rfl, rfl⟩, rfl⟩, _, rfl⟩
 refine jv (.bool (!t30)) (V.not rfl) <| J.nil <| cc rfl h (fun hc34 h => ?_) fun hc34 h => ?_
 · refine cr <| ja (nos) rfl <| ja (ii 8) rfl <| J.nil <| CJ.by (fun w hs => Sep.rowNil (e := 119) (t := (.cons (.int .i64) (.cons (.int .i64) (.cons (.int .i64) (.cons (.int .i64) (.one .bool)))))) hs) <| CJ.ret ?_
   obtain rfl := si h
   exact ⟨_, _, Res.two rfl rfl rfl, ⟨[], 8, none, 0, rfl, rfl, rfl⟩, (Hp.le_refl _), fun w hs => (Sep.dropAt 1 rfl (Sep.dropAt 1 rfl hs))⟩
 refine CJ.skip <| cr <| jv _ (V.fad Try.underlying26 rfl nz24 rfl) <| jv (.slice adxa_0 xa.length cpxa_0) (V.ld rfl (Ld.sc sc24 (Rd.cl 1 rfl rfl))) <| jv _ (V.fad Try.underlying26 rfl nz24 rfl) <| jv (.slice adxb_0 xb.length cpxb_0) (V.ld rfl (Ld.sc sc24 (Rd.cl 0 rfl rfl))) ?_
 refine jm (ii xc) rfl <| jm (ii xd) rfl ?_
 obtain ⟨r36, hr37, h⟩ := ob h
 refine J.op rfl (A.call (L1 := []) Try.call75 rfl (relate_related_ok fxa_0 fxb_0 hr37) rfl rfl) ?_
 rintro _ _ _ ⟨v42, _, rfl, ⟨⟨l38, ad39, cp40, rfl, rfl, rfl⟩, rfl⟩, _, rfl⟩
 refine J.wit Row.hn fun hn41 => ja (.slice ad39 l38.length cp40) rfl <| ja (ii 0) rfl <| J.nil <| CJ.ret ?_
 obtain rfl := si h
 exact ⟨_, _, Res.two rfl rfl rfl, ⟨l38, 0, ad39, cp40, rfl, rfl, rfl⟩, (Hp.le_refl _), fun w hs => (Sep.dropAt 1 rfl (Sep.dropAt 1 rfl hs))⟩
noncomputable def fn_row_Ref_l1 (xa : (List (Int × Bool))) (xc : Bool) : ((List (Int × Bool)) × Int) → Option (((List (Int × Bool)) × Int) ⊕ (List (Int × Bool))) := fun ((l334, i339) : ((List (Int × Bool)) × Int)) => cond (decide (i339 < (((xa.length : Nat) : Int)))) ((getI xa i339).bind fun x374 => (app l334 (([(x374.1, x374.2 || xc)] : List (Int × Bool)))).bind fun z390 => some (.inl ((z390, IntKind.wrap .i64 (i339 + 1))))) (some (.inr (l334)))
noncomputable def fn_row_Ref (xa : (List (Int × Bool))) (xb : Int) (xc : Bool) : Option ((List (Int × Bool))) :=
  (loop (fn_row_Ref_l1 xa xc) ((([(xb, false)] : List (Int × Bool)), 0)) : Option ((List (Int × Bool)))).bind fun l298 => some (l298)
set_option maxRecDepth 100000 in
set_option maxHeartbeats 4000000 in
theorem row_Ref_ok {K : Hp} {xa : (List (Int × Bool))} {xb : Int} {xc : Bool} {adxa_0 : Option Addr} {cpxa_0 : Nat} (fxa_0 : Is K (.sl (.cons (.int .i64) (.one .bool))) [.slice adxa_0 xa.length cpxa_0] xa) {r : (List (Int × Bool))} (h : fn_row_Ref xa xb xc = some r) :
    Tr Try.prog 76 #[.agg #[.slice adxa_0 xa.length cpxa_0], ii xb, .bool xc] K [] (fun v K' L' => (∃ (l197 : (List (Int × Bool))) (ad198 : Option Addr) (cp199 : Nat), l197 = r ∧ .agg #[.slice ad198 l197.length cp199] = v ∧ L' = [Row Hp.nil 86 (.cons (.int .i64) (.one .bool)) (.slice ad198 l197.length cp199) l197]) ∧ K = K') := by
 refine Tr.k <| Tr.of Try.func76 rfl Try.ntmps76 rfl fun E F => ?_
 unfold fn_row_Ref at h
 refine cr <| jbx [.slice adxa_0 xa.length cpxa_0] rfl rfl fun b202 => jal inf26 [nos] rfl fun b203 => J.nil <| CJ.seq <| CJ.region ?_
 refine jm (ii xb) rfl <| jv (.agg #[ii xb, .bool false]) (V.build inf86 places86 rfl rfl) ?_
 refine J.op rfl (A.lit (K0 := Hp.nil) (ty := (.cons (.int .i64) (.one .bool))) (xs := ([(xb, false)] : List (Int × Bool))) Try.underlying24 inf86 rfl (by decide) rfl rfl rfl ⟨_, _, rfl, ⟨_, _, rfl, rfl, rfl, rfl⟩, rfl⟩ rfl (by decide)) ?_
 rintro _ _ _ ⟨b204, rfl, rfl, rfl⟩
 have hn205 : ([(xb, false)] : List (Int × Bool)) ≠ [] → ∃ g, (some ⟨b204, 0, none⟩ : Option Addr) = some ⟨g, 0, none⟩ := fun _ => ⟨b204, rfl⟩
 refine ja (.slice (some ⟨b204, 0, none⟩) ((([(xb, false)] : List (Int × Bool))).length) 1) rfl <| J.nil <| CJ.seq <| cr <| jv _ (V.fad Try.underlying26 rfl nz24 rfl) <| jv (.slice adxa_0 xa.length cpxa_0) (V.ld rfl (Ld.sc sc24 (Rd.cl 2 rfl rfl))) ?_
 refine jv (ii (((xa.length : Nat) : Int))) (V.len Try.underlying24 rfl) <| jm (ii 0) rfl <| J.nil ?_
 obtain ⟨o303, ho304, h⟩ := ob h
 refine CJ.meetN (fun ρ K' L' => ∃ (l298 : (List (Int × Bool))) (ad299 : Option Addr) (cp300 : Nat), l298 = o303 ∧ Fits [(6, .pointer (some ⟨b203, 0, none⟩)), (7, .slice ad299 l298.length cp300)] ρ ∧ K = K' ∧ L' = Cl b203 26 [nos] :: Row Hp.nil 86 (.cons (.int .i64) (.one .bool)) (.slice ad299 l298.length cp300) l298 :: F) ?_ ?_
 · refine CJ.block <| CJ.dropAt 2 rfl <| CJ.front 1 rfl <| CJ.loop (fun s ρ K' L' => ∃ (l334 : (List (Int × Bool))) (i339 : Int) (ad335 : Option Addr) (cp336 : Nat), (l334, i339) = s ∧ Fits [(2, .bool xc), (6, .pointer (some ⟨b203, 0, none⟩)), (7, .slice ad335 l334.length cp336), (14, .slice adxa_0 xa.length cpxa_0), (15, ii (((xa.length : Nat) : Int))), (16, ii i339)] ρ ∧ K = K' ∧ L' = Cl b203 26 [nos] :: Row Hp.nil 86 (.cons (.int .i64) (.one .bool)) (.slice ad335 l334.length cp336) l334 :: F) ho304 ⟨([(xb, false)] : List (Int × Bool)), 0, (some ⟨b204, 0, none⟩), 1, rfl, ⟨rfl, rfl, rfl, rfl, rfl, rfl, trivial⟩, rfl, rfl⟩ ?_
   rintro s ρ _ _ r372 ⟨l334, i339, ad335, cp336, rfl, hf370, rfl, rfl⟩ h369
   obtain ⟨ρ, rfl⟩ := hf370.ex
   refine CJ.front 1 rfl <| CJ.wit Row.hn fun hn338 => cr <| jv (.bool (decide (i339 < (((xa.length : Nat) : Int))))) (V.lss rfl rfl) <| J.nil <| CJ.seq ?_
   refine cc rfl h369 (fun hc373 h369 => ?_) fun hc373 h369 => ?_
   · refine CJ.skip <| CJ.seq <| CJ.block <| CJ.seq <| CJ.region ?_
     obtain ⟨x374, hx375, h369⟩ := ob h369
     obtain ⟨p376, p377, p378⟩ := getI_some hx375
     obtain ⟨b379, o380, e381, a382⟩ := (fxa_0).at p377
     refine jv _ (V.iad Try.underlying24 sz86 rfl e381 rfl p376 p378) <| jv (.agg #[ii x374.1, .bool x374.2]) (V.ld rfl (Ld.aggK (cs := [ii x374.1, .bool x374.2]) Try.underlying86 sz86 rfl ⟨((a382).fst).int, (((a382).snd).one).bool, trivial⟩ (Hp.le_refl _))) <| jal inf86 [ii 0, .bool false] rfl fun b383 => js [ii x374.1, .bool x374.2] sz86 rfl rfl rfl rfl rfl rfl <| J.nil <| CJ.region <| jm (.slice ad335 l334.length cp336) rfl ?_
     refine jv _ (V.fad Try.underlying86 rfl nz3 rfl) <| jv (ii x374.1) (V.ld rfl (Ld.sc sc3 (Rd.cl 0 rfl rfl))) <| jv _ (V.fad Try.underlying86 rfl nz4 rfl) <| jv (.bool x374.2) (V.ld rfl (Ld.sc sc4 (Rd.cl 0 rfl rfl))) <| jm (.bool x374.2) rfl <| J.cut 2 <| jmeet [(27, .bool (x374.2 || xc)), (2, .bool xc), (6, .pointer (some ⟨b203, 0, none⟩)), (14, .slice adxa_0 xa.length cpxa_0), (15, ii (((xa.length : Nat) : Int))), (16, ii i339), (20, .slice ad335 l334.length cp336), (22, ii x374.1)] ?_ ?_
     · rcases bt (x374.2) with hc386 | hc386
       · refine J.skip rfl rfl rfl rfl hc386 <| jv (.bool true) (V.pickT rfl hc386 rfl) <| J.nil ?_
         exact ⟨rfl, ⟨(by simp only [hc386]; rfl), rfl, rfl, rfl, rfl, rfl, rfl, rfl, trivial⟩, rfl, rfl⟩
       refine J.run rfl rfl rfl hc386 <| jm (.bool xc) rfl <| jv (.bool xc) (V.pickF rfl hc386 rfl) <| J.nil ?_
       exact ⟨rfl, ⟨(by simp only [hc386]; rfl), rfl, rfl, rfl, rfl, rfl, rfl, rfl, trivial⟩, rfl, rfl⟩
     intro ρ
     refine jv (.agg #[ii x374.1, .bool (x374.2 || xc)]) (V.build inf86 places86 rfl rfl) ?_
     refine J.op rfl (A.lit (K0 := Hp.nil) (ty := (.cons (.int .i64) (.one .bool))) (xs := ([(x374.1, x374.2 || xc)] : List (Int × Bool))) Try.underlying24 inf86 rfl (by decide) rfl rfl rfl ⟨_, _, rfl, ⟨_, _, rfl, rfl, rfl, rfl⟩, rfl⟩ rfl (by decide)) ?_
     rintro _ _ _ ⟨b387, rfl, rfl, rfl⟩
     have hn388 : ([(x374.1, x374.2 || xc)] : List (Int × Bool)) ≠ [] → ∃ g, (some ⟨b387, 0, none⟩ : Option Addr) = some ⟨g, 0, none⟩ := fun _ => ⟨b387, rfl⟩
     obtain ⟨z390, hz391, h369⟩ := ob h369
     refine J.front 2 rfl <| J.op rfl (A.appR (Kr := Hp.nil) Try.underlying24 inf86 rfl rfl (by decide) (by decide) rfl rfl (Els.flat rfl) (Els.flat rfl) hz391) ?_
     rintro _ _ _ ⟨v392, rfl, rfl, rfl⟩
     refine J.wit Row.form ?_
     rintro ⟨ad393, cp394, rfl, _, _, hn395⟩
     refine ja (.slice ad393 z390.length cp394) rfl <| J.nil <| CJ.region <| jv (ii (IntKind.wrap .i64 (i339 + 1))) (V.add rfl rfl) <| jm (ii (IntKind.wrap .i64 (i339 + 1))) rfl <| J.dropAt 1 rfl <| J.front 1 rfl ?_
     refine J.nil ?_
     obtain rfl := si h369
     exact ⟨rfl, ⟨z390, IntKind.wrap .i64 (i339 + 1), ad393, cp394, rfl, ⟨rfl, rfl, rfl, rfl, rfl, rfl, trivial⟩, rfl, rfl⟩⟩
   refine CJ.front 1 rfl <| CJ.exit ?_
   obtain rfl := si h369
   refine ⟨nofun, fun e => ?_⟩
   subst e
   exact ⟨rfl, ⟨l334, ad335, cp336, rfl, ⟨rfl, rfl, trivial⟩, rfl, rfl⟩⟩
 rintro ρ _ _ ⟨l298, ad299, cp300, rfl, hf396, rfl, rfl⟩
 obtain ⟨ρ, rfl⟩ := hf396.ex
 refine PJ.front 1 rfl <| PJ.wit Row.hn fun hn302 => PJ.done <| cr <| jm (.slice ad299 l298.length cp300) rfl <| jv (.agg #[.slice ad299 l298.length cp300]) (V.build inf26 places26 rfl rfl) ?_
 refine J.front 1 rfl <| js [.slice ad299 l298.length cp300] sz26 rfl rfl rfl rfl rfl rfl <| J.nil <| CJ.ret ?_
 obtain rfl := si h
 exact ⟨_, _, Res.one rfl ⟨_, _, rfl, Ld.agg (cs := [.slice ad299 l298.length cp300]) Try.underlying26 sz26 rfl (Rd.cls 0 0 rfl rfl)⟩, ⟨l298, ad299, cp300, rfl, rfl, rfl⟩, (Hp.le_refl _), fun w hs => (Sep.dropAt 0 rfl hs)⟩

noncomputable def fn_relate_Loan (xa : (List (Int × Bool))) (xb : (List (Int × Bool))) (xc : Int) (xd : Bool) : Option (((List (Int × Int × Int × Int × Bool)) × Int)) :=
  (fn_row_Ref xa xc xd).bind fun l121 => (fn_row_Shape xb l121).bind fun t134 => cond (!t134) (some (([], 8))) ((getI xb 0).bind fun x140 => (subL xb 1 (((xb.length : Nat) : Int))).bind fun y168 => (fn_relate_related xa y168 1 1).bind fun l176 => (app (([(xc, x140.1, 2, 0, false)] : List (Int × Int × Int × Int × Bool))) l176).bind fun z184 => some ((z184, 0)))
set_option maxRecDepth 100000 in
set_option maxHeartbeats 4000000 in
theorem relate_Loan_ok {K : Hp} {xa : (List (Int × Bool))} {xb : (List (Int × Bool))} {xc : Int} {xd : Bool} {adxa_0 : Option Addr} {cpxa_0 : Nat} {adxb_0 : Option Addr} {cpxb_0 : Nat} (fxa_0 : Is K (.sl (.cons (.int .i64) (.one .bool))) [.slice adxa_0 xa.length cpxa_0] xa) (fxb_0 : Is K (.sl (.cons (.int .i64) (.one .bool))) [.slice adxb_0 xb.length cpxb_0] xb) {r : ((List (Int × Int × Int × Int × Bool)) × Int)} (h : fn_relate_Loan xa xb xc xd = some r) :
    Tr Try.prog 64 #[.agg #[.slice adxa_0 xa.length cpxa_0], .agg #[.slice adxb_0 xb.length cpxb_0], ii xc, .bool xd] K [] (fun v K' L' => (∃ (l92 : (List (Int × Int × Int × Int × Bool))) (i97 : Int) (ad93 : Option Addr) (cp94 : Nat), (l92, i97) = r ∧ .tuple #[.slice ad93 l92.length cp94, ii i97] = v ∧ L' = [Row Hp.nil 119 (.cons (.int .i64) (.cons (.int .i64) (.cons (.int .i64) (.cons (.int .i64) (.one .bool))))) (.slice ad93 l92.length cp94) l92]) ∧ K = K') := by
 refine Tr.k <| Tr.of Try.func64 rfl Try.ntmps64 rfl fun E F => ?_
 unfold fn_relate_Loan at h
 refine cr <| jbx [.slice adxa_0 xa.length cpxa_0] rfl rfl fun b98 => jbx [.slice adxb_0 xb.length cpxb_0] rfl rfl fun b99 => ja (nos) rfl <| ja (ii 0) rfl <| J.nil ?_
 refine CJ.seq <| CJ.seq <| CJ.mix [Cl b99 26 [.slice adxb_0 xb.length cpxb_0], Cl b98 26 [.slice adxa_0 xa.length cpxa_0]] [([0, 1, 2, 3], 4), ([], 5)] [6] [] mixO (by decide +kernel) ⟨0, rfl, 0, rfl, trivial⟩ rfl rfl rfl <| JM.cons <| qv (.agg #[.slice adxb_0 xb.length cpxb_0]) (V.ld rfl (Ld.agg (cs := [.slice adxb_0 xb.length cpxb_0]) Try.underlying26 sz26 rfl (Rd.cls 0 0 rfl rfl))) <| qv (.agg #[.slice adxa_0 xa.length cpxa_0]) (V.ld rfl (Ld.agg (cs := [.slice adxa_0 xa.length cpxa_0]) Try.underlying26 sz26 rfl (Rd.cls 1 0 rfl rfl))) <| qm (ii xc) rfl ?_
 refine qm (.bool xd) rfl <| JQ.nil ?_
 obtain ⟨r119, hr120, h⟩ := ob h
 refine JA.op rfl (A.call (L1 := []) Try.call76 rfl (row_Ref_ok fxa_0 hr120) rfl rfl) ?_
 rintro _ _ _ ⟨v125, _, rfl, ⟨⟨l121, ad122, cp123, rfl, rfl, rfl⟩, rfl⟩, _, rfl⟩
 refine ⟨fun w hs => Hold.sub (Hp.le_refl _) ⟨1, rfl, 1, rfl, trivial⟩ hs, ?_⟩
 refine JM.wit Row.hn fun hn124 => JM.cons <| JQ.nil ?_
 obtain ⟨r129, hr130, h⟩ := ob h
 refine JA.op rfl (A.call (L1 := [Row Hp.nil 86 (.cons (.int .i64) (.one .bool)) (.slice ad122 l121.length cp123) l121]) Try.call34 rfl (Tr.lend (Hp.nil_le _) (by decide) (fun K131 hK132 f133 => row_Shape_ok (fxb_0.mono hK132) f133 hr130)) rfl rfl) ?_
 rintro _ _ _ ⟨v135, _, rfl, ⟨⟨_, ⟨t134, rfl, rfl, rfl⟩, rfl⟩, rfl⟩, _, rfl⟩
 refine ⟨fun w hs => Hold.sub (Hp.le_refl _) ⟨1, rfl, 1, rfl, trivial⟩ hs, ?_⟩
 refine JM.nil <| qv (.bool (!t134)) (V.not rfl) <| JQ.nil <| J.nil <| cc rfl h (fun hc138 h => ?_) fun hc138 h => ?_
 · refine cr <| ja (nos) rfl <| ja (ii 8) rfl <| J.nil <| CJ.by (fun w hs => Sep.rowNil (e := 119) (t := (.cons (.int .i64) (.cons (.int .i64) (.cons (.int .i64) (.cons (.int .i64) (.one .bool)))))) hs) <| CJ.ret ?_
   obtain rfl := si h
   exact ⟨_, _, Res.two rfl rfl rfl, ⟨[], 8, none, 0, rfl, rfl, rfl⟩, (Hp.le_refl _), fun w hs => (Sep.dropAt 1 rfl (Sep.dropAt 1 rfl (Sep.dropAt 1 rfl hs)))⟩
 refine CJ.skip <| cr <| jm (ii xc) rfl <| jv _ (V.fad Try.underlying26 rfl nz24 rfl) <| jv (.slice adxb_0 xb.length cpxb_0) (V.ld rfl (Ld.sc sc24 (Rd.cl 1 rfl rfl))) ?_
 obtain ⟨x140, hx141, h⟩ := ob h
 obtain ⟨p142, p143, p144⟩ := getI_some hx141
 obtain ⟨b145, o146, e147, a148⟩ := (fxb_0).at p143
 refine jv _ (V.iad Try.underlying24 sz86 rfl e147 rfl p142 p144) <| jv _ (V.fad Try.underlying86 rfl nz3 rfl) <| jv (ii x140.1) (V.ld rfl (Ld.sc sc3 (Rd.k ((a148).fst).int (Hp.le_refl _)))) <| jv (.agg #[ii xc, ii x140.1, ii 2, ii 0, .bool false]) (V.build inf119 places119 rfl rfl) ?_
 refine J.op rfl (A.lit (K0 := Hp.nil) (ty := (.cons (.int .i64) (.cons (.int .i64) (.cons (.int .i64) (.cons (.int .i64) (.one .bool)))))) (xs := ([(xc, x140.1, 2, 0, false)] : List (Int × Int × Int × Int × Bool))) Try.underlying88 inf119 rfl (by decide) rfl rfl rfl ⟨_, _, rfl, ⟨_, _, rfl, rfl, rfl, ⟨_, _, rfl, rfl, rfl, ⟨_, _, rfl, rfl, rfl, ⟨_, _, rfl, rfl, rfl, rfl⟩⟩⟩⟩, rfl⟩ rfl (by decide)) ?_
 rintro _ _ _ ⟨b149, rfl, rfl, rfl⟩
 have hn150 : ([(xc, x140.1, 2, 0, false)] : List (Int × Int × Int × Int × Bool)) ≠ [] → ∃ g, (some ⟨b149, 0, none⟩ : Option Addr) = some ⟨g, 0, none⟩ := fun _ => ⟨b149, rfl⟩
 refine ja (.slice (some ⟨b149, 0, none⟩) ((([(xc, x140.1, 2, 0, false)] : List (Int × Int × Int × Int × Bool))).length) 1) rfl <| J.nil <| CJ.seq <| CJ.mix [Row Hp.nil 119 (.cons (.int .i64) (.cons (.int .i64) (.cons (.int .i64) (.cons (.int .i64) (.one .bool))))) (.slice (some ⟨b149, 0, none⟩) ((([(xc, x140.1, 2, 0, false)] : List (Int × Int × Int × Int × Bool))).length) 1) (([(xc, x140.1, 2, 0, false)] : List (Int × Int × Int × Int × Bool))), Row Hp.nil 86 (.cons (.int .i64) (.one .bool)) (.slice ad122 l121.length cp123) l121, Cl b99 26 [.slice adxb_0 xb.length cpxb_0], Cl b98 26 [.slice adxa_0 xa.length cpxa_0]] [([0, 1, 2, 3, 4, 5], 6)] [] [7, 8, 9] mixO (by decide +kernel) ⟨0, rfl, 0, rfl, 0, rfl, 0, rfl, trivial⟩ rfl rfl rfl <| JM.cons <| qm (.slice (some ⟨b149, 0, none⟩) ((([(xc, x140.1, 2, 0, false)] : List (Int × Int × Int × Int × Bool))).length) 1) rfl <| qv _ (V.fad Try.underlying26 rfl nz24 rfl) ?_
 refine qv (.slice adxa_0 xa.length cpxa_0) (V.ld rfl (Ld.sc sc24 (Rd.cl 3 rfl rfl))) <| qv _ (V.fad Try.underlying26 rfl nz24 rfl) <| qv (.slice adxb_0 xb.length cpxb_0) (V.ld rfl (Ld.sc sc24 (Rd.cl 2 rfl rfl))) ?_
 obtain ⟨y168, hy169, h⟩ := ob h
 obtain ⟨ad170, cp171, hv172, f173⟩ := V.subI (tp := (.cons (.int .i64) (.one .bool))) Try.underlying24 sz86 fxb_0 hy169
 refine qv (.slice ad170 y168.length cp171) (hv172 rfl (fun _ h => by cases h; exact ⟨_, rfl⟩) nofun nofun (fun _ => rfl)) <| JQ.nil ?_
 obtain ⟨r174, hr175, h⟩ := ob h
 refine JA.op rfl (A.call (L1 := []) Try.call75 rfl (relate_related_ok fxa_0 f173 hr175) rfl rfl) ?_
 rintro _ _ _ ⟨v180, _, rfl, ⟨⟨l176, ad177, cp178, rfl, rfl, rfl⟩, rfl⟩, _, rfl⟩
 refine ⟨fun w hs => Hold.sub (Hp.le_refl _) ⟨1, rfl, 1, rfl, 1, rfl, 1, rfl, trivial⟩ hs, ?_⟩
 refine JM.wit Row.hn fun hn179 => JM.nil <| JQ.nil ?_
 obtain ⟨z184, hz185, h⟩ := ob h
 refine J.front 1 rfl <| J.op rfl (A.appR (Kr := Hp.nil) Try.underlying88 inf119 rfl rfl (by decide) (by decide) rfl rfl (Els.flat rfl) (Els.flat rfl) hz185) ?_
 rintro _ _ _ ⟨v186, rfl, rfl, rfl⟩
 refine J.wit Row.form ?_
 rintro ⟨ad187, cp188, rfl, _, _, hn189⟩
 refine ja (.slice ad187 z184.length cp188) rfl <| ja (ii 0) rfl <| J.nil <| CJ.ret ?_
 obtain rfl := si h
 exact ⟨_, _, Res.two rfl rfl rfl, ⟨z184, 0, ad187, cp188, rfl, rfl, rfl⟩, (Hp.le_refl _), fun w hs => (Sep.dropAt 1 rfl (Sep.dropAt 1 rfl (Sep.dropAt 1 rfl hs)))⟩

noncomputable def fn_relate_mayBorrowAgain_1 (xa : (Int × Bool)) : Option Bool :=
  some (!xa.2)
set_option maxRecDepth 100000 in
set_option maxHeartbeats 4000000 in
theorem relate_mayBorrowAgain_1_ok {K : Hp} {xa : (Int × Bool)}   {r : Bool} (h : fn_relate_mayBorrowAgain_1 xa = some r) :
    Tr Try.prog 83 #[.agg #[ii xa.1, .bool xa.2]] K [] (fun v K' L' => (∃ (t2 : Bool), t2 = r ∧ .bool t2 = v ∧ L' = []) ∧ K = K') := by
 refine Tr.k <| Tr.of Try.func83 rfl Try.ntmps83 rfl fun E F => ?_
 unfold fn_relate_mayBorrowAgain_1 at h
 refine cr <| jbx [ii xa.1, .bool xa.2] rfl rfl fun b3 => ja (.bool false) rfl <| J.nil <| CJ.seq <| CJ.region ?_
 refine jv _ (V.fad Try.underlying86 rfl nz4 rfl) <| jv (.bool xa.2) (V.ld rfl (Ld.sc sc4 (Rd.cl 0 rfl rfl))) <| jv (.bool (!xa.2)) (V.not rfl) <| ja (.bool (!xa.2)) rfl <| J.nil <| CJ.ret ?_
 obtain rfl := si h
 exact ⟨_, _, Res.one rfl rfl, ⟨!xa.2, rfl, rfl, rfl⟩, (Hp.le_refl _), fun w hs => (Sep.dropAt 0 rfl hs)⟩
noncomputable def fn_slices_IndexFunc_api_Slot_api_Slot_k_relate_mayBorrowAgain_1_l1 (xa : (List (Int × Bool))) : Int → Option (Int ⊕ (Unit ⊕ Int)) := fun (i201 : Int) => cond (decide (i201 < (((xa.length : Nat) : Int)))) ((getI xa i201).bind fun x225 => (fn_relate_mayBorrowAgain_1 (x225.1, x225.2)).bind fun t236 => cond (t236) (some (.inr ((.inr (i201))))) (some (.inl (IntKind.wrap .i64 (i201 + 1))))) (some (.inr ((.inl ()))))
noncomputable def fn_slices_IndexFunc_api_Slot_api_Slot_k_relate_mayBorrowAgain_1 (xa : (List (Int × Bool))) : Option Int :=
  (loop (fn_slices_IndexFunc_api_Slot_api_Slot_k_relate_mayBorrowAgain_1_l1 xa) 0 : Option (Unit ⊕ Int)).bind fun o => match o with | .inr r => some r | .inl () => some ((-1))
set_option maxRecDepth 100000 in
set_option maxHeartbeats 4000000 in
theorem slices_IndexFunc_api_Slot_api_Slot_k_relate_mayBorrowAgain_1_ok {K : Hp} {xa : (List (Int × Bool))} {adxa_0 : Option Addr} {cpxa_0 : Nat} (fxa_0 : Is K (.sl (.cons (.int .i64) (.one .bool))) [.slice adxa_0 xa.length cpxa_0] xa) {r : Int} (h : fn_slices_IndexFunc_api_Slot_api_Slot_k_relate_mayBorrowAgain_1 xa = some r) :
    Tr Try.prog 72 #[.slice adxa_0 xa.length cpxa_0, .func (.func 83) #[] #[]] K [] (fun v K' L' => (∃ (i122 : Int), i122 = r ∧ ii i122 = v ∧ L' = []) ∧ K = K') := by
 refine Tr.k <| Tr.of Try.func72 rfl Try.ntmps72 rfl fun E F => ?_
 unfold fn_slices_IndexFunc_api_Slot_api_Slot_k_relate_mayBorrowAgain_1 at h
 refine cr <| ja (ii 0) rfl <| J.nil <| CJ.seq <| CJ.seq <| CJ.region ?_
 refine jm (.slice adxa_0 xa.length cpxa_0) rfl <| jv (ii (((xa.length : Nat) : Int))) (V.len Try.underlying24 rfl) <| jm (ii 0) rfl <| J.nil ?_
 obtain ⟨o181, ho182, h⟩ := ob h
 refine CJ.joinN (o := o181) (fun s ρ K' L' => () = s ∧ Fits [] ρ ∧ K = K' ∧ F = L') ?_ ?_
 · refine CJ.block <| CJ.loop (fun s ρ K' L' => ∃ (i201 : Int), i201 = s ∧ Fits [(0, .slice adxa_0 xa.length cpxa_0), (1, .func (.func 83) #[] #[]), (7, ii (((xa.length : Nat) : Int))), (8, ii i201)] ρ ∧ K = K' ∧ F = L') ho182 ⟨0, rfl, ⟨rfl, rfl, rfl, rfl, trivial⟩, rfl, rfl⟩ ?_
   rintro s ρ _ _ r223 ⟨i201, rfl, hf221, rfl, rfl⟩ h220
   obtain ⟨ρ, rfl⟩ := hf221.ex
   refine cr <| jv (.bool (decide (i201 < (((xa.length : Nat) : Int))))) (V.lss rfl rfl) <| J.nil <| CJ.seq <| cc rfl h220 (fun hc224 h220 => ?_) fun hc224 h220 => ?_
   · refine CJ.skip <| CJ.seq <| CJ.block <| cr <| jm (ii i201) rfl <| ja (ii i201) rfl ?_
     refine J.nil <| cr <| jm (.func (.func 83) #[] #[]) rfl <| jm (.slice adxa_0 xa.length cpxa_0) rfl <| jm (ii i201) rfl ?_
     obtain ⟨x225, hx226, h220⟩ := ob h220
     obtain ⟨p227, p228, p229⟩ := getI_some hx226
     obtain ⟨b230, o231, e232, a233⟩ := (fxa_0).at p228
     refine jv _ (V.iad Try.underlying24 sz86 rfl e232 rfl p227 p229) <| jv (.agg #[ii x225.1, .bool x225.2]) (V.ld rfl (Ld.aggK (cs := [ii x225.1, .bool x225.2]) Try.underlying86 sz86 rfl ⟨((a233).fst).int, (((a233).snd).one).bool, trivial⟩ (Hp.le_refl _))) ?_
     obtain ⟨r234, hr235, h220⟩ := ob h220
     refine J.op rfl (A.call (L1 := []) Try.call83 rfl (relate_mayBorrowAgain_1_ok hr235) rfl rfl) ?_
     rintro _ _ _ ⟨v237, _, rfl, ⟨⟨t236, rfl, rfl, rfl⟩, rfl⟩, _, rfl⟩
     refine J.nil <| cc rfl h220 (fun hc240 h220 => ?_) fun hc240 h220 => ?_
     · refine cr <| jm (ii i201) rfl <| ja (ii i201) rfl <| J.nil <| CJ.ret ?_
       obtain rfl := si h220
       refine ⟨nofun, fun e => ?_⟩
       subst e
       refine .inr ⟨nofun, ?_⟩
       obtain rfl := si h
       exact ⟨_, _, Res.one rfl rfl, ⟨i201, rfl, rfl, rfl⟩, (Hp.le_refl _), fun w hs => hs⟩
     refine CJ.skip <| CJ.region <| jv (ii (IntKind.wrap .i64 (i201 + 1))) (V.add rfl rfl) <| jm (ii (IntKind.wrap .i64 (i201 + 1))) rfl <| J.nil ?_
     obtain rfl := si h220
     exact ⟨rfl, ⟨IntKind.wrap .i64 (i201 + 1), rfl, ⟨rfl, rfl, rfl, rfl, trivial⟩, rfl, rfl⟩⟩
   refine CJ.exit ?_
   obtain rfl := si h220
   refine ⟨nofun, fun e => ?_⟩
   subst e
   exact .inl ⟨rfl, _, rfl, ⟨rfl, trivial, rfl, rfl⟩⟩
 rintro s ρ _ _ ho241 ⟨rfl, hf242, rfl, rfl⟩
 subst ho241
 obtain ⟨ρ, rfl⟩ := hf242.ex
 refine PJ.done <| cr <| ja (ii (-1)) rfl <| J.nil <| CJ.ret ?_
 obtain rfl := si h
 exact ⟨_, _, Res.one rfl rfl, ⟨(-1), rfl, rfl, rfl⟩, (Hp.le_refl _), fun w hs => hs⟩

noncomputable def fn_slices_ContainsFunc_api_Slot_api_Slot_k_relate_mayBorrowAgain_1 (xa : (List (Int × Bool))) : Option Bool :=
  (fn_slices_IndexFunc_api_Slot_api_Slot_k_relate_mayBorrowAgain_1 xa).bind fun i10 => some (decide (0 ≤ i10))
set_option maxRecDepth 100000 in
set_option maxHeartbeats 4000000 in
theorem slices_ContainsFunc_api_Slot_api_Slot_k_relate_mayBorrowAgain_1_ok {K : Hp} {xa : (List (Int × Bool))} {adxa_0 : Option Addr} {cpxa_0 : Nat} (fxa_0 : Is K (.sl (.cons (.int .i64) (.one .bool))) [.slice adxa_0 xa.length cpxa_0] xa) {r : Bool} (h : fn_slices_ContainsFunc_api_Slot_api_Slot_k_relate_mayBorrowAgain_1 xa = some r) :
    Tr Try.prog 59 #[.slice adxa_0 xa.length cpxa_0, .func (.func 83) #[] #[]] K [] (fun v K' L' => (∃ (t7 : Bool), t7 = r ∧ .bool t7 = v ∧ L' = []) ∧ K = K') := by
 refine Tr.k <| Tr.of Try.func59 rfl Try.ntmps59 rfl fun E F => ?_
 unfold fn_slices_ContainsFunc_api_Slot_api_Slot_k_relate_mayBorrowAgain_1 at h
 refine cr <| ja (.bool false) rfl <| J.nil <| cr <| jm (.slice adxa_0 xa.length cpxa_0) rfl ?_
 refine jm (.func (.func 83) #[] #[]) rfl ?_
 obtain ⟨r8, hr9, h⟩ := ob h
 refine J.op rfl (A.call (L1 := []) Try.call72 rfl (slices_IndexFunc_api_Slot_api_Slot_k_relate_mayBorrowAgain_1_ok fxa_0 hr9) rfl rfl) ?_
 rintro _ _ _ ⟨v11, _, rfl, ⟨⟨i10, rfl, rfl, rfl⟩, rfl⟩, _, rfl⟩
 refine jv (.bool (decide (0 ≤ i10))) (V.geq rfl rfl) <| ja (.bool (decide (0 ≤ i10))) rfl <| J.nil <| CJ.ret ?_
 obtain rfl := si h
 exact ⟨_, _, Res.one rfl rfl, ⟨decide (0 ≤ i10), rfl, rfl, rfl⟩, (Hp.le_refl _), fun w hs => hs⟩

noncomputable def fn_relate_mayBorrowAgain (xa : (List (Int × Bool))) (xb : (List (Int × Bool))) (xc : Bool) : Option Bool :=
  (cond (decide ((((xa.length : Nat) : Int)) = 0)) (some (true)) ((getI xa 0).bind fun x73 => some (x73.2))).bind fun t70 => (cond (t70) (some (true)) ((fn_row_Shape xa xb).bind fun t94 => some (!t94))).bind fun t89 => cond (t89) (some (false)) ((subL xa 1 (((xa.length : Nat) : Int))).bind fun y99 => (fn_slices_ContainsFunc_api_Slot_api_Slot_k_relate_mayBorrowAgain_1 y99).bind fun t107 => some ((!xc) || (!t107)))
set_option maxRecDepth 100000 in
set_option maxHeartbeats 4000000 in
theorem relate_mayBorrowAgain_ok {K : Hp} {xa : (List (Int × Bool))} {xb : (List (Int × Bool))} {xc : Bool} {adxa_0 : Option Addr} {cpxa_0 : Nat} {adxb_0 : Option Addr} {cpxb_0 : Nat} (fxa_0 : Is K (.sl (.cons (.int .i64) (.one .bool))) [.slice adxa_0 xa.length cpxa_0] xa) (fxb_0 : Is K (.sl (.cons (.int .i64) (.one .bool))) [.slice adxb_0 xb.length cpxb_0] xb) {r : Bool} (h : fn_relate_mayBorrowAgain xa xb xc = some r) :
    Tr Try.prog 77 #[.agg #[.slice adxa_0 xa.length cpxa_0], .agg #[.slice adxb_0 xb.length cpxb_0], .bool xc] K [] (fun v K' L' => (∃ (t57 : Bool), t57 = r ∧ .bool t57 = v ∧ L' = []) ∧ K = K') := by
 refine Tr.k <| Tr.of Try.func77 rfl Try.ntmps77 rfl fun E F => ?_
 unfold fn_relate_mayBorrowAgain at h
 refine cr <| jbx [.slice adxa_0 xa.length cpxa_0] rfl rfl fun b58 => jbx [.slice adxb_0 xb.length cpxb_0] rfl rfl fun b59 => ja (.bool false) rfl <| J.nil <| CJ.seq ?_
 refine cr <| jv _ (V.fad Try.underlying26 rfl nz24 rfl) <| jv (.slice adxa_0 xa.length cpxa_0) (V.ld rfl (Ld.sc sc24 (Rd.cl 1 rfl rfl))) <| jv (ii (((xa.length : Nat) : Int))) (V.len Try.underlying24 rfl) <| jv (.bool (decide ((((xa.length : Nat) : Int)) = 0))) (V.eql rfl rfl) <| jm (.bool (decide ((((xa.length : Nat) : Int)) = 0))) rfl ?_
 refine J.cut 6 ?_
 obtain ⟨t70, ht71, h⟩ := ob h
 refine jmeet [(18, .bool t70), (2, .bool xc), (3, .pointer (some ⟨b58, 0, none⟩)), (4, .pointer (some ⟨b59, 0, none⟩))] ?_ ?_
 · rcases bt (decide ((((xa.length : Nat) : Int)) = 0)) with hc72 | hc72
   · have ht71 := ct hc72 ht71
     refine J.skip rfl rfl rfl rfl hc72 <| J.skip rfl rfl rfl rfl hc72 <| J.skip rfl rfl rfl rfl hc72 <| J.skip rfl rfl rfl rfl hc72 <| J.skip rfl rfl rfl rfl hc72 <| jv (.bool true) (V.pickT rfl hc72 rfl) <| J.nil ?_
     obtain rfl := si ht71
     exact ⟨rfl, ⟨rfl, rfl, rfl, rfl, trivial⟩, rfl, rfl⟩
   have ht71 := cf hc72 ht71
   refine J.run rfl rfl rfl hc72 <| jv _ (V.fad Try.underlying26 rfl nz24 rfl) <| J.run rfl rfl rfl hc72 <| jv (.slice adxa_0 xa.length cpxa_0) (V.ld rfl (Ld.sc sc24 (Rd.cl 1 rfl rfl))) <| J.run rfl rfl rfl hc72 ?_
   obtain ⟨x73, hx74, ht71⟩ := ob ht71
   obtain ⟨p75, p76, p77⟩ := getI_some hx74
   obtain ⟨b78, o79, e80, a81⟩ := (fxa_0).at p76
   refine jv _ (V.iad Try.underlying24 sz86 rfl e80 rfl p75 p77) <| J.run rfl rfl rfl hc72 <| jv _ (V.fad Try.underlying86 rfl nz4 rfl) <| J.run rfl rfl rfl hc72 <| jv (.bool x73.2) (V.ld rfl (Ld.sc sc4 (Rd.k (((a81).snd).one).bool (Hp.le_refl _)))) <| jv (.bool x73.2) (V.pickF rfl hc72 rfl) <| J.nil ?_
   obtain rfl := si ht71
   exact ⟨rfl, ⟨rfl, rfl, rfl, rfl, trivial⟩, rfl, rfl⟩
 intro ρ
 refine jm (.bool t70) rfl <| J.cut 5 ?_
 obtain ⟨t89, ht90, h⟩ := ob h
 refine jmeet [(24, .bool t89), (2, .bool xc), (3, .pointer (some ⟨b58, 0, none⟩))] ?_ ?_
 · rcases bt (t70) with hc91 | hc91
   · have ht90 := ct hc91 ht90
     refine J.skip rfl rfl rfl rfl hc91 <| J.skip rfl rfl rfl rfl hc91 <| J.skip rfl rfl rfl rfl hc91 <| J.skip rfl rfl rfl rfl hc91 <| jv (.bool true) (V.pickT rfl hc91 rfl) <| J.nil ?_
     obtain rfl := si ht90
     exact ⟨rfl, ⟨rfl, rfl, rfl, trivial⟩, rfl, rfl⟩
   have ht90 := cf hc91 ht90
   refine J.run rfl rfl rfl hc91 <| jv (.agg #[.slice adxa_0 xa.length cpxa_0]) (V.ld rfl (Ld.agg (cs := [.slice adxa_0 xa.length cpxa_0]) Try.underlying26 sz26 rfl (Rd.cls 1 0 rfl rfl))) <| J.run rfl rfl rfl hc91 <| jv (.agg #[.slice adxb_0 xb.length cpxb_0]) (V.ld rfl (Ld.agg (cs := [.slice adxb_0 xb.length cpxb_0]) Try.underlying26 sz26 rfl (Rd.cls 0 0 rfl rfl))) <| J.run rfl rfl rfl hc91 ?_
   obtain ⟨r92, hr93, ht90⟩ := ob ht90
   refine J.op rfl (A.call (L1 := []) Try.call34 rfl (row_Shape_ok fxa_0 fxb_0 hr93) rfl rfl) ?_
   rintro _ _ _ ⟨v95, _, rfl, ⟨⟨t94, rfl, rfl, rfl⟩, rfl⟩, _, rfl⟩
   refine J.run rfl rfl rfl hc91 <| jv (.bool (!t94)) (V.not rfl) <| jv (.bool (!t94)) (V.pickF rfl hc91 rfl) <| J.nil ?_
   obtain rfl := si ht90
   exact ⟨rfl, ⟨rfl, rfl, rfl, trivial⟩, rfl, rfl⟩
 intro ρ
 refine J.nil <| cc rfl h (fun hc98 h => ?_) fun hc98 h => ?_
 · refine cr <| ja (.bool false) rfl <| J.nil <| CJ.ret ?_
   obtain rfl := si h
   exact ⟨_, _, Res.one rfl rfl, ⟨false, rfl, rfl, rfl⟩, (Hp.le_refl _), fun w hs => (Sep.dropAt 0 rfl (Sep.dropAt 0 rfl hs))⟩
 refine CJ.skip <| cr <| jv _ (V.fad Try.underlying26 rfl nz24 rfl) <| jv (.slice adxa_0 xa.length cpxa_0) (V.ld rfl (Ld.sc sc24 (Rd.cl 1 rfl rfl))) ?_
 obtain ⟨y99, hy100, h⟩ := ob h
 obtain ⟨ad101, cp102, hv103, f104⟩ := V.subI (tp := (.cons (.int .i64) (.one .bool))) Try.underlying24 sz86 fxa_0 hy100
 refine jv (.slice ad101 y99.length cp102) (hv103 rfl (fun _ h => by cases h; exact ⟨_, rfl⟩) nofun nofun (fun _ => rfl)) ?_
 obtain ⟨r105, hr106, h⟩ := ob h
 refine J.op rfl (A.call (L1 := []) Try.call59 rfl (slices_ContainsFunc_api_Slot_api_Slot_k_relate_mayBorrowAgain_1_ok f104 hr106) rfl rfl) ?_
 rintro _ _ _ ⟨v108, _, rfl, ⟨⟨t107, rfl, rfl, rfl⟩, rfl⟩, _, rfl⟩
 refine ja (.bool t107) rfl <| J.nil <| cr <| jm (.bool xc) rfl <| jv (.bool (!xc)) (V.not rfl) <| jm (.bool (!xc)) rfl ?_
 refine J.cut 3 <| jmeet [(34, .bool ((!xc) || (!t107)))] ?_ ?_
 · rcases bt (!xc) with hc113 | hc113
   · refine J.skip rfl rfl rfl rfl hc113 <| J.skip rfl rfl rfl rfl hc113 <| jv (.bool true) (V.pickT rfl hc113 rfl) <| J.nil ?_
     exact ⟨rfl, ⟨(by simp only [hc113]; rfl), trivial⟩, rfl, rfl⟩
   refine J.run rfl rfl rfl hc113 <| jm (.bool t107) rfl <| J.run rfl rfl rfl hc113 <| jv (.bool (!t107)) (V.not rfl) <| jv (.bool (!t107)) (V.pickF rfl hc113 rfl) <| J.nil ?_
   exact ⟨rfl, ⟨(by simp only [hc113]; rfl), trivial⟩, rfl, rfl⟩
 intro ρ
 refine ja (.bool ((!xc) || (!t107))) rfl <| J.nil <| CJ.ret ?_
 obtain rfl := si h
 exact ⟨_, _, Res.one rfl rfl, ⟨(!xc) || (!t107), rfl, rfl, rfl⟩, (Hp.le_refl _), fun w hs => (Sep.dropAt 0 rfl (Sep.dropAt 0 rfl hs))⟩

noncomputable def fn_relate_Again (xa : (List (Int × Bool))) (xb : (List (Int × Bool))) (xc : Int) (xd : Bool) : Option (((List (Int × Int × Int × Int × Bool)) × Int)) :=
  (fn_relate_mayBorrowAgain xa xb xd).bind fun t112 => cond (!t112) (some (([], 8))) ((getI xa 0).bind fun x139 => (getI xb 0).bind fun x148 => (subL xa 1 (((xa.length : Nat) : Int))).bind fun y182 => (subL xb 1 (((xb.length : Nat) : Int))).bind fun y188 => (fn_relate_related y182 y188 1 1).bind fun l196 => (app (([(x139.1, xc, 3, 0, false), (xc, x148.1, 2, 0, false)] : List (Int × Int × Int × Int × Bool))) l196).bind fun z204 => some ((z204, 0)))
set_option maxRecDepth 100000 in
set_option maxHeartbeats 4000000 in
theorem relate_Again_ok {K : Hp} {xa : (List (Int × Bool))} {xb : (List (Int × Bool))} {xc : Int} {xd : Bool} {adxa_0 : Option Addr} {cpxa_0 : Nat} {adxb_0 : Option Addr} {cpxb_0 : Nat} (fxa_0 : Is K (.sl (.cons (.int .i64) (.one .bool))) [.slice adxa_0 xa.length cpxa_0] xa) (fxb_0 : Is K (.sl (.cons (.int .i64) (.one .bool))) [.slice adxb_0 xb.length cpxb_0] xb) {r : ((List (Int × Int × Int × Int × Bool)) × Int)} (h : fn_relate_Again xa xb xc xd = some r) :
    Tr Try.prog 65 #[.agg #[.slice adxa_0 xa.length cpxa_0], .agg #[.slice adxb_0 xb.length cpxb_0], ii xc, .bool xd] K [] (fun v K' L' => (∃ (l102 : (List (Int × Int × Int × Int × Bool))) (i107 : Int) (ad103 : Option Addr) (cp104 : Nat), (l102, i107) = r ∧ .tuple #[.slice ad103 l102.length cp104, ii i107] = v ∧ L' = [Row Hp.nil 119 (.cons (.int .i64) (.cons (.int .i64) (.cons (.int .i64) (.cons (.int .i64) (.one .bool))))) (.slice ad103 l102.length cp104) l102]) ∧ K = K') := by
 refine Tr.k <| Tr.of Try.func65 rfl Try.ntmps65 rfl fun E F => ?_
 unfold fn_relate_Again at h
 refine cr <| jbx [.slice adxa_0 xa.length cpxa_0] rfl rfl fun b108 => jbx [.slice adxb_0 xb.length cpxb_0] rfl rfl fun b109 => ja (nos) rfl <| ja (ii 0) rfl <| J.nil ?_
 refine CJ.seq <| cr <| jv (.agg #[.slice adxa_0 xa.length cpxa_0]) (V.ld rfl (Ld.agg (cs := [.slice adxa_0 xa.length cpxa_0]) Try.underlying26 sz26 rfl (Rd.cls 1 0 rfl rfl))) <| jv (.agg #[.slice adxb_0 xb.length cpxb_0]) (V.ld rfl (Ld.agg (cs := [.slice adxb_0 xb.length cpxb_0]) Try.underlying26 sz26 rfl (Rd.cls 0 0 rfl rfl))) <| jm (.bool xd) rfl ?_
 obtain ⟨r110, hr111, h⟩ := ob h
 refine J.op rfl (A.call (L1 := []) Try.call77 rfl (relate_mayBorrowAgain_ok fxa_0 fxb_0 hr111) rfl rfl) ?_
 rintro _ _ _ ⟨v113, _, rfl, ⟨⟨t112, rfl, rfl, rfl⟩, rfl⟩, _, rfl⟩
 refine jv (.bool (!t112)) (V.not rfl) <| J.nil <| cc rfl h (fun hc116 h => ?_) fun hc116 h => ?_
 · refine cr <| ja (nos) rfl <| ja (ii 8) rfl <| J.nil <| CJ.by (fun w hs => Sep.rowNil (e := 119) (t := (.cons (.int .i64) (.cons (.int .i64) (.cons (.int .i64) (.cons (.int .i64) (.one .bool)))))) hs) <| CJ.ret ?_
   obtain rfl := si h
   exact ⟨_, _, Res.two rfl rfl rfl, ⟨[], 8, none, 0, rfl, rfl, rfl⟩, (Hp.le_refl _), fun w hs => (Sep.dropAt 1 rfl (Sep.dropAt 1 rfl hs))⟩
 refine CJ.skip <| CJ.seq <| CJ.mix [Cl b109 26 [.slice adxb_0 xb.length cpxb_0], Cl b108 26 [.slice adxa_0 xa.length cpxa_0]] [([0, 1, 2, 3, 4, 5, 6, 7, 8, 9, 10, 11, 12, 13], 14)] [15] [] mixO (by decide +kernel) ⟨0, rfl, 0, rfl, trivial⟩ rfl rfl rfl <| JM.cons <| qv _ (V.fad Try.underlying26 rfl nz24 rfl) <| qv (.slice adxa_0 xa.length cpxa_0) (V.ld rfl (Ld.sc sc24 (Rd.cl 1 rfl rfl))) ?_
 obtain ⟨x139, hx140, h⟩ := ob h
 obtain ⟨p141, p142, p143⟩ := getI_some hx140
 obtain ⟨b144, o145, e146, a147⟩ := (fxa_0).at p142
 refine qv _ (V.iad Try.underlying24 sz86 rfl e146 rfl p141 p143) <| qv _ (V.fad Try.underlying86 rfl nz3 rfl) <| qv (ii x139.1) (V.ld rfl (Ld.sc sc3 (Rd.k ((a147).fst).int (Hp.le_refl _)))) <| qm (ii xc) rfl <| qv (.agg #[ii x139.1, ii xc, ii 3, ii 0, .bool false]) (V.build inf119 places119 rfl rfl) <| qm (ii xc) rfl <| qv _ (V.fad Try.underlying26 rfl nz24 rfl) ?_
 refine qv (.slice adxb_0 xb.length cpxb_0) (V.ld rfl (Ld.sc sc24 (Rd.cl 0 rfl rfl))) ?_
 obtain ⟨x148, hx149, h⟩ := ob h
 obtain ⟨p150, p151, p152⟩ := getI_some hx149
 obtain ⟨b153, o154, e155, a156⟩ := (fxb_0).at p151
 refine qv _ (V.iad Try.underlying24 sz86 rfl e155 rfl p150 p152) <| qv _ (V.fad Try.underlying86 rfl nz3 rfl) <| qv (ii x148.1) (V.ld rfl (Ld.sc sc3 (Rd.k ((a156).fst).int (Hp.le_refl _)))) <| qv (.agg #[ii xc, ii x148.1, ii 2, ii 0, .bool false]) (V.build inf119 places119 rfl rfl) <| JQ.nil ?_
 refine JA.op rfl (A.lit (K0 := Hp.nil) (ty := (.cons (.int .i64) (.cons (.int .i64) (.cons (.int .i64) (.cons (.int .i64) (.one .bool)))))) (xs := ([(x139.1, xc, 3, 0, false), (xc, x148.1, 2, 0, false)] : List (Int × Int × Int × Int × Bool))) Try.underlying88 inf119 rfl (by decide) rfl rfl rfl ⟨_, _, rfl, ⟨_, _, rfl, rfl, rfl, ⟨_, _, rfl, rfl, rfl, ⟨_, _, rfl, rfl, rfl, ⟨_, _, rfl, rfl, rfl, rfl⟩⟩⟩⟩, ⟨_, _, rfl, ⟨_, _, rfl, rfl, rfl, ⟨_, _, rfl, rfl, rfl, ⟨_, _, rfl, rfl, rfl, ⟨_, _, rfl, rfl, rfl, rfl⟩⟩⟩⟩, rfl⟩⟩ rfl (by decide)) ?_
 rintro _ _ _ ⟨b157, rfl, rfl, rfl⟩
 have hn158 : ([(x139.1, xc, 3, 0, false), (xc, x148.1, 2, 0, false)] : List (Int × Int × Int × Int × Bool)) ≠ [] → ∃ g, (some ⟨b157, 0, none⟩ : Option Addr) = some ⟨g, 0, none⟩ := fun _ => ⟨b157, rfl⟩
 refine ⟨fun w hs => Hold.sub (Hp.le_refl _) ⟨1, rfl, 1, rfl, trivial⟩ hs, ?_⟩
 refine JM.nil <| qa (.slice (some ⟨b157, 0, none⟩) ((([(x139.1, xc, 3, 0, false), (xc, x148.1, 2, 0, false)] : List (Int × Int × Int × Int × Bool))).length) 2) rfl <| JQ.nil <| J.nil <| CJ.seq <| CJ.mix [Row Hp.nil 119 (.cons (.int .i64) (.cons (.int .i64) (.cons (.int .i64) (.cons (.int .i64) (.one .bool))))) (.slice (some ⟨b157, 0, none⟩) ((([(x139.1, xc, 3, 0, false), (xc, x148.1, 2, 0, false)] : List (Int × Int × Int × Int × Bool))).length) 2) (([(x139.1, xc, 3, 0, false), (xc, x148.1, 2, 0, false)] : List (Int × Int × Int × Int × Bool))), Cl b109 26 [.slice adxb_0 xb.length cpxb_0], Cl b108 26 [.slice adxa_0 xa.length cpxa_0]] [([0, 1, 2, 3, 4, 5, 6], 7)] [] [8, 9, 10] mixO (by decide +kernel) ⟨0, rfl, 0, rfl, 0, rfl, trivial⟩ rfl rfl rfl <| JM.cons ?_
 refine qm (.slice (some ⟨b157, 0, none⟩) ((([(x139.1, xc, 3, 0, false), (xc, x148.1, 2, 0, false)] : List (Int × Int × Int × Int × Bool))).length) 2) rfl <| qv _ (V.fad Try.underlying26 rfl nz24 rfl) <| qv (.slice adxa_0 xa.length cpxa_0) (V.ld rfl (Ld.sc sc24 (Rd.cl 2 rfl rfl))) ?_
 obtain ⟨y182, hy183, h⟩ := ob h
 obtain ⟨ad184, cp185, hv186, f187⟩ := V.subI (tp := (.cons (.int .i64) (.one .bool))) Try.underlying24 sz86 fxa_0 hy183
 refine qv (.slice ad184 y182.length cp185) (hv186 rfl (fun _ h => by cases h; exact ⟨_, rfl⟩) nofun nofun (fun _ => rfl)) <| qv _ (V.fad Try.underlying26 rfl nz24 rfl) <| qv (.slice adxb_0 xb.length cpxb_0) (V.ld rfl (Ld.sc sc24 (Rd.cl 1 rfl rfl))) ?_
 obtain ⟨y188, hy189, h⟩ := ob h
 obtain ⟨ad190, cp191, hv192, f193⟩ := V.subI (tp := (.cons (.int .i64) (.one .bool))) Try.underlying24 sz86 fxb_0 hy189
 refine qv (.slice ad190 y188.length cp191) (hv192 rfl (fun _ h => by cases h; exact ⟨_, rfl⟩) nofun nofun (fun _ => rfl)) <| JQ.nil ?_
 obtain ⟨r194, hr195, h⟩ := ob h
 refine JA.op rfl (A.call (L1 := []) Try.call75 rfl (relate_related_ok f187 f193 hr195) rfl rfl) ?_
 rintro _ _ _ ⟨v200, _, rfl, ⟨⟨l196, ad197, cp198, rfl, rfl, rfl⟩, rfl⟩, _, rfl⟩
 refine ⟨fun w hs => Hold.sub (Hp.le_refl _) ⟨1, rfl, 1, rfl, 1, rfl, trivial⟩ hs, ?_⟩
 refine JM.wit Row.hn fun hn199 => JM.nil <| JQ.nil ?_
 obtain ⟨z204, hz205, h⟩ := ob h
 refine J.front 1 rfl <| J.op rfl (A.appR (Kr := Hp.nil) Try.underlying88 inf119 rfl rfl (by decide) (by decide) rfl rfl (Els.flat rfl) (Els.flat rfl) hz205) ?_
 rintro _ _ _ ⟨v206, rfl, rfl, rfl⟩
 refine J.wit Row.form ?_
 rintro ⟨ad207, cp208, rfl, _, _, hn209⟩
 refine ja (.slice ad207 z204.length cp208) rfl <| ja (ii 0) rfl <| J.nil <| CJ.ret ?_
 obtain rfl := si h
 exact ⟨_, _, Res.two rfl rfl rfl, ⟨z204, 0, ad207, cp208, rfl, rfl, rfl⟩, (Hp.le_refl _), fun w hs => (Sep.dropAt 1 rfl (Sep.dropAt 1 rfl hs))⟩

noncomputable def fn_stmt_Needs (xa : (Int × Int × Int × Int × Bool)) (xb : (List (List (Int × Bool)))) (xc : Int) : Option (((List (Int × Int × Int × Int × Bool)) × Int)) :=
  (fn_stmt_form (xa.1, xa.2.1, xa.2.2.1, xa.2.2.2.1, xa.2.2.2.2)).bind fun (t324, t325, t326, i327) => cond (!decide (i327 = 0)) (some (([], i327))) ((cond (t324) ((fn_stmt_Needs_1_ip0_k xa.2.1 xb).bind fun t346 => some (!t346)) (some (false))).bind fun t341 => (cond (t341) (some (true)) ((cond (t325) ((fn_stmt_Needs_1_ip0_k xa.2.2.1 xb).bind fun t382 => some (!t382)) (some (false))).bind fun t377 => some (t377))).bind fun t367 => cond (t367 || (t326 && ((decide (xa.2.2.2.1 < 0)) || (decide (xc ≤ xa.2.2.2.1))))) (some (([], 7))) (cond (decide (xa.1 = 1)) ((getI xb xa.2.2.1).bind fun x447 => (getI xb xa.2.1).bind fun x460 => (fn_relate_Flow x447 x460 1 0).bind fun (l475, i476) => some ((l475, i476))) (cond (decide (xa.1 = 2)) ((getI xb xa.2.2.1).bind fun x522 => (getI xb xa.2.1).bind fun x535 => (fn_relate_Loan x522 x535 xa.2.2.2.1 xa.2.2.2.2).bind fun (l550, i551) => some ((l550, i551))) (cond (decide (xa.1 = 3)) ((getI xb xa.2.2.1).bind fun x597 => (getI xb xa.2.1).bind fun x610 => (fn_relate_Again x597 x610 xa.2.2.2.1 xa.2.2.2.2).bind fun (l625, i626) => some ((l625, i626))) (some (([], 0)))))))
set_option maxRecDepth 100000 in
set_option maxHeartbeats 4000000 in
theorem stmt_Needs_ok {K : Hp} {xa : (Int × Int × Int × Int × Bool)} {xb : (List (List (Int × Bool)))} {xc : Int} {adxb_0 : Option Addr} {cpxb_0 : Nat} (fxb_0 : Is K (.sl (.one (.sl (.cons (.int .i64) (.one .bool))))) [.slice adxb_0 xb.length cpxb_0] xb) {r : ((List (Int × Int × Int × Int × Bool)) × Int)} (h : fn_stmt_Needs xa xb xc = some r) :
    Tr Try.prog 47 #[.agg #[ii xa.1, ii xa.2.1, ii xa.2.2.1, ii xa.2.2.2.1, .bool xa.2.2.2.2], .slice adxb_0 xb.length cpxb_0, ii xc] K [] (fun v K' L' => (∃ (l314 : (List (Int × Int × Int × Int × Bool))) (i319 : Int) (ad315 : Option Addr) (cp316 : Nat), (l314, i319) = r ∧ .tuple #[.slice ad315 l314.length cp316, ii i319] = v ∧ L' = [Row Hp.nil 119 (.cons (.int .i64) (.cons (.int .i64) (.cons (.int .i64) (.cons (.int .i64) (.one .bool))))) (.slice ad315 l314.length cp316) l314]) ∧ K = K') := by
 refine Tr.k <| Tr.of Try.func47 rfl Try.ntmps47 rfl fun E F => ?_
 unfold fn_stmt_Needs at h
 refine cr <| jbx [ii xa.1, ii xa.2.1, ii xa.2.2.1, ii xa.2.2.2.1, .bool xa.2.2.2.2] rfl rfl fun b320 => jbx [.slice adxb_0 xb.length cpxb_0] rfl rfl fun b321 => ja (nos) rfl <| ja (ii 0) rfl <| J.nil ?_
 refine cr <| jv (.agg #[ii xa.1, ii xa.2.1, ii xa.2.2.1, ii xa.2.2.2.1, .bool xa.2.2.2.2]) (V.ld rfl (Ld.agg (cs := [ii xa.1, ii xa.2.1, ii xa.2.2.1, ii xa.2.2.2.1, .bool xa.2.2.2.2]) Try.underlying76 sz76 rfl (Rd.cls 1 0 rfl rfl))) ?_
 obtain ⟨r322, hr323, h⟩ := ob h
 refine J.op rfl (A.call (L1 := []) Try.call61 rfl (stmt_form_ok hr323) rfl rfl) ?_
 rintro _ _ _ ⟨v328, _, rfl, ⟨⟨t324, t325, t326, i327, rfl, rfl, rfl⟩, rfl⟩, _, rfl⟩
 refine jm (.tuple #[.agg #[.bool t324, .bool t325, .bool t326], ii i327]) rfl <| jx (.agg #[.bool t324, .bool t325, .bool t326]) rfl rfl <| jx (ii i327) rfl rfl <| jal inf101 [.bool false, .bool false, .bool false] rfl fun b331 => js [.bool t324, .bool t325, .bool t326] sz101 rfl rfl rfl rfl rfl rfl <| ja (ii i327) rfl <| J.nil ?_
 refine CJ.seq <| cr <| jm (ii i327) rfl <| jv (.bool (!decide (i327 = 0))) (V.neq rfl rfl) <| J.nil <| cc rfl h (fun hc332 h => ?_) fun hc332 h => ?_
 · refine cr <| jm (ii i327) rfl <| ja (nos) rfl <| ja (ii i327) rfl <| J.nil <| CJ.by (fun w hs => Sep.rowNil (e := 119) (t := (.cons (.int .i64) (.cons (.int .i64) (.cons (.int .i64) (.cons (.int .i64) (.one .bool)))))) hs) ?_
   refine CJ.ret ?_
   obtain rfl := si h
   exact ⟨_, _, Res.two rfl rfl rfl, ⟨[], i327, none, 0, rfl, rfl, rfl⟩, (Hp.le_refl _), fun w hs => (Sep.dropAt 1 rfl (Sep.dropAt 1 rfl (Sep.dropAt 1 rfl hs)))⟩
 refine CJ.skip <| cr <| jv (.func (.func 62) #[] #[.pointer (some ⟨b321, 0, none⟩)]) (V.mkf rfl) <| ja (.func (.func 62) #[] #[.pointer (some ⟨b321, 0, none⟩)]) rfl <| J.nil <| CJ.seq ?_
 refine cr <| jv _ (V.fad Try.underlying101 rfl nz4 rfl) <| jv (.bool t324) (V.ld rfl (Ld.sc sc4 (Rd.cl 0 rfl rfl))) <| jm (.bool t324) rfl <| J.cut 6 ?_
 obtain ⟨t341, ht342, h⟩ := ob h
 refine jmeet [(28, .bool t341), (2, ii xc), (3, .pointer (some ⟨b320, 0, none⟩)), (4, .pointer (some ⟨b321, 0, none⟩)), (8, .pointer (some ⟨b331, 0, none⟩)), (10, .func (.func 62) #[] #[.pointer (some ⟨b321, 0, none⟩)])] ?_ ?_
 · rcases bt (t324) with hc343 | hc343
   · have ht342 := ct hc343 ht342
     refine J.run rfl rfl rfl hc343 <| jm (.func (.func 62) #[] #[.pointer (some ⟨b321, 0, none⟩)]) rfl <| J.run rfl rfl rfl hc343 <| jv _ (V.fad Try.underlying76 rfl nz3 rfl) <| J.run rfl rfl rfl hc343 <| jv (ii xa.2.1) (V.ld rfl (Ld.sc sc3 (Rd.cl 2 rfl rfl))) <| J.run rfl rfl rfl hc343 ?_
     obtain ⟨r344, hr345, ht342⟩ := ob ht342
     refine J.front 1 rfl <| J.op rfl (A.call (L1 := [Cl b321 23 [.slice adxb_0 xb.length cpxb_0]]) Try.call62 rfl (stmt_Needs_1_ip0_k_ok fxb_0 hr345) rfl rfl) ?_
     rintro _ _ _ ⟨v347, _, rfl, ⟨⟨t346, rfl, rfl, rfl⟩, rfl⟩, _, rfl⟩
     refine J.run rfl rfl rfl hc343 <| jv (.bool (!t346)) (V.not rfl) <| jv (.bool (!t346)) (V.pickT rfl hc343 rfl) <| J.front 2 rfl <| J.front 1 rfl <| J.front 2 rfl <| J.nil ?_
     obtain rfl := si ht342
     exact ⟨rfl, ⟨rfl, rfl, rfl, rfl, rfl, rfl, trivial⟩, rfl, rfl⟩
   have ht342 := cf hc343 ht342
   refine J.skip rfl rfl rfl rfl hc343 <| J.skip rfl rfl rfl rfl hc343 <| J.skip rfl rfl rfl rfl hc343 <| J.skip rfl rfl rfl rfl hc343 <| J.skip rfl rfl rfl rfl hc343 <| jv (.bool false) (V.pickF rfl hc343 rfl) <| J.nil ?_
   obtain rfl := si ht342
   exact ⟨rfl, ⟨rfl, rfl, rfl, rfl, rfl, rfl, trivial⟩, rfl, rfl⟩
 intro ρ
 refine jm (.bool t341) rfl <| J.cut 10 ?_
 obtain ⟨t367, ht368, h⟩ := ob h
 refine jmeet [(39, .bool t367), (2, ii xc), (3, .pointer (some ⟨b320, 0, none⟩)), (4, .pointer (some ⟨b321, 0, none⟩)), (8, .pointer (some ⟨b331, 0, none⟩))] ?_ ?_
 · rcases bt (t341) with hc369 | hc369
   · have ht368 := ct hc369 ht368
     refine J.skip rfl rfl rfl rfl hc369 <| J.skip rfl rfl rfl rfl hc369 <| J.skip rfl rfl rfl rfl hc369 <| J.skipu rfl rfl rfl rfl <| J.skipu rfl rfl rfl rfl <| J.skipu rfl rfl rfl rfl <| J.skipu rfl rfl rfl rfl ?_
     refine J.skipu rfl rfl rfl rfl <| J.skip rfl rfl rfl rfl hc369 <| jv (.bool true) (V.pickT rfl hc369 rfl) <| J.nil ?_
     obtain rfl := si ht368
     exact ⟨rfl, ⟨rfl, rfl, rfl, rfl, rfl, trivial⟩, rfl, rfl⟩
   have ht368 := cf hc369 ht368
   refine J.run rfl rfl rfl hc369 <| jv _ (V.fad Try.underlying101 rfl nz4 rfl) <| J.run rfl rfl rfl hc369 <| jv (.bool t325) (V.ld rfl (Ld.sc sc4 (Rd.cl 0 rfl rfl))) <| J.run rfl rfl rfl hc369 <| jm (.bool t325) rfl <| J.cut 6 ?_
   obtain ⟨t377, ht378, ht368⟩ := ob ht368
   refine jmeet [(38, .bool t377), (2, ii xc), (3, .pointer (some ⟨b320, 0, none⟩)), (4, .pointer (some ⟨b321, 0, none⟩)), (8, .pointer (some ⟨b331, 0, none⟩)), (29, .bool t341)] ?_ ?_
   · rcases bt (t325) with hc379 | hc379
     · have ht378 := ct hc379 ht378
       refine J.run rfl rfl rfl hc379 <| jm (.func (.func 62) #[] #[.pointer (some ⟨b321, 0, none⟩)]) rfl <| J.run rfl rfl rfl hc379 <| jv _ (V.fad Try.underlying76 rfl nz3 rfl) <| J.run rfl rfl rfl hc379 <| jv (ii xa.2.2.1) (V.ld rfl (Ld.sc sc3 (Rd.cl 2 rfl rfl))) <| J.run rfl rfl rfl hc379 ?_
       obtain ⟨r380, hr381, ht378⟩ := ob ht378
       refine J.front 1 rfl <| J.op rfl (A.call (L1 := [Cl b321 23 [.slice adxb_0 xb.length cpxb_0]]) Try.call62 rfl (stmt_Needs_1_ip0_k_ok fxb_0 hr381) rfl rfl) ?_
       rintro _ _ _ ⟨v383, _, rfl, ⟨⟨t382, rfl, rfl, rfl⟩, rfl⟩, _, rfl⟩
       refine J.run rfl rfl rfl hc379 <| jv (.bool (!t382)) (V.not rfl) <| J.run rfl rfl rfl hc369 <| jv (.bool (!t382)) (V.pickT rfl hc379 rfl) <| J.front 2 rfl <| J.front 1 rfl <| J.front 2 rfl ?_
       refine J.nil ?_
       obtain rfl := si ht378
       exact ⟨rfl, ⟨rfl, rfl, rfl, rfl, rfl, rfl, trivial⟩, rfl, rfl⟩
     have ht378 := cf hc379 ht378
     refine J.skip rfl rfl rfl rfl hc379 <| J.skip rfl rfl rfl rfl hc379 <| J.skip rfl rfl rfl rfl hc379 <| J.skip rfl rfl rfl rfl hc379 <| J.skip rfl rfl rfl rfl hc379 <| J.run rfl rfl rfl hc369 <| jv (.bool false) (V.pickF rfl hc379 rfl) ?_
     refine J.nil ?_
     obtain rfl := si ht378
     exact ⟨rfl, ⟨rfl, rfl, rfl, rfl, rfl, rfl, trivial⟩, rfl, rfl⟩
   intro ρ
   refine jv (.bool t377) (V.pickF rfl hc369 rfl) <| J.nil ?_
   obtain rfl := si ht368
   exact ⟨rfl, ⟨rfl, rfl, rfl, rfl, rfl, trivial⟩, rfl, rfl⟩
 intro ρ
 refine jm (.bool t367) rfl <| J.cut 14 <| jmeet [(54, .bool (t367 || (t326 && ((decide (xa.2.2.2.1 < 0)) || (decide (xc ≤ xa.2.2.2.1)))))), (3, .pointer (some ⟨b320, 0, none⟩)), (4, .pointer (some ⟨b321, 0, none⟩))] ?_ ?_
 · rcases bt (t367) with hc397 | hc397
   · refine J.skip rfl rfl rfl rfl hc397 <| J.skip rfl rfl rfl rfl hc397 <| J.skip rfl rfl rfl rfl hc397 <| J.skipu rfl rfl rfl rfl <| J.skipu rfl rfl rfl rfl <| J.skipu rfl rfl rfl rfl <| J.skipu rfl rfl rfl rfl ?_
     refine J.skipu rfl rfl rfl rfl <| J.skipu rfl rfl rfl rfl <| J.skipu rfl rfl rfl rfl <| J.skipu rfl rfl rfl rfl <| J.skipu rfl rfl rfl rfl <| J.skip rfl rfl rfl rfl hc397 <| jv (.bool true) (V.pickT rfl hc397 rfl) ?_
     refine J.nil ?_
     exact ⟨rfl, ⟨(by simp only [hc397]; rfl), rfl, rfl, trivial⟩, rfl, rfl⟩
   refine J.run rfl rfl rfl hc397 <| jv _ (V.fad Try.underlying101 rfl nz4 rfl) <| J.run rfl rfl rfl hc397 <| jv (.bool t326) (V.ld rfl (Ld.sc sc4 (Rd.cl 0 rfl rfl))) <| J.run rfl rfl rfl hc397 <| jm (.bool t326) rfl <| J.cut 10 ?_
   refine jmeet [(53, .bool (t326 && ((decide (xa.2.2.2.1 < 0)) || (decide (xc ≤ xa.2.2.2.1))))), (3, .pointer (some ⟨b320, 0, none⟩)), (4, .pointer (some ⟨b321, 0, none⟩)), (40, .bool t367)] ?_ ?_
   · rcases bt (t326) with hc403 | hc403
     · refine J.run rfl rfl rfl hc403 <| jv _ (V.fad Try.underlying76 rfl nz3 rfl) <| J.run rfl rfl rfl hc403 <| jv (ii xa.2.2.2.1) (V.ld rfl (Ld.sc sc3 (Rd.cl 2 rfl rfl))) <| J.run rfl rfl rfl hc403 <| jv (.bool (decide (xa.2.2.2.1 < 0))) (V.lss rfl rfl) <| J.run rfl rfl rfl hc403 ?_
       refine jm (.bool (decide (xa.2.2.2.1 < 0))) rfl <| J.cut 5 <| jmeet [(52, .bool ((decide (xa.2.2.2.1 < 0)) || (decide (xc ≤ xa.2.2.2.1)))), (3, .pointer (some ⟨b320, 0, none⟩)), (4, .pointer (some ⟨b321, 0, none⟩)), (40, .bool t367), (43, .bool t326)] ?_ ?_
       · rcases bt (decide (xa.2.2.2.1 < 0)) with hc406 | hc406
         · refine J.skip rfl rfl rfl rfl hc406 <| J.skip rfl rfl rfl rfl hc406 <| J.skip rfl rfl rfl rfl hc406 <| J.skip rfl rfl rfl rfl hc406 <| J.run rfl rfl rfl hc403 <| jv (.bool true) (V.pickT rfl hc406 rfl) <| J.nil ?_
           exact ⟨rfl, ⟨(by simp only [hc406]; rfl), rfl, rfl, rfl, rfl, trivial⟩, rfl, rfl⟩
         refine J.run rfl rfl rfl hc406 <| jv _ (V.fad Try.underlying76 rfl nz3 rfl) <| J.run rfl rfl rfl hc406 <| jv (ii xa.2.2.2.1) (V.ld rfl (Ld.sc sc3 (Rd.cl 2 rfl rfl))) <| J.run rfl rfl rfl hc406 <| jm (ii xc) rfl <| J.run rfl rfl rfl hc406 ?_
         refine jv (.bool (decide (xc ≤ xa.2.2.2.1))) (V.geq rfl rfl) <| J.run rfl rfl rfl hc403 <| jv (.bool (decide (xc ≤ xa.2.2.2.1))) (V.pickF rfl hc406 rfl) <| J.nil ?_
         exact ⟨rfl, ⟨(by simp only [hc406]; rfl), rfl, rfl, rfl, rfl, trivial⟩, rfl, rfl⟩
       intro ρ
       refine J.run rfl rfl rfl hc397 <| jv (.bool ((decide (xa.2.2.2.1 < 0)) || (decide (xc ≤ xa.2.2.2.1)))) (V.pickT rfl hc403 rfl) <| J.nil ?_
       exact ⟨rfl, ⟨(by simp only [hc403]; rfl), rfl, rfl, rfl, trivial⟩, rfl, rfl⟩
     refine J.skip rfl rfl rfl rfl hc403 <| J.skip rfl rfl rfl rfl hc403 <| J.skip rfl rfl rfl rfl hc403 <| J.skip rfl rfl rfl rfl hc403 <| J.skipu rfl rfl rfl rfl <| J.skipu rfl rfl rfl rfl <| J.skipu rfl rfl rfl rfl ?_
     refine J.skipu rfl rfl rfl rfl <| J.skip rfl rfl rfl rfl hc403 <| J.run rfl rfl rfl hc397 <| jv (.bool false) (V.pickF rfl hc403 rfl) <| J.nil ?_
     exact ⟨rfl, ⟨(by simp only [hc403]; rfl), rfl, rfl, rfl, trivial⟩, rfl, rfl⟩
   intro ρ
   refine jv (.bool (t326 && ((decide (xa.2.2.2.1 < 0)) || (decide (xc ≤ xa.2.2.2.1))))) (V.pickF rfl hc397 rfl) <| J.nil ?_
   exact ⟨rfl, ⟨(by simp only [hc397]; rfl), rfl, rfl, trivial⟩, rfl, rfl⟩
 intro ρ
 refine J.nil <| cc rfl h (fun hc407 h => ?_) fun hc407 h => ?_
 · refine cr <| ja (nos) rfl <| ja (ii 7) rfl <| J.nil <| CJ.by (fun w hs => Sep.rowNil (e := 119) (t := (.cons (.int .i64) (.cons (.int .i64) (.cons (.int .i64) (.cons (.int .i64) (.one .bool)))))) hs) <| CJ.ret ?_
   obtain rfl := si h
   exact ⟨_, _, Res.two rfl rfl rfl, ⟨[], 7, none, 0, rfl, rfl, rfl⟩, (Hp.le_refl _), fun w hs => (Sep.dropAt 1 rfl (Sep.dropAt 1 rfl (Sep.dropAt 1 rfl hs)))⟩
 refine CJ.skip <| CJ.seq <| cr <| jv _ (V.fad Try.underlying76 rfl nz3 rfl) <| jv (ii xa.1) (V.ld rfl (Ld.sc sc3 (Rd.cl 2 rfl rfl))) <| J.nil ?_
 refine CJ.block <| cr <| jv (.bool (decide (xa.1 = 1))) (V.eql rfl rfl) <| ja (.bool (decide (xa.1 = 1))) rfl <| J.nil <| cc rfl h (fun hc409 h => ?_) fun hc409 h => ?_
 · refine CJ.seq <| CJ.mix [Cl b331 101 [.bool t324, .bool t325, .bool t326], Cl b321 23 [.slice adxb_0 xb.length cpxb_0], Cl b320 76 [ii xa.1, ii xa.2.1, ii xa.2.2.1, ii xa.2.2.2.1, .bool xa.2.2.2.2]] [([0, 1, 2, 3, 4, 5, 6, 7, 8, 9], 10)] [11, 12, 13, 14] [] mixO (by decide +kernel) ⟨0, rfl, 0, rfl, 0, rfl, trivial⟩ rfl rfl rfl <| JM.cons <| qv (.slice adxb_0 xb.length cpxb_0) (V.ld rfl (Ld.sc sc23 (Rd.cl 1 rfl rfl))) <| qv _ (V.fad Try.underlying76 rfl nz3 rfl) <| qv (ii xa.2.2.1) (V.ld rfl (Ld.sc sc3 (Rd.cl 2 rfl rfl))) ?_
   obtain ⟨x447, hx448, h⟩ := ob h
   obtain ⟨p449, p450, p451⟩ := getI_some hx448
   obtain ⟨b452, o453, e454, a455⟩ := (fxb_0).at p450
   refine qv _ (V.iad Try.underlying23 sz26 rfl e454 rfl p449 p451) ?_
   obtain ⟨ad456, cp457, c458, f459⟩ := ((a455).one).sl
   refine qv (.agg #[.slice ad456 x447.length cp457]) (V.ld rfl (Ld.aggK (cs := [.slice ad456 x447.length cp457]) Try.underlying26 sz26 rfl ⟨c458, trivial⟩ (Hp.le_refl _))) <| qv (.slice adxb_0 xb.length cpxb_0) (V.ld rfl (Ld.sc sc23 (Rd.cl 1 rfl rfl))) <| qv _ (V.fad Try.underlying76 rfl nz3 rfl) <| qv (ii xa.2.1) (V.ld rfl (Ld.sc sc3 (Rd.cl 2 rfl rfl))) ?_
   obtain ⟨x460, hx461, h⟩ := ob h
   obtain ⟨p462, p463, p464⟩ := getI_some hx461
   obtain ⟨b465, o466, e467, a468⟩ := (fxb_0).at p463
   refine qv _ (V.iad Try.underlying23 sz26 rfl e467 rfl p462 p464) ?_
   obtain ⟨ad469, cp470, c471, f472⟩ := ((a468).one).sl
   refine qv (.agg #[.slice ad469 x460.length cp470]) (V.ld rfl (Ld.aggK (cs := [.slice ad469 x460.length cp470]) Try.underlying26 sz26 rfl ⟨c471, trivial⟩ (Hp.le_refl _))) <| JQ.nil ?_
   obtain ⟨r473, hr474, h⟩ := ob h
   refine JA.op rfl (A.call (L1 := []) Try.call63 rfl (relate_Flow_ok f459 f472 hr474) rfl rfl) ?_
   rintro _ _ _ ⟨v480, _, rfl, ⟨⟨l475, i476, ad477, cp478, rfl, rfl, rfl⟩, rfl⟩, _, rfl⟩
   refine ⟨fun w hs => Hold.sub (Hp.le_refl _) ⟨1, rfl, 1, rfl, 1, rfl, trivial⟩ hs, ?_⟩
   refine JM.wit Row.hn fun hn479 => JM.nil <| qv (.slice ad477 l475.length cp478) (V.ext rfl rfl) <| qv (ii i476) (V.ext rfl rfl) <| qa (.slice ad477 l475.length cp478) rfl <| qa (ii i476) rfl <| JQ.nil ?_
   refine J.nil <| CJ.ret ?_
   obtain rfl := si h
   exact ⟨_, _, Res.two rfl rfl rfl, ⟨l475, i476, ad477, cp478, rfl, rfl, rfl⟩, (Hp.le_refl _), fun w hs => (Sep.dropAt 1 rfl (Sep.dropAt 1 rfl (Sep.dropAt 1 rfl hs)))⟩
 refine cr <| jv (.bool (decide (xa.1 = 2))) (V.eql rfl rfl) <| ja (.bool (decide (xa.1 = 2))) rfl <| J.nil <| cc rfl h (fun hc484 h => ?_) fun hc484 h => ?_
 · refine CJ.seq <| CJ.mix [Cl b331 101 [.bool t324, .bool t325, .bool t326], Cl b321 23 [.slice adxb_0 xb.length cpxb_0], Cl b320 76 [ii xa.1, ii xa.2.1, ii xa.2.2.1, ii xa.2.2.2.1, .bool xa.2.2.2.2]] [([0, 1, 2, 3, 4, 5, 6, 7, 8, 9, 10, 11, 12, 13], 14)] [15, 16, 17, 18] [] mixO (by decide +kernel) ⟨0, rfl, 0, rfl, 0, rfl, trivial⟩ rfl rfl rfl <| JM.cons <| qv (.slice adxb_0 xb.length cpxb_0) (V.ld rfl (Ld.sc sc23 (Rd.cl 1 rfl rfl))) <| qv _ (V.fad Try.underlying76 rfl nz3 rfl) <| qv (ii xa.2.2.1) (V.ld rfl (Ld.sc sc3 (Rd.cl 2 rfl rfl))) ?_
   obtain ⟨x522, hx523, h⟩ := ob h
   obtain ⟨p524, p525, p526⟩ := getI_some hx523
   obtain ⟨b527, o528, e529, a530⟩ := (fxb_0).at p525
   refine qv _ (V.iad Try.underlying23 sz26 rfl e529 rfl p524 p526) ?_
   obtain ⟨ad531, cp532, c533, f534⟩ := ((a530).one).sl
   refine qv (.agg #[.slice ad531 x522.length cp532]) (V.ld rfl (Ld.aggK (cs := [.slice ad531 x522.length cp532]) Try.underlying26 sz26 rfl ⟨c533, trivial⟩ (Hp.le_refl _))) <| qv (.slice adxb_0 xb.length cpxb_0) (V.ld rfl (Ld.sc sc23 (Rd.cl 1 rfl rfl))) <| qv _ (V.fad Try.underlying76 rfl nz3 rfl) <| qv (ii xa.2.1) (V.ld rfl (Ld.sc sc3 (Rd.cl 2 rfl rfl))) ?_
   obtain ⟨x535, hx536, h⟩ := ob h
   obtain ⟨p537, p538, p539⟩ := getI_some hx536
   obtain ⟨b540, o541, e542, a543⟩ := (fxb_0).at p538
   refine qv _ (V.iad Try.underlying23 sz26 rfl e542 rfl p537 p539) ?_
   obtain ⟨ad544, cp545, c546, f547⟩ := ((a543).one).sl
   refine qv (.agg #[.slice ad544 x535.length cp545]) (V.ld rfl (Ld.aggK (cs := [.slice ad544 x535.length cp545]) Try.underlying26 sz26 rfl ⟨c546, trivial⟩ (Hp.le_refl _))) <| qv _ (V.fad Try.underlying76 rfl nz3 rfl) <| qv (ii xa.2.2.2.1) (V.ld rfl (Ld.sc sc3 (Rd.cl 2 rfl rfl))) <| qv _ (V.fad Try.underlying76 rfl nz4 rfl) <| qv (.bool xa.2.2.2.2) (V.ld rfl (Ld.sc sc4 (Rd.cl 2 rfl rfl))) <| JQ.nil ?_
   obtain ⟨r548, hr549, h⟩ := ob h
   refine JA.op rfl (A.call (L1 := []) Try.call64 rfl (relate_Loan_ok f534 f547 hr549) rfl rfl) ?_
   rintro _ _ _ ⟨v555, _, rfl, ⟨⟨l550, i551, ad552, cp553, rfl, rfl, rfl⟩, rfl⟩, _, rfl⟩
   refine ⟨fun w hs => Hold.sub (Hp.le_refl _) ⟨1, rfl, 1, rfl, 1, rfl, trivial⟩ hs, ?_⟩
   refine JM.wit Row.hn fun hn554 => JM.nil <| qv (.slice ad552 l550.length cp553) (V.ext rfl rfl) <| qv (ii i551) (V.ext rfl rfl) <| qa (.slice ad552 l550.length cp553) rfl <| qa (ii i551) rfl <| JQ.nil ?_
   refine J.nil <| CJ.ret ?_
   obtain rfl := si h
   exact ⟨_, _, Res.two rfl rfl rfl, ⟨l550, i551, ad552, cp553, rfl, rfl, rfl⟩, (Hp.le_refl _), fun w hs => (Sep.dropAt 1 rfl (Sep.dropAt 1 rfl (Sep.dropAt 1 rfl hs)))⟩
 refine cr <| jv (.bool (decide (xa.1 = 3))) (V.eql rfl rfl) <| ja (.bool (decide (xa.1 = 3))) rfl <| J.nil <| cc rfl h (fun hc559 h => ?_) fun hc559 h => ?_
 · refine CJ.seq <| CJ.mix [Cl b331 101 [.bool t324, .bool t325, .bool t326], Cl b321 23 [.slice adxb_0 xb.length cpxb_0], Cl b320 76 [ii xa.1, ii xa.2.1, ii xa.2.2.1, ii xa.2.2.2.1, .bool xa.2.2.2.2]] [([0, 1, 2, 3, 4, 5, 6, 7, 8, 9, 10, 11, 12, 13], 14)] [15, 16, 17, 18] [] mixO (by decide +kernel) ⟨0, rfl, 0, rfl, 0, rfl, trivial⟩ rfl rfl rfl <| JM.cons <| qv (.slice adxb_0 xb.length cpxb_0) (V.ld rfl (Ld.sc sc23 (Rd.cl 1 rfl rfl))) <| qv _ (V.fad Try.underlying76 rfl nz3 rfl) <| qv (ii xa.2.2.1) (V.ld rfl (Ld.sc sc3 (Rd.cl 2 rfl rfl))) ?_
   obtain ⟨x597, hx598, h⟩ := ob h
   obtain ⟨p599, p600, p601⟩ := getI_some hx598
   obtain ⟨b602, o603, e604, a605⟩ := (fxb_0).at p600
   refine qv _ (V.iad Try.underlying23 sz26 rfl e604 rfl p599 p601) ?_
   obtain ⟨ad606, cp607, c608, f609⟩ := ((a605).one).sl
   refine qv (.agg #[.slice ad606 x597.length cp607]) (V.ld rfl (Ld.aggK (cs := [.slice ad606 x597.length cp607]) Try.underlying26 sz26 rfl ⟨c608, trivial⟩ (Hp.le_refl _))) <| qv (.slice adxb_0 xb.length cpxb_0) (V.ld rfl (Ld.sc sc23 (Rd.cl 1 rfl rfl))) <| qv _ (V.fad Try.underlying76 rfl nz3 rfl) <| qv (ii xa.2.1) (V.ld rfl (Ld.sc sc3 (Rd.cl 2 rfl rfl))) ?_
   obtain ⟨x610, hx611, h⟩ := ob h
   obtain ⟨p612, p613, p614⟩ := getI_some hx611
   obtain ⟨b615, o616, e617, a618⟩ := (fxb_0).at p613
   refine qv _ (V.iad Try.underlying23 sz26 rfl e617 rfl p612 p614) ?_
   obtain ⟨ad619, cp620, c621, f622⟩ := ((a618).one).sl
   refine qv (.agg #[.slice ad619 x610.length cp620]) (V.ld rfl (Ld.aggK (cs := [.slice ad619 x610.length cp620]) Try.underlying26 sz26 rfl ⟨c621, trivial⟩ (Hp.le_refl _))) <| qv _ (V.fad Try.underlying76 rfl nz3 rfl) <| qv (ii xa.2.2.2.1) (V.ld rfl (Ld.sc sc3 (Rd.cl 2 rfl rfl))) <| qv _ (V.fad Try.underlying76 rfl nz4 rfl) <| qv (.bool xa.2.2.2.2) (V.ld rfl (Ld.sc sc4 (Rd.cl 2 rfl rfl))) <| JQ.nil ?_
   obtain ⟨r623, hr624, h⟩ := ob h
   refine JA.op rfl (A.call (L1 := []) Try.call65 rfl (relate_Again_ok f609 f622 hr624) rfl rfl) ?_
   rintro _ _ _ ⟨v630, _, rfl, ⟨⟨l625, i626, ad627, cp628, rfl, rfl, rfl⟩, rfl⟩, _, rfl⟩
   refine ⟨fun w hs => Hold.sub (Hp.le_refl _) ⟨1, rfl, 1, rfl, 1, rfl, trivial⟩ hs, ?_⟩
   refine JM.wit Row.hn fun hn629 => JM.nil <| qv (.slice ad627 l625.length cp628) (V.ext rfl rfl) <| qv (ii i626) (V.ext rfl rfl) <| qa (.slice ad627 l625.length cp628) rfl <| qa (ii i626) rfl <| JQ.nil ?_
   refine J.nil <| CJ.ret ?_
   obtain rfl := si h
   exact ⟨_, _, Res.two rfl rfl rfl, ⟨l625, i626, ad627, cp628, rfl, rfl, rfl⟩, (Hp.le_refl _), fun w hs => (Sep.dropAt 1 rfl (Sep.dropAt 1 rfl (Sep.dropAt 1 rfl hs)))⟩
 refine CJ.skip <| cr <| ja (nos) rfl <| ja (ii 0) rfl <| J.nil <| CJ.by (fun w hs => Sep.rowNil (e := 119) (t := (.cons (.int .i64) (.cons (.int .i64) (.cons (.int .i64) (.cons (.int .i64) (.one .bool)))))) hs) ?_
 refine CJ.ret ?_
 obtain rfl := si h
 exact ⟨_, _, Res.two rfl rfl rfl, ⟨[], 0, none, 0, rfl, rfl, rfl⟩, (Hp.le_refl _), fun w hs => (Sep.dropAt 1 rfl (Sep.dropAt 1 rfl (Sep.dropAt 1 rfl hs)))⟩

noncomputable def fn_stmt_Check (xa : (Int × Int × Int × Int × Bool)) (xb : (List (List (Int × Bool)))) (xc : Int) : Option Int :=
  (fn_stmt_Needs (xa.1, xa.2.1, xa.2.2.1, xa.2.2.2.1, xa.2.2.2.2) xb xc).bind fun (l17, i18) => some (i18)
set_option maxRecDepth 100000 in
set_option maxHeartbeats 4000000 in
theorem stmt_Check_ok {K : Hp} {xa : (Int × Int × Int × Int × Bool)} {xb : (List (List (Int × Bool)))} {xc : Int} {adxb_0 : Option Addr} {cpxb_0 : Nat} (fxb_0 : Is K (.sl (.one (.sl (.cons (.int .i64) (.one .bool))))) [.slice adxb_0 xb.length cpxb_0] xb) {r : Int} (h : fn_stmt_Check xa xb xc = some r) :
    Tr Try.prog 36 #[.agg #[ii xa.1, ii xa.2.1, ii xa.2.2.1, ii xa.2.2.2.1, .bool xa.2.2.2.2], .slice adxb_0 xb.length cpxb_0, ii xc] K [] (fun v K' L' => (∃ (i13 : Int), i13 = r ∧ ii i13 = v ∧ L' = []) ∧ K = K') := by
 refine Tr.k <| Tr.of Try.func36 rfl Try.ntmps36 rfl fun E F => ?_
 unfold fn_stmt_Check at h
 refine cr <| jbx [ii xa.1, ii xa.2.1, ii xa.2.2.1, ii xa.2.2.2.1, .bool xa.2.2.2.2] rfl rfl fun b14 => ja (ii 0) rfl <| J.nil <| CJ.seq <| CJ.region ?_
 refine jv (.agg #[ii xa.1, ii xa.2.1, ii xa.2.2.1, ii xa.2.2.2.1, .bool xa.2.2.2.2]) (V.ld rfl (Ld.agg (cs := [ii xa.1, ii xa.2.1, ii xa.2.2.1, ii xa.2.2.2.1, .bool xa.2.2.2.2]) Try.underlying76 sz76 rfl (Rd.cls 0 0 rfl rfl))) <| jm (.slice adxb_0 xb.length cpxb_0) rfl <| jm (ii xc) rfl ?_
 obtain ⟨r15, hr16, h⟩ := ob h
 refine J.op rfl (A.call (L1 := []) Try.call47 rfl (stmt_Needs_ok fxb_0 hr16) rfl rfl) ?_
 rintro _ _ _ ⟨v22, _, rfl, ⟨⟨l17, i18, ad19, cp20, rfl, rfl, rfl⟩, rfl⟩, _, rfl⟩
 refine J.wit Row.hn fun hn21 => jm (.tuple #[.slice ad19 l17.length cp20, ii i18]) rfl <| jx (.slice ad19 l17.length cp20) rfl rfl <| jx (ii i18) rfl rfl <| ja (.slice ad19 l17.length cp20) rfl <| ja (ii i18) rfl <| J.nil ?_
 refine cr <| jm (ii i18) rfl <| ja (ii i18) rfl <| J.nil <| CJ.ret ?_
 obtain rfl := si h
 exact ⟨_, _, Res.one rfl rfl, ⟨i18, rfl, rfl, rfl⟩, (Hp.le_refl _), fun w hs => (Sep.dropAt 0 rfl (Sep.dropAt 0 rfl hs))⟩

noncomputable def fn_term_calls (xa : (Int × Int × Int × (List Int) × (List Int) × (List Int))) : Option Bool :=
  some (((!decide (xa.2.1 = 0)) || (!decide (xa.2.2.1 = 0))) || (decide (0 < (((xa.2.2.2.2.2.length : Nat) : Int)))))
set_option maxRecDepth 100000 in
set_option maxHeartbeats 4000000 in
theorem term_calls_ok {K : Hp} {xa : (Int × Int × Int × (List Int) × (List Int) × (List Int))} {adxa_3 : Option Addr} {cpxa_3 : Nat} {adxa_4 : Option Addr} {cpxa_4 : Nat} {adxa_5 : Option Addr} {cpxa_5 : Nat} (fxa_3 : Is K (.sl (.int .i64)) [.slice adxa_3 xa.2.2.2.1.length cpxa_3] xa.2.2.2.1) (fxa_4 : Is K (.sl (.int .i64)) [.slice adxa_4 xa.2.2.2.2.1.length cpxa_4] xa.2.2.2.2.1) (fxa_5 : Is K (.sl (.int .i64)) [.slice adxa_5 xa.2.2.2.2.2.length cpxa_5] xa.2.2.2.2.2) {r : Bool} (h : fn_term_calls xa = some r) :
    Tr Try.prog 78 #[.agg #[ii xa.1, ii xa.2.1, ii xa.2.2.1, .slice adxa_3 xa.2.2.2.1.length cpxa_3, .slice adxa_4 xa.2.2.2.2.1.length cpxa_4, .slice adxa_5 xa.2.2.2.2.2.length cpxa_5]] K [] (fun v K' L' => (∃ (t8 : Bool), t8 = r ∧ .bool t8 = v ∧ L' = []) ∧ K = K') := by
 refine Tr.k <| Tr.of Try.func78 rfl Try.ntmps78 rfl fun E F => ?_
 unfold fn_term_calls at h
 refine cr <| jbx [ii xa.1, ii xa.2.1, ii xa.2.2.1, .slice adxa_3 xa.2.2.2.1.length cpxa_3, .slice adxa_4 xa.2.2.2.2.1.length cpxa_4, .slice adxa_5 xa.2.2.2.2.2.length cpxa_5] rfl rfl fun b9 => ja (.bool false) rfl <| J.nil <| CJ.seq <| CJ.region ?_
 refine jv _ (V.fad Try.underlying54 rfl nz3 rfl) <| jv (ii xa.2.1) (V.ld rfl (Ld.sc sc3 (Rd.cl 0 rfl rfl))) <| jv (.bool (!decide (xa.2.1 = 0))) (V.neq rfl rfl) <| jm (.bool (!decide (xa.2.1 = 0))) rfl <| J.cut 4 <| jmeet [(10, .bool ((!decide (xa.2.1 = 0)) || (!decide (xa.2.2.1 = 0)))), (1, .pointer (some ⟨b9, 0, none⟩))] ?_ ?_
 · rcases bt (!decide (xa.2.1 = 0)) with hc12 | hc12
   · refine J.skip rfl rfl rfl rfl hc12 <| J.skip rfl rfl rfl rfl hc12 <| J.skip rfl rfl rfl rfl hc12 <| jv (.bool true) (V.pickT rfl hc12 rfl) <| J.nil ?_
     exact ⟨rfl, ⟨(by simp only [hc12]; rfl), rfl, trivial⟩, rfl, rfl⟩
   refine J.run rfl rfl rfl hc12 <| jv _ (V.fad Try.underlying54 rfl nz3 rfl) <| J.run rfl rfl rfl hc12 <| jv (ii xa.2.2.1) (V.ld rfl (Ld.sc sc3 (Rd.cl 0 rfl rfl))) <| J.run rfl rfl rfl hc12 <| jv (.bool (!decide (xa.2.2.1 = 0))) (V.neq rfl rfl) <| jv (.bool (!decide (xa.2.2.1 = 0))) (V.pickF rfl hc12 rfl) ?_
   refine J.nil ?_
   exact ⟨rfl, ⟨(by simp only [hc12]; rfl), rfl, trivial⟩, rfl, rfl⟩
 intro ρ
 refine jm (.bool ((!decide (xa.2.1 = 0)) || (!decide (xa.2.2.1 = 0)))) rfl <| J.cut 5 <| jmeet [(16, .bool (((!decide (xa.2.1 = 0)) || (!decide (xa.2.2.1 = 0))) || (decide (0 < (((xa.2.2.2.2.2.length : Nat) : Int))))))] ?_ ?_
 · rcases bt ((!decide (xa.2.1 = 0)) || (!decide (xa.2.2.1 = 0))) with hc15 | hc15
   · refine J.skip rfl rfl rfl rfl hc15 <| J.skip rfl rfl rfl rfl hc15 <| J.skip rfl rfl rfl rfl hc15 <| J.skip rfl rfl rfl rfl hc15 <| jv (.bool true) (V.pickT rfl hc15 rfl) <| J.nil ?_
     exact ⟨rfl, ⟨(by simp only [hc15]; rfl), trivial⟩, rfl, rfl⟩
   refine J.run rfl rfl rfl hc15 <| jv _ (V.fad Try.underlying54 rfl nz52 rfl) <| J.run rfl rfl rfl hc15 <| jv (.slice adxa_5 xa.2.2.2.2.2.length cpxa_5) (V.ld rfl (Ld.sc sc52 (Rd.cl 0 rfl rfl))) <| J.run rfl rfl rfl hc15 <| jv (ii (((xa.2.2.2.2.2.length : Nat) : Int))) (V.len Try.underlying52 rfl) <| J.run rfl rfl rfl hc15 ?_
   refine jv (.bool (decide (0 < (((xa.2.2.2.2.2.length : Nat) : Int))))) (V.gtr rfl rfl) <| jv (.bool (decide (0 < (((xa.2.2.2.2.2.length : Nat) : Int))))) (V.pickF rfl hc15 rfl) <| J.nil ?_
   exact ⟨rfl, ⟨(by simp only [hc15]; rfl), trivial⟩, rfl, rfl⟩
 intro ρ
 refine ja (.bool (((!decide (xa.2.1 = 0)) || (!decide (xa.2.2.1 = 0))) || (decide (0 < (((xa.2.2.2.2.2.length : Nat) : Int)))))) rfl <| J.nil <| CJ.ret ?_
 obtain rfl := si h
 exact ⟨_, _, Res.one rfl rfl, ⟨((!decide (xa.2.1 = 0)) || (!decide (xa.2.2.1 = 0))) || (decide (0 < (((xa.2.2.2.2.2.length : Nat) : Int)))), rfl, rfl, rfl⟩, (Hp.le_refl _), fun w hs => (Sep.dropAt 0 rfl hs)⟩

noncomputable def fn_term_form (xa : (Int × Int × Int × (List Int) × (List Int) × (List Int))) : Option Int :=
  (cond (decide (xa.1 = 1)) ((cond ((decide ((((xa.2.2.2.1.length : Nat) : Int)) = 1)) && (decide ((((xa.2.2.2.2.1.length : Nat) : Int)) = 0))) ((fn_term_calls (xa.1, xa.2.1, xa.2.2.1, xa.2.2.2.1, xa.2.2.2.2.1, xa.2.2.2.2.2)).bind fun t210 => some (!t210)) (some (false))).bind fun t205 => some (t205)) (cond (decide (xa.1 = 2)) ((cond (decide (0 < (((xa.2.2.2.1.length : Nat) : Int)))) ((fn_term_calls (xa.1, xa.2.1, xa.2.2.1, xa.2.2.2.1, xa.2.2.2.2.1, xa.2.2.2.2.2)).bind fun t227 => some (!t227)) (some (false))).bind fun t222 => some (t222)) (cond (decide (xa.1 = 3)) ((cond ((decide ((((xa.2.2.2.1.length : Nat) : Int)) = 0)) && (decide ((((xa.2.2.2.2.1.length : Nat) : Int)) = 0))) ((fn_term_calls (xa.1, xa.2.1, xa.2.2.1, xa.2.2.2.1, xa.2.2.2.2.1, xa.2.2.2.2.2)).bind fun t247 => some (!t247)) (some (false))).bind fun t242 => some (t242)) (cond (decide (xa.1 = 4)) (some (decide ((((xa.2.2.2.1.length : Nat) : Int)) = 1))) (some (false))))) : Option Bool).bind fun t191 => cond (!t191) (some (3)) (cond (((decide (16 < (((xa.2.2.2.1.length : Nat) : Int)))) || (decide (16 < (((xa.2.2.2.2.1.length : Nat) : Int))))) || (decide (16 < (((xa.2.2.2.2.2.length : Nat) : Int))))) (some (6)) (some (0)))
set_option maxRecDepth 100000 in
set_option maxHeartbeats 4000000 in
theorem term_form_ok {K : Hp} {xa : (Int × Int × Int × (List Int) × (List Int) × (List Int))} {adxa_3 : Option Addr} {cpxa_3 : Nat} {adxa_4 : Option Addr} {cpxa_4 : Nat} {adxa_5 : Option Addr} {cpxa_5 : Nat} (fxa_3 : Is K (.sl (.int .i64)) [.slice adxa_3 xa.2.2.2.1.length cpxa_3] xa.2.2.2.1) (fxa_4 : Is K (.sl (.int .i64)) [.slice adxa_4 xa.2.2.2.2.1.length cpxa_4] xa.2.2.2.2.1) (fxa_5 : Is K (.sl (.int .i64)) [.slice adxa_5 xa.2.2.2.2.2.length cpxa_5] xa.2.2.2.2.2) {r : Int} (h : fn_term_form xa = some r) :
    Tr Try.prog 66 #[.agg #[ii xa.1, ii xa.2.1, ii xa.2.2.1, .slice adxa_3 xa.2.2.2.1.length cpxa_3, .slice adxa_4 xa.2.2.2.2.1.length cpxa_4, .slice adxa_5 xa.2.2.2.2.2.length cpxa_5]] K [] (fun v K' L' => (∃ (i131 : Int), i131 = r ∧ ii i131 = v ∧ L' = []) ∧ K = K') := by
 refine Tr.k <| Tr.of Try.func66 rfl Try.ntmps66 rfl fun E F => ?_
 unfold fn_term_form at h
 refine cr <| jbx [ii xa.1, ii xa.2.1, ii xa.2.2.1, .slice adxa_3 xa.2.2.2.1.length cpxa_3, .slice adxa_4 xa.2.2.2.2.1.length cpxa_4, .slice adxa_5 xa.2.2.2.2.2.length cpxa_5] rfl rfl fun b132 => ja (ii 0) rfl <| J.nil <| CJ.seq <| CJ.region ?_
 refine ja (.bool false) rfl <| J.nil <| CJ.seq ?_
 obtain ⟨o192, ho193, h⟩ := ob h
 refine CJ.meetN (fun ρ K' L' => ∃ (t191 : Bool), t191 = o192 ∧ Fits [(1, .pointer (some ⟨b132, 0, none⟩)), (3, .bool t191)] ρ ∧ K = K' ∧ L' = Cl b132 54 [ii xa.1, ii xa.2.1, ii xa.2.2.1, .slice adxa_3 xa.2.2.2.1.length cpxa_3, .slice adxa_4 xa.2.2.2.2.1.length cpxa_4, .slice adxa_5 xa.2.2.2.2.2.length cpxa_5] :: F) ?_ ?_
 · refine cr <| jv _ (V.fad Try.underlying54 rfl nz3 rfl) <| jv (ii xa.1) (V.ld rfl (Ld.sc sc3 (Rd.cl 0 rfl rfl))) <| J.nil <| CJ.block <| CJ.seq ?_
   refine CJ.region <| jv (.bool (decide (xa.1 = 1))) (V.eql rfl rfl) <| ja (.bool (decide (xa.1 = 1))) rfl <| J.nil <| cc rfl ho193 (fun hc194 ho193 => ?_) fun hc194 ho193 => ?_
   · refine CJ.region <| jv _ (V.fad Try.underlying54 rfl nz52 rfl) <| jv (.slice adxa_3 xa.2.2.2.1.length cpxa_3) (V.ld rfl (Ld.sc sc52 (Rd.cl 0 rfl rfl))) <| jv (ii (((xa.2.2.2.1.length : Nat) : Int))) (V.len Try.underlying52 rfl) <| jv (.bool (decide ((((xa.2.2.2.1.length : Nat) : Int)) = 1))) (V.eql rfl rfl) <| jm (.bool (decide ((((xa.2.2.2.1.length : Nat) : Int)) = 1))) rfl <| J.cut 5 ?_
     refine jmeet [(17, .bool ((decide ((((xa.2.2.2.1.length : Nat) : Int)) = 1)) && (decide ((((xa.2.2.2.2.1.length : Nat) : Int)) = 0)))), (1, .pointer (some ⟨b132, 0, none⟩))] ?_ ?_
     · rcases bt (decide ((((xa.2.2.2.1.length : Nat) : Int)) = 1)) with hc197 | hc197
       · refine J.run rfl rfl rfl hc197 <| jv _ (V.fad Try.underlying54 rfl nz52 rfl) <| J.run rfl rfl rfl hc197 <| jv (.slice adxa_4 xa.2.2.2.2.1.length cpxa_4) (V.ld rfl (Ld.sc sc52 (Rd.cl 0 rfl rfl))) <| J.run rfl rfl rfl hc197 <| jv (ii (((xa.2.2.2.2.1.length : Nat) : Int))) (V.len Try.underlying52 rfl) <| J.run rfl rfl rfl hc197 ?_
         refine jv (.bool (decide ((((xa.2.2.2.2.1.length : Nat) : Int)) = 0))) (V.eql rfl rfl) <| jv (.bool (decide ((((xa.2.2.2.2.1.length : Nat) : Int)) = 0))) (V.pickT rfl hc197 rfl) <| J.nil ?_
         exact ⟨rfl, ⟨(by simp only [hc197]; rfl), rfl, trivial⟩, rfl, rfl⟩
       refine J.skip rfl rfl rfl rfl hc197 <| J.skip rfl rfl rfl rfl hc197 <| J.skip rfl rfl rfl rfl hc197 <| J.skip rfl rfl rfl rfl hc197 <| jv (.bool false) (V.pickF rfl hc197 rfl) <| J.nil ?_
       exact ⟨rfl, ⟨(by simp only [hc197]; rfl), rfl, trivial⟩, rfl, rfl⟩
     intro ρ
     refine jm (.bool ((decide ((((xa.2.2.2.1.length : Nat) : Int)) = 1)) && (decide ((((xa.2.2.2.2.1.length : Nat) : Int)) = 0)))) rfl <| J.cut 4 ?_
     obtain ⟨t205, ht206, ho193⟩ := ob ho193
     refine jmeet [(22, .bool t205), (1, .pointer (some ⟨b132, 0, none⟩))] ?_ ?_
     · rcases bt ((decide ((((xa.2.2.2.1.length : Nat) : Int)) = 1)) && (decide ((((xa.2.2.2.2.1.length : Nat) : Int)) = 0))) with hc207 | hc207
       · have ht206 := ct hc207 ht206
         refine J.run rfl rfl rfl hc207 <| jv (.agg #[ii xa.1, ii xa.2.1, ii xa.2.2.1, .slice adxa_3 xa.2.2.2.1.length cpxa_3, .slice adxa_4 xa.2.2.2.2.1.length cpxa_4, .slice adxa_5 xa.2.2.2.2.2.length cpxa_5]) (V.ld rfl (Ld.agg (cs := [ii xa.1, ii xa.2.1, ii xa.2.2.1, .slice adxa_3 xa.2.2.2.1.length cpxa_3, .slice adxa_4 xa.2.2.2.2.1.length cpxa_4, .slice adxa_5 xa.2.2.2.2.2.length cpxa_5]) Try.underlying54 sz54 rfl (Rd.cls 0 0 rfl rfl))) <| J.run rfl rfl rfl hc207 ?_
         obtain ⟨r208, hr209, ht206⟩ := ob ht206
         refine J.op rfl (A.call (L1 := []) Try.call78 rfl (term_calls_ok fxa_3 fxa_4 fxa_5 hr209) rfl rfl) ?_
         rintro _ _ _ ⟨v211, _, rfl, ⟨⟨t210, rfl, rfl, rfl⟩, rfl⟩, _, rfl⟩
         refine J.run rfl rfl rfl hc207 <| jv (.bool (!t210)) (V.not rfl) <| jv (.bool (!t210)) (V.pickT rfl hc207 rfl) <| J.nil ?_
         obtain rfl := si ht206
         exact ⟨rfl, ⟨rfl, rfl, trivial⟩, rfl, rfl⟩
       have ht206 := cf hc207 ht206
       refine J.skip rfl rfl rfl rfl hc207 <| J.skip rfl rfl rfl rfl hc207 <| J.skip rfl rfl rfl rfl hc207 <| jv (.bool false) (V.pickF rfl hc207 rfl) <| J.nil ?_
       obtain rfl := si ht206
       exact ⟨rfl, ⟨rfl, rfl, trivial⟩, rfl, rfl⟩
     intro ρ
     refine ja (.bool t205) rfl <| J.nil ?_
     obtain rfl := si ho193
     exact ⟨rfl, ⟨t205, rfl, ⟨rfl, rfl, trivial⟩, rfl, rfl⟩⟩
   refine cr <| jv (.bool (decide (xa.1 = 2))) (V.eql rfl rfl) <| ja (.bool (decide (xa.1 = 2))) rfl <| J.nil <| cc rfl ho193 (fun hc214 ho193 => ?_) fun hc214 ho193 => ?_
   · refine CJ.region <| jv _ (V.fad Try.underlying54 rfl nz52 rfl) <| jv (.slice adxa_3 xa.2.2.2.1.length cpxa_3) (V.ld rfl (Ld.sc sc52 (Rd.cl 0 rfl rfl))) <| jv (ii (((xa.2.2.2.1.length : Nat) : Int))) (V.len Try.underlying52 rfl) <| jv (.bool (decide (0 < (((xa.2.2.2.1.length : Nat) : Int))))) (V.gtr rfl rfl) <| jm (.bool (decide (0 < (((xa.2.2.2.1.length : Nat) : Int))))) rfl <| J.cut 4 ?_
     obtain ⟨t222, ht223, ho193⟩ := ob ho193
     refine jmeet [(33, .bool t222), (1, .pointer (some ⟨b132, 0, none⟩))] ?_ ?_
     · rcases bt (decide (0 < (((xa.2.2.2.1.length : Nat) : Int)))) with hc224 | hc224
       · have ht223 := ct hc224 ht223
         refine J.run rfl rfl rfl hc224 <| jv (.agg #[ii xa.1, ii xa.2.1, ii xa.2.2.1, .slice adxa_3 xa.2.2.2.1.length cpxa_3, .slice adxa_4 xa.2.2.2.2.1.length cpxa_4, .slice adxa_5 xa.2.2.2.2.2.length cpxa_5]) (V.ld rfl (Ld.agg (cs := [ii xa.1, ii xa.2.1, ii xa.2.2.1, .slice adxa_3 xa.2.2.2.1.length cpxa_3, .slice adxa_4 xa.2.2.2.2.1.length cpxa_4, .slice adxa_5 xa.2.2.2.2.2.length cpxa_5]) Try.underlying54 sz54 rfl (Rd.cls 0 0 rfl rfl))) <| J.run rfl rfl rfl hc224 ?_
         obtain ⟨r225, hr226, ht223⟩ := ob ht223
         refine J.op rfl (A.call (L1 := []) Try.call78 rfl (term_calls_ok fxa_3 fxa_4 fxa_5 hr226) rfl rfl) ?_
         rintro _ _ _ ⟨v228, _, rfl, ⟨⟨t227, rfl, rfl, rfl⟩, rfl⟩, _, rfl⟩
         refine J.run rfl rfl rfl hc224 <| jv (.bool (!t227)) (V.not rfl) <| jv (.bool (!t227)) (V.pickT rfl hc224 rfl) <| J.nil ?_
         obtain rfl := si ht223
         exact ⟨rfl, ⟨rfl, rfl, trivial⟩, rfl, rfl⟩
       have ht223 := cf hc224 ht223
       refine J.skip rfl rfl rfl rfl hc224 <| J.skip rfl rfl rfl rfl hc224 <| J.skip rfl rfl rfl rfl hc224 <| jv (.bool false) (V.pickF rfl hc224 rfl) <| J.nil ?_
       obtain rfl := si ht223
       exact ⟨rfl, ⟨rfl, rfl, trivial⟩, rfl, rfl⟩
     intro ρ
     refine ja (.bool t222) rfl <| J.nil ?_
     obtain rfl := si ho193
     exact ⟨rfl, ⟨t222, rfl, ⟨rfl, rfl, trivial⟩, rfl, rfl⟩⟩
   refine cr <| jv (.bool (decide (xa.1 = 3))) (V.eql rfl rfl) <| ja (.bool (decide (xa.1 = 3))) rfl <| J.nil <| cc rfl ho193 (fun hc231 ho193 => ?_) fun hc231 ho193 => ?_
   · refine CJ.region <| jv _ (V.fad Try.underlying54 rfl nz52 rfl) <| jv (.slice adxa_3 xa.2.2.2.1.length cpxa_3) (V.ld rfl (Ld.sc sc52 (Rd.cl 0 rfl rfl))) <| jv (ii (((xa.2.2.2.1.length : Nat) : Int))) (V.len Try.underlying52 rfl) <| jv (.bool (decide ((((xa.2.2.2.1.length : Nat) : Int)) = 0))) (V.eql rfl rfl) <| jm (.bool (decide ((((xa.2.2.2.1.length : Nat) : Int)) = 0))) rfl <| J.cut 5 ?_
     refine jmeet [(45, .bool ((decide ((((xa.2.2.2.1.length : Nat) : Int)) = 0)) && (decide ((((xa.2.2.2.2.1.length : Nat) : Int)) = 0)))), (1, .pointer (some ⟨b132, 0, none⟩))] ?_ ?_
     · rcases bt (decide ((((xa.2.2.2.1.length : Nat) : Int)) = 0)) with hc234 | hc234
       · refine J.run rfl rfl rfl hc234 <| jv _ (V.fad Try.underlying54 rfl nz52 rfl) <| J.run rfl rfl rfl hc234 <| jv (.slice adxa_4 xa.2.2.2.2.1.length cpxa_4) (V.ld rfl (Ld.sc sc52 (Rd.cl 0 rfl rfl))) <| J.run rfl rfl rfl hc234 <| jv (ii (((xa.2.2.2.2.1.length : Nat) : Int))) (V.len Try.underlying52 rfl) <| J.run rfl rfl rfl hc234 ?_
         refine jv (.bool (decide ((((xa.2.2.2.2.1.length : Nat) : Int)) = 0))) (V.eql rfl rfl) <| jv (.bool (decide ((((xa.2.2.2.2.1.length : Nat) : Int)) = 0))) (V.pickT rfl hc234 rfl) <| J.nil ?_
         exact ⟨rfl, ⟨(by simp only [hc234]; rfl), rfl, trivial⟩, rfl, rfl⟩
       refine J.skip rfl rfl rfl rfl hc234 <| J.skip rfl rfl rfl rfl hc234 <| J.skip rfl rfl rfl rfl hc234 <| J.skip rfl rfl rfl rfl hc234 <| jv (.bool false) (V.pickF rfl hc234 rfl) <| J.nil ?_
       exact ⟨rfl, ⟨(by simp only [hc234]; rfl), rfl, trivial⟩, rfl, rfl⟩
     intro ρ
     refine jm (.bool ((decide ((((xa.2.2.2.1.length : Nat) : Int)) = 0)) && (decide ((((xa.2.2.2.2.1.length : Nat) : Int)) = 0)))) rfl <| J.cut 4 ?_
     obtain ⟨t242, ht243, ho193⟩ := ob ho193
     refine jmeet [(50, .bool t242), (1, .pointer (some ⟨b132, 0, none⟩))] ?_ ?_
     · rcases bt ((decide ((((xa.2.2.2.1.length : Nat) : Int)) = 0)) && (decide ((((xa.2.2.2.2.1.length : Nat) : Int)) = 0))) with hc244 | hc244
       · have ht243 := ct hc244 ht243
         refine J.run rfl rfl rfl hc244 <| jv (.agg #[ii xa.1, ii xa.2.1, ii xa.2.2.1, .slice adxa_3 xa.2.2.2.1.length cpxa_3, .slice adxa_4 xa.2.2.2.2.1.length cpxa_4, .slice adxa_5 xa.2.2.2.2.2.length cpxa_5]) (V.ld rfl (Ld.agg (cs := [ii xa.1, ii xa.2.1, ii xa.2.2.1, .slice adxa_3 xa.2.2.2.1.length cpxa_3, .slice adxa_4 xa.2.2.2.2.1.length cpxa_4, .slice adxa_5 xa.2.2.2.2.2.length cpxa_5]) Try.underlying54 sz54 rfl (Rd.cls 0 0 rfl rfl))) <| J.run rfl rfl rfl hc244 ?_
         obtain ⟨r245, hr246, ht243⟩ := ob ht243
         refine J.op rfl (A.call (L1 := []) Try.call78 rfl (term_calls_ok fxa_3 fxa_4 fxa_5 hr246) rfl rfl) ?_
         rintro _ _ _ ⟨v248, _, rfl, ⟨⟨t247, rfl, rfl, rfl⟩, rfl⟩, _, rfl⟩
         refine J.run rfl rfl rfl hc244 <| jv (.bool (!t247)) (V.not rfl) <| jv (.bool (!t247)) (V.pickT rfl hc244 rfl) <| J.nil ?_
         obtain rfl := si ht243
         exact ⟨rfl, ⟨rfl, rfl, trivial⟩, rfl, rfl⟩
       have ht243 := cf hc244 ht243
       refine J.skip rfl rfl rfl rfl hc244 <| J.skip rfl rfl rfl rfl hc244 <| J.skip rfl rfl rfl rfl hc244 <| jv (.bool false) (V.pickF rfl hc244 rfl) <| J.nil ?_
       obtain rfl := si ht243
       exact ⟨rfl, ⟨rfl, rfl, trivial⟩, rfl, rfl⟩
     intro ρ
     refine ja (.bool t242) rfl <| J.nil ?_
     obtain rfl := si ho193
     exact ⟨rfl, ⟨t242, rfl, ⟨rfl, rfl, trivial⟩, rfl, rfl⟩⟩
   refine cr <| jv (.bool (decide (xa.1 = 4))) (V.eql rfl rfl) <| ja (.bool (decide (xa.1 = 4))) rfl <| J.nil <| cc rfl ho193 (fun hc251 ho193 => ?_) fun hc251 ho193 => ?_
   · refine CJ.region <| jv _ (V.fad Try.underlying54 rfl nz52 rfl) <| jv (.slice adxa_3 xa.2.2.2.1.length cpxa_3) (V.ld rfl (Ld.sc sc52 (Rd.cl 0 rfl rfl))) <| jv (ii (((xa.2.2.2.1.length : Nat) : Int))) (V.len Try.underlying52 rfl) <| jv (.bool (decide ((((xa.2.2.2.1.length : Nat) : Int)) = 1))) (V.eql rfl rfl) <| ja (.bool (decide ((((xa.2.2.2.1.length : Nat) : Int)) = 1))) rfl <| J.nil ?_
     obtain rfl := si ho193
     exact ⟨rfl, ⟨decide ((((xa.2.2.2.1.length : Nat) : Int)) = 1), rfl, ⟨rfl, rfl, trivial⟩, rfl, rfl⟩⟩
   refine CJ.skip ?_
   obtain rfl := si ho193
   exact ⟨rfl, ⟨false, rfl, ⟨rfl, rfl, trivial⟩, rfl, rfl⟩⟩
 rintro ρ _ _ ⟨t191, rfl, hf252, rfl, rfl⟩
 obtain ⟨ρ, rfl⟩ := hf252.ex
 refine PJ.done <| CJ.seq <| cr <| jm (.bool t191) rfl <| jv (.bool (!t191)) (V.not rfl) <| J.nil ?_
 refine cc rfl h (fun hc254 h => ?_) fun hc254 h => ?_
 · refine cr <| ja (ii 3) rfl <| J.nil <| CJ.ret ?_
   obtain rfl := si h
   exact ⟨_, _, Res.one rfl rfl, ⟨3, rfl, rfl, rfl⟩, (Hp.le_refl _), fun w hs => (Sep.dropAt 0 rfl hs)⟩
 refine CJ.skip <| CJ.seq <| cr <| jv _ (V.fad Try.underlying54 rfl nz52 rfl) <| jv (.slice adxa_3 xa.2.2.2.1.length cpxa_3) (V.ld rfl (Ld.sc sc52 (Rd.cl 0 rfl rfl))) <| jv (ii (((xa.2.2.2.1.length : Nat) : Int))) (V.len Try.underlying52 rfl) ?_
 refine jv (.bool (decide (16 < (((xa.2.2.2.1.length : Nat) : Int))))) (V.gtr rfl rfl) <| jm (.bool (decide (16 < (((xa.2.2.2.1.length : Nat) : Int))))) rfl <| J.cut 5 <| jmeet [(68, .bool ((decide (16 < (((xa.2.2.2.1.length : Nat) : Int)))) || (decide (16 < (((xa.2.2.2.2.1.length : Nat) : Int)))))), (1, .pointer (some ⟨b132, 0, none⟩))] ?_ ?_
 · rcases bt (decide (16 < (((xa.2.2.2.1.length : Nat) : Int)))) with hc257 | hc257
   · refine J.skip rfl rfl rfl rfl hc257 <| J.skip rfl rfl rfl rfl hc257 <| J.skip rfl rfl rfl rfl hc257 <| J.skip rfl rfl rfl rfl hc257 <| jv (.bool true) (V.pickT rfl hc257 rfl) <| J.nil ?_
     exact ⟨rfl, ⟨(by simp only [hc257]; rfl), rfl, trivial⟩, rfl, rfl⟩
   refine J.run rfl rfl rfl hc257 <| jv _ (V.fad Try.underlying54 rfl nz52 rfl) <| J.run rfl rfl rfl hc257 <| jv (.slice adxa_4 xa.2.2.2.2.1.length cpxa_4) (V.ld rfl (Ld.sc sc52 (Rd.cl 0 rfl rfl))) <| J.run rfl rfl rfl hc257 <| jv (ii (((xa.2.2.2.2.1.length : Nat) : Int))) (V.len Try.underlying52 rfl) <| J.run rfl rfl rfl hc257 ?_
   refine jv (.bool (decide (16 < (((xa.2.2.2.2.1.length : Nat) : Int))))) (V.gtr rfl rfl) <| jv (.bool (decide (16 < (((xa.2.2.2.2.1.length : Nat) : Int))))) (V.pickF rfl hc257 rfl) <| J.nil ?_
   exact ⟨rfl, ⟨(by simp only [hc257]; rfl), rfl, trivial⟩, rfl, rfl⟩
 intro ρ
 refine jm (.bool ((decide (16 < (((xa.2.2.2.1.length : Nat) : Int)))) || (decide (16 < (((xa.2.2.2.2.1.length : Nat) : Int)))))) rfl <| J.cut 5 <| jmeet [(74, .bool (((decide (16 < (((xa.2.2.2.1.length : Nat) : Int)))) || (decide (16 < (((xa.2.2.2.2.1.length : Nat) : Int))))) || (decide (16 < (((xa.2.2.2.2.2.length : Nat) : Int))))))] ?_ ?_
 · rcases bt ((decide (16 < (((xa.2.2.2.1.length : Nat) : Int)))) || (decide (16 < (((xa.2.2.2.2.1.length : Nat) : Int))))) with hc260 | hc260
   · refine J.skip rfl rfl rfl rfl hc260 <| J.skip rfl rfl rfl rfl hc260 <| J.skip rfl rfl rfl rfl hc260 <| J.skip rfl rfl rfl rfl hc260 <| jv (.bool true) (V.pickT rfl hc260 rfl) <| J.nil ?_
     exact ⟨rfl, ⟨(by simp only [hc260]; rfl), trivial⟩, rfl, rfl⟩
   refine J.run rfl rfl rfl hc260 <| jv _ (V.fad Try.underlying54 rfl nz52 rfl) <| J.run rfl rfl rfl hc260 <| jv (.slice adxa_5 xa.2.2.2.2.2.length cpxa_5) (V.ld rfl (Ld.sc sc52 (Rd.cl 0 rfl rfl))) <| J.run rfl rfl rfl hc260 <| jv (ii (((xa.2.2.2.2.2.length : Nat) : Int))) (V.len Try.underlying52 rfl) <| J.run rfl rfl rfl hc260 ?_
   refine jv (.bool (decide (16 < (((xa.2.2.2.2.2.length : Nat) : Int))))) (V.gtr rfl rfl) <| jv (.bool (decide (16 < (((xa.2.2.2.2.2.length : Nat) : Int))))) (V.pickF rfl hc260 rfl) <| J.nil ?_
   exact ⟨rfl, ⟨(by simp only [hc260]; rfl), trivial⟩, rfl, rfl⟩
 intro ρ
 refine J.nil <| cc rfl h (fun hc261 h => ?_) fun hc261 h => ?_
 · refine cr <| ja (ii 6) rfl <| J.nil <| CJ.ret ?_
   obtain rfl := si h
   exact ⟨_, _, Res.one rfl rfl, ⟨6, rfl, rfl, rfl⟩, (Hp.le_refl _), fun w hs => (Sep.dropAt 0 rfl hs)⟩
 refine CJ.skip <| cr <| ja (ii 0) rfl <| J.nil <| CJ.ret ?_
 obtain rfl := si h
 exact ⟨_, _, Res.one rfl rfl, ⟨0, rfl, rfl, rfl⟩, (Hp.le_refl _), fun w hs => (Sep.dropAt 0 rfl hs)⟩

noncomputable def fn_term_beyond (xa : Int) : Option Unit :=
  some (())
set_option maxRecDepth 100000 in
set_option maxHeartbeats 4000000 in
theorem term_beyond_ok {K : Hp} {xa : Int}   {r : Unit} (h : fn_term_beyond xa = some r) :
    Tr Try.prog 79 #[ii xa] K [] (fun v K' L' => (∃ (b2 : Nat), () = r ∧ .func (.func 84) #[] #[.pointer (some ⟨b2, 0, none⟩)] = v ∧ L' = [Cl b2 3 [ii xa]]) ∧ K = K') := by
 refine Tr.k <| Tr.of Try.func79 rfl Try.ntmps79 rfl fun E F => ?_
 unfold fn_term_beyond at h
 refine cr <| jbx [ii xa] rfl rfl fun b3 => ja .nilFunc rfl <| J.nil <| CJ.seq <| CJ.region ?_
 refine jv (.func (.func 84) #[] #[.pointer (some ⟨b3, 0, none⟩)]) (V.mkf rfl) <| ja (.func (.func 84) #[] #[.pointer (some ⟨b3, 0, none⟩)]) rfl <| J.nil <| CJ.ret ?_
 obtain rfl := si h
 exact ⟨_, _, Res.one rfl rfl, ⟨b3, rfl, rfl, rfl⟩, (Hp.le_refl _), fun w hs => hs⟩

noncomputable def fn_term_beyond_1_ip0_i (xa : Int) (qa0 : Int) : Option Bool :=
  some ((decide (xa < 0)) || (decide (qa0 ≤ xa)))
set_option maxRecDepth 100000 in
set_option maxHeartbeats 4000000 in
theorem term_beyond_1_ip0_i_ok {K : Hp} {xa : Int} {qa0 : Int} {pba : Nat}  {r : Bool} (h : fn_term_beyond_1_ip0_i xa qa0 = some r) :
    Tr Try.prog 84 #[ii xa, .pointer (some ⟨pba, 0, none⟩)] K [Cl pba 3 [ii qa0]] (fun v K' L' => (∃ (t4 : Bool), t4 = r ∧ .bool t4 = v ∧ L' = [Cl pba 3 [ii qa0]]) ∧ K = K') := by
 refine Tr.k <| Tr.of Try.func84 rfl Try.ntmps84 rfl fun E F => ?_
 unfold fn_term_beyond_1_ip0_i at h
 refine cr <| ja (.bool false) rfl <| J.nil <| cr <| jm (ii xa) rfl ?_
 refine jv (.bool (decide (xa < 0))) (V.lss rfl rfl) <| jm (.bool (decide (xa < 0))) rfl <| J.cut 4 <| jmeet [(10, .bool ((decide (xa < 0)) || (decide (qa0 ≤ xa))))] ?_ ?_
 · rcases bt (decide (xa < 0)) with hc7 | hc7
   · refine J.skip rfl rfl rfl rfl hc7 <| J.skip rfl rfl rfl rfl hc7 <| J.skip rfl rfl rfl rfl hc7 <| jv (.bool true) (V.pickT rfl hc7 rfl) <| J.nil ?_
     exact ⟨rfl, ⟨(by simp only [hc7]; rfl), trivial⟩, rfl, rfl⟩
   refine J.run rfl rfl rfl hc7 <| jm (ii xa) rfl <| J.run rfl rfl rfl hc7 <| jv (ii qa0) (V.ld rfl (Ld.sc sc3 (Rd.cl 0 rfl rfl))) <| J.run rfl rfl rfl hc7 <| jv (.bool (decide (qa0 ≤ xa))) (V.geq rfl rfl) <| jv (.bool (decide (qa0 ≤ xa))) (V.pickF rfl hc7 rfl) ?_
   refine J.nil ?_
   exact ⟨rfl, ⟨(by simp only [hc7]; rfl), trivial⟩, rfl, rfl⟩
 intro ρ
 refine ja (.bool ((decide (xa < 0)) || (decide (qa0 ≤ xa)))) rfl <| J.nil <| CJ.ret ?_
 obtain rfl := si h
 exact ⟨_, _, Res.one rfl rfl, ⟨(decide (xa < 0)) || (decide (qa0 ≤ xa)), rfl, rfl, rfl⟩, (Hp.le_refl _), fun w hs => hs⟩
noncomputable def fn_slices_IndexFunc_int_int_k_term_beyond_1_p0_i_l1 (xa : (List Int)) (qa0 : Int) : Int → Option (Int ⊕ (Unit ⊕ Int)) := fun (i201 : Int) => cond (decide (i201 < (((xa.length : Nat) : Int)))) ((getI xa i201).bind fun x225 => (fn_term_beyond_1_ip0_i x225 qa0).bind fun t236 => cond (t236) (some (.inr ((.inr (i201))))) (some (.inl (IntKind.wrap .i64 (i201 + 1))))) (some (.inr ((.inl ()))))
noncomputable def fn_slices_IndexFunc_int_int_k_term_beyond_1_p0_i (xa : (List Int)) (qa0 : Int) : Option Int :=
  (loop (fn_slices_IndexFunc_int_int_k_term_beyond_1_p0_i_l1 xa qa0) 0 : Option (Unit ⊕ Int)).bind fun o => match o with | .inr r => some r | .inl () => some ((-1))
set_option maxRecDepth 100000 in
set_option maxHeartbeats 4000000 in
theorem slices_IndexFunc_int_int_k_term_beyond_1_p0_i_ok {K : Hp} {xa : (List Int)} {qa0 : Int} {pba : Nat} {adxa_0 : Option Addr} {cpxa_0 : Nat} (fxa_0 : Is K (.sl (.int .i64)) [.slice adxa_0 xa.length cpxa_0] xa) {r : Int} (h : fn_slices_IndexFunc_int_int_k_term_beyond_1_p0_i xa qa0 = some r) :
    Tr Try.prog 85 #[.slice adxa_0 xa.length cpxa_0, .func (.func 84) #[] #[.pointer (some ⟨pba, 0, none⟩)]] K [Cl pba 3 [ii qa0]] (fun v K' L' => (∃ (i122 : Int), i122 = r ∧ ii i122 = v ∧ L' = [Cl pba 3 [ii qa0]]) ∧ K = K') := by
 refine Tr.k <| Tr.of Try.func85 rfl Try.ntmps85 rfl fun E F => ?_
 unfold fn_slices_IndexFunc_int_int_k_term_beyond_1_p0_i at h
 refine cr <| ja (ii 0) rfl <| J.nil <| CJ.seq <| CJ.seq <| CJ.region ?_
 refine jm (.slice adxa_0 xa.length cpxa_0) rfl <| jv (ii (((xa.length : Nat) : Int))) (V.len Try.underlying52 rfl) <| jm (ii 0) rfl <| J.nil ?_
 obtain ⟨o181, ho182, h⟩ := ob h
 refine CJ.joinN (o := o181) (fun s ρ K' L' => () = s ∧ Fits [] ρ ∧ K = K' ∧ L' = Cl pba 3 [ii qa0] :: F) ?_ ?_
 · refine CJ.block <| CJ.loop (fun s ρ K' L' => ∃ (i201 : Int), i201 = s ∧ Fits [(0, .slice adxa_0 xa.length cpxa_0), (1, .func (.func 84) #[] #[.pointer (some ⟨pba, 0, none⟩)]), (7, ii (((xa.length : Nat) : Int))), (8, ii i201)] ρ ∧ K = K' ∧ L' = Cl pba 3 [ii qa0] :: F) ho182 ⟨0, rfl, ⟨rfl, rfl, rfl, rfl, trivial⟩, rfl, rfl⟩ ?_
   rintro s ρ _ _ r223 ⟨i201, rfl, hf221, rfl, rfl⟩ h220
   obtain ⟨ρ, rfl⟩ := hf221.ex
   refine cr <| jv (.bool (decide (i201 < (((xa.length : Nat) : Int))))) (V.lss rfl rfl) <| J.nil <| CJ.seq <| cc rfl h220 (fun hc224 h220 => ?_) fun hc224 h220 => ?_
   · refine CJ.skip <| CJ.seq <| CJ.block <| cr <| jm (ii i201) rfl <| ja (ii i201) rfl ?_
     refine J.nil <| cr <| jm (.func (.func 84) #[] #[.pointer (some ⟨pba, 0, none⟩)]) rfl <| jm (.slice adxa_0 xa.length cpxa_0) rfl <| jm (ii i201) rfl ?_
     obtain ⟨x225, hx226, h220⟩ := ob h220
     obtain ⟨p227, p228, p229⟩ := getI_some hx226
     obtain ⟨b230, o231, e232, a233⟩ := (fxa_0).at p228
     refine jv _ (V.iad Try.underlying52 sz3 rfl e232 rfl p227 p229) <| jv (ii x225) (V.ld rfl (Ld.sc sc3 (Rd.k (a233).int (Hp.le_refl _)))) ?_
     obtain ⟨r234, hr235, h220⟩ := ob h220
     refine J.op rfl (A.call (L1 := [Cl pba 3 [ii qa0]]) Try.call84 rfl (term_beyond_1_ip0_i_ok hr235) rfl rfl) ?_
     rintro _ _ _ ⟨v237, _, rfl, ⟨⟨t236, rfl, rfl, rfl⟩, rfl⟩, _, rfl⟩
     refine J.nil <| cc rfl h220 (fun hc240 h220 => ?_) fun hc240 h220 => ?_
     · refine cr <| jm (ii i201) rfl <| ja (ii i201) rfl <| J.nil <| CJ.ret ?_
       obtain rfl := si h220
       refine ⟨nofun, fun e => ?_⟩
       subst e
       refine .inr ⟨nofun, ?_⟩
       obtain rfl := si h
       exact ⟨_, _, Res.one rfl rfl, ⟨i201, rfl, rfl, rfl⟩, (Hp.le_refl _), fun w hs => hs⟩
     refine CJ.skip <| CJ.region <| jv (ii (IntKind.wrap .i64 (i201 + 1))) (V.add rfl rfl) <| jm (ii (IntKind.wrap .i64 (i201 + 1))) rfl <| J.nil ?_
     obtain rfl := si h220
     exact ⟨rfl, ⟨IntKind.wrap .i64 (i201 + 1), rfl, ⟨rfl, rfl, rfl, rfl, trivial⟩, rfl, rfl⟩⟩
   refine CJ.exit ?_
   obtain rfl := si h220
   refine ⟨nofun, fun e => ?_⟩
   subst e
   exact .inl ⟨rfl, _, rfl, ⟨rfl, trivial, rfl, rfl⟩⟩
 rintro s ρ _ _ ho241 ⟨rfl, hf242, rfl, rfl⟩
 subst ho241
 obtain ⟨ρ, rfl⟩ := hf242.ex
 refine PJ.done <| cr <| ja (ii (-1)) rfl <| J.nil <| CJ.ret ?_
 obtain rfl := si h
 exact ⟨_, _, Res.one rfl rfl, ⟨(-1), rfl, rfl, rfl⟩, (Hp.le_refl _), fun w hs => hs⟩

noncomputable def fn_slices_ContainsFunc_int_int_k_term_beyond_1_p0_i (xa : (List Int)) (qa0 : Int) : Option Bool :=
  (fn_slices_IndexFunc_int_int_k_term_beyond_1_p0_i xa qa0).bind fun i10 => some (decide (0 ≤ i10))
set_option maxRecDepth 100000 in
set_option maxHeartbeats 4000000 in
theorem slices_ContainsFunc_int_int_k_term_beyond_1_p0_i_ok {K : Hp} {xa : (List Int)} {qa0 : Int} {pba : Nat} {adxa_0 : Option Addr} {cpxa_0 : Nat} (fxa_0 : Is K (.sl (.int .i64)) [.slice adxa_0 xa.length cpxa_0] xa) {r : Bool} (h : fn_slices_ContainsFunc_int_int_k_term_beyond_1_p0_i xa qa0 = some r) :
    Tr Try.prog 80 #[.slice adxa_0 xa.length cpxa_0, .func (.func 84) #[] #[.pointer (some ⟨pba, 0, none⟩)]] K [Cl pba 3 [ii qa0]] (fun v K' L' => (∃ (t7 : Bool), t7 = r ∧ .bool t7 = v ∧ L' = [Cl pba 3 [ii qa0]]) ∧ K = K') := by
 refine Tr.k <| Tr.of Try.func80 rfl Try.ntmps80 rfl fun E F => ?_
 unfold fn_slices_ContainsFunc_int_int_k_term_beyond_1_p0_i at h
 refine cr <| ja (.bool false) rfl <| J.nil <| cr <| jm (.slice adxa_0 xa.length cpxa_0) rfl ?_
 refine jm (.func (.func 84) #[] #[.pointer (some ⟨pba, 0, none⟩)]) rfl ?_
 obtain ⟨r8, hr9, h⟩ := ob h
 refine J.op rfl (A.call (L1 := [Cl pba 3 [ii qa0]]) Try.call85 rfl (slices_IndexFunc_int_int_k_term_beyond_1_p0_i_ok fxa_0 hr9) rfl rfl) ?_
 rintro _ _ _ ⟨v11, _, rfl, ⟨⟨i10, rfl, rfl, rfl⟩, rfl⟩, _, rfl⟩
 refine jv (.bool (decide (0 ≤ i10))) (V.geq rfl rfl) <| ja (.bool (decide (0 ≤ i10))) rfl <| J.nil <| CJ.ret ?_
 obtain rfl := si h
 exact ⟨_, _, Res.one rfl rfl, ⟨decide (0 ≤ i10), rfl, rfl, rfl⟩, (Hp.le_refl _), fun w hs => hs⟩

noncomputable def fn_term_within (xa : (Int × Int × Int × (List Int) × (List Int) × (List Int))) (xb : (Int × Int × (List (List (Int × Bool))) × (List (Int × Bool)) × (List (Int × (List (Int × Int)) × (List (List (Int × Bool))) × (List (Int × Bool)))))) : Option Bool :=
  (fn_term_beyond (((xb.2.2.1.length : Nat) : Int))).bind fun _ => (fn_term_beyond xb.1).bind fun _ => (fn_slices_ContainsFunc_int_int_k_term_beyond_1_p0_i xa.2.2.2.1 xb.1).bind fun t163 => cond (t163) (some (false)) ((fn_slices_ContainsFunc_int_int_k_term_beyond_1_p0_i xa.2.2.2.2.1 ((((xb.2.2.1.length : Nat) : Int)))).bind fun t170 => cond (t170) (some (false)) ((fn_term_beyond xb.2.1).bind fun _ => (fn_slices_ContainsFunc_int_int_k_term_beyond_1_p0_i xa.2.2.2.2.2 xb.2.1).bind fun t183 => cond (t183) (some (false)) (cond (!decide (xa.1 = 4)) (some (true)) ((fn_term_beyond_1_ip0_i xa.2.2.1 (((((xb.2.2.1.length : Nat) : Int))))).bind fun t211 => cond (!t211) ((fn_term_beyond (((xb.2.2.2.2.length : Nat) : Int))).bind fun _ => (fn_term_beyond_1_ip0_i xa.2.1 ((((xb.2.2.2.2.length : Nat) : Int)))).bind fun t224 => some (!t224)) (some (false))))))
set_option maxRecDepth 100000 in
set_option maxHeartbeats 4000000 in
theorem term_within_ok {K : Hp} {xa : (Int × Int × Int × (List Int) × (List Int) × (List Int))} {xb : (Int × Int × (List (List (Int × Bool))) × (List (Int × Bool)) × (List (Int × (List (Int × Int)) × (List (List (Int × Bool))) × (List (Int × Bool)))))} {adxa_3 : Option Addr} {cpxa_3 : Nat} {adxa_4 : Option Addr} {cpxa_4 : Nat} {adxa_5 : Option Addr} {cpxa_5 : Nat} {adxb_2 : Option Addr} {cpxb_2 : Nat} {adxb_3 : Option Addr} {cpxb_3 : Nat} {adxb_4 : Option Addr} {cpxb_4 : Nat} (fxa_3 : Is K (.sl (.int .i64)) [.slice adxa_3 xa.2.2.2.1.length cpxa_3] xa.2.2.2.1) (fxa_4 : Is K (.sl (.int .i64)) [.slice adxa_4 xa.2.2.2.2.1.length cpxa_4] xa.2.2.2.2.1) (fxa_5 : Is K (.sl (.int .i64)) [.slice adxa_5 xa.2.2.2.2.2.length cpxa_5] xa.2.2.2.2.2) (fxb_2 : Is K (.sl (.one (.sl (.cons (.int .i64) (.one .bool))))) [.slice adxb_2 xb.2.2.1.length cpxb_2] xb.2.2.1) (fxb_3 : Is K (.sl (.cons (.int .i64) (.one .bool))) [.slice adxb_3 xb.2.2.2.1.length cpxb_3] xb.2.2.2.1) (fxb_4 : Is K (.sl (.cons (.int .i64) (.cons (.sl (.cons (.int .i64) (.one (.int .i64)))) (.cons (.sl (.one (.sl (.cons (.int .i64) (.one .bool))))) (.one (.one (.sl (.cons (.int .i64) (.one .bool))))))))) [.slice adxb_4 xb.2.2.2.2.length cpxb_4] xb.2.2.2.2) {r : Bool} (h : fn_term_within xa xb = some r) :
    Tr Try.prog 67 #[.agg #[ii xa.1, ii xa.2.1, ii xa.2.2.1, .slice adxa_3 xa.2.2.2.1.length cpxa_3, .slice adxa_4 xa.2.2.2.2.1.length cpxa_4, .slice adxa_5 xa.2.2.2.2.2.length cpxa_5], .agg #[ii xb.1, ii xb.2.1, .slice adxb_2 xb.2.2.1.length cpxb_2, .slice adxb_3 xb.2.2.2.1.length cpxb_3, .slice adxb_4 xb.2.2.2.2.length cpxb_4]] K [] (fun v K' L' => (∃ (t114 : Bool), t114 = r ∧ .bool t114 = v ∧ L' = []) ∧ K = K') := by
 refine Tr.k <| Tr.of Try.func67 rfl Try.ntmps67 rfl fun E F => ?_
 unfold fn_term_within at h
 refine cr <| jbx [ii xa.1, ii xa.2.1, ii xa.2.2.1, .slice adxa_3 xa.2.2.2.1.length cpxa_3, .slice adxa_4 xa.2.2.2.2.1.length cpxa_4, .slice adxa_5 xa.2.2.2.2.2.length cpxa_5] rfl rfl fun b115 => jbx [ii xb.1, ii xb.2.1, .slice adxb_2 xb.2.2.1.length cpxb_2, .slice adxb_3 xb.2.2.2.1.length cpxb_3, .slice adxb_4 xb.2.2.2.2.length cpxb_4] rfl rfl fun b116 => ja (.bool false) rfl <| J.nil <| CJ.seq ?_
 refine CJ.region <| jv _ (V.fad Try.underlying74 rfl nz23 rfl) <| jv (.slice adxb_2 xb.2.2.1.length cpxb_2) (V.ld rfl (Ld.sc sc23 (Rd.cl 0 rfl rfl))) <| jv (ii (((xb.2.2.1.length : Nat) : Int))) (V.len Try.underlying23 rfl) ?_
 obtain ⟨r117, hr118, h⟩ := ob h
 refine J.op rfl (A.call (L1 := []) Try.call79 rfl (term_beyond_ok hr118) rfl rfl) ?_
 rintro _ _ _ ⟨v120, _, rfl, ⟨⟨b119, rfl, rfl, rfl⟩, rfl⟩, _, rfl⟩
 refine ja (.func (.func 84) #[] #[.pointer (some ⟨b119, 0, none⟩)]) rfl <| J.nil <| CJ.seq <| CJ.seq <| CJ.mix [Cl b116 74 [ii xb.1, ii xb.2.1, .slice adxb_2 xb.2.2.1.length cpxb_2, .slice adxb_3 xb.2.2.2.1.length cpxb_3, .slice adxb_4 xb.2.2.2.2.length cpxb_4], Cl b115 54 [ii xa.1, ii xa.2.1, ii xa.2.2.1, .slice adxa_3 xa.2.2.2.1.length cpxa_3, .slice adxa_4 xa.2.2.2.2.1.length cpxa_4, .slice adxa_5 xa.2.2.2.2.2.length cpxa_5]] [([0, 1, 2, 3], 4), ([], 5), ([6, 7, 8, 9], 10), ([11, 12, 13, 14, 15, 16], 17), ([], 18)] [19] [] mixO (by decide +kernel) ⟨1, rfl, 1, rfl, trivial⟩ rfl rfl rfl <| JM.cons <| qv _ (V.fad Try.underlying54 rfl nz52 rfl) ?_
 refine qv (.slice adxa_3 xa.2.2.2.1.length cpxa_3) (V.ld rfl (Ld.sc sc52 (Rd.cl 1 rfl rfl))) <| qv _ (V.fad Try.underlying74 rfl nz3 rfl) <| qv (ii xb.1) (V.ld rfl (Ld.sc sc3 (Rd.cl 0 rfl rfl))) <| JQ.nil ?_
 obtain ⟨r155, hr156, h⟩ := ob h
 refine JA.op rfl (A.call (L1 := []) Try.call79 rfl (term_beyond_ok hr156) rfl rfl) ?_
 rintro _ _ _ ⟨v158, _, rfl, ⟨⟨b157, rfl, rfl, rfl⟩, rfl⟩, _, rfl⟩
 refine ⟨fun w hs => Hold.sub (Hp.le_refl _) ⟨2, rfl, 2, rfl, trivial⟩ hs, ?_⟩
 refine JM.cons <| JQ.nil ?_
 obtain ⟨r161, hr162, h⟩ := ob h
 refine JA.op rfl (A.call (L1 := [Cl b157 3 [ii xb.1]]) Try.call80 rfl (slices_ContainsFunc_int_int_k_term_beyond_1_p0_i_ok fxa_3 hr162) rfl rfl) ?_
 rintro _ _ _ ⟨v164, _, rfl, ⟨⟨t163, rfl, rfl, rfl⟩, rfl⟩, _, rfl⟩
 refine ⟨fun w hs => Hold.sub (Hp.le_refl _) ⟨2, rfl, 2, rfl, trivial⟩ hs, ?_⟩
 refine JM.cons <| qm (.bool t163) rfl ?_
 rcases bt (t163) with hc167 | hc167
 · have h := ct hc167 h
   refine JQ.skip rfl rfl rfl rfl hc167 <| JQ.skip rfl rfl rfl rfl hc167 <| JQ.skip rfl rfl rfl rfl hc167 <| JQ.nil <| JA.skip rfl rfl rfl rfl hc167 <| JM.cons <| qv (.bool true) (V.pickT rfl hc167 rfl) ?_
   refine qm (.bool true) rfl <| JQ.skip rfl rfl rfl rfl rfl <| JQ.skip rfl rfl rfl rfl rfl <| JQ.skip rfl rfl rfl rfl rfl <| JQ.skip rfl rfl rfl rfl rfl <| JQ.nil <| JA.skip rfl rfl rfl rfl rfl ?_
   refine JM.cons <| JQ.nil <| JA.skip rfl rfl rfl rfl rfl <| JM.nil <| qv (.bool true) (V.pickT rfl rfl rfl) <| JQ.nil <| J.nil ?_
   refine CJ.condK (b := true) rfl rfl <| cr <| ja (.bool false) rfl <| J.nil <| CJ.ret ?_
   obtain rfl := si h
   exact ⟨_, _, Res.one rfl rfl, ⟨false, rfl, rfl, rfl⟩, (Hp.le_refl _), fun w hs => (Sep.dropAt 0 rfl (Sep.dropAt 0 rfl (Sep.dropAt 0 rfl (Sep.dropAt 0 rfl hs))))⟩
 have h := cf hc167 h
 refine JQ.run rfl rfl rfl hc167 <| qv _ (V.fad Try.underlying54 rfl nz52 rfl) <| JQ.run rfl rfl rfl hc167 <| qv (.slice adxa_4 xa.2.2.2.2.1.length cpxa_4) (V.ld rfl (Ld.sc sc52 (Rd.cl 1 rfl rfl))) <| JQ.run rfl rfl rfl hc167 <| qm (.func (.func 84) #[] #[.pointer (some ⟨b119, 0, none⟩)]) rfl <| JQ.nil ?_
 refine JA.run rfl rfl rfl hc167 ?_
 obtain ⟨r168, hr169, h⟩ := ob h
 refine JA.front 1 rfl <| JA.op rfl (A.call (L1 := [Cl b119 3 [ii ((((xb.2.2.1.length : Nat) : Int)))]]) Try.call80 rfl (slices_ContainsFunc_int_int_k_term_beyond_1_p0_i_ok fxa_4 hr169) rfl rfl) ?_
 rintro _ _ _ ⟨v171, _, rfl, ⟨⟨t170, rfl, rfl, rfl⟩, rfl⟩, _, rfl⟩
 refine ⟨fun w hs => Hold.sub (Hp.le_refl _) ⟨2, rfl, 2, rfl, trivial⟩ hs, ?_⟩
 refine JM.cons <| qv (.bool t170) (V.pickF rfl hc167 rfl) <| qm (.bool t170) rfl ?_
 rcases bt (t170) with hc174 | hc174
 · have h := ct hc174 h
   refine JQ.skip rfl rfl rfl rfl hc174 <| JQ.skip rfl rfl rfl rfl hc174 <| JQ.skip rfl rfl rfl rfl hc174 <| JQ.skip rfl rfl rfl rfl hc174 <| JQ.nil <| JA.skip rfl rfl rfl rfl hc174 <| JM.cons ?_
   refine JQ.nil <| JA.skip rfl rfl rfl rfl hc174 <| JM.nil <| qv (.bool true) (V.pickT rfl hc174 rfl) <| JQ.nil <| J.nil <| CJ.condK (b := true) rfl rfl ?_
   refine cr <| ja (.bool false) rfl <| J.nil <| CJ.ret ?_
   obtain rfl := si h
   exact ⟨_, _, Res.one rfl rfl, ⟨false, rfl, rfl, rfl⟩, (Hp.le_refl _), fun w hs => (Sep.dropAt 0 rfl (Sep.dropAt 0 rfl (Sep.dropAt 0 rfl (Sep.dropAt 0 rfl hs))))⟩
 have h := cf hc174 h
 refine JQ.run rfl rfl rfl hc174 <| qv _ (V.fad Try.underlying54 rfl nz52 rfl) <| JQ.run rfl rfl rfl hc174 <| qv (.slice adxa_5 xa.2.2.2.2.2.length cpxa_5) (V.ld rfl (Ld.sc sc52 (Rd.cl 1 rfl rfl))) <| JQ.run rfl rfl rfl hc174 <| qv _ (V.fad Try.underlying74 rfl nz3 rfl) <| JQ.run rfl rfl rfl hc174 ?_
 refine qv (ii xb.2.1) (V.ld rfl (Ld.sc sc3 (Rd.cl 0 rfl rfl))) <| JQ.nil <| JA.run rfl rfl rfl hc174 ?_
 obtain ⟨r175, hr176, h⟩ := ob h
 refine JA.op rfl (A.call (L1 := []) Try.call79 rfl (term_beyond_ok hr176) rfl rfl) ?_
 rintro _ _ _ ⟨v178, _, rfl, ⟨⟨b177, rfl, rfl, rfl⟩, rfl⟩, _, rfl⟩
 refine ⟨fun w hs => Hold.sub (Hp.le_refl _) ⟨3, rfl, 3, rfl, trivial⟩ hs, ?_⟩
 refine JM.cons <| JQ.nil <| JA.run rfl rfl rfl hc174 ?_
 obtain ⟨r181, hr182, h⟩ := ob h
 refine JA.op rfl (A.call (L1 := [Cl b177 3 [ii xb.2.1]]) Try.call80 rfl (slices_ContainsFunc_int_int_k_term_beyond_1_p0_i_ok fxa_5 hr182) rfl rfl) ?_
 rintro _ _ _ ⟨v184, _, rfl, ⟨⟨t183, rfl, rfl, rfl⟩, rfl⟩, _, rfl⟩
 refine ⟨fun w hs => Hold.sub (Hp.le_refl _) ⟨3, rfl, 3, rfl, trivial⟩ hs, ?_⟩
 refine JM.nil <| qv (.bool t183) (V.pickF rfl hc174 rfl) <| JQ.nil <| J.nil <| cc rfl h (fun hc187 h => ?_) fun hc187 h => ?_
 · refine cr <| ja (.bool false) rfl <| J.nil <| CJ.ret ?_
   obtain rfl := si h
   exact ⟨_, _, Res.one rfl rfl, ⟨false, rfl, rfl, rfl⟩, (Hp.le_refl _), fun w hs => (Sep.dropAt 0 rfl (Sep.dropAt 0 rfl (Sep.dropAt 0 rfl (Sep.dropAt 0 rfl (Sep.dropAt 0 rfl hs)))))⟩
 refine CJ.skip <| CJ.seq <| CJ.mix [Cl b177 3 [ii xb.2.1], Cl b157 3 [ii xb.1], Cl b116 74 [ii xb.1, ii xb.2.1, .slice adxb_2 xb.2.2.1.length cpxb_2, .slice adxb_3 xb.2.2.2.1.length cpxb_3, .slice adxb_4 xb.2.2.2.2.length cpxb_4], Cl b115 54 [ii xa.1, ii xa.2.1, ii xa.2.2.1, .slice adxa_3 xa.2.2.2.1.length cpxa_3, .slice adxa_4 xa.2.2.2.2.1.length cpxa_4, .slice adxa_5 xa.2.2.2.2.2.length cpxa_5]] [([0, 1, 2, 3, 4, 5, 6], 7), ([8, 9, 10, 11, 12, 14, 15], 13), ([], 16)] [17, 18, 19, 20] [] mixO (by decide +kernel) ⟨0, rfl, 1, rfl, 1, rfl, 1, rfl, trivial⟩ rfl rfl rfl <| JM.cons <| qv _ (V.fad Try.underlying54 rfl nz3 rfl) <| qv (ii xa.1) (V.ld rfl (Ld.sc sc3 (Rd.cl 3 rfl rfl))) <| qv (.bool (!decide (xa.1 = 4))) (V.neq rfl rfl) ?_
 refine qm (.bool (!decide (xa.1 = 4))) rfl ?_
 rcases bt (!decide (xa.1 = 4)) with hc208 | hc208
 · have h := ct hc208 h
   refine JQ.skip rfl rfl rfl rfl hc208 <| JQ.skip rfl rfl rfl rfl hc208 <| JQ.skip rfl rfl rfl rfl hc208 <| JQ.nil <| JA.skip rfl rfl rfl rfl hc208 <| JM.cons <| JQ.skip rfl rfl rfl rfl hc208 ?_
   refine JQ.skip rfl rfl rfl rfl hc208 <| JQ.skipu rfl rfl rfl rfl <| JQ.skipu rfl rfl rfl rfl <| JQ.skipu rfl rfl rfl rfl <| JQ.skipu rfl rfl rfl rfl <| JQ.skipu rfl rfl rfl rfl <| JQ.nil ?_
   refine JA.skipu rfl rfl rfl rfl <| JM.cons <| JQ.nil <| JA.skipu rfl rfl rfl rfl <| JM.nil <| JQ.skipu rfl rfl rfl rfl <| JQ.skip rfl rfl rfl rfl hc208 ?_
   refine qv (.bool true) (V.pickT rfl hc208 rfl) <| qa (.bool true) rfl <| JQ.nil <| J.nil <| CJ.ret ?_
   obtain rfl := si h
   exact ⟨_, _, Res.one rfl rfl, ⟨true, rfl, rfl, rfl⟩, (Hp.le_refl _), fun w hs => (Sep.dropAt 0 rfl (Sep.dropAt 0 rfl (Sep.dropAt 0 rfl (Sep.dropAt 0 rfl (Sep.dropAt 0 rfl hs)))))⟩
 have h := cf hc208 h
 refine JQ.run rfl rfl rfl hc208 <| qm (.func (.func 84) #[] #[.pointer (some ⟨b119, 0, none⟩)]) rfl <| JQ.run rfl rfl rfl hc208 <| qv _ (V.fad Try.underlying54 rfl nz3 rfl) <| JQ.run rfl rfl rfl hc208 <| qv (ii xa.2.2.1) (V.ld rfl (Ld.sc sc3 (Rd.cl 3 rfl rfl))) <| JQ.nil ?_
 refine JA.run rfl rfl rfl hc208 ?_
 obtain ⟨r209, hr210, h⟩ := ob h
 refine JA.front 1 rfl <| JA.op rfl (A.call (L1 := [Cl b119 3 [ii (((((xb.2.2.1.length : Nat) : Int))))]]) Try.call84 rfl (term_beyond_1_ip0_i_ok hr210) rfl rfl) ?_
 rintro _ _ _ ⟨v212, _, rfl, ⟨⟨t211, rfl, rfl, rfl⟩, rfl⟩, _, rfl⟩
 refine ⟨fun w hs => Hold.sub (Hp.le_refl _) ⟨1, rfl, 1, rfl, 1, rfl, 1, rfl, trivial⟩ hs, ?_⟩
 refine JM.cons <| JQ.run rfl rfl rfl hc208 <| qv (.bool (!t211)) (V.not rfl) <| JQ.run rfl rfl rfl hc208 <| qm (.bool (!t211)) rfl ?_
 rcases bt (!t211) with hc215 | hc215
 · have h := ct hc215 h
   refine JQ.run rfl rfl rfl hc215 <| qv _ (V.fad Try.underlying74 rfl nz27 rfl) <| JQ.run rfl rfl rfl hc215 <| qv (.slice adxb_4 xb.2.2.2.2.length cpxb_4) (V.ld rfl (Ld.sc sc27 (Rd.cl 2 rfl rfl))) <| JQ.run rfl rfl rfl hc215 <| qv (ii (((xb.2.2.2.2.length : Nat) : Int))) (V.len Try.underlying27 rfl) <| JQ.run rfl rfl rfl hc215 ?_
   refine qv _ (V.fad Try.underlying54 rfl nz3 rfl) <| JQ.run rfl rfl rfl hc215 <| qv (ii xa.2.1) (V.ld rfl (Ld.sc sc3 (Rd.cl 3 rfl rfl))) <| JQ.nil <| JA.run rfl rfl rfl hc215 ?_
   obtain ⟨r216, hr217, h⟩ := ob h
   refine JA.op rfl (A.call (L1 := []) Try.call79 rfl (term_beyond_ok hr217) rfl rfl) ?_
   rintro _ _ _ ⟨v219, _, rfl, ⟨⟨b218, rfl, rfl, rfl⟩, rfl⟩, _, rfl⟩
   refine ⟨fun w hs => Hold.sub (Hp.le_refl _) ⟨2, rfl, 2, rfl, 2, rfl, 2, rfl, trivial⟩ hs, ?_⟩
   refine JM.cons <| JQ.nil <| JA.run rfl rfl rfl hc215 ?_
   obtain ⟨r222, hr223, h⟩ := ob h
   refine JA.op rfl (A.call (L1 := [Cl b218 3 [ii ((((xb.2.2.2.2.length : Nat) : Int)))]]) Try.call84 rfl (term_beyond_1_ip0_i_ok hr223) rfl rfl) ?_
   rintro _ _ _ ⟨v225, _, rfl, ⟨⟨t224, rfl, rfl, rfl⟩, rfl⟩, _, rfl⟩
   refine ⟨fun w hs => Hold.sub (Hp.le_refl _) ⟨2, rfl, 2, rfl, 2, rfl, 2, rfl, trivial⟩ hs, ?_⟩
   refine JM.nil <| JQ.run rfl rfl rfl hc215 <| qv (.bool (!t224)) (V.not rfl) <| JQ.run rfl rfl rfl hc208 <| qv (.bool (!t224)) (V.pickT rfl hc215 rfl) <| qv (.bool (!t224)) (V.pickF rfl hc208 rfl) <| qa (.bool (!t224)) rfl ?_
   refine JQ.nil <| J.nil <| CJ.ret ?_
   obtain rfl := si h
   exact ⟨_, _, Res.one rfl rfl, ⟨!t224, rfl, rfl, rfl⟩, (Hp.le_refl _), fun w hs => (Sep.dropAt 0 rfl (Sep.dropAt 0 rfl (Sep.dropAt 0 rfl (Sep.dropAt 0 rfl (Sep.dropAt 0 rfl (Sep.dropAt 0 rfl hs))))))⟩
 have h := cf hc215 h
 refine JQ.skip rfl rfl rfl rfl hc215 <| JQ.skip rfl rfl rfl rfl hc215 <| JQ.skip rfl rfl rfl rfl hc215 <| JQ.skip rfl rfl rfl rfl hc215 <| JQ.skip rfl rfl rfl rfl hc215 <| JQ.nil <| JA.skip rfl rfl rfl rfl hc215 ?_
 refine JM.cons <| JQ.nil <| JA.skip rfl rfl rfl rfl hc215 <| JM.nil <| JQ.skip rfl rfl rfl rfl hc215 <| JQ.run rfl rfl rfl hc208 <| qv (.bool false) (V.pickF rfl hc215 rfl) ?_
 refine qv (.bool false) (V.pickF rfl hc208 rfl) <| qa (.bool false) rfl <| JQ.nil <| J.nil <| CJ.ret ?_
 obtain rfl := si h
 exact ⟨_, _, Res.one rfl rfl, ⟨false, rfl, rfl, rfl⟩, (Hp.le_refl _), fun w hs => (Sep.dropAt 0 rfl (Sep.dropAt 0 rfl (Sep.dropAt 0 rfl (Sep.dropAt 0 rfl (Sep.dropAt 0 rfl hs)))))⟩
end Go.Proofs.Ytbaaamdljojknaa
