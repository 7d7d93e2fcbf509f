/- What Go functions answer: generated. -/
import Derived.Test.YtelekeapfgfknaaF2
namespace Go.Proofs.Ytelekeapfgfknaa
open Go.RowKit
set_option linter.unusedVariables false
set_option linter.unnecessarySimpa false
set_option linter.unusedSimpArgs false
set_option maxRecDepth 20000
noncomputable def fn_point_New_l1 (xa : (Int × Int × (List (Int × Int)) × (List (List (Int × Bool))) × (List (Int × Bool)) × (List (Int × (List (Int × Int)) × (List (List (Int × Bool))) × (List (Int × Bool)))) × (List ((List (Int × Int × Int × Int × Bool)) × (Int × Int × Int × (List Int) × (List Int) × (List Int)))))) : (Int × (List Int) × Int) → Option ((Int × (List Int) × Int) ⊕ ((List Int) × Int)) := fun ((i603, l604, i609) : (Int × (List Int) × Int)) => cond (decide (i603 < (((xa.2.2.2.2.2.2.length : Nat) : Int)))) ((getI xa.2.2.2.2.2.2 i603).bind fun x668 => (app l604 ([i609] : List Int)).bind fun z706 => some (.inl ((IntKind.wrap .i64 (i603 + 1), z706, IntKind.wrap .i64 (i609 + (IntKind.wrap .i64 ((((x668.1.length : Nat) : Int)) + 1))))))) (some (.inr (((l604, i609)))))
noncomputable def fn_point_New (xa : (Int × Int × (List (Int × Int)) × (List (List (Int × Bool))) × (List (Int × Bool)) × (List (Int × (List (Int × Int)) × (List (List (Int × Bool))) × (List (Int × Bool)))) × (List ((List (Int × Int × Int × Int × Bool)) × (Int × Int × Int × (List Int) × (List Int) × (List Int)))))) : Option ((Option ((List Int) × Int))) :=
  (fn_valid_OK (xa.1, xa.2.1, xa.2.2.1, xa.2.2.2.1, xa.2.2.2.2.1, xa.2.2.2.2.2.1, xa.2.2.2.2.2.2)).bind fun t366 => cond (!t366) (some ((some ([], 0)))) ((loop (fn_point_New_l1 xa) (0, [], 0) : Option (((List Int) × Int))).bind fun (l539, i544) => some ((some (l539, i544))))
set_option maxRecDepth 100000 in
set_option maxHeartbeats 4000000 in
theorem point_New_ok {K : Hp} {xa : (Int × Int × (List (Int × Int)) × (List (List (Int × Bool))) × (List (Int × Bool)) × (List (Int × (List (Int × Int)) × (List (List (Int × Bool))) × (List (Int × Bool)))) × (List ((List (Int × Int × Int × Int × Bool)) × (Int × Int × Int × (List Int) × (List Int) × (List Int)))))} {adxa_2 : Option Addr} {cpxa_2 : Nat} {adxa_3 : Option Addr} {cpxa_3 : Nat} {adxa_4 : Option Addr} {cpxa_4 : Nat} {adxa_5 : Option Addr} {cpxa_5 : Nat} {adxa_6 : Option Addr} {cpxa_6 : Nat} (fxa_2 : Is K (.sl (.cons (.int .i64) (.one (.int .i64)))) [.slice adxa_2 xa.2.2.1.length cpxa_2] xa.2.2.1) (fxa_3 : Is K (.sl (.one (.sl (.cons (.int .i64) (.one .bool))))) [.slice adxa_3 xa.2.2.2.1.length cpxa_3] xa.2.2.2.1) (fxa_4 : Is K (.sl (.cons (.int .i64) (.one .bool))) [.slice adxa_4 xa.2.2.2.2.1.length cpxa_4] xa.2.2.2.2.1) (fxa_5 : Is K (.sl (.cons (.int .i64) (.cons (.sl (.cons (.int .i64) (.one (.int .i64)))) (.cons (.sl (.one (.sl (.cons (.int .i64) (.one .bool))))) (.one (.one (.sl (.cons (.int .i64) (.one .bool))))))))) [.slice adxa_5 xa.2.2.2.2.2.1.length cpxa_5] xa.2.2.2.2.2.1) (fxa_6 : Is K (.sl (.cons (.sl (.cons (.int .i64) (.cons (.int .i64) (.cons (.int .i64) (.cons (.int .i64) (.one .bool)))))) (.one (.cons (.int .i64) (.cons (.int .i64) (.cons (.int .i64) (.cons (.sl (.int .i64)) (.cons (.sl (.int .i64)) (.one (.sl (.int .i64))))))))))) [.slice adxa_6 xa.2.2.2.2.2.2.length cpxa_6] xa.2.2.2.2.2.2) {r : (Option ((List Int) × Int))} (h : fn_point_New xa = some r) :
    Tr Try.prog 15 #[.agg #[ii xa.1, ii xa.2.1, .slice adxa_2 xa.2.2.1.length cpxa_2, .slice adxa_3 xa.2.2.2.1.length cpxa_3, .slice adxa_4 xa.2.2.2.2.1.length cpxa_4, .slice adxa_5 xa.2.2.2.2.2.1.length cpxa_5, .slice adxa_6 xa.2.2.2.2.2.2.length cpxa_6]] K [] (fun v K' L' => (∃ (p359 : (Option ((List Int) × Int))) (v360 : Value), p359 = r ∧ v360 = v ∧ Is K' (.ptr (.cons (.sl (.int .i64)) (.one (.int .i64)))) [v360] p359 ∧ L' = [])) := by
 refine Tr.of Try.func15 rfl Try.ntmps15 rfl fun E F => ?_
 unfold fn_point_New at h
 refine cr <| jbx [ii xa.1, ii xa.2.1, .slice adxa_2 xa.2.2.1.length cpxa_2, .slice adxa_3 xa.2.2.2.1.length cpxa_3, .slice adxa_4 xa.2.2.2.2.1.length cpxa_4, .slice adxa_5 xa.2.2.2.2.2.1.length cpxa_5, .slice adxa_6 xa.2.2.2.2.2.2.length cpxa_6] rfl rfl fun b362 => ja (.pointer none) rfl <| J.nil <| CJ.seq <| CJ.region ?_
 refine jv (.agg #[nos, ii 0]) (V.build inf86 places86 rfl rfl) <| jbx [nos, ii 0] rfl rfl fun b363 => ja _ rfl <| J.nil <| CJ.seq <| CJ.seq <| CJ.region ?_
 refine jv (.agg #[ii xa.1, ii xa.2.1, .slice adxa_2 xa.2.2.1.length cpxa_2, .slice adxa_3 xa.2.2.2.1.length cpxa_3, .slice adxa_4 xa.2.2.2.2.1.length cpxa_4, .slice adxa_5 xa.2.2.2.2.2.1.length cpxa_5, .slice adxa_6 xa.2.2.2.2.2.2.length cpxa_6]) (V.ld rfl (Ld.agg (cs := [ii xa.1, ii xa.2.1, .slice adxa_2 xa.2.2.1.length cpxa_2, .slice adxa_3 xa.2.2.2.1.length cpxa_3, .slice adxa_4 xa.2.2.2.2.1.length cpxa_4, .slice adxa_5 xa.2.2.2.2.2.1.length cpxa_5, .slice adxa_6 xa.2.2.2.2.2.2.length cpxa_6]) Try.underlying34 sz34 rfl (Rd.cls 1 0 rfl rfl))) ?_
 obtain ⟨r364, hr365, h⟩ := ob h
 refine J.op rfl (A.call (L1 := []) Try.call25 rfl (valid_OK_ok fxa_2 fxa_3 fxa_4 fxa_5 fxa_6 hr365) rfl rfl) ?_
 rintro _ _ _ ⟨v367, _, rfl, ⟨⟨t366, rfl, rfl, rfl⟩, rfl⟩, _, rfl⟩
 refine jv (.bool (!t366)) (V.not rfl) <| J.nil <| cc rfl h (fun hc370 h => ?_) fun hc370 h => ?_
 · refine cr <| jm _ rfl <| ja _ rfl <| J.nil <| CJ.persistAt (t := (.cons (.sl (.int .i64)) (.one (.int .i64)))) (x := ([], 0)) ⟨_, _, rfl, rfl, (isNil (K := K) (t := (.int .i64))), rfl⟩ fun K371 hK372 a373 => CJ.ret ?_
   obtain rfl := si h
   exact ⟨_, _, Res.one rfl rfl, ⟨(some ([], 0)), .pointer (some ⟨b363, 0, none⟩), rfl, rfl, (At.is_ptr a373), rfl⟩, hK372, fun w hs => (Sep.dropAt 0 rfl hs)⟩
 refine CJ.skip <| CJ.seq <| cr <| jv _ (V.fad Try.underlying34 rfl nz32 rfl) <| jv (.slice adxa_6 xa.2.2.2.2.2.2.length cpxa_6) (V.ld rfl (Ld.sc sc32 (Rd.cl 1 rfl rfl))) <| jv (ii (((xa.2.2.2.2.2.2.length : Nat) : Int))) (V.len Try.underlying32 rfl) ?_
 refine jm (ii 0) rfl <| J.nil ?_
 obtain ⟨o545, ho546, h⟩ := ob h
 refine CJ.meetN (fun ρ K' L' => ∃ (l539 : (List Int)) (i544 : Int) (ad540 : Option Addr) (cp541 : Nat), (l539, i544) = o545 ∧ Fits [(3, .pointer (some ⟨b363, 0, none⟩))] ρ ∧ K = K' ∧ L' = Cl b363 86 [.slice ad540 l539.length cp541, ii i544] :: Row Hp.nil 3 (.int .i64) (.slice ad540 l539.length cp541) l539 :: F) ?_ ?_
 · refine CJ.block <| CJ.by (fun w hs => Sep.rowNil (e := 3) (t := (.int .i64)) hs) <| CJ.dropAt 2 rfl <| CJ.front 1 rfl <| CJ.loop (fun s ρ K' L' => ∃ (i603 : Int) (l604 : (List Int)) (i609 : Int) (ad605 : Option Addr) (cp606 : Nat), (i603, l604, i609) = s ∧ Fits [(3, .pointer (some ⟨b363, 0, none⟩)), (13, .slice adxa_6 xa.2.2.2.2.2.2.length cpxa_6), (14, ii (((xa.2.2.2.2.2.2.length : Nat) : Int))), (15, ii i603)] ρ ∧ K = K' ∧ L' = Cl b363 86 [.slice ad605 l604.length cp606, ii i609] :: Row Hp.nil 3 (.int .i64) (.slice ad605 l604.length cp606) l604 :: F) ho546 ⟨0, [], 0, none, 0, rfl, ⟨rfl, rfl, rfl, rfl, trivial⟩, rfl, rfl⟩ ?_
   rintro s ρ _ _ r666 ⟨i603, l604, i609, ad605, cp606, rfl, hf664, rfl, rfl⟩ h662
   obtain ⟨ρ, rfl⟩ := hf664.ex
   refine CJ.front 1 rfl <| CJ.wit Row.hn fun hn608 => cr <| jv (.bool (decide (i603 < (((xa.2.2.2.2.2.2.length : Nat) : Int))))) (V.lss rfl rfl) <| J.nil <| CJ.seq ?_
   refine cc rfl h662 (fun hc667 h662 => ?_) fun hc667 h662 => ?_
   · refine CJ.skip <| CJ.seq <| CJ.block <| CJ.seq <| CJ.region ?_
     obtain ⟨x668, hx669, h662⟩ := ob h662
     obtain ⟨p670, p671, p672⟩ := getI_some hx669
     obtain ⟨b673, o674, e675, a676⟩ := (fxa_6).at p671
     refine jv _ (V.iad Try.underlying32 sz58 rfl e675 rfl p670 p672) ?_
     obtain ⟨ad677, cp678, c679, f680⟩ := ((a676).fst).sl
     obtain ⟨ad681, cp682, c683, f684⟩ := (((((((a676).snd).one).snd).snd).snd).fst).sl
     obtain ⟨ad685, cp686, c687, f688⟩ := ((((((((a676).snd).one).snd).snd).snd).snd).fst).sl
     obtain ⟨ad689, cp690, c691, f692⟩ := (((((((((a676).snd).one).snd).snd).snd).snd).snd).one).sl
     refine jv (.agg #[.slice ad677 x668.1.length cp678, ii x668.2.1, ii x668.2.2.1, ii x668.2.2.2.1, .slice ad681 x668.2.2.2.2.1.length cp682, .slice ad685 x668.2.2.2.2.2.1.length cp686, .slice ad689 x668.2.2.2.2.2.2.length cp690]) (V.ld rfl (Ld.aggK (cs := [.slice ad677 x668.1.length cp678, ii x668.2.1, ii x668.2.2.1, ii x668.2.2.2.1, .slice ad681 x668.2.2.2.2.1.length cp682, .slice ad685 x668.2.2.2.2.2.1.length cp686, .slice ad689 x668.2.2.2.2.2.2.length cp690]) Try.underlying58 sz58 rfl ⟨c679, ((((a676).snd).one).fst).int, (((((a676).snd).one).snd).fst).int, ((((((a676).snd).one).snd).snd).fst).int, c683, c687, c691, trivial⟩ (Hp.le_refl _))) <| jal inf58 [nos, ii 0, ii 0, ii 0, nos, nos, nos] rfl fun b693 => js [.slice ad677 x668.1.length cp678, ii x668.2.1, ii x668.2.2.1, ii x668.2.2.2.1, .slice ad681 x668.2.2.2.2.1.length cp682, .slice ad685 x668.2.2.2.2.2.1.length cp686, .slice ad689 x668.2.2.2.2.2.2.length cp690] sz58 rfl rfl rfl rfl rfl rfl <| J.nil <| CJ.seq <| CJ.mix [Cl b693 58 [.slice ad677 x668.1.length cp678, ii x668.2.1, ii x668.2.2.1, ii x668.2.2.2.1, .slice ad681 x668.2.2.2.2.1.length cp682, .slice ad685 x668.2.2.2.2.2.1.length cp686, .slice ad689 x668.2.2.2.2.2.2.length cp690], Cl b363 86 [.slice ad605 l604.length cp606, ii i609]] [([0, 1, 2, 3, 4, 5, 6, 7, 8], 9), ([], 10)] [11, 12] [13] mixO (by decide +kernel) ⟨0, rfl, 1, rfl, trivial⟩ rfl rfl rfl <| JM.cons ?_
     refine qm _ rfl <| qm _ rfl <| qv _ (V.nck rfl) <| qv _ (V.fad Try.underlying86 rfl nz54 rfl) <| qv (.slice ad605 l604.length cp606) (V.ld rfl (Ld.sc sc54 (Rd.cl 1 rfl rfl))) <| qm _ rfl <| qv _ (V.nck rfl) ?_
     refine qv _ (V.fad Try.underlying86 rfl nz3 rfl) <| qv (ii i609) (V.ld rfl (Ld.sc sc3 (Rd.cl 1 rfl rfl))) <| JQ.nil ?_
     refine JA.op rfl (A.lit (K0 := Hp.nil) (ty := (.int .i64)) (xs := ([i609] : List Int)) Try.underlying54 inf3 rfl (by decide) rfl rfl rfl ⟨_, _, rfl, rfl, rfl⟩ rfl (by decide)) ?_
     rintro _ _ _ ⟨b703, rfl, rfl, rfl⟩
     have hn704 : ([i609] : List Int) ≠ [] → ∃ g, (some ⟨b703, 0, none⟩ : Option Addr) = some ⟨g, 0, none⟩ := fun _ => ⟨b703, rfl⟩
     refine ⟨fun w hs => Hold.sub (Hp.le_refl _) ⟨1, rfl, 2, rfl, trivial⟩ hs, ?_⟩
     refine JM.cons <| JQ.nil ?_
     obtain ⟨z706, hz707, h662⟩ := ob h662
     refine JA.front 2 rfl <| JA.op rfl (A.appR (Kr := Hp.nil) Try.underlying54 inf3 rfl rfl (by decide) (by decide) rfl rfl (Els.flat rfl) (Els.flat rfl) hz707) ?_
     rintro _ _ _ ⟨v708, rfl, rfl, rfl⟩
     refine ⟨fun w hs => Hold.sub (Hp.le_refl _) ⟨1, rfl, 1, rfl, trivial⟩ hs, ?_⟩
     refine JM.wit Row.form ?_
     rintro ⟨ad709, cp710, rfl, _, _, hn711⟩
     refine JM.nil <| qv _ (V.nck rfl) <| qv _ (V.fad Try.underlying86 rfl nz54 rfl) <| JQ.nil <| J.front 2 rfl <| js1 [.slice ad709 z706.length cp710, ii i609] sz54 rfl rfl rfl rfl rfl rfl <| J.nil ?_
     refine CJ.mix [Cl b363 86 [.slice ad709 z706.length cp710, ii i609], Row Hp.nil 3 (.int .i64) (.slice ad709 z706.length cp710) z706, Cl b693 58 [.slice ad677 x668.1.length cp678, ii x668.2.1, ii x668.2.2.1, ii x668.2.2.2.1, .slice ad681 x668.2.2.2.2.1.length cp682, .slice ad685 x668.2.2.2.2.2.1.length cp686, .slice ad689 x668.2.2.2.2.2.2.length cp690]] [] [0, 1, 2, 3, 4, 5, 6, 7, 8, 9, 10] [11] mixO (by decide +kernel) ⟨0, rfl, 0, rfl, 0, rfl, trivial⟩ rfl rfl rfl <| JM.nil <| qm _ rfl <| qv _ (V.nck rfl) <| qv _ (V.fad Try.underlying86 rfl nz3 rfl) <| qv (ii i609) (V.ld rfl (Ld.sc sc3 (Rd.cl 0 rfl rfl))) <| qv _ (V.fad Try.underlying58 rfl nz53 rfl) ?_
     refine qv (.slice ad677 x668.1.length cp678) (V.ld rfl (Ld.sc sc53 (Rd.cl 2 rfl rfl))) <| qv (ii (((x668.1.length : Nat) : Int))) (V.len Try.underlying53 rfl) <| qv (ii (IntKind.wrap .i64 ((((x668.1.length : Nat) : Int)) + 1))) (V.add rfl rfl) <| qv (ii (IntKind.wrap .i64 (i609 + (IntKind.wrap .i64 ((((x668.1.length : Nat) : Int)) + 1))))) (V.add rfl rfl) <| qv _ (V.nck rfl) <| qv _ (V.fad Try.underlying86 rfl nz3 rfl) <| JQ.nil ?_
     refine js1 [.slice ad709 z706.length cp710, ii (IntKind.wrap .i64 (i609 + (IntKind.wrap .i64 ((((x668.1.length : Nat) : Int)) + 1))))] sz3 rfl rfl rfl rfl rfl rfl <| J.nil <| CJ.region <| jv (ii (IntKind.wrap .i64 (i603 + 1))) (V.add rfl rfl) <| jm (ii (IntKind.wrap .i64 (i603 + 1))) rfl <| J.dropAt 2 rfl <| J.nil ?_
     obtain rfl := si h662
     exact ⟨rfl, ⟨IntKind.wrap .i64 (i603 + 1), z706, IntKind.wrap .i64 (i609 + (IntKind.wrap .i64 ((((x668.1.length : Nat) : Int)) + 1))), ad709, cp710, rfl, ⟨rfl, rfl, rfl, rfl, trivial⟩, rfl, rfl⟩⟩
   refine CJ.front 1 rfl <| CJ.exit ?_
   obtain rfl := si h662
   refine ⟨nofun, fun e => ?_⟩
   subst e
   exact ⟨rfl, ⟨l604, i609, ad605, cp606, rfl, ⟨rfl, trivial⟩, rfl, rfl⟩⟩
 rintro ρ _ _ ⟨l539, i544, ad540, cp541, rfl, hf712, rfl, rfl⟩
 obtain ⟨ρ, rfl⟩ := hf712.ex
 refine PJ.front 1 rfl <| PJ.wit Row.hn fun hn543 => PJ.done <| cr <| jm _ rfl <| ja _ rfl ?_
 refine J.nil <| CJ.persist (Hp.nil_le _) (by decide) fun K714 hK715 f716 => CJ.persistAt (t := (.cons (.sl (.int .i64)) (.one (.int .i64)))) (x := (l539, i544)) ⟨_, _, rfl, rfl, f716, rfl⟩ fun K717 hK718 a719 => CJ.ret ?_
 obtain rfl := si h
 exact ⟨_, _, Res.one rfl rfl, ⟨(some (l539, i544)), .pointer (some ⟨b363, 0, none⟩), rfl, rfl, (At.is_ptr a719), rfl⟩, (hK715.trans hK718), fun w hs => hs⟩

noncomputable def fn_point_Points_Len (xa : (Option ((List Int) × Int))) : Option Int :=
  cond (xa.isNone) (some (0)) ((xa : Option ((List Int) × Int)).bind fun y11 => some (y11.2))
set_option maxRecDepth 100000 in
set_option maxHeartbeats 4000000 in
theorem point_Points_Len_ok {K : Hp} {xa : (Option ((List Int) × Int))} {vxa_0 : Value} (fxa_0 : Is K (.ptr (.cons (.sl (.int .i64)) (.one (.int .i64)))) [vxa_0] xa) {r : Int} (h : fn_point_Points_Len xa = some r) :
    Tr Try.prog 16 #[vxa_0] K [] (fun v K' L' => (∃ (i9 : Int), i9 = r ∧ ii i9 = v ∧ L' = []) ∧ K = K') := by
 refine Tr.k <| Tr.of Try.func16 rfl Try.ntmps16 rfl fun E F => ?_
 unfold fn_point_Points_Len at h
 refine cr <| ja (ii 0) rfl <| J.nil <| CJ.seq <| CJ.seq <| CJ.region ?_
 refine jm vxa_0 rfl <| jv (.bool xa.isNone) (V.kp_eql Try.underlying72 fxa_0 rfl rfl) <| J.nil <| cc rfl h (fun hc10 h => ?_) fun hc10 h => ?_
 · refine cr <| ja (ii 0) rfl <| J.nil <| CJ.ret ?_
   obtain rfl := si h
   exact ⟨_, _, Res.one rfl rfl, ⟨0, rfl, rfl, rfl⟩, (Hp.le_refl _), fun w hs => hs⟩
 refine CJ.skip <| cr <| jm vxa_0 rfl ?_
 obtain ⟨y11, hy12, h⟩ := ob h
 obtain ⟨b13, o14, hv15, a16⟩ := Is.psome fxa_0 hy12
 refine jv _ (V.nck hv15) <| jv _ (V.fad Try.underlying86 rfl nz3 rfl) <| jv (ii y11.2) (V.ld rfl (Ld.sc sc3 (Rd.k (((a16).snd).one).int (Hp.le_refl _)))) <| ja (ii y11.2) rfl <| J.nil <| CJ.ret ?_
 obtain rfl := si h
 exact ⟨_, _, Res.one rfl rfl, ⟨y11.2, rfl, rfl, rfl⟩, (Hp.le_refl _), fun w hs => hs⟩

noncomputable def fn_point_Points_At_1_ip0p1_kp_i (xa : Int) (qa0 : (Option ((List Int) × Int))) (qb0 : Int) : Option Bool :=
  (qa0 : Option ((List Int) × Int)).bind fun y59 => (getI y59.1 xa).bind fun x69 => some (decide (qb0 < x69))
set_option maxRecDepth 100000 in
set_option maxHeartbeats 4000000 in
theorem point_Points_At_1_ip0p1_kp_i_ok {K : Hp} {xa : Int} {qa0 : (Option ((List Int) × Int))} {qb0 : Int} {pba : Nat} {pbb : Nat} {vqa0 : Value} (fqa0 : Is K (.ptr (.cons (.sl (.int .i64)) (.one (.int .i64)))) [vqa0] qa0) {r : Bool} (h : fn_point_Points_At_1_ip0p1_kp_i xa qa0 qb0 = some r) :
    Tr Try.prog 37 #[ii xa, .pointer (some ⟨pba, 0, none⟩), .pointer (some ⟨pbb, 0, none⟩)] K [Cl pba 72 [vqa0], Cl pbb 3 [ii qb0]] (fun v K' L' => (∃ (t39 : Bool), t39 = r ∧ .bool t39 = v ∧ L' = [Cl pba 72 [vqa0], Cl pbb 3 [ii qb0]]) ∧ K = K') := by
 refine Tr.k <| Tr.of Try.func37 rfl Try.ntmps37 rfl fun E F => ?_
 unfold fn_point_Points_At_1_ip0p1_kp_i at h
 refine cr <| ja (.bool false) rfl <| J.nil <| CJ.seq <| CJ.mix [Cl pba 72 [vqa0], Cl pbb 3 [ii qb0]] [] [0, 1, 2, 3, 4, 5, 6, 7, 8, 9] [] mixO (by decide +kernel) ⟨0, rfl, 0, rfl, trivial⟩ rfl rfl rfl <| JM.nil ?_
 refine qv vqa0 (V.ld rfl (Ld.sc sc72 (Rd.cl 0 rfl rfl))) ?_
 obtain ⟨y59, hy60, h⟩ := ob h
 obtain ⟨b61, o62, hv63, a64⟩ := Is.psome fqa0 hy60
 refine qv _ (V.nck hv63) <| qv _ (V.fad Try.underlying86 rfl nz54 rfl) ?_
 obtain ⟨ad65, cp66, c67, f68⟩ := ((a64).fst).sl
 refine qv (.slice ad65 y59.1.length cp66) (V.ld rfl (Ld.sc sc54 (Rd.k c67 (Hp.le_refl _)))) <| qm (ii xa) rfl ?_
 obtain ⟨x69, hx70, h⟩ := ob h
 obtain ⟨p71, p72, p73⟩ := getI_some hx70
 obtain ⟨b74, o75, e76, a77⟩ := (f68).at p72
 refine qv _ (V.iad Try.underlying54 sz3 rfl e76 rfl p71 p73) <| qv (ii x69) (V.ld rfl (Ld.sc sc3 (Rd.k (a77).int (Hp.le_refl _)))) <| qv (ii qb0) (V.ld rfl (Ld.sc sc3 (Rd.cl 1 rfl rfl))) <| qv (.bool (decide (qb0 < x69))) (V.gtr rfl rfl) <| qa (.bool (decide (qb0 < x69))) rfl <| JQ.nil <| J.nil ?_
 refine CJ.ret ?_
 obtain rfl := si h
 exact ⟨_, _, Res.one rfl rfl, ⟨decide (qb0 < x69), rfl, rfl, rfl⟩, (Hp.le_refl _), fun w hs => hs⟩
noncomputable def fn_sort_Search_i_point_Points_At_1_p0p1_kp_i_l1 (qa0 : (Option ((List Int) × Int))) (qb0 : Int) : (Int × Int) → Option ((Int × Int) ⊕ Int) := fun ((i122, i123) : (Int × Int)) => cond (decide (i122 < i123)) ((fn_point_Points_At_1_ip0p1_kp_i (IntKind.wrap .i64 (Int.fdiv (IntKind.wrap .u64 (IntKind.wrap .i64 (i122 + i123))) (2 ^ (min (Int.toNat 1) (IntKind.bits .u64))))) qa0 qb0).bind fun t141 => cond (!t141) (some (.inl ((IntKind.wrap .i64 ((IntKind.wrap .i64 (Int.fdiv (IntKind.wrap .u64 (IntKind.wrap .i64 (i122 + i123))) (2 ^ (min (Int.toNat 1) (IntKind.bits .u64))))) + 1), i123)))) (some (.inl ((i122, IntKind.wrap .i64 (Int.fdiv (IntKind.wrap .u64 (IntKind.wrap .i64 (i122 + i123))) (2 ^ (min (Int.toNat 1) (IntKind.bits .u64))))))))) (some (.inr (i122)))
noncomputable def fn_sort_Search_i_point_Points_At_1_p0p1_kp_i (xa : Int) (qa0 : (Option ((List Int) × Int))) (qb0 : Int) : Option Int :=
  (loop (fn_sort_Search_i_point_Points_At_1_p0p1_kp_i_l1 qa0 qb0) (0, xa) : Option Int).bind fun i109 => some (i109)
set_option maxRecDepth 100000 in
set_option maxHeartbeats 4000000 in
theorem sort_Search_i_point_Points_At_1_p0p1_kp_i_ok {K : Hp} {xa : Int} {qa0 : (Option ((List Int) × Int))} {qb0 : Int} {pba : Nat} {pbb : Nat} {vqa0 : Value} (fqa0 : Is K (.ptr (.cons (.sl (.int .i64)) (.one (.int .i64)))) [vqa0] qa0) {r : Int} (h : fn_sort_Search_i_point_Points_At_1_p0p1_kp_i xa qa0 qb0 = some r) :
    Tr Try.prog 36 #[ii xa, .func (.func 37) #[] #[.pointer (some ⟨pba, 0, none⟩), .pointer (some ⟨pbb, 0, none⟩)]] K [Cl pba 72 [vqa0], Cl pbb 3 [ii qb0]] (fun v K' L' => (∃ (i74 : Int), i74 = r ∧ ii i74 = v ∧ L' = [Cl pba 72 [vqa0], Cl pbb 3 [ii qb0]]) ∧ K = K') := by
 refine Tr.k <| Tr.of Try.func36 rfl Try.ntmps36 rfl fun E F => ?_
 unfold fn_sort_Search_i_point_Points_At_1_p0p1_kp_i at h
 refine cr <| ja (ii 0) rfl <| J.nil <| cr <| jm (ii xa) rfl ?_
 refine ja (ii 0) rfl <| ja (ii xa) rfl <| J.nil <| CJ.seq ?_
 obtain ⟨o110, ho111, h⟩ := ob h
 refine CJ.meetN (fun ρ K' L' => ∃ (i109 : Int), i109 = o110 ∧ Fits [(5, ii i109)] ρ ∧ K = K' ∧ L' = Cl pba 72 [vqa0] :: Cl pbb 3 [ii qb0] :: F) ?_ ?_
 · refine CJ.block <| CJ.loop (fun s ρ K' L' => ∃ (i122 : Int) (i123 : Int), (i122, i123) = s ∧ Fits [(1, .func (.func 37) #[] #[.pointer (some ⟨pba, 0, none⟩), .pointer (some ⟨pbb, 0, none⟩)]), (5, ii i122), (6, ii i123)] ρ ∧ K = K' ∧ L' = Cl pba 72 [vqa0] :: Cl pbb 3 [ii qb0] :: F) ho111 ⟨0, xa, rfl, ⟨rfl, rfl, rfl, trivial⟩, rfl, rfl⟩ ?_
   rintro s ρ _ _ r137 ⟨i122, i123, rfl, hf135, rfl, rfl⟩ h134
   obtain ⟨ρ, rfl⟩ := hf135.ex
   refine CJ.seq <| cr <| jm (ii i122) rfl <| jm (ii i123) rfl <| jv (.bool (decide (i122 < i123))) (V.lss rfl rfl) <| J.nil ?_
   refine cc rfl h134 (fun hc138 h134 => ?_) fun hc138 h134 => ?_
   · refine CJ.skip <| CJ.block <| cr <| jm (ii i122) rfl <| jm (ii i123) rfl <| jv (ii (IntKind.wrap .i64 (i122 + i123))) (V.add rfl rfl) ?_
     refine jv (.int .u64 (IntKind.wrap .u64 (IntKind.wrap .i64 (i122 + i123)))) (V.conv Try.underlying3 Try.underlying124 rfl) <| jv (.int .u64 (Int.fdiv (IntKind.wrap .u64 (IntKind.wrap .i64 (i122 + i123))) (2 ^ (min (Int.toNat 1) (IntKind.bits .u64))))) (V.shr rfl rfl (by decide)) <| jv (ii (IntKind.wrap .i64 (Int.fdiv (IntKind.wrap .u64 (IntKind.wrap .i64 (i122 + i123))) (2 ^ (min (Int.toNat 1) (IntKind.bits .u64)))))) (V.conv Try.underlying124 Try.underlying3 rfl) <| ja (ii (IntKind.wrap .i64 (Int.fdiv (IntKind.wrap .u64 (IntKind.wrap .i64 (i122 + i123))) (2 ^ (min (Int.toNat 1) (IntKind.bits .u64)))))) rfl <| J.nil <| CJ.seq <| CJ.region ?_
     refine jm (.func (.func 37) #[] #[.pointer (some ⟨pba, 0, none⟩), .pointer (some ⟨pbb, 0, none⟩)]) rfl <| jm (ii (IntKind.wrap .i64 (Int.fdiv (IntKind.wrap .u64 (IntKind.wrap .i64 (i122 + i123))) (2 ^ (min (Int.toNat 1) (IntKind.bits .u64)))))) rfl ?_
     obtain ⟨r139, hr140, h134⟩ := ob h134
     refine J.op rfl (A.call (L1 := [Cl pba 72 [vqa0], Cl pbb 3 [ii qb0]]) Try.call37 rfl (point_Points_At_1_ip0p1_kp_i_ok fqa0 hr140) rfl rfl) ?_
     rintro _ _ _ ⟨v142, _, rfl, ⟨⟨t141, rfl, rfl, rfl⟩, rfl⟩, _, rfl⟩
     refine jv (.bool (!t141)) (V.not rfl) <| J.nil <| cc rfl h134 (fun hc145 h134 => ?_) fun hc145 h134 => ?_
     · refine CJ.region <| jm (ii (IntKind.wrap .i64 (Int.fdiv (IntKind.wrap .u64 (IntKind.wrap .i64 (i122 + i123))) (2 ^ (min (Int.toNat 1) (IntKind.bits .u64)))))) rfl <| jv (ii (IntKind.wrap .i64 ((IntKind.wrap .i64 (Int.fdiv (IntKind.wrap .u64 (IntKind.wrap .i64 (i122 + i123))) (2 ^ (min (Int.toNat 1) (IntKind.bits .u64))))) + 1))) (V.add rfl rfl) <| ja (ii (IntKind.wrap .i64 ((IntKind.wrap .i64 (Int.fdiv (IntKind.wrap .u64 (IntKind.wrap .i64 (i122 + i123))) (2 ^ (min (Int.toNat 1) (IntKind.bits .u64))))) + 1))) rfl <| J.nil ?_
       obtain rfl := si h134
       exact ⟨rfl, ⟨IntKind.wrap .i64 ((IntKind.wrap .i64 (Int.fdiv (IntKind.wrap .u64 (IntKind.wrap .i64 (i122 + i123))) (2 ^ (min (Int.toNat 1) (IntKind.bits .u64))))) + 1), i123, rfl, ⟨rfl, rfl, rfl, trivial⟩, rfl, rfl⟩⟩
     refine CJ.region <| jm (ii (IntKind.wrap .i64 (Int.fdiv (IntKind.wrap .u64 (IntKind.wrap .i64 (i122 + i123))) (2 ^ (min (Int.toNat 1) (IntKind.bits .u64)))))) rfl <| ja (ii (IntKind.wrap .i64 (Int.fdiv (IntKind.wrap .u64 (IntKind.wrap .i64 (i122 + i123))) (2 ^ (min (Int.toNat 1) (IntKind.bits .u64)))))) rfl <| J.nil ?_
     obtain rfl := si h134
     exact ⟨rfl, ⟨i122, IntKind.wrap .i64 (Int.fdiv (IntKind.wrap .u64 (IntKind.wrap .i64 (i122 + i123))) (2 ^ (min (Int.toNat 1) (IntKind.bits .u64)))), rfl, ⟨rfl, rfl, rfl, trivial⟩, rfl, rfl⟩⟩
   refine CJ.exit ?_
   obtain rfl := si h134
   refine ⟨nofun, fun e => ?_⟩
   subst e
   exact ⟨rfl, ⟨i122, rfl, ⟨rfl, trivial⟩, rfl, rfl⟩⟩
 rintro ρ _ _ ⟨i109, rfl, hf146, rfl, rfl⟩
 obtain ⟨ρ, rfl⟩ := hf146.ex
 refine PJ.done <| cr <| jm (ii i109) rfl <| ja (ii i109) rfl <| J.nil <| CJ.ret ?_
 obtain rfl := si h
 exact ⟨_, _, Res.one rfl rfl, ⟨i109, rfl, rfl, rfl⟩, (Hp.le_refl _), fun w hs => hs⟩

noncomputable def fn_point_Points_At (xa : (Option ((List Int) × Int))) (xb : Int) : Option (Int × Int × Bool) :=
  cond (decide (xb < 0)) (some ((0, 0, false))) ((fn_point_Points_Len xa).bind fun i75 => cond (decide (i75 ≤ xb)) (some ((0, 0, false))) ((xa : Option ((List Int) × Int)).bind fun y80 => (fn_sort_Search_i_point_Points_At_1_p0p1_kp_i (((y80.1.length : Nat) : Int)) xa xb).bind fun i92 => (getI y80.1 (IntKind.wrap .i64 (i92 - 1))).bind fun x113 => some ((IntKind.wrap .i64 (i92 - 1), IntKind.wrap .i64 (xb - x113), true))))
set_option maxRecDepth 100000 in
set_option maxHeartbeats 4000000 in
theorem point_Points_At_ok {K : Hp} {xa : (Option ((List Int) × Int))} {xb : Int} {vxa_0 : Value} (fxa_0 : Is K (.ptr (.cons (.sl (.int .i64)) (.one (.int .i64)))) [vxa_0] xa) {r : (Int × Int × Bool)} (h : fn_point_Points_At xa xb = some r) :
    Tr Try.prog 26 #[vxa_0, ii xb] K [] (fun v K' L' => (∃ (i60 : Int) (i61 : Int) (t62 : Bool), (i60, i61, t62) = r ∧ .tuple #[ii i60, ii i61, .bool t62] = v ∧ L' = []) ∧ K = K') := by
 refine Tr.k <| Tr.of Try.func26 rfl Try.ntmps26 rfl fun E F => ?_
 unfold fn_point_Points_At at h
 refine cr <| jbx [vxa_0] rfl (Is.pcells fxa_0) fun b63 => jbx [ii xb] rfl rfl fun b64 => ja (ii 0) rfl <| ja (ii 0) rfl <| ja (.bool false) rfl ?_
 refine J.nil <| CJ.seq <| CJ.seq <| CJ.mix [Cl b64 3 [ii xb], Cl b63 72 [vxa_0]] [([0, 1, 2, 3, 4], 5)] [6, 7] [] mixO (by decide +kernel) ⟨0, rfl, 0, rfl, trivial⟩ rfl rfl rfl <| JM.cons <| qv (ii xb) (V.ld rfl (Ld.sc sc3 (Rd.cl 0 rfl rfl))) <| qv (.bool (decide (xb < 0))) (V.lss rfl rfl) ?_
 refine qm (.bool (decide (xb < 0))) rfl ?_
 rcases bt (decide (xb < 0)) with hc72 | hc72
 · have h := ct hc72 h
   refine JQ.skip rfl rfl rfl rfl hc72 <| JQ.skip rfl rfl rfl rfl hc72 <| JQ.nil <| JA.skip rfl rfl rfl rfl hc72 <| JM.nil <| JQ.skip rfl rfl rfl rfl hc72 <| qv (.bool true) (V.pickT rfl hc72 rfl) ?_
   refine JQ.nil <| J.nil <| CJ.condK (b := true) rfl rfl <| cr <| ja (ii 0) rfl <| ja (ii 0) rfl ?_
   refine ja (.bool false) rfl <| J.nil <| CJ.ret ?_
   obtain rfl := si h
   exact ⟨_, _, Res.three rfl rfl rfl rfl, ⟨0, 0, false, rfl, rfl, rfl⟩, (Hp.le_refl _), fun w hs => (Sep.dropAt 0 rfl (Sep.dropAt 0 rfl hs))⟩
 have h := cf hc72 h
 refine JQ.run rfl rfl rfl hc72 <| qv (ii xb) (V.ld rfl (Ld.sc sc3 (Rd.cl 0 rfl rfl))) <| JQ.run rfl rfl rfl hc72 <| qv vxa_0 (V.ld rfl (Ld.sc sc72 (Rd.cl 1 rfl rfl))) <| JQ.nil <| JA.run rfl rfl rfl hc72 ?_
 obtain ⟨r73, hr74, h⟩ := ob h
 refine JA.op rfl (A.call (L1 := []) Try.call16 rfl (point_Points_Len_ok fxa_0 hr74) rfl rfl) ?_
 rintro _ _ _ ⟨v76, _, rfl, ⟨⟨i75, rfl, rfl, rfl⟩, rfl⟩, _, rfl⟩
 refine ⟨fun w hs => Hold.sub (Hp.le_refl _) ⟨0, rfl, 0, rfl, trivial⟩ hs, ?_⟩
 refine JM.nil <| JQ.run rfl rfl rfl hc72 <| qv (.bool (decide (i75 ≤ xb))) (V.geq rfl rfl) <| qv (.bool (decide (i75 ≤ xb))) (V.pickF rfl hc72 rfl) <| JQ.nil <| J.nil <| cc rfl h (fun hc79 h => ?_) fun hc79 h => ?_
 · refine cr <| ja (ii 0) rfl <| ja (ii 0) rfl <| ja (.bool false) rfl <| J.nil <| CJ.ret ?_
   obtain rfl := si h
   exact ⟨_, _, Res.three rfl rfl rfl rfl, ⟨0, 0, false, rfl, rfl, rfl⟩, (Hp.le_refl _), fun w hs => (Sep.dropAt 0 rfl (Sep.dropAt 0 rfl hs))⟩
 refine CJ.skip <| cr <| jv vxa_0 (V.ld rfl (Ld.sc sc72 (Rd.cl 1 rfl rfl))) ?_
 obtain ⟨y80, hy81, h⟩ := ob h
 obtain ⟨b82, o83, hv84, a85⟩ := Is.psome fxa_0 hy81
 refine jv _ (V.nck hv84) <| jv _ (V.fad Try.underlying86 rfl nz54 rfl) ?_
 obtain ⟨ad86, cp87, c88, f89⟩ := ((a85).fst).sl
 refine jv (.slice ad86 y80.1.length cp87) (V.ld rfl (Ld.sc sc54 (Rd.k c88 (Hp.le_refl _)))) <| jv (ii (((y80.1.length : Nat) : Int))) (V.len Try.underlying54 rfl) <| jv (.func (.func 37) #[] #[.pointer (some ⟨b63, 0, none⟩), .pointer (some ⟨b64, 0, none⟩)]) (V.mkf rfl) ?_
 obtain ⟨r90, hr91, h⟩ := ob h
 refine J.front 1 rfl <| J.op rfl (A.call (L1 := [Cl b63 72 [vxa_0], Cl b64 3 [ii xb]]) Try.call36 rfl (sort_Search_i_point_Points_At_1_p0p1_kp_i_ok fxa_0 hr91) rfl rfl) ?_
 rintro _ _ _ ⟨v93, _, rfl, ⟨⟨i92, rfl, rfl, rfl⟩, rfl⟩, _, rfl⟩
 refine jv (ii (IntKind.wrap .i64 (i92 - 1))) (V.sub rfl rfl) <| ja (ii (IntKind.wrap .i64 (i92 - 1))) rfl <| J.nil <| CJ.seq <| CJ.mix [Cl b63 72 [vxa_0], Cl b64 3 [ii xb]] [] [0, 1, 2, 3, 4, 5, 6, 7, 8, 9, 10, 11, 12] [] mixO (by decide +kernel) ⟨0, rfl, 0, rfl, trivial⟩ rfl rfl rfl <| JM.nil <| qm (ii (IntKind.wrap .i64 (i92 - 1))) rfl ?_
 refine qv (ii xb) (V.ld rfl (Ld.sc sc3 (Rd.cl 1 rfl rfl))) <| qv vxa_0 (V.ld rfl (Ld.sc sc72 (Rd.cl 0 rfl rfl))) <| qv _ (V.nck hv84) <| qv _ (V.fad Try.underlying86 rfl nz54 rfl) ?_
 obtain ⟨ad109, cp110, c111, f112⟩ := ((a85).fst).sl
 refine qv (.slice ad109 y80.1.length cp110) (V.ld rfl (Ld.sc sc54 (Rd.k c111 (Hp.le_refl _)))) <| qm (ii (IntKind.wrap .i64 (i92 - 1))) rfl ?_
 obtain ⟨x113, hx114, h⟩ := ob h
 obtain ⟨p115, p116, p117⟩ := getI_some hx114
 obtain ⟨b118, o119, e120, a121⟩ := (f112).at p116
 refine qv _ (V.iad Try.underlying54 sz3 rfl e120 rfl p115 p117) <| qv (ii x113) (V.ld rfl (Ld.sc sc3 (Rd.k (a121).int (Hp.le_refl _)))) <| qv (ii (IntKind.wrap .i64 (xb - x113))) (V.sub rfl rfl) <| qa (ii (IntKind.wrap .i64 (i92 - 1))) rfl <| qa (ii (IntKind.wrap .i64 (xb - x113))) rfl <| qa (.bool true) rfl <| JQ.nil ?_
 refine J.nil <| CJ.ret ?_
 obtain rfl := si h
 exact ⟨_, _, Res.three rfl rfl rfl rfl, ⟨IntKind.wrap .i64 (i92 - 1), IntKind.wrap .i64 (xb - x113), true, rfl, rfl, rfl⟩, (Hp.le_refl _), fun w hs => (Sep.dropAt 0 rfl (Sep.dropAt 0 rfl hs))⟩

noncomputable def fn_cons_maker_needs (xa : ((Int × Int × (List (Int × Int)) × (List (List (Int × Bool))) × (List (Int × Bool)) × (List (Int × (List (Int × Int)) × (List (List (Int × Bool))) × (List (Int × Bool)))) × (List ((List (Int × Int × Int × Int × Bool)) × (Int × Int × Int × (List Int) × (List Int) × (List Int))))) × (Option ((List Int) × Int)))) (xb : Int) (xc : Int) : Option ((List (Int × Int × Int × Int × Bool))) :=
  (getI xa.1.2.2.2.2.2.2 xb).bind fun x88 => cond (decide (xc < (((x88.1.length : Nat) : Int)))) ((getI x88.1 xc).bind fun x135 => (fn_stmt_Needs (x135.1, x135.2.1, x135.2.2.1, x135.2.2.2.1, x135.2.2.2.2) xa.1.2.2.2.1 xa.1.2.1).bind fun (l146, i147) => some (l146)) ((fn_term_Needs (x88.2.1, x88.2.2.1, x88.2.2.2.1, x88.2.2.2.2.1, x88.2.2.2.2.2.1, x88.2.2.2.2.2.2) ((((xa.1.2.2.2.2.2.2.length : Nat) : Int), xa.1.2.1, xa.1.2.2.2.1, xa.1.2.2.2.2.1, xa.1.2.2.2.2.2.1))).bind fun (l157, i158) => some (l157))
set_option maxRecDepth 100000 in
set_option maxHeartbeats 4000000 in
theorem cons_maker_needs_ok {K : Hp} {xa : ((Int × Int × (List (Int × Int)) × (List (List (Int × Bool))) × (List (Int × Bool)) × (List (Int × (List (Int × Int)) × (List (List (Int × Bool))) × (List (Int × Bool)))) × (List ((List (Int × Int × Int × Int × Bool)) × (Int × Int × Int × (List Int) × (List Int) × (List Int))))) × (Option ((List Int) × Int)))} {xb : Int} {xc : Int} {adxa_2 : Option Addr} {cpxa_2 : Nat} {adxa_3 : Option Addr} {cpxa_3 : Nat} {adxa_4 : Option Addr} {cpxa_4 : Nat} {adxa_5 : Option Addr} {cpxa_5 : Nat} {adxa_6 : Option Addr} {cpxa_6 : Nat} {vxa_7 : Value} (fxa_2 : Is K (.sl (.cons (.int .i64) (.one (.int .i64)))) [.slice adxa_2 xa.1.2.2.1.length cpxa_2] xa.1.2.2.1) (fxa_3 : Is K (.sl (.one (.sl (.cons (.int .i64) (.one .bool))))) [.slice adxa_3 xa.1.2.2.2.1.length cpxa_3] xa.1.2.2.2.1) (fxa_4 : Is K (.sl (.cons (.int .i64) (.one .bool))) [.slice adxa_4 xa.1.2.2.2.2.1.length cpxa_4] xa.1.2.2.2.2.1) (fxa_5 : Is K (.sl (.cons (.int .i64) (.cons (.sl (.cons (.int .i64) (.one (.int .i64)))) (.cons (.sl (.one (.sl (.cons (.int .i64) (.one .bool))))) (.one (.one (.sl (.cons (.int .i64) (.one .bool))))))))) [.slice adxa_5 xa.1.2.2.2.2.2.1.length cpxa_5] xa.1.2.2.2.2.2.1) (fxa_6 : Is K (.sl (.cons (.sl (.cons (.int .i64) (.cons (.int .i64) (.cons (.int .i64) (.cons (.int .i64) (.one .bool)))))) (.one (.cons (.int .i64) (.cons (.int .i64) (.cons (.int .i64) (.cons (.sl (.int .i64)) (.cons (.sl (.int .i64)) (.one (.sl (.int .i64))))))))))) [.slice adxa_6 xa.1.2.2.2.2.2.2.length cpxa_6] xa.1.2.2.2.2.2.2) (fxa_7 : Is K (.ptr (.cons (.sl (.int .i64)) (.one (.int .i64)))) [vxa_7] xa.2) {r : (List (Int × Int × Int × Int × Bool))} (h : fn_cons_maker_needs xa xb xc = some r) :
    Tr Try.prog 27 #[.agg #[ii xa.1.1, ii xa.1.2.1, .slice adxa_2 xa.1.2.2.1.length cpxa_2, .slice adxa_3 xa.1.2.2.2.1.length cpxa_3, .slice adxa_4 xa.1.2.2.2.2.1.length cpxa_4, .slice adxa_5 xa.1.2.2.2.2.2.1.length cpxa_5, .slice adxa_6 xa.1.2.2.2.2.2.2.length cpxa_6, vxa_7], ii xb, ii xc] K [] (fun v K' L' => (∃ (l81 : (List (Int × Int × Int × Int × Bool))) (ad82 : Option Addr) (cp83 : Nat), l81 = r ∧ .slice ad82 l81.length cp83 = v ∧ L' = [Row Hp.nil 93 (.cons (.int .i64) (.cons (.int .i64) (.cons (.int .i64) (.cons (.int .i64) (.one .bool))))) (.slice ad82 l81.length cp83) l81]) ∧ K = K') := by
 refine Tr.k <| Tr.of Try.func27 rfl Try.ntmps27 rfl fun E F => ?_
 unfold fn_cons_maker_needs at h
 refine cr <| jbx [ii xa.1.1, ii xa.1.2.1, .slice adxa_2 xa.1.2.2.1.length cpxa_2, .slice adxa_3 xa.1.2.2.2.1.length cpxa_3, .slice adxa_4 xa.1.2.2.2.2.1.length cpxa_4, .slice adxa_5 xa.1.2.2.2.2.2.1.length cpxa_5, .slice adxa_6 xa.1.2.2.2.2.2.2.length cpxa_6, vxa_7] rfl rfl fun b86 => ja (nos) rfl <| J.nil <| CJ.seq <| CJ.region ?_
 refine jv _ (V.fad Try.underlying75 rfl nz34 rfl) <| jv (.agg #[ii xa.1.1, ii xa.1.2.1, .slice adxa_2 xa.1.2.2.1.length cpxa_2, .slice adxa_3 xa.1.2.2.2.1.length cpxa_3, .slice adxa_4 xa.1.2.2.2.2.1.length cpxa_4, .slice adxa_5 xa.1.2.2.2.2.2.1.length cpxa_5, .slice adxa_6 xa.1.2.2.2.2.2.2.length cpxa_6]) (V.ld rfl (Ld.agg (cs := [ii xa.1.1, ii xa.1.2.1, .slice adxa_2 xa.1.2.2.1.length cpxa_2, .slice adxa_3 xa.1.2.2.2.1.length cpxa_3, .slice adxa_4 xa.1.2.2.2.2.1.length cpxa_4, .slice adxa_5 xa.1.2.2.2.2.2.1.length cpxa_5, .slice adxa_6 xa.1.2.2.2.2.2.2.length cpxa_6]) Try.underlying34 sz34 rfl (Rd.cls 0 0 rfl rfl))) <| jal inf34 [ii 0, ii 0, nos, nos, nos, nos, nos] rfl fun b87 => js [ii xa.1.1, ii xa.1.2.1, .slice adxa_2 xa.1.2.2.1.length cpxa_2, .slice adxa_3 xa.1.2.2.2.1.length cpxa_3, .slice adxa_4 xa.1.2.2.2.2.1.length cpxa_4, .slice adxa_5 xa.1.2.2.2.2.2.1.length cpxa_5, .slice adxa_6 xa.1.2.2.2.2.2.2.length cpxa_6] sz34 rfl rfl rfl rfl rfl rfl <| J.nil <| CJ.seq <| CJ.region ?_
 refine jv _ (V.fad Try.underlying34 rfl nz32 rfl) <| jv (.slice adxa_6 xa.1.2.2.2.2.2.2.length cpxa_6) (V.ld rfl (Ld.sc sc32 (Rd.cl 0 rfl rfl))) <| jm (ii xb) rfl ?_
 obtain ⟨x88, hx89, h⟩ := ob h
 obtain ⟨p90, p91, p92⟩ := getI_some hx89
 obtain ⟨b93, o94, e95, a96⟩ := (fxa_6).at p91
 refine jv _ (V.iad Try.underlying32 sz58 rfl e95 rfl p90 p92) ?_
 obtain ⟨ad97, cp98, c99, f100⟩ := ((a96).fst).sl
 obtain ⟨ad101, cp102, c103, f104⟩ := (((((((a96).snd).one).snd).snd).snd).fst).sl
 obtain ⟨ad105, cp106, c107, f108⟩ := ((((((((a96).snd).one).snd).snd).snd).snd).fst).sl
 obtain ⟨ad109, cp110, c111, f112⟩ := (((((((((a96).snd).one).snd).snd).snd).snd).snd).one).sl
 refine jv (.agg #[.slice ad97 x88.1.length cp98, ii x88.2.1, ii x88.2.2.1, ii x88.2.2.2.1, .slice ad101 x88.2.2.2.2.1.length cp102, .slice ad105 x88.2.2.2.2.2.1.length cp106, .slice ad109 x88.2.2.2.2.2.2.length cp110]) (V.ld rfl (Ld.aggK (cs := [.slice ad97 x88.1.length cp98, ii x88.2.1, ii x88.2.2.1, ii x88.2.2.2.1, .slice ad101 x88.2.2.2.2.1.length cp102, .slice ad105 x88.2.2.2.2.2.1.length cp106, .slice ad109 x88.2.2.2.2.2.2.length cp110]) Try.underlying58 sz58 rfl ⟨c99, ((((a96).snd).one).fst).int, (((((a96).snd).one).snd).fst).int, ((((((a96).snd).one).snd).snd).fst).int, c103, c107, c111, trivial⟩ (Hp.le_refl _))) <| jal inf58 [nos, ii 0, ii 0, ii 0, nos, nos, nos] rfl fun b113 => js [.slice ad97 x88.1.length cp98, ii x88.2.1, ii x88.2.2.1, ii x88.2.2.2.1, .slice ad101 x88.2.2.2.2.1.length cp102, .slice ad105 x88.2.2.2.2.2.1.length cp106, .slice ad109 x88.2.2.2.2.2.2.length cp110] sz58 rfl rfl rfl rfl rfl rfl <| J.nil <| CJ.seq <| CJ.seq <| CJ.region ?_
 refine jm (ii xc) rfl <| jv _ (V.fad Try.underlying58 rfl nz53 rfl) <| jv (.slice ad97 x88.1.length cp98) (V.ld rfl (Ld.sc sc53 (Rd.cl 0 rfl rfl))) <| jv (ii (((x88.1.length : Nat) : Int))) (V.len Try.underlying53 rfl) <| jv (.bool (decide (xc < (((x88.1.length : Nat) : Int))))) (V.lss rfl rfl) <| J.nil <| cc rfl h (fun hc114 h => ?_) fun hc114 h => ?_
 · refine CJ.seq <| CJ.mix [Cl b113 58 [.slice ad97 x88.1.length cp98, ii x88.2.1, ii x88.2.2.1, ii x88.2.2.2.1, .slice ad101 x88.2.2.2.2.1.length cp102, .slice ad105 x88.2.2.2.2.2.1.length cp106, .slice ad109 x88.2.2.2.2.2.2.length cp110], Cl b87 34 [ii xa.1.1, ii xa.1.2.1, .slice adxa_2 xa.1.2.2.1.length cpxa_2, .slice adxa_3 xa.1.2.2.2.1.length cpxa_3, .slice adxa_4 xa.1.2.2.2.2.1.length cpxa_4, .slice adxa_5 xa.1.2.2.2.2.2.1.length cpxa_5, .slice adxa_6 xa.1.2.2.2.2.2.2.length cpxa_6], Cl b86 75 [ii xa.1.1, ii xa.1.2.1, .slice adxa_2 xa.1.2.2.1.length cpxa_2, .slice adxa_3 xa.1.2.2.2.1.length cpxa_3, .slice adxa_4 xa.1.2.2.2.2.1.length cpxa_4, .slice adxa_5 xa.1.2.2.2.2.2.1.length cpxa_5, .slice adxa_6 xa.1.2.2.2.2.2.2.length cpxa_6, vxa_7]] [([0, 1, 2, 3, 4, 5, 6, 7, 8], 9)] [10, 11, 12, 13, 14] [] mixO (by decide +kernel) ⟨0, rfl, 0, rfl, 0, rfl, trivial⟩ rfl rfl rfl <| JM.cons <| qv _ (V.fad Try.underlying58 rfl nz53 rfl) <| qv (.slice ad97 x88.1.length cp98) (V.ld rfl (Ld.sc sc53 (Rd.cl 0 rfl rfl))) <| qm (ii xc) rfl ?_
   obtain ⟨x135, hx136, h⟩ := ob h
   obtain ⟨p137, p138, p139⟩ := getI_some hx136
   obtain ⟨b140, o141, e142, a143⟩ := (f100).at p138
   refine qv _ (V.iad Try.underlying53 sz52 rfl e142 rfl p137 p139) <| qv (.agg #[ii x135.1, ii x135.2.1, ii x135.2.2.1, ii x135.2.2.2.1, .bool x135.2.2.2.2]) (V.ld rfl (Ld.aggK (cs := [ii x135.1, ii x135.2.1, ii x135.2.2.1, ii x135.2.2.2.1, .bool x135.2.2.2.2]) Try.underlying52 sz52 rfl ⟨((a143).fst).int, (((a143).snd).fst).int, ((((a143).snd).snd).fst).int, (((((a143).snd).snd).snd).fst).int, ((((((a143).snd).snd).snd).snd).one).bool, trivial⟩ (Hp.le_refl _))) <| qv _ (V.fad Try.underlying34 rfl nz27 rfl) <| qv (.slice adxa_3 xa.1.2.2.2.1.length cpxa_3) (V.ld rfl (Ld.sc sc27 (Rd.cl 1 rfl rfl))) <| qv _ (V.fad Try.underlying34 rfl nz3 rfl) <| qv (ii xa.1.2.1) (V.ld rfl (Ld.sc sc3 (Rd.cl 1 rfl rfl))) <| JQ.nil ?_
   obtain ⟨r144, hr145, h⟩ := ob h
   refine JA.op rfl (A.call (L1 := []) Try.call38 rfl (stmt_Needs_ok fxa_3 hr145) rfl rfl) ?_
   rintro _ _ _ ⟨v151, _, rfl, ⟨⟨l146, i147, ad148, cp149, rfl, rfl, rfl⟩, rfl⟩, _, rfl⟩
   refine ⟨fun w hs => Hold.sub (Hp.le_refl _) ⟨1, rfl, 1, rfl, 1, rfl, trivial⟩ hs, ?_⟩
   refine JM.wit Row.hn fun hn150 => JM.nil <| qm (.tuple #[.slice ad148 l146.length cp149, ii i147]) rfl <| qv (.slice ad148 l146.length cp149) (V.ext rfl rfl) <| qv (ii i147) (V.ext rfl rfl) <| qa (.slice ad148 l146.length cp149) rfl <| qa (ii i147) rfl ?_
   refine JQ.nil <| J.nil <| cr <| jm (.slice ad148 l146.length cp149) rfl <| ja (.slice ad148 l146.length cp149) rfl <| J.nil ?_
   refine CJ.ret ?_
   obtain rfl := si h
   exact ⟨_, _, Res.one rfl rfl, ⟨l146, ad148, cp149, rfl, rfl, rfl⟩, (Hp.le_refl _), fun w hs => (Sep.dropAt 1 rfl (Sep.dropAt 1 rfl (Sep.dropAt 1 rfl hs)))⟩
 refine CJ.skip <| cr <| jv _ (V.fad Try.underlying58 rfl nz56 rfl) <| jv (.agg #[ii x88.2.1, ii x88.2.2.1, ii x88.2.2.2.1, .slice ad101 x88.2.2.2.2.1.length cp102, .slice ad105 x88.2.2.2.2.2.1.length cp106, .slice ad109 x88.2.2.2.2.2.2.length cp110]) (V.ld rfl (Ld.agg (cs := [ii x88.2.1, ii x88.2.2.1, ii x88.2.2.2.1, .slice ad101 x88.2.2.2.2.1.length cp102, .slice ad105 x88.2.2.2.2.2.1.length cp106, .slice ad109 x88.2.2.2.2.2.2.length cp110]) Try.underlying56 sz56 rfl (Rd.cls 0 1 rfl rfl))) <| jv _ (V.fad Try.underlying34 rfl nz32 rfl) <| jv (.slice adxa_6 xa.1.2.2.2.2.2.2.length cpxa_6) (V.ld rfl (Ld.sc sc32 (Rd.cl 1 rfl rfl))) ?_
 refine jv (ii (((xa.1.2.2.2.2.2.2.length : Nat) : Int))) (V.len Try.underlying32 rfl) <| jv _ (V.fad Try.underlying34 rfl nz3 rfl) <| jv (ii xa.1.2.1) (V.ld rfl (Ld.sc sc3 (Rd.cl 1 rfl rfl))) <| jv _ (V.fad Try.underlying34 rfl nz27 rfl) <| jv (.slice adxa_3 xa.1.2.2.2.1.length cpxa_3) (V.ld rfl (Ld.sc sc27 (Rd.cl 1 rfl rfl))) <| jv _ (V.fad Try.underlying34 rfl nz30 rfl) <| jv (.agg #[.slice adxa_4 xa.1.2.2.2.2.1.length cpxa_4]) (V.ld rfl (Ld.agg (cs := [.slice adxa_4 xa.1.2.2.2.2.1.length cpxa_4]) Try.underlying30 sz30 rfl (Rd.cls 1 4 rfl rfl))) ?_
 refine jv _ (V.fad Try.underlying34 rfl nz31 rfl) <| jv (.slice adxa_5 xa.1.2.2.2.2.2.1.length cpxa_5) (V.ld rfl (Ld.sc sc31 (Rd.cl 1 rfl rfl))) <| jv (.agg #[ii (((xa.1.2.2.2.2.2.2.length : Nat) : Int)), ii xa.1.2.1, .slice adxa_3 xa.1.2.2.2.1.length cpxa_3, .slice adxa_4 xa.1.2.2.2.2.1.length cpxa_4, .slice adxa_5 xa.1.2.2.2.2.2.1.length cpxa_5]) (V.build inf111 places111 rfl rfl) ?_
 obtain ⟨r155, hr156, h⟩ := ob h
 refine J.op rfl (A.call (L1 := []) Try.call39 rfl (term_Needs_ok f104 f108 f112 fxa_3 fxa_4 fxa_5 hr156) rfl rfl) ?_
 rintro _ _ _ ⟨v162, _, rfl, ⟨⟨l157, i158, ad159, cp160, rfl, rfl, rfl⟩, rfl⟩, _, rfl⟩
 refine J.wit Row.hn fun hn161 => jm (.tuple #[.slice ad159 l157.length cp160, ii i158]) rfl <| jx (.slice ad159 l157.length cp160) rfl rfl <| jx (ii i158) rfl rfl <| ja (.slice ad159 l157.length cp160) rfl <| ja (ii i158) rfl <| J.nil ?_
 refine cr <| jm (.slice ad159 l157.length cp160) rfl <| ja (.slice ad159 l157.length cp160) rfl <| J.nil <| CJ.ret ?_
 obtain rfl := si h
 exact ⟨_, _, Res.one rfl rfl, ⟨l157, ad159, cp160, rfl, rfl, rfl⟩, (Hp.le_refl _), fun w hs => (Sep.dropAt 1 rfl (Sep.dropAt 1 rfl (Sep.dropAt 1 rfl hs)))⟩
noncomputable def fn_cons_maker_at_l1 (i202 : Int) (i203 : Int) (l212 : (List (Int × Int × Int × Int × Bool))) : ((List (Int × Int × (Int × Int × Int × Int × Bool))) × Int) → Option (((List (Int × Int × (Int × Int × Int × Int × Bool))) × Int) ⊕ (List (Int × Int × (Int × Int × Int × Int × Bool)))) := fun ((l336, i341) : ((List (Int × Int × (Int × Int × Int × Int × Bool))) × Int)) => cond (decide (i341 < (((l212.length : Nat) : Int)))) ((getI l212 i341).bind fun x373 => (app l336 (([(x373.1, x373.2.1, (i202, i203, x373.2.2.1, x373.2.2.2.1, x373.2.2.2.2))] : List (Int × Int × (Int × Int × Int × Int × Bool))))).bind fun z385 => some (.inl ((z385, IntKind.wrap .i64 (i341 + 1))))) (some (.inr (l336)))
noncomputable def fn_cons_maker_at (xa : ((Int × Int × (List (Int × Int)) × (List (List (Int × Bool))) × (List (Int × Bool)) × (List (Int × (List (Int × Int)) × (List (List (Int × Bool))) × (List (Int × Bool)))) × (List ((List (Int × Int × Int × Int × Bool)) × (Int × Int × Int × (List Int) × (List Int) × (List Int))))) × (Option ((List Int) × Int)))) (xb : Int) : Option ((List (Int × Int × (Int × Int × Int × Int × Bool)))) :=
  (fn_point_Points_At xa.2 xb).bind fun (i202, i203, t204) => cond (!t204) (some ([])) ((fn_cons_maker_needs (((xa.1.1, xa.1.2.1, xa.1.2.2.1, xa.1.2.2.2.1, xa.1.2.2.2.2.1, xa.1.2.2.2.2.2.1, xa.1.2.2.2.2.2.2), xa.2)) i202 i203).bind fun l212 => (loop (fn_cons_maker_at_l1 i202 i203 l212) ([], 0) : Option ((List (Int × Int × (Int × Int × Int × Int × Bool))))).bind fun l302 => some (l302))
set_option maxRecDepth 100000 in
set_option maxHeartbeats 4000000 in
theorem cons_maker_at_ok {K : Hp} {xa : ((Int × Int × (List (Int × Int)) × (List (List (Int × Bool))) × (List (Int × Bool)) × (List (Int × (List (Int × Int)) × (List (List (Int × Bool))) × (List (Int × Bool)))) × (List ((List (Int × Int × Int × Int × Bool)) × (Int × Int × Int × (List Int) × (List Int) × (List Int))))) × (Option ((List Int) × Int)))} {xb : Int} {adxa_2 : Option Addr} {cpxa_2 : Nat} {adxa_3 : Option Addr} {cpxa_3 : Nat} {adxa_4 : Option Addr} {cpxa_4 : Nat} {adxa_5 : Option Addr} {cpxa_5 : Nat} {adxa_6 : Option Addr} {cpxa_6 : Nat} {vxa_7 : Value} (fxa_2 : Is K (.sl (.cons (.int .i64) (.one (.int .i64)))) [.slice adxa_2 xa.1.2.2.1.length cpxa_2] xa.1.2.2.1) (fxa_3 : Is K (.sl (.one (.sl (.cons (.int .i64) (.one .bool))))) [.slice adxa_3 xa.1.2.2.2.1.length cpxa_3] xa.1.2.2.2.1) (fxa_4 : Is K (.sl (.cons (.int .i64) (.one .bool))) [.slice adxa_4 xa.1.2.2.2.2.1.length cpxa_4] xa.1.2.2.2.2.1) (fxa_5 : Is K (.sl (.cons (.int .i64) (.cons (.sl (.cons (.int .i64) (.one (.int .i64)))) (.cons (.sl (.one (.sl (.cons (.int .i64) (.one .bool))))) (.one (.one (.sl (.cons (.int .i64) (.one .bool))))))))) [.slice adxa_5 xa.1.2.2.2.2.2.1.length cpxa_5] xa.1.2.2.2.2.2.1) (fxa_6 : Is K (.sl (.cons (.sl (.cons (.int .i64) (.cons (.int .i64) (.cons (.int .i64) (.cons (.int .i64) (.one .bool)))))) (.one (.cons (.int .i64) (.cons (.int .i64) (.cons (.int .i64) (.cons (.sl (.int .i64)) (.cons (.sl (.int .i64)) (.one (.sl (.int .i64))))))))))) [.slice adxa_6 xa.1.2.2.2.2.2.2.length cpxa_6] xa.1.2.2.2.2.2.2) (fxa_7 : Is K (.ptr (.cons (.sl (.int .i64)) (.one (.int .i64)))) [vxa_7] xa.2) {r : (List (Int × Int × (Int × Int × Int × Int × Bool)))} (h : fn_cons_maker_at xa xb = some r) :
    Tr Try.prog 17 #[.agg #[ii xa.1.1, ii xa.1.2.1, .slice adxa_2 xa.1.2.2.1.length cpxa_2, .slice adxa_3 xa.1.2.2.2.1.length cpxa_3, .slice adxa_4 xa.1.2.2.2.2.1.length cpxa_4, .slice adxa_5 xa.1.2.2.2.2.2.1.length cpxa_5, .slice adxa_6 xa.1.2.2.2.2.2.2.length cpxa_6, vxa_7], ii xb] K [] (fun v K' L' => (∃ (l194 : (List (Int × Int × (Int × Int × Int × Int × Bool)))) (ad195 : Option Addr) (cp196 : Nat), l194 = r ∧ .slice ad195 l194.length cp196 = v ∧ L' = [Row Hp.nil 47 (.cons (.int .i64) (.cons (.int .i64) (.one (.cons (.int .i64) (.cons (.int .i64) (.cons (.int .i64) (.cons (.int .i64) (.one .bool)))))))) (.slice ad195 l194.length cp196) l194]) ∧ K = K') := by
 refine Tr.k <| Tr.of Try.func17 rfl Try.ntmps17 rfl fun E F => ?_
 unfold fn_cons_maker_at at h
 refine cr <| jbx [ii xa.1.1, ii xa.1.2.1, .slice adxa_2 xa.1.2.2.1.length cpxa_2, .slice adxa_3 xa.1.2.2.2.1.length cpxa_3, .slice adxa_4 xa.1.2.2.2.2.1.length cpxa_4, .slice adxa_5 xa.1.2.2.2.2.2.1.length cpxa_5, .slice adxa_6 xa.1.2.2.2.2.2.2.length cpxa_6, vxa_7] rfl rfl fun b199 => ja (nos) rfl <| J.nil <| CJ.seq <| CJ.region ?_
 refine jv _ (V.fad Try.underlying75 rfl nz72 rfl) <| jv vxa_7 (V.ld rfl (Ld.sc sc72 (Rd.cl 0 rfl rfl))) <| jm (ii xb) rfl ?_
 obtain ⟨r200, hr201, h⟩ := ob h
 refine J.op rfl (A.call (L1 := []) Try.call26 rfl (point_Points_At_ok fxa_7 hr201) rfl rfl) ?_
 rintro _ _ _ ⟨v205, _, rfl, ⟨⟨i202, i203, t204, rfl, rfl, rfl⟩, rfl⟩, _, rfl⟩
 refine jm (.tuple #[ii i202, ii i203, .bool t204]) rfl <| jx (ii i202) rfl rfl <| jx (ii i203) rfl rfl <| jx (.bool t204) rfl rfl <| ja (ii i202) rfl <| ja (ii i203) rfl <| ja (.bool t204) rfl ?_
 refine J.nil <| CJ.seq <| cr <| jm (.bool t204) rfl <| jv (.bool (!t204)) (V.not rfl) <| J.nil ?_
 refine cc rfl h (fun hc208 h => ?_) fun hc208 h => ?_
 · refine cr <| ja (nos) rfl <| J.nil <| CJ.by (fun w hs => Sep.rowNil (e := 47) (t := (.cons (.int .i64) (.cons (.int .i64) (.one (.cons (.int .i64) (.cons (.int .i64) (.cons (.int .i64) (.cons (.int .i64) (.one .bool))))))))) hs) <| CJ.ret ?_
   obtain rfl := si h
   exact ⟨_, _, Res.one rfl rfl, ⟨[], none, 0, rfl, rfl, rfl⟩, (Hp.le_refl _), fun w hs => (Sep.dropAt 1 rfl hs)⟩
 refine CJ.skip <| cr <| ja (nos) rfl <| J.nil <| CJ.seq <| CJ.seq ?_
 refine CJ.region <| jv (.agg #[ii xa.1.1, ii xa.1.2.1, .slice adxa_2 xa.1.2.2.1.length cpxa_2, .slice adxa_3 xa.1.2.2.2.1.length cpxa_3, .slice adxa_4 xa.1.2.2.2.2.1.length cpxa_4, .slice adxa_5 xa.1.2.2.2.2.2.1.length cpxa_5, .slice adxa_6 xa.1.2.2.2.2.2.2.length cpxa_6, vxa_7]) (V.ld rfl (Ld.agg (cs := [ii xa.1.1, ii xa.1.2.1, .slice adxa_2 xa.1.2.2.1.length cpxa_2, .slice adxa_3 xa.1.2.2.2.1.length cpxa_3, .slice adxa_4 xa.1.2.2.2.2.1.length cpxa_4, .slice adxa_5 xa.1.2.2.2.2.2.1.length cpxa_5, .slice adxa_6 xa.1.2.2.2.2.2.2.length cpxa_6, vxa_7]) Try.underlying75 sz75 rfl (Rd.cls 0 0 rfl rfl))) <| jm (ii i202) rfl <| jm (ii i203) rfl ?_
 obtain ⟨r210, hr211, h⟩ := ob h
 refine J.op rfl (A.call (L1 := []) Try.call27 rfl (cons_maker_needs_ok fxa_2 fxa_3 fxa_4 fxa_5 fxa_6 fxa_7 hr211) rfl rfl) ?_
 rintro _ _ _ ⟨v216, _, rfl, ⟨⟨l212, ad213, cp214, rfl, rfl, rfl⟩, rfl⟩, _, rfl⟩
 refine J.wit Row.hn fun hn215 => jv (ii (((l212.length : Nat) : Int))) (V.len Try.underlying90 rfl) <| jm (ii 0) rfl <| J.nil ?_
 obtain ⟨o307, ho308, h⟩ := ob h
 refine CJ.meetN (fun ρ K' L' => ∃ (l302 : (List (Int × Int × (Int × Int × Int × Int × Bool)))) (ad303 : Option Addr) (cp304 : Nat), l302 = o307 ∧ Fits [(8, .slice ad303 l302.length cp304)] ρ ∧ K = K' ∧ L' = Row Hp.nil 47 (.cons (.int .i64) (.cons (.int .i64) (.one (.cons (.int .i64) (.cons (.int .i64) (.cons (.int .i64) (.cons (.int .i64) (.one .bool)))))))) (.slice ad303 l302.length cp304) l302 :: F) ?_ ?_
 · refine CJ.block <| CJ.by (fun w hs => Sep.rowNil (e := 47) (t := (.cons (.int .i64) (.cons (.int .i64) (.one (.cons (.int .i64) (.cons (.int .i64) (.cons (.int .i64) (.cons (.int .i64) (.one .bool))))))))) hs) <| CJ.dropAt 2 rfl <| CJ.front 1 rfl <| CJ.loop (fun s ρ K' L' => ∃ (l336 : (List (Int × Int × (Int × Int × Int × Int × Bool)))) (i341 : Int) (ad337 : Option Addr) (cp338 : Nat), (l336, i341) = s ∧ Fits [(5, ii i202), (6, ii i203), (8, .slice ad337 l336.length cp338), (25, .slice ad213 l212.length cp214), (26, ii (((l212.length : Nat) : Int))), (27, ii i341)] ρ ∧ K = K' ∧ L' = Row Hp.nil 93 (.cons (.int .i64) (.cons (.int .i64) (.cons (.int .i64) (.cons (.int .i64) (.one .bool))))) (.slice ad213 l212.length cp214) l212 :: Row Hp.nil 47 (.cons (.int .i64) (.cons (.int .i64) (.one (.cons (.int .i64) (.cons (.int .i64) (.cons (.int .i64) (.cons (.int .i64) (.one .bool)))))))) (.slice ad337 l336.length cp338) l336 :: F) ho308 ⟨[], 0, none, 0, rfl, ⟨rfl, rfl, rfl, rfl, rfl, rfl, trivial⟩, rfl, rfl⟩ ?_
   rintro s ρ _ _ r371 ⟨l336, i341, ad337, cp338, rfl, hf369, rfl, rfl⟩ h367
   obtain ⟨ρ, rfl⟩ := hf369.ex
   refine CJ.front 1 rfl <| CJ.wit Row.hn fun hn340 => cr <| jv (.bool (decide (i341 < (((l212.length : Nat) : Int))))) (V.lss rfl rfl) <| J.nil <| CJ.seq ?_
   refine cc rfl h367 (fun hc372 h367 => ?_) fun hc372 h367 => ?_
   · refine CJ.skip <| CJ.seq <| CJ.block <| CJ.seq <| CJ.region ?_
     obtain ⟨x373, hx374, h367⟩ := ob h367
     obtain ⟨p375, p376, p377⟩ := getI_some hx374
     obtain ⟨g378, e379⟩ := hn215 (fun e => by rw [e] at p376; simp at p376)
     refine jv _ (V.iad Try.underlying90 sz93 rfl e379 rfl p375 p377) <| jv (.agg #[ii x373.1, ii x373.2.1, ii x373.2.2.1, ii x373.2.2.2.1, .bool x373.2.2.2.2]) (V.ld rfl (Ld.agg Try.underlying93 sz93 rfl (Rd.rows (K0 := Hp.nil) (s := (.cons (.int .i64) (.cons (.int .i64) (.cons (.int .i64) (.cons (.int .i64) (.one .bool)))))) 1 rfl e379 p376 (cs := [ii x373.1, ii x373.2.1, ii x373.2.2.1, ii x373.2.2.2.1, .bool x373.2.2.2.2]) rfl (by rintro _ ⟨_, _, rfl, _, rfl, ⟨_, _, rfl, _, rfl, ⟨_, _, rfl, _, rfl, ⟨_, _, rfl, _, rfl, rfl⟩⟩⟩⟩; rfl)))) <| jal inf93 [ii 0, ii 0, ii 0, ii 0, .bool false] rfl fun b380 => js [ii x373.1, ii x373.2.1, ii x373.2.2.1, ii x373.2.2.2.1, .bool x373.2.2.2.2] sz93 rfl rfl rfl rfl rfl rfl <| J.nil <| CJ.seq <| CJ.region ?_
     refine jm (ii i202) rfl <| jm (ii i203) rfl <| jv _ (V.fad Try.underlying93 rfl nz3 rfl) <| jv (ii x373.2.2.1) (V.ld rfl (Ld.sc sc3 (Rd.cl 0 rfl rfl))) <| jv _ (V.fad Try.underlying93 rfl nz3 rfl) <| jv (ii x373.2.2.2.1) (V.ld rfl (Ld.sc sc3 (Rd.cl 0 rfl rfl))) <| jv _ (V.fad Try.underlying93 rfl nz4 rfl) ?_
     refine jv (.bool x373.2.2.2.2) (V.ld rfl (Ld.sc sc4 (Rd.cl 0 rfl rfl))) <| jv (.agg #[ii i202, ii i203, ii x373.2.2.1, ii x373.2.2.2.1, .bool x373.2.2.2.2]) (V.build inf45 places45 rfl rfl) <| jal inf45 [ii 0, ii 0, ii 0, ii 0, .bool false] rfl fun b381 => js [ii i202, ii i203, ii x373.2.2.1, ii x373.2.2.2.1, .bool x373.2.2.2.2] sz45 rfl rfl rfl rfl rfl rfl <| J.nil <| CJ.region <| jm (.slice ad337 l336.length cp338) rfl ?_
     refine jv _ (V.fad Try.underlying93 rfl nz3 rfl) <| jv (ii x373.1) (V.ld rfl (Ld.sc sc3 (Rd.cl 1 rfl rfl))) <| jv _ (V.fad Try.underlying93 rfl nz3 rfl) <| jv (ii x373.2.1) (V.ld rfl (Ld.sc sc3 (Rd.cl 1 rfl rfl))) <| jv (.agg #[ii i202, ii i203, ii x373.2.2.1, ii x373.2.2.2.1, .bool x373.2.2.2.2]) (V.ld rfl (Ld.agg (cs := [ii i202, ii i203, ii x373.2.2.1, ii x373.2.2.2.1, .bool x373.2.2.2.2]) Try.underlying45 sz45 rfl (Rd.cls 0 0 rfl rfl))) <| jv (.agg #[ii x373.1, ii x373.2.1, ii i202, ii i203, ii x373.2.2.1, ii x373.2.2.2.1, .bool x373.2.2.2.2]) (V.build inf47 places47 rfl rfl) ?_
     refine J.op rfl (A.lit (K0 := Hp.nil) (ty := (.cons (.int .i64) (.cons (.int .i64) (.one (.cons (.int .i64) (.cons (.int .i64) (.cons (.int .i64) (.cons (.int .i64) (.one .bool))))))))) (xs := ([(x373.1, x373.2.1, (i202, i203, x373.2.2.1, x373.2.2.2.1, x373.2.2.2.2))] : List (Int × Int × (Int × Int × Int × Int × Bool)))) Try.underlying22 inf47 rfl (by decide) rfl rfl rfl ⟨_, _, rfl, ⟨_, _, rfl, rfl, rfl, ⟨_, _, rfl, rfl, rfl, ⟨_, _, rfl, rfl, rfl, ⟨_, _, rfl, rfl, rfl, ⟨_, _, rfl, rfl, rfl, ⟨_, _, rfl, rfl, rfl, rfl⟩⟩⟩⟩⟩⟩, rfl⟩ rfl (by decide)) ?_
     rintro _ _ _ ⟨b382, rfl, rfl, rfl⟩
     have hn383 : ([(x373.1, x373.2.1, (i202, i203, x373.2.2.1, x373.2.2.2.1, x373.2.2.2.2))] : List (Int × Int × (Int × Int × Int × Int × Bool))) ≠ [] → ∃ g, (some ⟨b382, 0, none⟩ : Option Addr) = some ⟨g, 0, none⟩ := fun _ => ⟨b382, rfl⟩
     obtain ⟨z385, hz386, h367⟩ := ob h367
     refine J.front 3 rfl <| J.op rfl (A.appR (Kr := Hp.nil) Try.underlying22 inf47 rfl rfl (by decide) (by decide) rfl rfl (Els.flat rfl) (Els.flat rfl) hz386) ?_
     rintro _ _ _ ⟨v387, rfl, rfl, rfl⟩
     refine J.wit Row.form ?_
     rintro ⟨ad388, cp389, rfl, _, _, hn390⟩
     refine ja (.slice ad388 z385.length cp389) rfl <| J.nil <| CJ.region <| jv (ii (IntKind.wrap .i64 (i341 + 1))) (V.add rfl rfl) <| jm (ii (IntKind.wrap .i64 (i341 + 1))) rfl <| J.dropAt 1 rfl <| J.dropAt 1 rfl ?_
     refine J.front 1 rfl <| J.nil ?_
     obtain rfl := si h367
     exact ⟨rfl, ⟨z385, IntKind.wrap .i64 (i341 + 1), ad388, cp389, rfl, ⟨rfl, rfl, rfl, rfl, rfl, rfl, trivial⟩, rfl, rfl⟩⟩
   refine CJ.dropAt 1 rfl <| CJ.exit ?_
   obtain rfl := si h367
   refine ⟨nofun, fun e => ?_⟩
   subst e
   exact ⟨rfl, ⟨l336, ad337, cp338, rfl, ⟨rfl, trivial⟩, rfl, rfl⟩⟩
 rintro ρ _ _ ⟨l302, ad303, cp304, rfl, hf391, rfl, rfl⟩
 obtain ⟨ρ, rfl⟩ := hf391.ex
 refine PJ.wit Row.hn fun hn306 => PJ.done <| cr <| jm (.slice ad303 l302.length cp304) rfl <| ja (.slice ad303 l302.length cp304) rfl <| J.nil ?_
 refine CJ.ret ?_
 obtain rfl := si h
 exact ⟨_, _, Res.one rfl rfl, ⟨l302, ad303, cp304, rfl, rfl, rfl⟩, (Hp.le_refl _), fun w hs => hs⟩
noncomputable def fn_cons_Of_az_l1 (xa : (Int × Int × (List (Int × Int)) × (List (List (Int × Bool))) × (List (Int × Bool)) × (List (Int × (List (Int × Int)) × (List (List (Int × Bool))) × (List (Int × Bool)))) × (List ((List (Int × Int × Int × Int × Bool)) × (Int × Int × Int × (List Int) × (List Int) × (List Int)))))) (p312 : (Option ((List Int) × Int))) (i359 : Int) : ((List (Int × Int × (Int × Int × Int × Int × Bool))) × Int) → Option (((List (Int × Int × (Int × Int × Int × Int × Bool))) × Int) ⊕ (List (Int × Int × (Int × Int × Int × Int × Bool)))) := fun ((l471, i476) : ((List (Int × Int × (Int × Int × Int × Int × Bool))) × Int)) => cond (decide (i476 < i359)) ((fn_cons_maker_at (((xa.1, xa.2.1, xa.2.2.1, xa.2.2.2.1, xa.2.2.2.2.1, xa.2.2.2.2.2.1, xa.2.2.2.2.2.2), p312)) i476).bind fun l508 => (app l471 l508).bind fun z516 => some (.inl ((z516, IntKind.wrap .i64 (i476 + 1))))) (some (.inr (l471)))
noncomputable def fn_cons_Of_az (xa : (Int × Int × (List (Int × Int)) × (List (List (Int × Bool))) × (List (Int × Bool)) × (List (Int × (List (Int × Int)) × (List (List (Int × Bool))) × (List (Int × Bool)))) × (List ((List (Int × Int × Int × Int × Bool)) × (Int × Int × Int × (List Int) × (List Int) × (List Int)))))) : Option ((List (Int × Int × (Int × Int × Int × Int × Bool)))) :=
  ((fn_point_New (xa.1, xa.2.1, xa.2.2.1, xa.2.2.2.1, xa.2.2.2.2.1, xa.2.2.2.2.2.1, xa.2.2.2.2.2.2)).bind fun p336 => some (p336) : Option ((Option ((List Int) × Int)))).bind fun p312 => (fn_point_Points_Len p312).bind fun i359 => (loop (fn_cons_Of_az_l1 xa p312 i359) ([], 0) : Option ((List (Int × Int × (Int × Int × Int × Int × Bool))))).bind fun l439 => (fn_point_Points_Len p312).bind fun i526 => (fn_tick_Counter_Add_zii 3 (IntKind.wrap .i64 (i526 + (((l439.length : Nat) : Int))))).bind fun _ => some (l439)
set_option maxRecDepth 100000 in
set_option maxHeartbeats 4000000 in
theorem cons_Of_az_ok {K : Hp} {xa : (Int × Int × (List (Int × Int)) × (List (List (Int × Bool))) × (List (Int × Bool)) × (List (Int × (List (Int × Int)) × (List (List (Int × Bool))) × (List (Int × Bool)))) × (List ((List (Int × Int × Int × Int × Bool)) × (Int × Int × Int × (List Int) × (List Int) × (List Int)))))} {adxa_2 : Option Addr} {cpxa_2 : Nat} {adxa_3 : Option Addr} {cpxa_3 : Nat} {adxa_4 : Option Addr} {cpxa_4 : Nat} {adxa_5 : Option Addr} {cpxa_5 : Nat} {adxa_6 : Option Addr} {cpxa_6 : Nat} (fxa_2 : Is K (.sl (.cons (.int .i64) (.one (.int .i64)))) [.slice adxa_2 xa.2.2.1.length cpxa_2] xa.2.2.1) (fxa_3 : Is K (.sl (.one (.sl (.cons (.int .i64) (.one .bool))))) [.slice adxa_3 xa.2.2.2.1.length cpxa_3] xa.2.2.2.1) (fxa_4 : Is K (.sl (.cons (.int .i64) (.one .bool))) [.slice adxa_4 xa.2.2.2.2.1.length cpxa_4] xa.2.2.2.2.1) (fxa_5 : Is K (.sl (.cons (.int .i64) (.cons (.sl (.cons (.int .i64) (.one (.int .i64)))) (.cons (.sl (.one (.sl (.cons (.int .i64) (.one .bool))))) (.one (.one (.sl (.cons (.int .i64) (.one .bool))))))))) [.slice adxa_5 xa.2.2.2.2.2.1.length cpxa_5] xa.2.2.2.2.2.1) (fxa_6 : Is K (.sl (.cons (.sl (.cons (.int .i64) (.cons (.int .i64) (.cons (.int .i64) (.cons (.int .i64) (.one .bool)))))) (.one (.cons (.int .i64) (.cons (.int .i64) (.cons (.int .i64) (.cons (.sl (.int .i64)) (.cons (.sl (.int .i64)) (.one (.sl (.int .i64))))))))))) [.slice adxa_6 xa.2.2.2.2.2.2.length cpxa_6] xa.2.2.2.2.2.2) {r : (List (Int × Int × (Int × Int × Int × Int × Bool)))} (h : fn_cons_Of_az xa = some r) :
    Tr Try.prog 12 #[.agg #[ii xa.1, ii xa.2.1, .slice adxa_2 xa.2.2.1.length cpxa_2, .slice adxa_3 xa.2.2.2.1.length cpxa_3, .slice adxa_4 xa.2.2.2.2.1.length cpxa_4, .slice adxa_5 xa.2.2.2.2.2.1.length cpxa_5, .slice adxa_6 xa.2.2.2.2.2.2.length cpxa_6], .pointer none] K [] (fun v K' L' => (∃ (l266 : (List (Int × Int × (Int × Int × Int × Int × Bool)))) (ad267 : Option Addr) (cp268 : Nat), l266 = r ∧ .slice ad267 l266.length cp268 = v ∧ L' = [Row Hp.nil 47 (.cons (.int .i64) (.cons (.int .i64) (.one (.cons (.int .i64) (.cons (.int .i64) (.cons (.int .i64) (.cons (.int .i64) (.one .bool)))))))) (.slice ad267 l266.length cp268) l266]) ∧ K = K') := by
 refine Tr.k <| Tr.of Try.func12 rfl Try.ntmps12 rfl fun E F => ?_
 unfold fn_cons_Of_az at h
 refine cr <| jbx [ii xa.1, ii xa.2.1, .slice adxa_2 xa.2.2.1.length cpxa_2, .slice adxa_3 xa.2.2.2.1.length cpxa_3, .slice adxa_4 xa.2.2.2.2.1.length cpxa_4, .slice adxa_5 xa.2.2.2.2.2.1.length cpxa_5, .slice adxa_6 xa.2.2.2.2.2.2.length cpxa_6] rfl rfl fun b271 => ja (nos) rfl <| J.nil <| CJ.seq ?_
 obtain ⟨o315, ho316, h⟩ := ob h
 refine CJ.meetN (fun ρ K' L' => ∃ (p312 : (Option ((List Int) × Int))) (nb311 : Nat) (v313 : Value), p312 = o315 ∧ Fits [(1, .pointer none), (5, .pointer (some ⟨nb311, 0, none⟩))] ρ ∧ Hp.le K K' ∧ Is K' (.ptr (.cons (.sl (.int .i64)) (.one (.int .i64)))) [v313] p312 ∧ L' = Cl nb311 75 [ii xa.1, ii xa.2.1, .slice adxa_2 xa.2.2.1.length cpxa_2, .slice adxa_3 xa.2.2.2.1.length cpxa_3, .slice adxa_4 xa.2.2.2.2.1.length cpxa_4, .slice adxa_5 xa.2.2.2.2.2.1.length cpxa_5, .slice adxa_6 xa.2.2.2.2.2.2.length cpxa_6, v313] :: F) ?_ ?_
 · refine CJ.tree [Cl b271 34 [ii xa.1, ii xa.2.1, .slice adxa_2 xa.2.2.1.length cpxa_2, .slice adxa_3 xa.2.2.2.1.length cpxa_3, .slice adxa_4 xa.2.2.2.2.1.length cpxa_4, .slice adxa_5 xa.2.2.2.2.2.1.length cpxa_5, .slice adxa_6 xa.2.2.2.2.2.2.length cpxa_6]] (.still [0, 1] (.alt 2 (.still [3] (.alt 4 (.alt 5 (.leaf []) .done) .done)) (.alt 4 (.alt 2 (.still [3] (.alt 5 (.leaf []) .done)) .done) .done))) [] mixO (by decide +kernel) ⟨0, rfl, trivial⟩ rfl <| JT.still rfl <| qv (.agg #[ii xa.1, ii xa.2.1, .slice adxa_2 xa.2.2.1.length cpxa_2, .slice adxa_3 xa.2.2.2.1.length cpxa_3, .slice adxa_4 xa.2.2.2.2.1.length cpxa_4, .slice adxa_5 xa.2.2.2.2.2.1.length cpxa_5, .slice adxa_6 xa.2.2.2.2.2.2.length cpxa_6]) (V.ld rfl (Ld.agg (cs := [ii xa.1, ii xa.2.1, .slice adxa_2 xa.2.2.1.length cpxa_2, .slice adxa_3 xa.2.2.2.1.length cpxa_3, .slice adxa_4 xa.2.2.2.2.1.length cpxa_4, .slice adxa_5 xa.2.2.2.2.2.1.length cpxa_5, .slice adxa_6 xa.2.2.2.2.2.2.length cpxa_6]) Try.underlying34 sz34 rfl (Rd.cls 0 0 rfl rfl))) <| qv (.agg #[ii xa.1, ii xa.2.1, .slice adxa_2 xa.2.2.1.length cpxa_2, .slice adxa_3 xa.2.2.2.1.length cpxa_3, .slice adxa_4 xa.2.2.2.2.1.length cpxa_4, .slice adxa_5 xa.2.2.2.2.2.1.length cpxa_5, .slice adxa_6 xa.2.2.2.2.2.2.length cpxa_6]) (V.ld rfl (Ld.agg (cs := [ii xa.1, ii xa.2.1, .slice adxa_2 xa.2.2.1.length cpxa_2, .slice adxa_3 xa.2.2.2.1.length cpxa_3, .slice adxa_4 xa.2.2.2.2.1.length cpxa_4, .slice adxa_5 xa.2.2.2.2.2.1.length cpxa_5, .slice adxa_6 xa.2.2.2.2.2.2.length cpxa_6]) Try.underlying34 sz34 rfl (Rd.cls 0 0 rfl rfl))) <| JQ.nil ?_
   obtain ⟨r337, hr338, ho316⟩ := ob ho316
   refine JT.alt rfl ?_ ?_
   · refine JB.op rfl (A.call (L1 := []) Try.call15 rfl (point_New_ok fxa_2 fxa_3 fxa_4 fxa_5 fxa_6 hr338) rfl rfl) ?_
     rintro _ K343 _ ⟨v342, _, rfl, ⟨p336, v340, rfl, rfl, f341, rfl⟩, hK344, rfl⟩
     refine ⟨fun w hs => Hold.sub hK344 ⟨0, rfl, trivial⟩ hs, ?_⟩
     refine JT.still rfl ?_
     obtain ⟨q345, rfl⟩ := Is.ptrv f341
     refine qv (.agg #[ii xa.1, ii xa.2.1, .slice adxa_2 xa.2.2.1.length cpxa_2, .slice adxa_3 xa.2.2.2.1.length cpxa_3, .slice adxa_4 xa.2.2.2.2.1.length cpxa_4, .slice adxa_5 xa.2.2.2.2.2.1.length cpxa_5, .slice adxa_6 xa.2.2.2.2.2.2.length cpxa_6, .pointer q345]) (V.build inf75 places75 rfl rfl) <| JQ.nil <| JT.alt rfl ?_ JT.done
     refine JB.op rfl (A.alloc (cs := [ii 0, ii 0, nos, nos, nos, nos, nos, .pointer none]) inf75 rfl) ?_
     rintro _ _ _ ⟨b346, rfl, rfl, rfl⟩
     refine ⟨fun w hs => Hold.sub hK344 ⟨1, rfl, trivial⟩ hs, ?_⟩
     refine JT.alt rfl ?_ JT.done
     refine JB.op rfl (A.store (v := .agg #[ii xa.1, ii xa.2.1, .slice adxa_2 xa.2.2.1.length cpxa_2, .slice adxa_3 xa.2.2.2.1.length cpxa_3, .slice adxa_4 xa.2.2.2.2.1.length cpxa_4, .slice adxa_5 xa.2.2.2.2.2.1.length cpxa_5, .slice adxa_6 xa.2.2.2.2.2.2.length cpxa_6, .pointer q345]) (cs' := [ii xa.1, ii xa.2.1, .slice adxa_2 xa.2.2.1.length cpxa_2, .slice adxa_3 xa.2.2.2.1.length cpxa_3, .slice adxa_4 xa.2.2.2.2.1.length cpxa_4, .slice adxa_5 xa.2.2.2.2.2.1.length cpxa_5, .slice adxa_6 xa.2.2.2.2.2.2.length cpxa_6, .pointer q345]) sz75 rfl rfl rfl rfl rfl rfl) ?_
     rintro _ _ _ ⟨rfl, rfl, rfl⟩
     refine ⟨fun w hs => Hold.sub hK344 ⟨1, rfl, trivial⟩ hs, ?_⟩
     refine JT.leaf rfl <| JQ.nil <| J.dropAt 1 rfl <| J.nil ?_
     obtain rfl := si ho316
     exact ⟨rfl, ⟨p336, b346, .pointer q345, rfl, ⟨rfl, rfl, trivial⟩, hK344, f341, rfl⟩⟩
   refine JT.alt rfl ?_ JT.done
   refine JB.op rfl (A.alloc (cs := [ii 0, ii 0, nos, nos, nos, nos, nos, .pointer none]) inf75 rfl) ?_
   rintro _ _ _ ⟨b347, rfl, rfl, rfl⟩
   refine ⟨fun w hs => Hold.sub (Hp.le_refl _) ⟨1, rfl, trivial⟩ hs, ?_⟩
   refine JT.alt rfl ?_ JT.done
   refine JB.op rfl (A.call (L1 := []) Try.call15 rfl (point_New_ok fxa_2 fxa_3 fxa_4 fxa_5 fxa_6 hr338) rfl rfl) ?_
   rintro _ K352 _ ⟨v351, _, rfl, ⟨p336, v349, rfl, rfl, f350, rfl⟩, hK353, rfl⟩
   refine ⟨fun w hs => Hold.sub hK353 ⟨1, rfl, trivial⟩ hs, ?_⟩
   refine JT.still rfl ?_
   obtain ⟨q354, rfl⟩ := Is.ptrv f350
   refine qv (.agg #[ii xa.1, ii xa.2.1, .slice adxa_2 xa.2.2.1.length cpxa_2, .slice adxa_3 xa.2.2.2.1.length cpxa_3, .slice adxa_4 xa.2.2.2.2.1.length cpxa_4, .slice adxa_5 xa.2.2.2.2.2.1.length cpxa_5, .slice adxa_6 xa.2.2.2.2.2.2.length cpxa_6, .pointer q354]) (V.build inf75 places75 rfl rfl) <| JQ.nil <| JT.alt rfl ?_ JT.done
   refine JB.op rfl (A.store (v := .agg #[ii xa.1, ii xa.2.1, .slice adxa_2 xa.2.2.1.length cpxa_2, .slice adxa_3 xa.2.2.2.1.length cpxa_3, .slice adxa_4 xa.2.2.2.2.1.length cpxa_4, .slice adxa_5 xa.2.2.2.2.2.1.length cpxa_5, .slice adxa_6 xa.2.2.2.2.2.2.length cpxa_6, .pointer q354]) (cs' := [ii xa.1, ii xa.2.1, .slice adxa_2 xa.2.2.1.length cpxa_2, .slice adxa_3 xa.2.2.2.1.length cpxa_3, .slice adxa_4 xa.2.2.2.2.1.length cpxa_4, .slice adxa_5 xa.2.2.2.2.2.1.length cpxa_5, .slice adxa_6 xa.2.2.2.2.2.2.length cpxa_6, .pointer q354]) sz75 rfl rfl rfl rfl rfl rfl) ?_
   rintro _ _ _ ⟨rfl, rfl, rfl⟩
   refine ⟨fun w hs => Hold.sub hK353 ⟨1, rfl, trivial⟩ hs, ?_⟩
   refine JT.leaf rfl <| JQ.nil <| J.dropAt 1 rfl <| J.nil ?_
   obtain rfl := si ho316
   exact ⟨rfl, ⟨p336, b347, .pointer q354, rfl, ⟨rfl, rfl, trivial⟩, hK353, f350, rfl⟩⟩
 rintro ρ K310 _ ⟨p312, nb311, v313, rfl, hf355, hk356, f314, rfl⟩
 obtain ⟨ρ, rfl⟩ := hf355.ex
 refine PJ.done <| cr <| ja (nos) rfl <| J.nil <| CJ.seq <| CJ.seq ?_
 refine CJ.region <| jv _ (V.fad Try.underlying75 rfl nz72 rfl) <| jv v313 (V.ld rfl (Ld.sc sc72 (Rd.cl 0 rfl rfl))) ?_
 obtain ⟨r357, hr358, h⟩ := ob h
 refine J.op rfl (A.call (L1 := []) Try.call16 rfl (point_Points_Len_ok f314 hr358) rfl rfl) ?_
 rintro _ _ _ ⟨v360, _, rfl, ⟨⟨i359, rfl, rfl, rfl⟩, rfl⟩, _, rfl⟩
 refine jm (ii 0) rfl <| J.nil ?_
 obtain ⟨o444, ho445, h⟩ := ob h
 refine CJ.meetN (fun ρ K' L' => ∃ (l439 : (List (Int × Int × (Int × Int × Int × Int × Bool)))) (ad440 : Option Addr) (cp441 : Nat), l439 = o444 ∧ Fits [(1, .pointer none), (5, .pointer (some ⟨nb311, 0, none⟩)), (6, .slice ad440 l439.length cp441)] ρ ∧ K310 = K' ∧ L' = Cl nb311 75 [ii xa.1, ii xa.2.1, .slice adxa_2 xa.2.2.1.length cpxa_2, .slice adxa_3 xa.2.2.2.1.length cpxa_3, .slice adxa_4 xa.2.2.2.2.1.length cpxa_4, .slice adxa_5 xa.2.2.2.2.2.1.length cpxa_5, .slice adxa_6 xa.2.2.2.2.2.2.length cpxa_6, v313] :: Row Hp.nil 47 (.cons (.int .i64) (.cons (.int .i64) (.one (.cons (.int .i64) (.cons (.int .i64) (.cons (.int .i64) (.cons (.int .i64) (.one .bool)))))))) (.slice ad440 l439.length cp441) l439 :: F) ?_ ?_
 · refine CJ.block <| CJ.by (fun w hs => Sep.rowNil (e := 47) (t := (.cons (.int .i64) (.cons (.int .i64) (.one (.cons (.int .i64) (.cons (.int .i64) (.cons (.int .i64) (.cons (.int .i64) (.one .bool))))))))) hs) <| CJ.front 1 rfl <| CJ.loop (fun s ρ K' L' => ∃ (l471 : (List (Int × Int × (Int × Int × Int × Int × Bool)))) (i476 : Int) (ad472 : Option Addr) (cp473 : Nat), (l471, i476) = s ∧ Fits [(1, .pointer none), (5, .pointer (some ⟨nb311, 0, none⟩)), (6, .slice ad472 l471.length cp473), (14, ii i359), (15, ii i476)] ρ ∧ K310 = K' ∧ L' = Cl nb311 75 [ii xa.1, ii xa.2.1, .slice adxa_2 xa.2.2.1.length cpxa_2, .slice adxa_3 xa.2.2.2.1.length cpxa_3, .slice adxa_4 xa.2.2.2.2.1.length cpxa_4, .slice adxa_5 xa.2.2.2.2.2.1.length cpxa_5, .slice adxa_6 xa.2.2.2.2.2.2.length cpxa_6, v313] :: Row Hp.nil 47 (.cons (.int .i64) (.cons (.int .i64) (.one (.cons (.int .i64) (.cons (.int .i64) (.cons (.int .i64) (.cons (.int .i64) (.one .bool)))))))) (.slice ad472 l471.length cp473) l471 :: F) ho445 ⟨[], 0, none, 0, rfl, ⟨rfl, rfl, rfl, rfl, rfl, trivial⟩, rfl, rfl⟩ ?_
   rintro s ρ _ _ r504 ⟨l471, i476, ad472, cp473, rfl, hf502, rfl, rfl⟩ h500
   obtain ⟨ρ, rfl⟩ := hf502.ex
   refine CJ.front 1 rfl <| CJ.wit Row.hn fun hn475 => cr <| jv (.bool (decide (i476 < i359))) (V.lss rfl rfl) <| J.nil <| CJ.seq ?_
   refine cc rfl h500 (fun hc505 h500 => ?_) fun hc505 h500 => ?_
   · refine CJ.skip <| CJ.seq <| CJ.block <| cr <| jm (ii i476) rfl <| ja (ii i476) rfl ?_
     refine J.nil <| CJ.region <| jm (.slice ad472 l471.length cp473) rfl <| jv (.agg #[ii xa.1, ii xa.2.1, .slice adxa_2 xa.2.2.1.length cpxa_2, .slice adxa_3 xa.2.2.2.1.length cpxa_3, .slice adxa_4 xa.2.2.2.2.1.length cpxa_4, .slice adxa_5 xa.2.2.2.2.2.1.length cpxa_5, .slice adxa_6 xa.2.2.2.2.2.2.length cpxa_6, v313]) (V.ld rfl (Ld.agg (cs := [ii xa.1, ii xa.2.1, .slice adxa_2 xa.2.2.1.length cpxa_2, .slice adxa_3 xa.2.2.2.1.length cpxa_3, .slice adxa_4 xa.2.2.2.2.1.length cpxa_4, .slice adxa_5 xa.2.2.2.2.2.1.length cpxa_5, .slice adxa_6 xa.2.2.2.2.2.2.length cpxa_6, v313]) Try.underlying75 sz75 rfl (Rd.cls 1 0 rfl rfl))) <| jm (ii i476) rfl ?_
     obtain ⟨r506, hr507, h500⟩ := ob h500
     refine J.op rfl (A.call (L1 := []) Try.call17 rfl (cons_maker_at_ok (xa := (((xa.1, xa.2.1, xa.2.2.1, xa.2.2.2.1, xa.2.2.2.2.1, xa.2.2.2.2.2.1, xa.2.2.2.2.2.2), p312))) (fxa_2.mono hk356) (fxa_3.mono hk356) (fxa_4.mono hk356) (fxa_5.mono hk356) (fxa_6.mono hk356) f314 hr507) rfl rfl) ?_
     rintro _ _ _ ⟨v512, _, rfl, ⟨⟨l508, ad509, cp510, rfl, rfl, rfl⟩, rfl⟩, _, rfl⟩
     refine J.wit Row.hn fun hn511 => ?_
     obtain ⟨z516, hz517, h500⟩ := ob h500
     refine J.front 1 rfl <| J.op rfl (A.appR (Kr := Hp.nil) Try.underlying22 inf47 rfl rfl (by decide) (by decide) rfl rfl (Els.flat rfl) (Els.flat rfl) hz517) ?_
     rintro _ _ _ ⟨v518, rfl, rfl, rfl⟩
     refine J.wit Row.form ?_
     rintro ⟨ad519, cp520, rfl, _, _, hn521⟩
     refine ja (.slice ad519 z516.length cp520) rfl <| J.nil <| CJ.region <| jv (ii (IntKind.wrap .i64 (i476 + 1))) (V.add rfl rfl) <| jm (ii (IntKind.wrap .i64 (i476 + 1))) rfl <| J.front 1 rfl <| J.nil ?_
     obtain rfl := si h500
     exact ⟨rfl, ⟨z516, IntKind.wrap .i64 (i476 + 1), ad519, cp520, rfl, ⟨rfl, rfl, rfl, rfl, rfl, trivial⟩, rfl, rfl⟩⟩
   refine CJ.front 1 rfl <| CJ.exit ?_
   obtain rfl := si h500
   refine ⟨nofun, fun e => ?_⟩
   subst e
   exact ⟨rfl, ⟨l471, ad472, cp473, rfl, ⟨rfl, rfl, rfl, trivial⟩, rfl, rfl⟩⟩
 rintro ρ _ _ ⟨l439, ad440, cp441, rfl, hf522, rfl, rfl⟩
 obtain ⟨ρ, rfl⟩ := hf522.ex
 refine PJ.front 1 rfl <| PJ.wit Row.hn fun hn443 => PJ.done <| cr <| jm (.pointer none) rfl <| jv _ (V.fad Try.underlying75 rfl nz72 rfl) ?_
 refine jv v313 (V.ld rfl (Ld.sc sc72 (Rd.cl 1 rfl rfl))) ?_
 obtain ⟨r524, hr525, h⟩ := ob h
 refine J.op rfl (A.call (L1 := []) Try.call16 rfl (point_Points_Len_ok f314 hr525) rfl rfl) ?_
 rintro _ _ _ ⟨v527, _, rfl, ⟨⟨i526, rfl, rfl, rfl⟩, rfl⟩, _, rfl⟩
 refine jm (.slice ad440 l439.length cp441) rfl <| jv (ii (((l439.length : Nat) : Int))) (V.len Try.underlying22 rfl) <| jv (ii (IntKind.wrap .i64 (i526 + (((l439.length : Nat) : Int))))) (V.add rfl rfl) ?_
 obtain ⟨r530, hr531, h⟩ := ob h
 refine J.op rfl (A.call (L1 := []) Try.call18 rfl (tick_Counter_Add_zii_ok hr531) rfl rfl) ?_
 rintro _ _ _ ⟨v532, _, rfl, ⟨⟨rfl, rfl, rfl⟩, rfl⟩, _, rfl⟩
 refine J.nil <| cr <| jm (.slice ad440 l439.length cp441) rfl <| ja (.slice ad440 l439.length cp441) rfl <| J.nil <| CJ.ret ?_
 obtain rfl := si h
 exact ⟨_, _, Res.one rfl rfl, ⟨l439, ad440, cp441, rfl, rfl, rfl⟩, hk356, fun w hs => (Sep.dropAt 1 rfl hs)⟩
noncomputable def fn_numeral_Text_l1  : (Int × (List Int) × Int) → Option ((Int × (List Int) × Int) ⊕ List UInt8) := fun ((i262, l263, i266) : (Int × (List Int) × Int)) => (getI l263 (IntKind.wrap .i64 (i266 - 1))).bind fun x295 => (some (l263.set (IntKind.wrap .i64 (i266 - 1)).toNat (IntKind.wrap .u8 (IntKind.wrap .i64 (48 + (Int.tmod i262 10)))))).bind fun z300 => cond (decide ((IntKind.wrap .i64 (Int.tdiv i262 10)) = 0)) ((subL z300 (IntKind.wrap .i64 (i266 - 1)) (((20 : Nat) : Int))).bind fun y308 => some (.inr (toU8 y308))) (some (.inl ((IntKind.wrap .i64 (Int.tdiv i262 10), z300, IntKind.wrap .i64 (i266 - 1)))))
noncomputable def fn_numeral_Text (xa : Int) : Option (List UInt8) :=
  cond (decide (xa < 0)) (some (([] : List UInt8))) (loop (fn_numeral_Text_l1) ((xa, ([0, 0, 0, 0, 0, 0, 0, 0, 0, 0, 0, 0, 0, 0, 0, 0, 0, 0, 0, 0] : List Int), 20)))
set_option maxRecDepth 100000 in
set_option maxHeartbeats 4000000 in
theorem numeral_Text_ok {K : Hp} {xa : Int}   {r : List UInt8} (h : fn_numeral_Text xa = some r) :
    Tr Try.prog 31 #[ii xa] K [] (fun v K' L' => (∃ (s157 : List UInt8), s157 = r ∧ .string ⟨s157.toArray⟩ = v ∧ L' = []) ∧ K = K') := by
 refine Tr.k <| Tr.of Try.func31 rfl Try.ntmps31 rfl fun E F => ?_
 unfold fn_numeral_Text at h
 refine cr <| ja (.string ⟨([] : List UInt8).toArray⟩) rfl <| J.nil <| CJ.seq <| CJ.seq <| CJ.region ?_
 refine jm (ii xa) rfl <| jv (.bool (decide (xa < 0))) (V.lss rfl rfl) <| J.nil <| cc rfl h (fun hc158 h => ?_) fun hc158 h => ?_
 · refine cr <| ja (.string ⟨([] : List UInt8).toArray⟩) rfl <| J.nil <| CJ.ret ?_
   obtain rfl := si h
   exact ⟨_, _, Res.one rfl rfl, ⟨([] : List UInt8), rfl, rfl, rfl⟩, (Hp.le_refl _), fun w hs => hs⟩
 refine CJ.skip <| cr <| jal inf112 [.int .u8 0, .int .u8 0, .int .u8 0, .int .u8 0, .int .u8 0, .int .u8 0, .int .u8 0, .int .u8 0, .int .u8 0, .int .u8 0, .int .u8 0, .int .u8 0, .int .u8 0, .int .u8 0, .int .u8 0, .int .u8 0, .int .u8 0, .int .u8 0, .int .u8 0, .int .u8 0] rfl fun b159 => ?_
 have hl160 : ([0, 0, 0, 0, 0, 0, 0, 0, 0, 0, 0, 0, 0, 0, 0, 0, 0, 0, 0, 0] : List Int).length = 20 := rfl
 refine J.by (fun w hs => Sep.arr (t := (.int .u8)) (xs := ([0, 0, 0, 0, 0, 0, 0, 0, 0, 0, 0, 0, 0, 0, 0, 0, 0, 0, 0, 0] : List Int)) ⟨_, _, rfl, rfl, ⟨_, _, rfl, rfl, ⟨_, _, rfl, rfl, ⟨_, _, rfl, rfl, ⟨_, _, rfl, rfl, ⟨_, _, rfl, rfl, ⟨_, _, rfl, rfl, ⟨_, _, rfl, rfl, ⟨_, _, rfl, rfl, ⟨_, _, rfl, rfl, ⟨_, _, rfl, rfl, ⟨_, _, rfl, rfl, ⟨_, _, rfl, rfl, ⟨_, _, rfl, rfl, ⟨_, _, rfl, rfl, ⟨_, _, rfl, rfl, ⟨_, _, rfl, rfl, ⟨_, _, rfl, rfl, ⟨_, _, rfl, rfl, ⟨_, _, rfl, rfl, rfl⟩⟩⟩⟩⟩⟩⟩⟩⟩⟩⟩⟩⟩⟩⟩⟩⟩⟩⟩⟩ hl160 rfl hs) <| J.nil <| cr <| ja (ii 20) rfl <| J.nil <| CJ.block ?_
 refine CJ.loop (fun s ρ K' L' => ∃ (i262 : Int) (l263 : (List Int)) (i266 : Int), (i262, l263, i266) = s ∧ Fits [(0, ii i262), (3, .pointer (some ⟨b159, 0, none⟩)), (4, ii i266)] ρ ∧ K = K' ∧ L' = Row Hp.nil 112 (.int .u8) (.slice (some ⟨b159, 0, none⟩) 20 20) l263 :: F) h ⟨xa, ([0, 0, 0, 0, 0, 0, 0, 0, 0, 0, 0, 0, 0, 0, 0, 0, 0, 0, 0, 0] : List Int), 20, rfl, ⟨rfl, rfl, rfl, trivial⟩, rfl, rfl⟩ ?_
 rintro s ρ _ _ r294 ⟨i262, l263, i266, rfl, hf292, rfl, rfl⟩ h291
 obtain ⟨ρ, rfl⟩ := hf292.ex
 refine CJ.wit Row.len fun hl265 => CJ.block <| cr <| jm (ii i266) rfl <| jv (ii (IntKind.wrap .i64 (i266 - 1))) (V.sub rfl rfl) <| ja (ii (IntKind.wrap .i64 (i266 - 1))) rfl ?_
 refine J.nil <| cr <| jm (ii (IntKind.wrap .i64 (i266 - 1))) rfl <| jm (ii i262) rfl <| jv (ii (Int.tmod i262 10)) (V.rem rfl rfl (by decide)) <| jv (ii (IntKind.wrap .i64 (48 + (Int.tmod i262 10)))) (V.add rfl rfl) ?_
 refine jv (.int .u8 (IntKind.wrap .u8 (IntKind.wrap .i64 (48 + (Int.tmod i262 10))))) (V.conv Try.underlying3 Try.underlying5 rfl) ?_
 obtain ⟨x295, hx296, h291⟩ := ob h291
 obtain ⟨p297, p298, p299⟩ := getI_some hx296
 refine jv _ (V.iadA Try.underlying112 sz5 rfl rfl p297 (lt_cap p299 hl265)) ?_
 obtain ⟨z300, hz301, h291⟩ := ob h291
 have e302 := Option.some.inj hz301
 have hl303 : z300.length = 20 := by rw [← e302, List.length_set]; exact hl265
 refine J.op rfl (A.storeR (ty := (.int .u8)) (q := 0) (y0 := IntKind.wrap .u8 (IntKind.wrap .i64 (48 + (Int.tmod i262 10)))) (zs := z300) sz5 rfl rfl rfl rfl rfl p298 (by simp [Tp.size]) (by decide) (by rintro _ rfl; exact rfl) e302) ?_
 rintro _ _ _ ⟨rfl, rfl, rfl⟩
 refine J.nil <| cr <| jm (ii i262) rfl <| jv (ii (IntKind.wrap .i64 (Int.tdiv i262 10))) (V.quo rfl rfl (by decide)) <| ja (ii (IntKind.wrap .i64 (Int.tdiv i262 10))) rfl <| J.nil ?_
 refine cr <| jm (ii (IntKind.wrap .i64 (Int.tdiv i262 10))) rfl <| jv (.bool (decide ((IntKind.wrap .i64 (Int.tdiv i262 10)) = 0))) (V.eql rfl rfl) <| J.nil <| cc rfl h291 (fun hc304 h291 => ?_) fun hc304 h291 => ?_
 · refine cr <| jm (ii (IntKind.wrap .i64 (i266 - 1))) rfl <| J.persist (Hp.nil_le _) (by decide) fun K305 hK306 f307 => ?_
   obtain ⟨y308, hy309, h291⟩ := ob h291
   obtain ⟨ad310, cp311, hv312, f313⟩ := V.subA (tp := (.int .u8)) Try.underlying112 sz5 hl303 f307 hy309
   refine jv (.slice ad310 y308.length cp311) (hv312 rfl (fun _ h => by cases h; exact ⟨_, rfl⟩) nofun nofun (fun _ => rfl)) <| jv (.string ⟨(toU8 y308).toArray⟩) (V.b2sK Try.underlying113 Try.underlying5 Try.underlying9 rfl f313 (Hp.le_refl _)) <| ja (.string ⟨(toU8 y308).toArray⟩) rfl <| J.nil <| CJ.ret ?_
   obtain rfl := si h291
   refine ⟨nofun, fun e => ?_⟩
   subst e
   exact ⟨_, _, Res.one rfl rfl, ⟨toU8 y308, rfl, rfl, rfl⟩, hK306, fun w hs => hs⟩
 refine CJ.skip ?_
 obtain rfl := si h291
 exact ⟨rfl, ⟨IntKind.wrap .i64 (Int.tdiv i262 10), z300, IntKind.wrap .i64 (i266 - 1), rfl, ⟨rfl, rfl, rfl, trivial⟩, rfl, rfl⟩⟩

noncomputable def fn_numeral_Pair (xa : (Int × Int)) : Option (List UInt8) :=
  cond ((decide (xa.1 < 0)) || (decide (xa.2 < 0))) (some (([] : List UInt8))) ((fn_numeral_Text xa.1).bind fun s62 => (app s62 ([58] : List UInt8)).bind fun z66 => (fn_numeral_Text xa.2).bind fun s70 => (app z66 s70).bind fun z74 => some (z74))
set_option maxRecDepth 100000 in
set_option maxHeartbeats 4000000 in
theorem numeral_Pair_ok {K : Hp} {xa : (Int × Int)}   {r : List UInt8} (h : fn_numeral_Pair xa = some r) :
    Tr Try.prog 23 #[.agg #[ii xa.1, ii xa.2]] K [] (fun v K' L' => (∃ (s38 : List UInt8), s38 = r ∧ .string ⟨s38.toArray⟩ = v ∧ L' = []) ∧ K = K') := by
 refine Tr.k <| Tr.of Try.func23 rfl Try.ntmps23 rfl fun E F => ?_
 unfold fn_numeral_Pair at h
 refine cr <| jbx [ii xa.1, ii xa.2] rfl rfl fun b39 => ja (.string ⟨([] : List UInt8).toArray⟩) rfl <| J.nil <| CJ.seq <| CJ.seq ?_
 refine CJ.region <| jv _ (V.fad Try.underlying83 rfl nz3 rfl) <| jv (ii xa.1) (V.ld rfl (Ld.sc sc3 (Rd.cl 0 rfl rfl))) <| jv (.bool (decide (xa.1 < 0))) (V.lss rfl rfl) <| jm (.bool (decide (xa.1 < 0))) rfl <| J.cut 4 <| jmeet [(10, .bool ((decide (xa.1 < 0)) || (decide (xa.2 < 0)))), (1, .pointer (some ⟨b39, 0, none⟩))] ?_ ?_
 · rcases bt (decide (xa.1 < 0)) with hc42 | hc42
   · refine J.skip rfl rfl rfl rfl hc42 <| J.skip rfl rfl rfl rfl hc42 <| J.skip rfl rfl rfl rfl hc42 <| jv (.bool true) (V.pickT rfl hc42 rfl) <| J.nil ?_
     exact ⟨rfl, ⟨(by simp only [hc42]; rfl), rfl, trivial⟩, rfl, rfl⟩
   refine J.run rfl rfl rfl hc42 <| jv _ (V.fad Try.underlying83 rfl nz3 rfl) <| J.run rfl rfl rfl hc42 <| jv (ii xa.2) (V.ld rfl (Ld.sc sc3 (Rd.cl 0 rfl rfl))) <| J.run rfl rfl rfl hc42 <| jv (.bool (decide (xa.2 < 0))) (V.lss rfl rfl) <| jv (.bool (decide (xa.2 < 0))) (V.pickF rfl hc42 rfl) ?_
   refine J.nil ?_
   exact ⟨rfl, ⟨(by simp only [hc42]; rfl), rfl, trivial⟩, rfl, rfl⟩
 intro ρ
 refine J.nil <| cc rfl h (fun hc43 h => ?_) fun hc43 h => ?_
 · refine cr <| ja (.string ⟨([] : List UInt8).toArray⟩) rfl <| J.nil <| CJ.ret ?_
   obtain rfl := si h
   exact ⟨_, _, Res.one rfl rfl, ⟨([] : List UInt8), rfl, rfl, rfl⟩, (Hp.le_refl _), fun w hs => (Sep.dropAt 0 rfl hs)⟩
 refine CJ.skip <| CJ.seq <| CJ.mix [Cl b39 83 [ii xa.1, ii xa.2]] [([0, 1, 4, 5], 2), ([3], 6)] [7, 8] [] mixO (by decide +kernel) ⟨0, rfl, trivial⟩ rfl rfl rfl <| JM.cons <| qv _ (V.fad Try.underlying83 rfl nz3 rfl) <| qv (ii xa.1) (V.ld rfl (Ld.sc sc3 (Rd.cl 0 rfl rfl))) <| qv _ (V.fad Try.underlying83 rfl nz3 rfl) ?_
 refine qv (ii xa.2) (V.ld rfl (Ld.sc sc3 (Rd.cl 0 rfl rfl))) <| JQ.nil ?_
 obtain ⟨r60, hr61, h⟩ := ob h
 refine JA.op rfl (A.call (L1 := []) Try.call31 rfl (numeral_Text_ok hr61) rfl rfl) ?_
 rintro _ _ _ ⟨v63, _, rfl, ⟨⟨s62, rfl, rfl, rfl⟩, rfl⟩, _, rfl⟩
 refine ⟨fun w hs => Hold.sub (Hp.le_refl _) ⟨0, rfl, trivial⟩ hs, ?_⟩
 refine JM.cons ?_
 obtain ⟨z66, hz67, h⟩ := ob h
 refine qv (.string ⟨z66.toArray⟩) (V.cat rfl rfl hz67) <| JQ.nil ?_
 obtain ⟨r68, hr69, h⟩ := ob h
 refine JA.op rfl (A.call (L1 := []) Try.call31 rfl (numeral_Text_ok hr69) rfl rfl) ?_
 rintro _ _ _ ⟨v71, _, rfl, ⟨⟨s70, rfl, rfl, rfl⟩, rfl⟩, _, rfl⟩
 refine ⟨fun w hs => Hold.sub (Hp.le_refl _) ⟨0, rfl, trivial⟩ hs, ?_⟩
 refine JM.nil ?_
 obtain ⟨z74, hz75, h⟩ := ob h
 refine qv (.string ⟨z74.toArray⟩) (V.cat rfl rfl hz75) <| qa (.string ⟨z74.toArray⟩) rfl <| JQ.nil <| J.nil <| CJ.ret ?_
 obtain rfl := si h
 exact ⟨_, _, Res.one rfl rfl, ⟨z74, rfl, rfl, rfl⟩, (Hp.le_refl _), fun w hs => (Sep.dropAt 0 rfl hs)⟩

noncomputable def fn_prov_isKind (xa : Int) : Option Bool :=
  some ((decide (1 ≤ xa)) && (decide (xa ≤ 7)))
set_option maxRecDepth 100000 in
set_option maxHeartbeats 4000000 in
theorem prov_isKind_ok {K : Hp} {xa : Int}   {r : Bool} (h : fn_prov_isKind xa = some r) :
    Tr Try.prog 40 #[ii xa] K [] (fun v K' L' => (∃ (t4 : Bool), t4 = r ∧ .bool t4 = v ∧ L' = []) ∧ K = K') := by
 refine Tr.k <| Tr.of Try.func40 rfl Try.ntmps40 rfl fun E F => ?_
 unfold fn_prov_isKind at h
 refine cr <| ja (.bool false) rfl <| J.nil <| cr <| jm (ii xa) rfl ?_
 refine jv (.bool (decide (1 ≤ xa))) (V.geq rfl rfl) <| jm (.bool (decide (1 ≤ xa))) rfl <| J.cut 3 <| jmeet [(8, .bool ((decide (1 ≤ xa)) && (decide (xa ≤ 7))))] ?_ ?_
 · rcases bt (decide (1 ≤ xa)) with hc7 | hc7
   · refine J.run rfl rfl rfl hc7 <| jm (ii xa) rfl <| J.run rfl rfl rfl hc7 <| jv (.bool (decide (xa ≤ 7))) (V.leq rfl rfl) <| jv (.bool (decide (xa ≤ 7))) (V.pickT rfl hc7 rfl) <| J.nil ?_
     exact ⟨rfl, ⟨(by simp only [hc7]; rfl), trivial⟩, rfl, rfl⟩
   refine J.skip rfl rfl rfl rfl hc7 <| J.skip rfl rfl rfl rfl hc7 <| jv (.bool false) (V.pickF rfl hc7 rfl) <| J.nil ?_
   exact ⟨rfl, ⟨(by simp only [hc7]; rfl), trivial⟩, rfl, rfl⟩
 intro ρ
 refine ja (.bool ((decide (1 ≤ xa)) && (decide (xa ≤ 7)))) rfl <| J.nil <| CJ.ret ?_
 obtain rfl := si h
 exact ⟨_, _, Res.one rfl rfl, ⟨(decide (1 ≤ xa)) && (decide (xa ≤ 7)), rfl, rfl, rfl⟩, (Hp.le_refl _), fun w hs => hs⟩

noncomputable def fn_prov_Right (xa : (Int × Int × Int × Int × Bool)) : Option Bool :=
  (cond (((decide (0 ≤ xa.1)) && (decide (0 ≤ xa.2.1))) && (decide (0 ≤ xa.2.2.2.1))) ((fn_prov_isKind xa.2.2.1).bind fun t44 => some (t44)) (some (false))).bind fun t39 => some (t39)
set_option maxRecDepth 100000 in
set_option maxHeartbeats 4000000 in
theorem prov_Right_ok {K : Hp} {xa : (Int × Int × Int × Int × Bool)}   {r : Bool} (h : fn_prov_Right xa = some r) :
    Tr Try.prog 32 #[.agg #[ii xa.1, ii xa.2.1, ii xa.2.2.1, ii xa.2.2.2.1, .bool xa.2.2.2.2]] K [] (fun v K' L' => (∃ (t24 : Bool), t24 = r ∧ .bool t24 = v ∧ L' = []) ∧ K = K') := by
 refine Tr.k <| Tr.of Try.func32 rfl Try.ntmps32 rfl fun E F => ?_
 unfold fn_prov_Right at h
 refine cr <| jbx [ii xa.1, ii xa.2.1, ii xa.2.2.1, ii xa.2.2.2.1, .bool xa.2.2.2.2] rfl rfl fun b25 => ja (.bool false) rfl <| J.nil <| CJ.seq <| CJ.region ?_
 refine jv _ (V.fad Try.underlying45 rfl nz3 rfl) <| jv (ii xa.1) (V.ld rfl (Ld.sc sc3 (Rd.cl 0 rfl rfl))) <| jv (.bool (decide (0 ≤ xa.1))) (V.geq rfl rfl) <| jm (.bool (decide (0 ≤ xa.1))) rfl <| J.cut 4 <| jmeet [(10, .bool ((decide (0 ≤ xa.1)) && (decide (0 ≤ xa.2.1)))), (1, .pointer (some ⟨b25, 0, none⟩))] ?_ ?_
 · rcases bt (decide (0 ≤ xa.1)) with hc28 | hc28
   · refine J.run rfl rfl rfl hc28 <| jv _ (V.fad Try.underlying45 rfl nz3 rfl) <| J.run rfl rfl rfl hc28 <| jv (ii xa.2.1) (V.ld rfl (Ld.sc sc3 (Rd.cl 0 rfl rfl))) <| J.run rfl rfl rfl hc28 <| jv (.bool (decide (0 ≤ xa.2.1))) (V.geq rfl rfl) <| jv (.bool (decide (0 ≤ xa.2.1))) (V.pickT rfl hc28 rfl) ?_
     refine J.nil ?_
     exact ⟨rfl, ⟨(by simp only [hc28]; rfl), rfl, trivial⟩, rfl, rfl⟩
   refine J.skip rfl rfl rfl rfl hc28 <| J.skip rfl rfl rfl rfl hc28 <| J.skip rfl rfl rfl rfl hc28 <| jv (.bool false) (V.pickF rfl hc28 rfl) <| J.nil ?_
   exact ⟨rfl, ⟨(by simp only [hc28]; rfl), rfl, trivial⟩, rfl, rfl⟩
 intro ρ
 refine jm (.bool ((decide (0 ≤ xa.1)) && (decide (0 ≤ xa.2.1)))) rfl <| J.cut 4 <| jmeet [(15, .bool (((decide (0 ≤ xa.1)) && (decide (0 ≤ xa.2.1))) && (decide (0 ≤ xa.2.2.2.1)))), (1, .pointer (some ⟨b25, 0, none⟩))] ?_ ?_
 · rcases bt ((decide (0 ≤ xa.1)) && (decide (0 ≤ xa.2.1))) with hc31 | hc31
   · refine J.run rfl rfl rfl hc31 <| jv _ (V.fad Try.underlying45 rfl nz3 rfl) <| J.run rfl rfl rfl hc31 <| jv (ii xa.2.2.2.1) (V.ld rfl (Ld.sc sc3 (Rd.cl 0 rfl rfl))) <| J.run rfl rfl rfl hc31 <| jv (.bool (decide (0 ≤ xa.2.2.2.1))) (V.geq rfl rfl) <| jv (.bool (decide (0 ≤ xa.2.2.2.1))) (V.pickT rfl hc31 rfl) ?_
     refine J.nil ?_
     exact ⟨rfl, ⟨(by simp only [hc31]; rfl), rfl, trivial⟩, rfl, rfl⟩
   refine J.skip rfl rfl rfl rfl hc31 <| J.skip rfl rfl rfl rfl hc31 <| J.skip rfl rfl rfl rfl hc31 <| jv (.bool false) (V.pickF rfl hc31 rfl) <| J.nil ?_
   exact ⟨rfl, ⟨(by simp only [hc31]; rfl), rfl, trivial⟩, rfl, rfl⟩
 intro ρ
 refine jm (.bool (((decide (0 ≤ xa.1)) && (decide (0 ≤ xa.2.1))) && (decide (0 ≤ xa.2.2.2.1)))) rfl <| J.cut 4 ?_
 obtain ⟨t39, ht40, h⟩ := ob h
 refine jmeet [(20, .bool t39)] ?_ ?_
 · rcases bt (((decide (0 ≤ xa.1)) && (decide (0 ≤ xa.2.1))) && (decide (0 ≤ xa.2.2.2.1))) with hc41 | hc41
   · have ht40 := ct hc41 ht40
     refine J.run rfl rfl rfl hc41 <| jv _ (V.fad Try.underlying45 rfl nz3 rfl) <| J.run rfl rfl rfl hc41 <| jv (ii xa.2.2.1) (V.ld rfl (Ld.sc sc3 (Rd.cl 0 rfl rfl))) <| J.run rfl rfl rfl hc41 ?_
     obtain ⟨r42, hr43, ht40⟩ := ob ht40
     refine J.op rfl (A.call (L1 := []) Try.call40 rfl (prov_isKind_ok hr43) rfl rfl) ?_
     rintro _ _ _ ⟨v45, _, rfl, ⟨⟨t44, rfl, rfl, rfl⟩, rfl⟩, _, rfl⟩
     refine jv (.bool t44) (V.pickT rfl hc41 rfl) <| J.nil ?_
     obtain rfl := si ht40
     exact ⟨rfl, ⟨rfl, trivial⟩, rfl, rfl⟩
   have ht40 := cf hc41 ht40
   refine J.skip rfl rfl rfl rfl hc41 <| J.skip rfl rfl rfl rfl hc41 <| J.skip rfl rfl rfl rfl hc41 <| jv (.bool false) (V.pickF rfl hc41 rfl) <| J.nil ?_
   obtain rfl := si ht40
   exact ⟨rfl, ⟨rfl, trivial⟩, rfl, rfl⟩
 intro ρ
 refine ja (.bool t39) rfl <| J.nil <| CJ.ret ?_
 obtain rfl := si h
 exact ⟨_, _, Res.one rfl rfl, ⟨t39, rfl, rfl, rfl⟩, (Hp.le_refl _), fun w hs => (Sep.dropAt 0 rfl hs)⟩

noncomputable def fn_prov_Name (xa : Int) : Option (List UInt8) :=
  cond (decide (xa = 1)) (some (([102, 108, 111, 119] : List UInt8))) (cond (decide (xa = 2)) (some (([108, 111, 97, 110] : List UInt8))) (cond (decide (xa = 3)) (some (([98, 97, 115, 101] : List UInt8))) (cond (decide (xa = 4)) (some (([110, 101, 101, 100] : List UInt8))) (cond (decide (xa = 5)) (some (([112, 97, 115, 115] : List UInt8))) (cond (decide (xa = 6)) (some (([103, 105, 118, 101] : List UInt8))) (cond (decide (xa = 7)) (some (([111, 117, 116] : List UInt8))) (some (([63] : List UInt8)))))))))
set_option maxRecDepth 100000 in
set_option maxHeartbeats 4000000 in
theorem prov_Name_ok {K : Hp} {xa : Int}   {r : List UInt8} (h : fn_prov_Name xa = some r) :
    Tr Try.prog 33 #[ii xa] K [] (fun v K' L' => (∃ (s8 : List UInt8), s8 = r ∧ .string ⟨s8.toArray⟩ = v ∧ L' = []) ∧ K = K') := by
 refine Tr.k <| Tr.of Try.func33 rfl Try.ntmps33 rfl fun E F => ?_
 unfold fn_prov_Name at h
 refine cr <| ja (.string ⟨([] : List UInt8).toArray⟩) rfl <| J.nil <| CJ.seq <| CJ.seq <| CJ.region ?_
 refine jm (ii xa) rfl <| J.nil <| CJ.block <| cr <| jv (.bool (decide (xa = 1))) (V.eql rfl rfl) <| ja (.bool (decide (xa = 1))) rfl ?_
 refine J.nil <| cc rfl h (fun hc9 h => ?_) fun hc9 h => ?_
 · refine cr <| ja (.string ⟨([102, 108, 111, 119] : List UInt8).toArray⟩) rfl <| J.nil <| CJ.ret ?_
   obtain rfl := si h
   exact ⟨_, _, Res.one rfl rfl, ⟨([102, 108, 111, 119] : List UInt8), rfl, rfl, rfl⟩, (Hp.le_refl _), fun w hs => hs⟩
 refine cr <| jv (.bool (decide (xa = 2))) (V.eql rfl rfl) <| ja (.bool (decide (xa = 2))) rfl <| J.nil <| cc rfl h (fun hc10 h => ?_) fun hc10 h => ?_
 · refine cr <| ja (.string ⟨([108, 111, 97, 110] : List UInt8).toArray⟩) rfl <| J.nil <| CJ.ret ?_
   obtain rfl := si h
   exact ⟨_, _, Res.one rfl rfl, ⟨([108, 111, 97, 110] : List UInt8), rfl, rfl, rfl⟩, (Hp.le_refl _), fun w hs => hs⟩
 refine cr <| jv (.bool (decide (xa = 3))) (V.eql rfl rfl) <| ja (.bool (decide (xa = 3))) rfl <| J.nil <| cc rfl h (fun hc11 h => ?_) fun hc11 h => ?_
 · refine cr <| ja (.string ⟨([98, 97, 115, 101] : List UInt8).toArray⟩) rfl <| J.nil <| CJ.ret ?_
   obtain rfl := si h
   exact ⟨_, _, Res.one rfl rfl, ⟨([98, 97, 115, 101] : List UInt8), rfl, rfl, rfl⟩, (Hp.le_refl _), fun w hs => hs⟩
 refine cr <| jv (.bool (decide (xa = 4))) (V.eql rfl rfl) <| ja (.bool (decide (xa = 4))) rfl <| J.nil <| cc rfl h (fun hc12 h => ?_) fun hc12 h => ?_
 · refine cr <| ja (.string ⟨([110, 101, 101, 100] : List UInt8).toArray⟩) rfl <| J.nil <| CJ.ret ?_
   obtain rfl := si h
   exact ⟨_, _, Res.one rfl rfl, ⟨([110, 101, 101, 100] : List UInt8), rfl, rfl, rfl⟩, (Hp.le_refl _), fun w hs => hs⟩
 refine cr <| jv (.bool (decide (xa = 5))) (V.eql rfl rfl) <| ja (.bool (decide (xa = 5))) rfl <| J.nil <| cc rfl h (fun hc13 h => ?_) fun hc13 h => ?_
 · refine cr <| ja (.string ⟨([112, 97, 115, 115] : List UInt8).toArray⟩) rfl <| J.nil <| CJ.ret ?_
   obtain rfl := si h
   exact ⟨_, _, Res.one rfl rfl, ⟨([112, 97, 115, 115] : List UInt8), rfl, rfl, rfl⟩, (Hp.le_refl _), fun w hs => hs⟩
 refine cr <| jv (.bool (decide (xa = 6))) (V.eql rfl rfl) <| ja (.bool (decide (xa = 6))) rfl <| J.nil <| cc rfl h (fun hc14 h => ?_) fun hc14 h => ?_
 · refine cr <| ja (.string ⟨([103, 105, 118, 101] : List UInt8).toArray⟩) rfl <| J.nil <| CJ.ret ?_
   obtain rfl := si h
   exact ⟨_, _, Res.one rfl rfl, ⟨([103, 105, 118, 101] : List UInt8), rfl, rfl, rfl⟩, (Hp.le_refl _), fun w hs => hs⟩
 refine cr <| jv (.bool (decide (xa = 7))) (V.eql rfl rfl) <| ja (.bool (decide (xa = 7))) rfl <| J.nil <| cc rfl h (fun hc15 h => ?_) fun hc15 h => ?_
 · refine cr <| ja (.string ⟨([111, 117, 116] : List UInt8).toArray⟩) rfl <| J.nil <| CJ.ret ?_
   obtain rfl := si h
   exact ⟨_, _, Res.one rfl rfl, ⟨([111, 117, 116] : List UInt8), rfl, rfl, rfl⟩, (Hp.le_refl _), fun w hs => hs⟩
 refine CJ.skip <| cr <| ja (.string ⟨([63] : List UInt8).toArray⟩) rfl <| J.nil <| CJ.ret ?_
 obtain rfl := si h
 exact ⟨_, _, Res.one rfl rfl, ⟨([63] : List UInt8), rfl, rfl, rfl⟩, (Hp.le_refl _), fun w hs => hs⟩

noncomputable def fn_prov_Text (xa : (Int × Int × Int × Int × Bool)) : Option (List UInt8) :=
  (fn_prov_Right (xa.1, xa.2.1, xa.2.2.1, xa.2.2.2.1, xa.2.2.2.2)).bind fun t103 => cond (!t103) (some (([63] : List UInt8))) ((fn_numeral_Text xa.1).bind fun s141 => (app s141 ([46] : List UInt8)).bind fun z145 => (fn_numeral_Text xa.2.1).bind fun s149 => (app z145 s149).bind fun z153 => (fn_prov_Name xa.2.2.1).bind fun s157 => (fn_numeral_Text xa.2.2.2.1).bind fun s163 => cond (xa.2.2.2.2) ((app (([z153, s157, s163] : List (List UInt8))) (([([98, 97, 99, 107] : List UInt8)] : List (List UInt8)))).bind fun z174 => (joinF z174 ([32] : List UInt8)).bind fun s185 => some (s185)) ((joinF (([z153, s157, s163] : List (List UInt8))) ([32] : List UInt8)).bind fun s194 => some (s194)))
set_option maxRecDepth 100000 in
set_option maxHeartbeats 4000000 in
theorem prov_Text_ok {K : Hp} {xa : (Int × Int × Int × Int × Bool)}   {r : List UInt8} (h : fn_prov_Text xa = some r) :
    Tr Try.prog 24 #[.agg #[ii xa.1, ii xa.2.1, ii xa.2.2.1, ii xa.2.2.2.1, .bool xa.2.2.2.2]] K [] (fun v K' L' => (∃ (s99 : List UInt8), s99 = r ∧ .string ⟨s99.toArray⟩ = v ∧ L' = []) ∧ K = K') := by
 refine Tr.k <| Tr.of Try.func24 rfl Try.ntmps24 rfl fun E F => ?_
 unfold fn_prov_Text at h
 refine cr <| jbx [ii xa.1, ii xa.2.1, ii xa.2.2.1, ii xa.2.2.2.1, .bool xa.2.2.2.2] rfl rfl fun b100 => ja (.string ⟨([] : List UInt8).toArray⟩) rfl <| J.nil <| CJ.seq <| CJ.seq ?_
 refine CJ.region <| jv (.agg #[ii xa.1, ii xa.2.1, ii xa.2.2.1, ii xa.2.2.2.1, .bool xa.2.2.2.2]) (V.ld rfl (Ld.agg (cs := [ii xa.1, ii xa.2.1, ii xa.2.2.1, ii xa.2.2.2.1, .bool xa.2.2.2.2]) Try.underlying45 sz45 rfl (Rd.cls 0 0 rfl rfl))) ?_
 obtain ⟨r101, hr102, h⟩ := ob h
 refine J.op rfl (A.call (L1 := []) Try.call32 rfl (prov_Right_ok hr102) rfl rfl) ?_
 rintro _ _ _ ⟨v104, _, rfl, ⟨⟨t103, rfl, rfl, rfl⟩, rfl⟩, _, rfl⟩
 refine jv (.bool (!t103)) (V.not rfl) <| J.nil <| cc rfl h (fun hc107 h => ?_) fun hc107 h => ?_
 · refine cr <| ja (.string ⟨([63] : List UInt8).toArray⟩) rfl <| J.nil <| CJ.ret ?_
   obtain rfl := si h
   exact ⟨_, _, Res.one rfl rfl, ⟨([63] : List UInt8), rfl, rfl, rfl⟩, (Hp.le_refl _), fun w hs => (Sep.dropAt 0 rfl hs)⟩
 refine CJ.skip <| CJ.seq <| CJ.mix [Cl b100 45 [ii xa.1, ii xa.2.1, ii xa.2.2.1, ii xa.2.2.2.1, .bool xa.2.2.2.2]] [([0, 1, 4, 5, 8, 9, 11, 12], 2), ([3], 6), ([7], 10), ([], 13), ([], 14)] [15] [] mixO (by decide +kernel) ⟨0, rfl, trivial⟩ rfl rfl rfl <| JM.cons <| qv _ (V.fad Try.underlying45 rfl nz3 rfl) <| qv (ii xa.1) (V.ld rfl (Ld.sc sc3 (Rd.cl 0 rfl rfl))) <| qv _ (V.fad Try.underlying45 rfl nz3 rfl) ?_
 refine qv (ii xa.2.1) (V.ld rfl (Ld.sc sc3 (Rd.cl 0 rfl rfl))) <| qv _ (V.fad Try.underlying45 rfl nz3 rfl) <| qv (ii xa.2.2.1) (V.ld rfl (Ld.sc sc3 (Rd.cl 0 rfl rfl))) <| qv _ (V.fad Try.underlying45 rfl nz3 rfl) <| qv (ii xa.2.2.2.1) (V.ld rfl (Ld.sc sc3 (Rd.cl 0 rfl rfl))) <| JQ.nil ?_
 obtain ⟨r139, hr140, h⟩ := ob h
 refine JA.op rfl (A.call (L1 := []) Try.call31 rfl (numeral_Text_ok hr140) rfl rfl) ?_
 rintro _ _ _ ⟨v142, _, rfl, ⟨⟨s141, rfl, rfl, rfl⟩, rfl⟩, _, rfl⟩
 refine ⟨fun w hs => Hold.sub (Hp.le_refl _) ⟨0, rfl, trivial⟩ hs, ?_⟩
 refine JM.cons ?_
 obtain ⟨z145, hz146, h⟩ := ob h
 refine qv (.string ⟨z145.toArray⟩) (V.cat rfl rfl hz146) <| JQ.nil ?_
 obtain ⟨r147, hr148, h⟩ := ob h
 refine JA.op rfl (A.call (L1 := []) Try.call31 rfl (numeral_Text_ok hr148) rfl rfl) ?_
 rintro _ _ _ ⟨v150, _, rfl, ⟨⟨s149, rfl, rfl, rfl⟩, rfl⟩, _, rfl⟩
 refine ⟨fun w hs => Hold.sub (Hp.le_refl _) ⟨0, rfl, trivial⟩ hs, ?_⟩
 refine JM.cons ?_
 obtain ⟨z153, hz154, h⟩ := ob h
 refine qv (.string ⟨z153.toArray⟩) (V.cat rfl rfl hz154) <| JQ.nil ?_
 obtain ⟨r155, hr156, h⟩ := ob h
 refine JA.op rfl (A.call (L1 := []) Try.call33 rfl (prov_Name_ok hr156) rfl rfl) ?_
 rintro _ _ _ ⟨v158, _, rfl, ⟨⟨s157, rfl, rfl, rfl⟩, rfl⟩, _, rfl⟩
 refine ⟨fun w hs => Hold.sub (Hp.le_refl _) ⟨0, rfl, trivial⟩ hs, ?_⟩
 refine JM.cons <| JQ.nil ?_
 obtain ⟨r161, hr162, h⟩ := ob h
 refine JA.op rfl (A.call (L1 := []) Try.call31 rfl (numeral_Text_ok hr162) rfl rfl) ?_
 rintro _ _ _ ⟨v164, _, rfl, ⟨⟨s163, rfl, rfl, rfl⟩, rfl⟩, _, rfl⟩
 refine ⟨fun w hs => Hold.sub (Hp.le_refl _) ⟨0, rfl, trivial⟩ hs, ?_⟩
 refine JM.cons <| JQ.nil ?_
 refine JA.op rfl (A.lit (K0 := Hp.nil) (ty := .str) (xs := ([z153, s157, s163] : List (List UInt8))) Try.underlying59 inf9 rfl (by decide) rfl rfl rfl ⟨_, _, rfl, rfl, ⟨_, _, rfl, rfl, ⟨_, _, rfl, rfl, rfl⟩⟩⟩ rfl (by decide)) ?_
 rintro _ _ _ ⟨b167, rfl, rfl, rfl⟩
 have hn168 : ([z153, s157, s163] : List (List UInt8)) ≠ [] → ∃ g, (some ⟨b167, 0, none⟩ : Option Addr) = some ⟨g, 0, none⟩ := fun _ => ⟨b167, rfl⟩
 refine ⟨fun w hs => Hold.sub (Hp.le_refl _) ⟨1, rfl, trivial⟩ hs, ?_⟩
 refine JM.nil <| qa (.slice (some ⟨b167, 0, none⟩) ((([z153, s157, s163] : List (List UInt8))).length) 3) rfl <| JQ.nil <| J.nil <| CJ.seq <| CJ.seq <| CJ.region ?_
 refine jv _ (V.fad Try.underlying45 rfl nz4 rfl) <| jv (.bool xa.2.2.2.2) (V.ld rfl (Ld.sc sc4 (Rd.cl 1 rfl rfl))) <| J.nil <| cc rfl h (fun hc170 h => ?_) fun hc170 h => ?_
 · refine CJ.region <| jm (.slice (some ⟨b167, 0, none⟩) ((([z153, s157, s163] : List (List UInt8))).length) 3) rfl ?_
   refine J.op rfl (A.lit (K0 := Hp.nil) (ty := .str) (xs := ([([98, 97, 99, 107] : List UInt8)] : List (List UInt8))) Try.underlying59 inf9 rfl (by decide) rfl rfl rfl ⟨_, _, rfl, rfl, rfl⟩ rfl (by decide)) ?_
   rintro _ _ _ ⟨b171, rfl, rfl, rfl⟩
   have hn172 : ([([98, 97, 99, 107] : List UInt8)] : List (List UInt8)) ≠ [] → ∃ g, (some ⟨b171, 0, none⟩ : Option Addr) = some ⟨g, 0, none⟩ := fun _ => ⟨b171, rfl⟩
   obtain ⟨z174, hz175, h⟩ := ob h
   refine J.front 1 rfl <| J.op rfl (A.appR (Kr := Hp.nil) Try.underlying59 inf9 rfl rfl (by decide) (by decide) rfl rfl (Els.flat rfl) (Els.flat rfl) hz175) ?_
   rintro _ _ _ ⟨v176, rfl, rfl, rfl⟩
   refine J.wit Row.form ?_
   rintro ⟨ad177, cp178, rfl, _, _, hn179⟩
   refine ja (.slice ad177 z174.length cp178) rfl <| J.nil <| cr <| jm (.slice ad177 z174.length cp178) rfl ?_
   obtain ⟨r180, hr181, h⟩ := ob h
   refine J.op rfl (A.call (L1 := [Row Hp.nil 9 .str (.slice ad177 z174.length cp178) z174]) Try.call34 rfl (Tr.lend (Hp.nil_le _) (by decide) (fun K182 hK183 f184 => strings_Join_ok f184 hr181)) rfl rfl) ?_
   rintro _ _ _ ⟨v186, _, rfl, ⟨⟨_, ⟨s185, rfl, rfl, rfl⟩, rfl⟩, rfl⟩, _, rfl⟩
   refine ja (.string ⟨s185.toArray⟩) rfl <| J.nil <| CJ.ret ?_
   obtain rfl := si h
   exact ⟨_, _, Res.one rfl rfl, ⟨s185, rfl, rfl, rfl⟩, (Hp.le_refl _), fun w hs => (Sep.dropAt 0 rfl (Sep.dropAt 0 rfl hs))⟩
 refine CJ.skip <| cr <| jm (.slice (some ⟨b167, 0, none⟩) ((([z153, s157, s163] : List (List UInt8))).length) 3) rfl ?_
 obtain ⟨r189, hr190, h⟩ := ob h
 refine J.op rfl (A.call (L1 := [Row Hp.nil 9 .str (.slice (some ⟨b167, 0, none⟩) ((([z153, s157, s163] : List (List UInt8))).length) 3) (([z153, s157, s163] : List (List UInt8)))]) Try.call34 rfl (Tr.lend (Hp.nil_le _) (by decide) (fun K191 hK192 f193 => strings_Join_ok f193 hr190)) rfl rfl) ?_
 rintro _ _ _ ⟨v195, _, rfl, ⟨⟨_, ⟨s194, rfl, rfl, rfl⟩, rfl⟩, rfl⟩, _, rfl⟩
 refine ja (.string ⟨s194.toArray⟩) rfl <| J.nil <| CJ.ret ?_
 obtain rfl := si h
 exact ⟨_, _, Res.one rfl rfl, ⟨s194, rfl, rfl, rfl⟩, (Hp.le_refl _), fun w hs => (Sep.dropAt 0 rfl (Sep.dropAt 0 rfl hs))⟩

noncomputable def fn_prov_Edge (xa : (Int × Int × (Int × Int × Int × Int × Bool))) : Option (List UInt8) :=
  (fn_numeral_Pair (xa.1, xa.2.1)).bind fun s54 => (app s54 ([32, 97, 116, 32] : List UInt8)).bind fun z58 => (fn_prov_Text (xa.2.2.1, xa.2.2.2.1, xa.2.2.2.2.1, xa.2.2.2.2.2.1, xa.2.2.2.2.2.2)).bind fun s62 => (app z58 s62).bind fun z66 => some (z66)
set_option maxRecDepth 100000 in
set_option maxHeartbeats 4000000 in
theorem prov_Edge_ok {K : Hp} {xa : (Int × Int × (Int × Int × Int × Int × Bool))}   {r : List UInt8} (h : fn_prov_Edge xa = some r) :
    Tr Try.prog 14 #[.agg #[ii xa.1, ii xa.2.1, ii xa.2.2.1, ii xa.2.2.2.1, ii xa.2.2.2.2.1, ii xa.2.2.2.2.2.1, .bool xa.2.2.2.2.2.2]] K [] (fun v K' L' => (∃ (s34 : List UInt8), s34 = r ∧ .string ⟨s34.toArray⟩ = v ∧ L' = []) ∧ K = K') := by
 refine Tr.k <| Tr.of Try.func14 rfl Try.ntmps14 rfl fun E F => ?_
 unfold fn_prov_Edge at h
 refine cr <| jbx [ii xa.1, ii xa.2.1, ii xa.2.2.1, ii xa.2.2.2.1, ii xa.2.2.2.2.1, ii xa.2.2.2.2.2.1, .bool xa.2.2.2.2.2.2] rfl rfl fun b35 => ja (.string ⟨([] : List UInt8).toArray⟩) rfl <| J.nil <| CJ.seq <| CJ.mix [Cl b35 47 [ii xa.1, ii xa.2.1, ii xa.2.2.1, ii xa.2.2.2.1, ii xa.2.2.2.2.1, ii xa.2.2.2.2.2.1, .bool xa.2.2.2.2.2.2]] [([0, 1, 2, 3, 4, 7, 8], 5), ([6], 9)] [10, 11] [] mixO (by decide +kernel) ⟨0, rfl, trivial⟩ rfl rfl rfl ?_
 refine JM.cons <| qv _ (V.fad Try.underlying47 rfl nz3 rfl) <| qv (ii xa.1) (V.ld rfl (Ld.sc sc3 (Rd.cl 0 rfl rfl))) <| qv _ (V.fad Try.underlying47 rfl nz3 rfl) <| qv (ii xa.2.1) (V.ld rfl (Ld.sc sc3 (Rd.cl 0 rfl rfl))) <| qv (.agg #[ii xa.1, ii xa.2.1]) (V.build inf83 places83 rfl rfl) <| qv _ (V.fad Try.underlying47 rfl nz45 rfl) ?_
 refine qv (.agg #[ii xa.2.2.1, ii xa.2.2.2.1, ii xa.2.2.2.2.1, ii xa.2.2.2.2.2.1, .bool xa.2.2.2.2.2.2]) (V.ld rfl (Ld.agg (cs := [ii xa.2.2.1, ii xa.2.2.2.1, ii xa.2.2.2.2.1, ii xa.2.2.2.2.2.1, .bool xa.2.2.2.2.2.2]) Try.underlying45 sz45 rfl (Rd.cls 0 2 rfl rfl))) <| JQ.nil ?_
 obtain ⟨r52, hr53, h⟩ := ob h
 refine JA.op rfl (A.call (L1 := []) Try.call23 rfl (numeral_Pair_ok hr53) rfl rfl) ?_
 rintro _ _ _ ⟨v55, _, rfl, ⟨⟨s54, rfl, rfl, rfl⟩, rfl⟩, _, rfl⟩
 refine ⟨fun w hs => Hold.sub (Hp.le_refl _) ⟨0, rfl, trivial⟩ hs, ?_⟩
 refine JM.cons ?_
 obtain ⟨z58, hz59, h⟩ := ob h
 refine qv (.string ⟨z58.toArray⟩) (V.cat rfl rfl hz59) <| JQ.nil ?_
 obtain ⟨r60, hr61, h⟩ := ob h
 refine JA.op rfl (A.call (L1 := []) Try.call24 rfl (prov_Text_ok hr61) rfl rfl) ?_
 rintro _ _ _ ⟨v63, _, rfl, ⟨⟨s62, rfl, rfl, rfl⟩, rfl⟩, _, rfl⟩
 refine ⟨fun w hs => Hold.sub (Hp.le_refl _) ⟨0, rfl, trivial⟩ hs, ?_⟩
 refine JM.nil ?_
 obtain ⟨z66, hz67, h⟩ := ob h
 refine qv (.string ⟨z66.toArray⟩) (V.cat rfl rfl hz67) <| qa (.string ⟨z66.toArray⟩) rfl <| JQ.nil <| J.nil <| CJ.ret ?_
 obtain rfl := si h
 exact ⟨_, _, Res.one rfl rfl, ⟨z66, rfl, rfl, rfl⟩, (Hp.le_refl _), fun w hs => (Sep.dropAt 0 rfl hs)⟩
noncomputable def fn_cons_Lines_l1 (xa : (List (Int × Int × (Int × Int × Int × Int × Bool)))) : ((List (List UInt8)) × Int) → Option (((List (List UInt8)) × Int) ⊕ (List (List UInt8))) := fun ((l365, i370) : ((List (List UInt8)) × Int)) => cond (decide (i370 < (((xa.length : Nat) : Int)))) ((getI xa i370).bind fun x409 => (fn_prov_Edge ((x409.1, x409.2.1, (x409.2.2.1, x409.2.2.2.1, x409.2.2.2.2.1, x409.2.2.2.2.2.1, x409.2.2.2.2.2.2)))).bind fun s421 => (app l365 (([s421] : List (List UInt8)))).bind fun z428 => some (.inl ((z428, IntKind.wrap .i64 (i370 + 1))))) (some (.inr (l365)))
noncomputable def fn_cons_Lines (xa : (List (Int × Int × (Int × Int × Int × Int × Bool)))) : Option ((List (List UInt8))) :=
  (loop (fn_cons_Lines_l1 xa) ([], 0) : Option ((List (List UInt8)))).bind fun l324 => some (l324)
set_option maxRecDepth 100000 in
set_option maxHeartbeats 4000000 in
theorem cons_Lines_ok {K : Hp} {xa : (List (Int × Int × (Int × Int × Int × Int × Bool)))} {adxa_0 : Option Addr} {cpxa_0 : Nat} (fxa_0 : Is K (.sl (.cons (.int .i64) (.cons (.int .i64) (.one (.cons (.int .i64) (.cons (.int .i64) (.cons (.int .i64) (.cons (.int .i64) (.one .bool))))))))) [.slice adxa_0 xa.length cpxa_0] xa) {r : (List (List UInt8))} (h : fn_cons_Lines xa = some r) :
    Tr Try.prog 11 #[.slice adxa_0 xa.length cpxa_0] K [] (fun v K' L' => (∃ (l216 : (List (List UInt8))) (ad217 : Option Addr) (cp218 : Nat), l216 = r ∧ .slice ad217 l216.length cp218 = v ∧ L' = [Row Hp.nil 9 .str (.slice ad217 l216.length cp218) l216]) ∧ K = K') := by
 refine Tr.k <| Tr.of Try.func11 rfl Try.ntmps11 rfl fun E F => ?_
 unfold fn_cons_Lines at h
 refine cr <| ja (nos) rfl <| J.nil <| cr <| ja (nos) rfl ?_
 refine J.nil <| CJ.seq <| cr <| jm (.slice adxa_0 xa.length cpxa_0) rfl <| jv (ii (((xa.length : Nat) : Int))) (V.len Try.underlying22 rfl) <| jm (ii 0) rfl ?_
 refine J.nil ?_
 obtain ⟨o329, ho330, h⟩ := ob h
 refine CJ.meetN (fun ρ K' L' => ∃ (l324 : (List (List UInt8))) (ad325 : Option Addr) (cp326 : Nat), l324 = o329 ∧ Fits [(3, .slice ad325 l324.length cp326)] ρ ∧ K = K' ∧ L' = Row Hp.nil 9 .str (.slice ad325 l324.length cp326) l324 :: F) ?_ ?_
 · refine CJ.block <| CJ.by (fun w hs => Sep.rowNil (e := 9) (t := .str) hs) <| CJ.loop (fun s ρ K' L' => ∃ (l365 : (List (List UInt8))) (i370 : Int) (ad366 : Option Addr) (cp367 : Nat), (l365, i370) = s ∧ Fits [(3, .slice ad366 l365.length cp367), (6, .slice adxa_0 xa.length cpxa_0), (7, ii (((xa.length : Nat) : Int))), (8, ii i370)] ρ ∧ K = K' ∧ L' = Row Hp.nil 9 .str (.slice ad366 l365.length cp367) l365 :: F) ho330 ⟨[], 0, none, 0, rfl, ⟨rfl, rfl, rfl, rfl, trivial⟩, rfl, rfl⟩ ?_
   rintro s ρ _ _ r407 ⟨l365, i370, ad366, cp367, rfl, hf405, rfl, rfl⟩ h403
   obtain ⟨ρ, rfl⟩ := hf405.ex
   refine CJ.wit Row.hn fun hn369 => cr <| jv (.bool (decide (i370 < (((xa.length : Nat) : Int))))) (V.lss rfl rfl) <| J.nil <| CJ.seq <| cc rfl h403 (fun hc408 h403 => ?_) fun hc408 h403 => ?_
   · refine CJ.skip <| CJ.seq <| CJ.block <| CJ.seq <| CJ.region ?_
     obtain ⟨x409, hx410, h403⟩ := ob h403
     obtain ⟨p411, p412, p413⟩ := getI_some hx410
     obtain ⟨b414, o415, e416, a417⟩ := (fxa_0).at p412
     refine jv _ (V.iad Try.underlying22 sz47 rfl e416 rfl p411 p413) <| jv (.agg #[ii x409.1, ii x409.2.1, ii x409.2.2.1, ii x409.2.2.2.1, ii x409.2.2.2.2.1, ii x409.2.2.2.2.2.1, .bool x409.2.2.2.2.2.2]) (V.ld rfl (Ld.aggK (cs := [ii x409.1, ii x409.2.1, ii x409.2.2.1, ii x409.2.2.2.1, ii x409.2.2.2.2.1, ii x409.2.2.2.2.2.1, .bool x409.2.2.2.2.2.2]) Try.underlying47 sz47 rfl ⟨((a417).fst).int, (((a417).snd).fst).int, (((((a417).snd).snd).one).fst).int, ((((((a417).snd).snd).one).snd).fst).int, (((((((a417).snd).snd).one).snd).snd).fst).int, ((((((((a417).snd).snd).one).snd).snd).snd).fst).int, (((((((((a417).snd).snd).one).snd).snd).snd).snd).one).bool, trivial⟩ (Hp.le_refl _))) <| jal inf47 [ii 0, ii 0, ii 0, ii 0, ii 0, ii 0, .bool false] rfl fun b418 => js [ii x409.1, ii x409.2.1, ii x409.2.2.1, ii x409.2.2.2.1, ii x409.2.2.2.2.1, ii x409.2.2.2.2.2.1, .bool x409.2.2.2.2.2.2] sz47 rfl rfl rfl rfl rfl rfl <| J.nil <| CJ.region <| jm (.slice ad366 l365.length cp367) rfl ?_
     refine jv (.agg #[ii x409.1, ii x409.2.1, ii x409.2.2.1, ii x409.2.2.2.1, ii x409.2.2.2.2.1, ii x409.2.2.2.2.2.1, .bool x409.2.2.2.2.2.2]) (V.ld rfl (Ld.agg (cs := [ii x409.1, ii x409.2.1, ii x409.2.2.1, ii x409.2.2.2.1, ii x409.2.2.2.2.1, ii x409.2.2.2.2.2.1, .bool x409.2.2.2.2.2.2]) Try.underlying47 sz47 rfl (Rd.cls 0 0 rfl rfl))) ?_
     obtain ⟨r419, hr420, h403⟩ := ob h403
     refine J.op rfl (A.call (L1 := []) Try.call14 rfl (prov_Edge_ok hr420) rfl rfl) ?_
     rintro _ _ _ ⟨v422, _, rfl, ⟨⟨s421, rfl, rfl, rfl⟩, rfl⟩, _, rfl⟩
     refine J.op rfl (A.lit (K0 := Hp.nil) (ty := .str) (xs := ([s421] : List (List UInt8))) Try.underlying59 inf9 rfl (by decide) rfl rfl rfl ⟨_, _, rfl, rfl, rfl⟩ rfl (by decide)) ?_
     rintro _ _ _ ⟨b425, rfl, rfl, rfl⟩
     have hn426 : ([s421] : List (List UInt8)) ≠ [] → ∃ g, (some ⟨b425, 0, none⟩ : Option Addr) = some ⟨g, 0, none⟩ := fun _ => ⟨b425, rfl⟩
     obtain ⟨z428, hz429, h403⟩ := ob h403
     refine J.front 2 rfl <| J.op rfl (A.appR (Kr := Hp.nil) Try.underlying59 inf9 rfl rfl (by decide) (by decide) rfl rfl (Els.flat rfl) (Els.flat rfl) hz429) ?_
     rintro _ _ _ ⟨v430, rfl, rfl, rfl⟩
     refine J.wit Row.form ?_
     rintro ⟨ad431, cp432, rfl, _, _, hn433⟩
     refine ja (.slice ad431 z428.length cp432) rfl <| J.nil <| CJ.region <| jv (ii (IntKind.wrap .i64 (i370 + 1))) (V.add rfl rfl) <| jm (ii (IntKind.wrap .i64 (i370 + 1))) rfl <| J.dropAt 1 rfl <| J.nil ?_
     obtain rfl := si h403
     exact ⟨rfl, ⟨z428, IntKind.wrap .i64 (i370 + 1), ad431, cp432, rfl, ⟨rfl, rfl, rfl, rfl, trivial⟩, rfl, rfl⟩⟩
   refine CJ.exit ?_
   obtain rfl := si h403
   refine ⟨nofun, fun e => ?_⟩
   subst e
   exact ⟨rfl, ⟨l365, ad366, cp367, rfl, ⟨rfl, trivial⟩, rfl, rfl⟩⟩
 rintro ρ _ _ ⟨l324, ad325, cp326, rfl, hf434, rfl, rfl⟩
 obtain ⟨ρ, rfl⟩ := hf434.ex
 refine PJ.wit Row.hn fun hn328 => PJ.done <| cr <| jm (.slice ad325 l324.length cp326) rfl <| ja (.slice ad325 l324.length cp326) rfl <| J.nil ?_
 refine CJ.ret ?_
 obtain rfl := si h
 exact ⟨_, _, Res.one rfl rfl, ⟨l324, ad325, cp326, rfl, rfl, rfl⟩, (Hp.le_refl _), fun w hs => hs⟩

noncomputable def fn_law27_awake  : Option Bool :=
  (fn_cons_Of_az ((1, 3, [], ([([(1, false)] : List (Int × Bool)), ([(2, false)] : List (Int × Bool))] : List (List (Int × Bool))), ([(0, false)] : List (Int × Bool)), [], ([(([(1, 0, 1, 0, false)] : List (Int × Int × Int × Int × Bool)), (3, 0, 0, [], [], []))] : List ((List (Int × Int × Int × Int × Bool)) × (Int × Int × Int × (List Int) × (List Int) × (List Int))))))).bind fun l137 => (fn_cons_Lines l137).bind fun l150 => (cond (decide ((((l150.length : Nat) : Int)) = 2)) ((getI l150 0).bind fun x169 => some (decide (x169 = ([50, 58, 49, 32, 97, 116, 32, 48, 46, 48, 32, 102, 108, 111, 119, 32, 48] : List UInt8)))) (some (false))).bind fun t166 => (cond (t166) ((getI l150 1).bind fun x187 => some (decide (x187 = ([49, 58, 48, 32, 97, 116, 32, 48, 46, 49, 32, 111, 117, 116, 32, 48] : List UInt8)))) (some (false))).bind fun t184 => some (t184)
set_option maxRecDepth 100000 in
set_option maxHeartbeats 4000000 in
theorem law27_awake_ok {K : Hp}    {r : Bool} (h : fn_law27_awake = some r) :
    Tr Try.prog 4 #[] K [] (fun v K' L' => (∃ (t97 : Bool), t97 = r ∧ .bool t97 = v ∧ L' = []) ∧ K = K') := by
 refine Tr.k <| Tr.of Try.func4 rfl Try.ntmps4 rfl fun E F => ?_
 unfold fn_law27_awake at h
 refine cr <| ja (.bool false) rfl <| J.nil <| cr <| jv (.agg #[ii 1, .bool false]) (V.build inf50 places50 rfl rfl) ?_
 refine J.op rfl (A.lit (K0 := Hp.nil) (ty := (.cons (.int .i64) (.one .bool))) (xs := ([(1, false)] : List (Int × Bool))) Try.underlying28 inf50 rfl (by decide) rfl rfl rfl ⟨_, _, rfl, ⟨_, _, rfl, rfl, rfl, rfl⟩, rfl⟩ rfl (by decide)) ?_
 rintro _ _ _ ⟨b98, rfl, rfl, rfl⟩
 have hn99 : ([(1, false)] : List (Int × Bool)) ≠ [] → ∃ g, (some ⟨b98, 0, none⟩ : Option Addr) = some ⟨g, 0, none⟩ := fun _ => ⟨b98, rfl⟩
 refine jv (.agg #[.slice (some ⟨b98, 0, none⟩) ((([(1, false)] : List (Int × Bool))).length) 1]) (V.build inf30 places30 rfl rfl) <| jv (.agg #[ii 2, .bool false]) (V.build inf50 places50 rfl rfl) ?_
 refine J.op rfl (A.lit (K0 := Hp.nil) (ty := (.cons (.int .i64) (.one .bool))) (xs := ([(2, false)] : List (Int × Bool))) Try.underlying28 inf50 rfl (by decide) rfl rfl rfl ⟨_, _, rfl, ⟨_, _, rfl, rfl, rfl, rfl⟩, rfl⟩ rfl (by decide)) ?_
 rintro _ _ _ ⟨b101, rfl, rfl, rfl⟩
 have hn102 : ([(2, false)] : List (Int × Bool)) ≠ [] → ∃ g, (some ⟨b101, 0, none⟩ : Option Addr) = some ⟨g, 0, none⟩ := fun _ => ⟨b101, rfl⟩
 refine jv (.agg #[.slice (some ⟨b101, 0, none⟩) ((([(2, false)] : List (Int × Bool))).length) 1]) (V.build inf30 places30 rfl rfl) <| J.front 1 rfl <| J.persist (Hp.nil_le _) (by decide) fun K104 hK105 f106 => J.persist (Hp.nil_le _) (by decide) fun K107 hK108 f109 => ?_
 refine J.op rfl (A.lit (K0 := K107) (ty := (.one (.sl (.cons (.int .i64) (.one .bool))))) (xs := ([([(1, false)] : List (Int × Bool)), ([(2, false)] : List (Int × Bool))] : List (List (Int × Bool)))) Try.underlying27 inf30 rfl (by decide) rfl rfl rfl ⟨_, _, rfl, (f106.mono hK108), ⟨_, _, rfl, f109, rfl⟩⟩ rfl (by decide)) ?_
 rintro _ _ _ ⟨b110, rfl, rfl, rfl⟩
 have hn111 : ([([(1, false)] : List (Int × Bool)), ([(2, false)] : List (Int × Bool))] : List (List (Int × Bool))) ≠ [] → ∃ g, (some ⟨b110, 0, none⟩ : Option Addr) = some ⟨g, 0, none⟩ := fun _ => ⟨b110, rfl⟩
 refine jv (.agg #[ii 0, .bool false]) (V.build inf50 places50 rfl rfl) ?_
 refine J.op rfl (A.lit (K0 := Hp.nil) (ty := (.cons (.int .i64) (.one .bool))) (xs := ([(0, false)] : List (Int × Bool))) Try.underlying28 inf50 rfl (by decide) rfl rfl rfl ⟨_, _, rfl, ⟨_, _, rfl, rfl, rfl, rfl⟩, rfl⟩ rfl (by decide)) ?_
 rintro _ _ _ ⟨b113, rfl, rfl, rfl⟩
 have hn114 : ([(0, false)] : List (Int × Bool)) ≠ [] → ∃ g, (some ⟨b113, 0, none⟩ : Option Addr) = some ⟨g, 0, none⟩ := fun _ => ⟨b113, rfl⟩
 refine jv (.agg #[.slice (some ⟨b113, 0, none⟩) ((([(0, false)] : List (Int × Bool))).length) 1]) (V.build inf30 places30 rfl rfl) <| jv (.agg #[ii 1, ii 0, ii 1, ii 0, .bool false]) (V.build inf52 places52 rfl rfl) ?_
 refine J.op rfl (A.lit (K0 := Hp.nil) (ty := (.cons (.int .i64) (.cons (.int .i64) (.cons (.int .i64) (.cons (.int .i64) (.one .bool)))))) (xs := ([(1, 0, 1, 0, false)] : List (Int × Int × Int × Int × Bool))) Try.underlying53 inf52 rfl (by decide) rfl rfl rfl ⟨_, _, rfl, ⟨_, _, rfl, rfl, rfl, ⟨_, _, rfl, rfl, rfl, ⟨_, _, rfl, rfl, rfl, ⟨_, _, rfl, rfl, rfl, rfl⟩⟩⟩⟩, rfl⟩ rfl (by decide)) ?_
 rintro _ _ _ ⟨b116, rfl, rfl, rfl⟩
 have hn117 : ([(1, 0, 1, 0, false)] : List (Int × Int × Int × Int × Bool)) ≠ [] → ∃ g, (some ⟨b116, 0, none⟩ : Option Addr) = some ⟨g, 0, none⟩ := fun _ => ⟨b116, rfl⟩
 refine jv (.agg #[ii 3, ii 0, ii 0, nos, nos, nos]) (V.build inf56 places56 rfl rfl) <| jv (.agg #[.slice (some ⟨b116, 0, none⟩) ((([(1, 0, 1, 0, false)] : List (Int × Int × Int × Int × Bool))).length) 1, ii 3, ii 0, ii 0, nos, nos, nos]) (V.build inf58 places58 rfl rfl) <| J.persist (Hp.nil_le _) (by decide) fun K119 hK120 f121 => ?_
 refine J.op rfl (A.lit (K0 := K119) (ty := (.cons (.sl (.cons (.int .i64) (.cons (.int .i64) (.cons (.int .i64) (.cons (.int .i64) (.one .bool)))))) (.one (.cons (.int .i64) (.cons (.int .i64) (.cons (.int .i64) (.cons (.sl (.int .i64)) (.cons (.sl (.int .i64)) (.one (.sl (.int .i64))))))))))) (xs := ([(([(1, 0, 1, 0, false)] : List (Int × Int × Int × Int × Bool)), (3, 0, 0, [], [], []))] : List ((List (Int × Int × Int × Int × Bool)) × (Int × Int × Int × (List Int) × (List Int) × (List Int))))) Try.underlying32 inf58 rfl (by decide) rfl rfl rfl ⟨_, _, rfl, ⟨_, _, rfl, rfl, f121, ⟨_, _, rfl, rfl, rfl, ⟨_, _, rfl, rfl, rfl, ⟨_, _, rfl, rfl, rfl, ⟨_, _, rfl, rfl, (isNil (K := K119) (t := (.int .i64))), ⟨_, _, rfl, rfl, (isNil (K := K119) (t := (.int .i64))), (isNil (K := K119) (t := (.int .i64)))⟩⟩⟩⟩⟩⟩, rfl⟩ rfl (by decide)) ?_
 rintro _ _ _ ⟨b122, rfl, rfl, rfl⟩
 have hn123 : ([(([(1, 0, 1, 0, false)] : List (Int × Int × Int × Int × Bool)), (3, 0, 0, [], [], []))] : List ((List (Int × Int × Int × Int × Bool)) × (Int × Int × Int × (List Int) × (List Int) × (List Int)))) ≠ [] → ∃ g, (some ⟨b122, 0, none⟩ : Option Addr) = some ⟨g, 0, none⟩ := fun _ => ⟨b122, rfl⟩
 refine jv (.agg #[ii 1, ii 3, nos, .slice (some ⟨b110, 0, none⟩) ((([([(1, false)] : List (Int × Bool)), ([(2, false)] : List (Int × Bool))] : List (List (Int × Bool)))).length) 2, .slice (some ⟨b113, 0, none⟩) ((([(0, false)] : List (Int × Bool))).length) 1, nos, .slice (some ⟨b122, 0, none⟩) ((([(([(1, 0, 1, 0, false)] : List (Int × Int × Int × Int × Bool)), (3, 0, 0, [], [], []))] : List ((List (Int × Int × Int × Int × Bool)) × (Int × Int × Int × (List Int) × (List Int) × (List Int))))).length) 1]) (V.build inf34 places34 rfl rfl) <| jal inf34 [ii 0, ii 0, nos, nos, nos, nos, nos] rfl fun b125 => js [ii 1, ii 3, nos, .slice (some ⟨b110, 0, none⟩) ((([([(1, false)] : List (Int × Bool)), ([(2, false)] : List (Int × Bool))] : List (List (Int × Bool)))).length) 2, .slice (some ⟨b113, 0, none⟩) ((([(0, false)] : List (Int × Bool))).length) 1, nos, .slice (some ⟨b122, 0, none⟩) ((([(([(1, 0, 1, 0, false)] : List (Int × Int × Int × Int × Bool)), (3, 0, 0, [], [], []))] : List ((List (Int × Int × Int × Int × Bool)) × (Int × Int × Int × (List Int) × (List Int) × (List Int))))).length) 1] sz34 rfl rfl rfl rfl rfl rfl <| J.nil <| cr <| jv (.agg #[ii 1, ii 3, nos, .slice (some ⟨b110, 0, none⟩) ((([([(1, false)] : List (Int × Bool)), ([(2, false)] : List (Int × Bool))] : List (List (Int × Bool)))).length) 2, .slice (some ⟨b113, 0, none⟩) ((([(0, false)] : List (Int × Bool))).length) 1, nos, .slice (some ⟨b122, 0, none⟩) ((([(([(1, 0, 1, 0, false)] : List (Int × Int × Int × Int × Bool)), (3, 0, 0, [], [], []))] : List ((List (Int × Int × Int × Int × Bool)) × (Int × Int × Int × (List Int) × (List Int) × (List Int))))).length) 1]) (V.ld rfl (Ld.agg (cs := [ii 1, ii 3, nos, .slice (some ⟨b110, 0, none⟩) ((([([(1, false)] : List (Int × Bool)), ([(2, false)] : List (Int × Bool))] : List (List (Int × Bool)))).length) 2, .slice (some ⟨b113, 0, none⟩) ((([(0, false)] : List (Int × Bool))).length) 1, nos, .slice (some ⟨b122, 0, none⟩) ((([(([(1, 0, 1, 0, false)] : List (Int × Int × Int × Int × Bool)), (3, 0, 0, [], [], []))] : List ((List (Int × Int × Int × Int × Bool)) × (Int × Int × Int × (List Int) × (List Int) × (List Int))))).length) 1]) Try.underlying34 sz34 rfl (Rd.cls 0 0 rfl rfl))) ?_
 refine J.front 3 rfl <| J.persist hK120 (by decide) fun K126 hK127 f128 => J.front 2 rfl <| J.persist (Hp.nil_le _) (by decide) fun K129 hK130 f131 => J.front 1 rfl <| J.persist (hK127.trans hK130) (by decide) fun K132 hK133 f134 => ?_
 obtain ⟨r135, hr136, h⟩ := ob h
 refine J.op rfl (A.call (L1 := []) Try.call12 rfl (cons_Of_az_ok isNil (f128.mono (hK130.trans hK133)) (f131.mono hK133) isNil f134 hr136) rfl rfl) ?_
 rintro _ _ _ ⟨v141, _, rfl, ⟨⟨l137, ad138, cp139, rfl, rfl, rfl⟩, rfl⟩, _, rfl⟩
 refine J.wit Row.hn fun hn140 => J.persist (Hp.nil_le _) (by decide) fun K145 hK146 f147 => ?_
 obtain ⟨r148, hr149, h⟩ := ob h
 refine J.op rfl (A.call (L1 := []) Try.call11 rfl (cons_Lines_ok f147 hr149) rfl rfl) ?_
 rintro _ _ _ ⟨v154, _, rfl, ⟨⟨l150, ad151, cp152, rfl, rfl, rfl⟩, rfl⟩, _, rfl⟩
 refine J.wit Row.hn fun hn153 => ja (.slice ad151 l150.length cp152) rfl <| J.nil <| cr <| jm (.slice ad151 l150.length cp152) rfl <| jv (ii (((l150.length : Nat) : Int))) (V.len Try.underlying59 rfl) ?_
 refine jv (.bool (decide ((((l150.length : Nat) : Int)) = 2))) (V.eql rfl rfl) <| jm (.bool (decide ((((l150.length : Nat) : Int)) = 2))) rfl <| J.cut 5 ?_
 obtain ⟨t166, ht167, h⟩ := ob h
 refine jmeet [(30, .bool t166), (2, .slice ad151 l150.length cp152)] ?_ ?_
 · rcases bt (decide ((((l150.length : Nat) : Int)) = 2)) with hc168 | hc168
   · have ht167 := ct hc168 ht167
     refine J.run rfl rfl rfl hc168 <| jm (.slice ad151 l150.length cp152) rfl <| J.run rfl rfl rfl hc168 ?_
     obtain ⟨x169, hx170, ht167⟩ := ob ht167
     obtain ⟨p171, p172, p173⟩ := getI_some hx170
     obtain ⟨g174, e175⟩ := hn153 (fun e => by rw [e] at p172; simp at p172)
     refine jv _ (V.iad Try.underlying59 sz9 rfl e175 rfl p171 p173) <| J.run rfl rfl rfl hc168 <| jv (.string ⟨x169.toArray⟩) (V.ld rfl (Ld.sc sc9 (Rd.row 0 rfl e175 p172 (q := 0) (by simp [Tp.size]) (by decide) (by rintro _ rfl; rfl)))) <| J.run rfl rfl rfl hc168 <| jv (.bool (decide (x169 = ([50, 58, 49, 32, 97, 116, 32, 48, 46, 48, 32, 102, 108, 111, 119, 32, 48] : List UInt8)))) (V.eqs rfl rfl) <| jv (.bool (decide (x169 = ([50, 58, 49, 32, 97, 116, 32, 48, 46, 48, 32, 102, 108, 111, 119, 32, 48] : List UInt8)))) (V.pickT rfl hc168 rfl) <| J.nil ?_
     obtain rfl := si ht167
     exact ⟨rfl, ⟨rfl, rfl, trivial⟩, rfl, rfl⟩
   have ht167 := cf hc168 ht167
   refine J.skip rfl rfl rfl rfl hc168 <| J.skip rfl rfl rfl rfl hc168 <| J.skip rfl rfl rfl rfl hc168 <| J.skip rfl rfl rfl rfl hc168 <| jv (.bool false) (V.pickF rfl hc168 rfl) <| J.nil ?_
   obtain rfl := si ht167
   exact ⟨rfl, ⟨rfl, rfl, trivial⟩, rfl, rfl⟩
 intro ρ
 refine jm (.bool t166) rfl <| J.cut 5 ?_
 obtain ⟨t184, ht185, h⟩ := ob h
 refine jmeet [(36, .bool t184)] ?_ ?_
 · rcases bt (t166) with hc186 | hc186
   · have ht185 := ct hc186 ht185
     refine J.run rfl rfl rfl hc186 <| jm (.slice ad151 l150.length cp152) rfl <| J.run rfl rfl rfl hc186 ?_
     obtain ⟨x187, hx188, ht185⟩ := ob ht185
     obtain ⟨p189, p190, p191⟩ := getI_some hx188
     obtain ⟨g192, e193⟩ := hn153 (fun e => by rw [e] at p190; simp at p190)
     refine jv _ (V.iad Try.underlying59 sz9 rfl e193 rfl p189 p191) <| J.run rfl rfl rfl hc186 <| jv (.string ⟨x187.toArray⟩) (V.ld rfl (Ld.sc sc9 (Rd.row 0 rfl e193 p190 (q := 0) (by simp [Tp.size]) (by decide) (by rintro _ rfl; rfl)))) <| J.run rfl rfl rfl hc186 <| jv (.bool (decide (x187 = ([49, 58, 48, 32, 97, 116, 32, 48, 46, 49, 32, 111, 117, 116, 32, 48] : List UInt8)))) (V.eqs rfl rfl) <| jv (.bool (decide (x187 = ([49, 58, 48, 32, 97, 116, 32, 48, 46, 49, 32, 111, 117, 116, 32, 48] : List UInt8)))) (V.pickT rfl hc186 rfl) <| J.nil ?_
     obtain rfl := si ht185
     exact ⟨rfl, ⟨rfl, trivial⟩, rfl, rfl⟩
   have ht185 := cf hc186 ht185
   refine J.skip rfl rfl rfl rfl hc186 <| J.skip rfl rfl rfl rfl hc186 <| J.skip rfl rfl rfl rfl hc186 <| J.skip rfl rfl rfl rfl hc186 <| jv (.bool false) (V.pickF rfl hc186 rfl) <| J.nil ?_
   obtain rfl := si ht185
   exact ⟨rfl, ⟨rfl, trivial⟩, rfl, rfl⟩
 intro ρ
 refine ja (.bool t184) rfl <| J.nil <| CJ.ret ?_
 obtain rfl := si h
 exact ⟨_, _, Res.one rfl rfl, ⟨t184, rfl, rfl, rfl⟩, ((((((hK105.trans hK108).trans hK120).trans hK127).trans hK130).trans hK133).trans hK146), fun w hs => (Sep.dropAt 0 rfl (Sep.dropAt 0 rfl hs))⟩

noncomputable def fn_slices_Clone_graph_Arc_graph_Arc (xa : (List (Int × Int))) : Option ((List (Int × Int))) :=
  nilb xa (some ([])) ((app (([] : List (Int × Int))) xa).bind fun z21 => some (z21))
set_option maxRecDepth 100000 in
set_option maxHeartbeats 4000000 in
theorem slices_Clone_graph_Arc_graph_Arc_ok {K : Hp} {xa : (List (Int × Int))} {adxa_0 : Option Addr} {cpxa_0 : Nat} (fxa_0 : Is K (.sl (.cons (.int .i64) (.one (.int .i64)))) [.slice adxa_0 xa.length cpxa_0] xa) {r : (List (Int × Int))} (h : fn_slices_Clone_graph_Arc_graph_Arc xa = some r) :
    Tr Try.prog 19 #[.slice adxa_0 xa.length cpxa_0] K [] (fun v K' L' => (∃ (l11 : (List (Int × Int))) (ad12 : Option Addr) (cp13 : Nat), l11 = r ∧ .slice ad12 l11.length cp13 = v ∧ L' = [Row Hp.nil 41 (.cons (.int .i64) (.one (.int .i64))) (.slice ad12 l11.length cp13) l11]) ∧ K = K') := by
 refine Tr.k <| Tr.of Try.func19 rfl Try.ntmps19 rfl fun E F => ?_
 unfold fn_slices_Clone_graph_Arc_graph_Arc at h
 refine cr <| ja (nos) rfl <| J.nil <| CJ.seq <| CJ.seq <| CJ.region ?_
 refine jm (.slice adxa_0 xa.length cpxa_0) rfl <| jv (.bool adxa_0.isNone) (V.sn_eql Try.underlying62 rfl rfl) <| J.nil ?_
 rcases adxa_0 with _ | ad16
 · have h := nilb_nil ((fxa_0).nil_of) h
   refine CJ.condK (b := true) rfl rfl <| cr <| ja (nos) rfl <| J.nil <| CJ.by (fun w hs => Sep.rowNil (e := 41) (t := (.cons (.int .i64) (.one (.int .i64)))) hs) <| CJ.ret ?_
   obtain rfl := si h
   exact ⟨_, _, Res.one rfl rfl, ⟨[], none, 0, rfl, rfl, rfl⟩, (Hp.le_refl _), fun w hs => hs⟩
 have h := nilb_cons h
 refine CJ.condK (b := false) rfl rfl <| CJ.skip <| CJ.seq <| CJ.region ?_
 refine J.op rfl (A.lit (K0 := Hp.nil) (ty := (.cons (.int .i64) (.one (.int .i64)))) (xs := ([] : List (Int × Int))) Try.underlying62 inf41 rfl (by decide) rfl rfl rfl rfl rfl (by decide)) ?_
 rintro _ _ _ ⟨b18, rfl, rfl, rfl⟩
 have hn19 : ([] : List (Int × Int)) ≠ [] → ∃ g, (some ⟨b18, 0, none⟩ : Option Addr) = some ⟨g, 0, none⟩ := fun _ => ⟨b18, rfl⟩
 refine jm (.slice (some ad16) xa.length cpxa_0) rfl ?_
 obtain ⟨z21, hz22, h⟩ := ob h
 refine J.op rfl (A.appP (Kr := Hp.nil) (K1 := K) Try.underlying62 inf41 rfl rfl (by decide) (by decide) rfl rfl fxa_0 (Hp.le_refl _) (Els.flat rfl) (Els.flat rfl) hz22) ?_
 rintro _ _ _ ⟨v23, rfl, rfl, rfl⟩
 refine J.wit Row.form ?_
 rintro ⟨ad24, cp25, rfl, _, _, hn26⟩
 refine ja (.slice ad24 z21.length cp25) rfl <| J.nil <| CJ.ret ?_
 obtain rfl := si h
 exact ⟨_, _, Res.one rfl rfl, ⟨z21, ad24, cp25, rfl, rfl, rfl⟩, (Hp.le_refl _), fun w hs => hs⟩

noncomputable def fn_graph_New_1 (xa : (Int × Int)) : Option Int :=
  some (xa.1)
set_option maxRecDepth 100000 in
set_option maxHeartbeats 4000000 in
theorem graph_New_1_ok {K : Hp} {xa : (Int × Int)}   {r : Int} (h : fn_graph_New_1 xa = some r) :
    Tr Try.prog 21 #[.agg #[ii xa.1, ii xa.2]] K [] (fun v K' L' => (∃ (i2 : Int), i2 = r ∧ ii i2 = v ∧ L' = []) ∧ K = K') := by
 refine Tr.k <| Tr.of Try.func21 rfl Try.ntmps21 rfl fun E F => ?_
 unfold fn_graph_New_1 at h
 refine cr <| jbx [ii xa.1, ii xa.2] rfl rfl fun b3 => ja (ii 0) rfl <| J.nil <| CJ.seq <| CJ.region ?_
 refine jv _ (V.fad Try.underlying41 rfl nz3 rfl) <| jv (ii xa.1) (V.ld rfl (Ld.sc sc3 (Rd.cl 0 rfl rfl))) <| ja (ii xa.1) rfl <| J.nil <| CJ.ret ?_
 obtain rfl := si h
 exact ⟨_, _, Res.one rfl rfl, ⟨xa.1, rfl, rfl, rfl⟩, (Hp.le_refl _), fun w hs => (Sep.dropAt 0 rfl hs)⟩

noncomputable def fn_slices_Clone_int_int (xa : (List Int)) : Option (List Int) :=
  nilb xa (some ([])) ((app ([] : List Int) xa).bind fun z21 => some (z21))
set_option maxRecDepth 100000 in
set_option maxHeartbeats 4000000 in
theorem slices_Clone_int_int_ok {K : Hp} {xa : (List Int)} {adxa_0 : Option Addr} {cpxa_0 : Nat} (fxa_0 : Is K (.sl (.int .i64)) [.slice adxa_0 xa.length cpxa_0] xa) {r : (List Int)} (h : fn_slices_Clone_int_int xa = some r) :
    Tr Try.prog 30 #[.slice adxa_0 xa.length cpxa_0] K [] (fun v K' L' => (∃ (l11 : (List Int)) (ad12 : Option Addr) (cp13 : Nat), l11 = r ∧ .slice ad12 l11.length cp13 = v ∧ L' = [Row Hp.nil 3 (.int .i64) (.slice ad12 l11.length cp13) l11]) ∧ K = K') := by
 refine Tr.k <| Tr.of Try.func30 rfl Try.ntmps30 rfl fun E F => ?_
 unfold fn_slices_Clone_int_int at h
 refine cr <| ja (nos) rfl <| J.nil <| CJ.seq <| CJ.seq <| CJ.region ?_
 refine jm (.slice adxa_0 xa.length cpxa_0) rfl <| jv (.bool adxa_0.isNone) (V.sn_eql Try.underlying54 rfl rfl) <| J.nil ?_
 rcases adxa_0 with _ | ad16
 · have h := nilb_nil ((fxa_0).nil_of) h
   refine CJ.condK (b := true) rfl rfl <| cr <| ja (nos) rfl <| J.nil <| CJ.by (fun w hs => Sep.rowNil (e := 3) (t := (.int .i64)) hs) <| CJ.ret ?_
   obtain rfl := si h
   exact ⟨_, _, Res.one rfl rfl, ⟨[], none, 0, rfl, rfl, rfl⟩, (Hp.le_refl _), fun w hs => hs⟩
 have h := nilb_cons h
 refine CJ.condK (b := false) rfl rfl <| CJ.skip <| CJ.seq <| CJ.region ?_
 refine J.op rfl (A.lit (K0 := Hp.nil) (ty := (.int .i64)) (xs := ([] : List Int)) Try.underlying54 inf3 rfl (by decide) rfl rfl rfl rfl rfl (by decide)) ?_
 rintro _ _ _ ⟨b18, rfl, rfl, rfl⟩
 have hn19 : ([] : List Int) ≠ [] → ∃ g, (some ⟨b18, 0, none⟩ : Option Addr) = some ⟨g, 0, none⟩ := fun _ => ⟨b18, rfl⟩
 refine jm (.slice (some ad16) xa.length cpxa_0) rfl ?_
 obtain ⟨z21, hz22, h⟩ := ob h
 refine J.op rfl (A.appP (Kr := Hp.nil) (K1 := K) Try.underlying54 inf3 rfl rfl (by decide) (by decide) rfl rfl fxa_0 (Hp.le_refl _) (Els.flat rfl) (Els.flat rfl) hz22) ?_
 rintro _ _ _ ⟨v23, rfl, rfl, rfl⟩
 refine J.wit Row.form ?_
 rintro ⟨ad24, cp25, rfl, _, _, hn26⟩
 refine ja (.slice ad24 z21.length cp25) rfl <| J.nil <| CJ.ret ?_
 obtain rfl := si h
 exact ⟨_, _, Res.one rfl rfl, ⟨z21, ad24, cp25, rfl, rfl, rfl⟩, (Hp.le_refl _), fun w hs => hs⟩
noncomputable def fn_graph_indexed_ik_graph_New_1_l1 (xb : (List (Int × Int))) : (Int × (List Int)) → Option ((Int × (List Int)) ⊕ (List Int)) := fun ((i1853, l1854) : (Int × (List Int))) => cond (decide (i1853 < (((xb.length : Nat) : Int)))) ((getI xb i1853).bind fun x1926 => (fn_graph_New_1 (x1926.1, x1926.2)).bind fun i1958 => (getI l1854 (IntKind.wrap .i64 (i1958 + 1))).bind fun x1962 => (getI l1854 (IntKind.wrap .i64 (i1958 + 1))).bind fun x1969 => (some (l1854.set (IntKind.wrap .i64 (i1958 + 1)).toNat (IntKind.wrap .i64 (x1962 + 1)))).bind fun z1976 => some (.inl ((IntKind.wrap .i64 (i1853 + 1), z1976)))) (some (.inr (l1854)))
noncomputable def fn_graph_indexed_ik_graph_New_1_l2 (xa : Int) : (Int × (List Int)) → Option ((Int × (List Int)) ⊕ (List Int)) := fun ((i2210, l2211) : (Int × (List Int))) => cond (decide (i2210 < xa)) ((getI l2211 (IntKind.wrap .i64 (i2210 + 1))).bind fun x2296 => (getI l2211 i2210).bind fun x2303 => (getI l2211 (IntKind.wrap .i64 (i2210 + 1))).bind fun x2310 => (some (l2211.set (IntKind.wrap .i64 (i2210 + 1)).toNat (IntKind.wrap .i64 (x2296 + x2303)))).bind fun z2317 => some (.inl ((IntKind.wrap .i64 (i2210 + 1), z2317)))) (some (.inr (l2211)))
noncomputable def fn_graph_indexed_ik_graph_New_1_l3 (xb : (List (Int × Int))) : ((List Int) × Int × (List Int)) → Option (((List Int) × Int × (List Int)) ⊕ (List Int)) := fun ((l2668, i2673, l2674) : ((List Int) × Int × (List Int))) => cond (decide (i2673 < (((xb.length : Nat) : Int)))) ((getI xb i2673).bind fun x2764 => (fn_graph_New_1 (x2764.1, x2764.2)).bind fun i2776 => (getI l2668 i2776).bind fun x2794 => (getI l2674 x2794).bind fun x2801 => (some (l2674.set x2794.toNat i2673)).bind fun z2808 => (getI l2668 i2776).bind fun x2813 => (getI l2668 i2776).bind fun x2820 => (some (l2668.set i2776.toNat (IntKind.wrap .i64 (x2813 + 1)))).bind fun z2827 => some (.inl ((z2827, IntKind.wrap .i64 (i2673 + 1), z2808)))) (some (.inr (l2674)))
noncomputable def fn_graph_indexed_ik_graph_New_1 (xa : Int) (xb : (List (Int × Int))) : Option (((List Int) × (List Int))) :=
  ((mk (IntKind.wrap .i64 (xa + 1)) (IntKind.wrap .i64 (xa + 1)) 0 : Option (List Int)).bind fun z1553 => (mk (((xb.length : Nat) : Int)) (((xb.length : Nat) : Int)) 0 : Option (List Int)).bind fun z1555 => some ((z1553, z1555)) : Option (((List Int) × (List Int)))).bind fun (l1502, l1507) => (loop (fn_graph_indexed_ik_graph_New_1_l1 xb) (0, l1502) : Option (List Int)).bind fun l1784 => (loop (fn_graph_indexed_ik_graph_New_1_l2 xa) (0, l1784) : Option (List Int)).bind fun l2149 => (fn_slices_Clone_int_int l2149).bind fun l2329 => (loop (fn_graph_indexed_ik_graph_New_1_l3 xb) (l2329, 0, l1507) : Option (List Int)).bind fun l2581 => some ((l2149, l2581))
set_option maxRecDepth 100000 in
set_option maxHeartbeats 4000000 in
theorem graph_indexed_ik_graph_New_1_ok {K : Hp} {xa : Int} {xb : (List (Int × Int))} {adxb_0 : Option Addr} {cpxb_0 : Nat} (fxb_0 : Is K (.sl (.cons (.int .i64) (.one (.int .i64)))) [.slice adxb_0 xb.length cpxb_0] xb) {r : ((List Int) × (List Int))} (h : fn_graph_indexed_ik_graph_New_1 xa xb = some r) :
    Tr Try.prog 20 #[ii xa, .slice adxb_0 xb.length cpxb_0, .func (.func 21) #[] #[]] K [] (fun v K' L' => (∃ (l1413 : (List Int)) (l1417 : (List Int)) (ad1414 : Option Addr) (cp1415 : Nat) (ad1418 : Option Addr) (cp1419 : Nat), (l1413, l1417) = r ∧ .agg #[.slice ad1414 l1413.length cp1415, .slice ad1418 l1417.length cp1419] = v ∧ Is K' (.sl (.int .i64)) [.slice ad1414 l1413.length cp1415] l1413 ∧ L' = [Row Hp.nil 3 (.int .i64) (.slice ad1418 l1417.length cp1419) l1417])) := by
 refine Tr.of Try.func20 rfl Try.ntmps20 rfl fun E F => ?_
 unfold fn_graph_indexed_ik_graph_New_1 at h
 refine cr <| jal inf67 [nos, nos] rfl fun b1422 => J.nil <| CJ.seq ?_
 obtain ⟨o1512, ho1513, h⟩ := ob h
 refine CJ.meetN (fun ρ K' L' => ∃ (l1502 : (List Int)) (l1507 : (List Int)) (nb1501 : Nat) (ad1503 : Option Addr) (cp1504 : Nat) (ad1508 : Option Addr) (cp1509 : Nat), (l1502, l1507) = o1512 ∧ Fits [(0, ii xa), (1, .slice adxb_0 xb.length cpxb_0), (2, .func (.func 21) #[] #[]), (6, .pointer (some ⟨b1422, 0, none⟩)), (7, .pointer (some ⟨nb1501, 0, none⟩))] ρ ∧ K = K' ∧ L' = Cl b1422 67 [nos, nos] :: Cl nb1501 67 [.slice ad1503 l1502.length cp1504, .slice ad1508 l1507.length cp1509] :: Row Hp.nil 3 (.int .i64) (.slice ad1503 l1502.length cp1504) l1502 :: Row Hp.nil 3 (.int .i64) (.slice ad1508 l1507.length cp1509) l1507 :: F) ?_ ?_
 · refine CJ.tree [Cl b1422 67 [nos, nos]] (.still [0, 1, 3, 4] (.alt 2 (.alt 5 (.still [6] (.alt 7 (.alt 8 (.leaf []) .done) .done)) (.alt 7 (.alt 5 (.still [6] (.alt 8 (.leaf []) .done)) .done) .done)) (.alt 5 (.alt 2 (.still [6] (.alt 7 (.alt 8 (.leaf []) .done) .done)) (.alt 7 (.alt 2 (.still [6] (.alt 8 (.leaf []) .done)) .done) .done)) (.alt 7 (.alt 2 (.alt 5 (.still [6] (.alt 8 (.leaf []) .done)) .done) (.alt 5 (.alt 2 (.still [6] (.alt 8 (.leaf []) .done)) .done) .done)) .done)))) [] mixO (by decide +kernel) ⟨0, rfl, trivial⟩ rfl <| JT.still rfl <| qm (ii xa) rfl <| qv (ii (IntKind.wrap .i64 (xa + 1))) (V.add rfl rfl) <| qm (.slice adxb_0 xb.length cpxb_0) rfl <| qv (ii (((xb.length : Nat) : Int))) (V.len Try.underlying62 rfl) <| JQ.nil ?_
   obtain ⟨z1553, hz1554, ho1513⟩ := ob ho1513
   obtain ⟨z1555, hz1556, ho1513⟩ := ob ho1513
   refine JT.alt rfl ?_ ?_
   · refine JB.op rfl (A.make (K0 := Hp.nil) (ty := (.int .i64)) (x0 := 0) Try.underlying54 inf3 rfl rfl (by decide) (by decide) rfl rfl hz1554) ?_
     rintro _ _ _ ⟨b1557, rfl, rfl, rfl⟩
     have hn1558 : z1553 ≠ [] → ∃ g, (some ⟨b1557, 0, none⟩ : Option Addr) = some ⟨g, 0, none⟩ := fun _ => ⟨b1557, rfl⟩
     refine ⟨fun w hs => Hold.sub (Hp.le_refl _) ⟨1, rfl, trivial⟩ hs, ?_⟩
     refine JT.alt rfl ?_ ?_
     · refine JB.op rfl (A.make (K0 := Hp.nil) (ty := (.int .i64)) (x0 := 0) Try.underlying54 inf3 rfl rfl (by decide) (by decide) rfl rfl hz1556) ?_
       rintro _ _ _ ⟨b1560, rfl, rfl, rfl⟩
       have hn1561 : z1555 ≠ [] → ∃ g, (some ⟨b1560, 0, none⟩ : Option Addr) = some ⟨g, 0, none⟩ := fun _ => ⟨b1560, rfl⟩
       refine ⟨fun w hs => Hold.sub (Hp.le_refl _) ⟨2, rfl, trivial⟩ hs, ?_⟩
       refine JT.still rfl <| qv (.agg #[.slice (some ⟨b1557, 0, none⟩) z1553.length (IntKind.wrap .i64 (xa + 1)).toNat, .slice (some ⟨b1560, 0, none⟩) z1555.length (((xb.length : Nat) : Int)).toNat]) (V.build inf67 places67 rfl rfl) <| JQ.nil <| JT.alt rfl ?_ JT.done
       refine JB.op rfl (A.alloc (cs := [nos, nos]) inf67 rfl) ?_
       rintro _ _ _ ⟨b1563, rfl, rfl, rfl⟩
       refine ⟨fun w hs => Hold.sub (Hp.le_refl _) ⟨3, rfl, trivial⟩ hs, ?_⟩
       refine JT.alt rfl ?_ JT.done
       refine JB.op rfl (A.store (v := .agg #[.slice (some ⟨b1557, 0, none⟩) z1553.length (IntKind.wrap .i64 (xa + 1)).toNat, .slice (some ⟨b1560, 0, none⟩) z1555.length (((xb.length : Nat) : Int)).toNat]) (cs' := [.slice (some ⟨b1557, 0, none⟩) z1553.length (IntKind.wrap .i64 (xa + 1)).toNat, .slice (some ⟨b1560, 0, none⟩) z1555.length (((xb.length : Nat) : Int)).toNat]) sz67 rfl rfl rfl rfl rfl rfl) ?_
       rintro _ _ _ ⟨rfl, rfl, rfl⟩
       refine ⟨fun w hs => Hold.sub (Hp.le_refl _) ⟨3, rfl, trivial⟩ hs, ?_⟩
       refine JT.leaf rfl <| JQ.nil <| J.front 1 rfl <| J.front 2 rfl <| J.front 2 rfl <| J.front 3 rfl <| J.nil ?_
       obtain rfl := si ho1513
       exact ⟨rfl, ⟨z1553, z1555, b1563, (some ⟨b1557, 0, none⟩), (IntKind.wrap .i64 (xa + 1)).toNat, (some ⟨b1560, 0, none⟩), (((xb.length : Nat) : Int)).toNat, rfl, ⟨rfl, rfl, rfl, rfl, rfl, trivial⟩, rfl, rfl⟩⟩
     refine JT.alt rfl ?_ JT.done
     refine JB.op rfl (A.alloc (cs := [nos, nos]) inf67 rfl) ?_
     rintro _ _ _ ⟨b1564, rfl, rfl, rfl⟩
     refine ⟨fun w hs => Hold.sub (Hp.le_refl _) ⟨2, rfl, trivial⟩ hs, ?_⟩
     refine JT.alt rfl ?_ JT.done
     refine JB.op rfl (A.make (K0 := Hp.nil) (ty := (.int .i64)) (x0 := 0) Try.underlying54 inf3 rfl rfl (by decide) (by decide) rfl rfl hz1556) ?_
     rintro _ _ _ ⟨b1565, rfl, rfl, rfl⟩
     have hn1566 : z1555 ≠ [] → ∃ g, (some ⟨b1565, 0, none⟩ : Option Addr) = some ⟨g, 0, none⟩ := fun _ => ⟨b1565, rfl⟩
     refine ⟨fun w hs => Hold.sub (Hp.le_refl _) ⟨3, rfl, trivial⟩ hs, ?_⟩
     refine JT.still rfl <| qv (.agg #[.slice (some ⟨b1557, 0, none⟩) z1553.length (IntKind.wrap .i64 (xa + 1)).toNat, .slice (some ⟨b1565, 0, none⟩) z1555.length (((xb.length : Nat) : Int)).toNat]) (V.build inf67 places67 rfl rfl) <| JQ.nil <| JT.alt rfl ?_ JT.done
     refine JB.front 1 rfl <| JB.op rfl (A.store (v := .agg #[.slice (some ⟨b1557, 0, none⟩) z1553.length (IntKind.wrap .i64 (xa + 1)).toNat, .slice (some ⟨b1565, 0, none⟩) z1555.length (((xb.length : Nat) : Int)).toNat]) (cs' := [.slice (some ⟨b1557, 0, none⟩) z1553.length (IntKind.wrap .i64 (xa + 1)).toNat, .slice (some ⟨b1565, 0, none⟩) z1555.length (((xb.length : Nat) : Int)).toNat]) sz67 rfl rfl rfl rfl rfl rfl) ?_
     rintro _ _ _ ⟨rfl, rfl, rfl⟩
     refine ⟨fun w hs => Hold.sub (Hp.le_refl _) ⟨3, rfl, trivial⟩ hs, ?_⟩
     refine JT.leaf rfl <| JQ.nil <| J.front 1 rfl <| J.front 2 rfl <| J.front 2 rfl <| J.front 3 rfl <| J.nil ?_
     obtain rfl := si ho1513
     exact ⟨rfl, ⟨z1553, z1555, b1564, (some ⟨b1557, 0, none⟩), (IntKind.wrap .i64 (xa + 1)).toNat, (some ⟨b1565, 0, none⟩), (((xb.length : Nat) : Int)).toNat, rfl, ⟨rfl, rfl, rfl, rfl, rfl, trivial⟩, rfl, rfl⟩⟩
   refine JT.alt rfl ?_ ?_
   · refine JB.op rfl (A.make (K0 := Hp.nil) (ty := (.int .i64)) (x0 := 0) Try.underlying54 inf3 rfl rfl (by decide) (by decide) rfl rfl hz1556) ?_
     rintro _ _ _ ⟨b1568, rfl, rfl, rfl⟩
     have hn1569 : z1555 ≠ [] → ∃ g, (some ⟨b1568, 0, none⟩ : Option Addr) = some ⟨g, 0, none⟩ := fun _ => ⟨b1568, rfl⟩
     refine ⟨fun w hs => Hold.sub (Hp.le_refl _) ⟨1, rfl, trivial⟩ hs, ?_⟩
     refine JT.alt rfl ?_ ?_
     · refine JB.op rfl (A.make (K0 := Hp.nil) (ty := (.int .i64)) (x0 := 0) Try.underlying54 inf3 rfl rfl (by decide) (by decide) rfl rfl hz1554) ?_
       rintro _ _ _ ⟨b1571, rfl, rfl, rfl⟩
       have hn1572 : z1553 ≠ [] → ∃ g, (some ⟨b1571, 0, none⟩ : Option Addr) = some ⟨g, 0, none⟩ := fun _ => ⟨b1571, rfl⟩
       refine ⟨fun w hs => Hold.sub (Hp.le_refl _) ⟨2, rfl, trivial⟩ hs, ?_⟩
       refine JT.still rfl <| qv (.agg #[.slice (some ⟨b1571, 0, none⟩) z1553.length (IntKind.wrap .i64 (xa + 1)).toNat, .slice (some ⟨b1568, 0, none⟩) z1555.length (((xb.length : Nat) : Int)).toNat]) (V.build inf67 places67 rfl rfl) <| JQ.nil <| JT.alt rfl ?_ JT.done
       refine JB.op rfl (A.alloc (cs := [nos, nos]) inf67 rfl) ?_
       rintro _ _ _ ⟨b1574, rfl, rfl, rfl⟩
       refine ⟨fun w hs => Hold.sub (Hp.le_refl _) ⟨3, rfl, trivial⟩ hs, ?_⟩
       refine JT.alt rfl ?_ JT.done
       refine JB.op rfl (A.store (v := .agg #[.slice (some ⟨b1571, 0, none⟩) z1553.length (IntKind.wrap .i64 (xa + 1)).toNat, .slice (some ⟨b1568, 0, none⟩) z1555.length (((xb.length : Nat) : Int)).toNat]) (cs' := [.slice (some ⟨b1571, 0, none⟩) z1553.length (IntKind.wrap .i64 (xa + 1)).toNat, .slice (some ⟨b1568, 0, none⟩) z1555.length (((xb.length : Nat) : Int)).toNat]) sz67 rfl rfl rfl rfl rfl rfl) ?_
       rintro _ _ _ ⟨rfl, rfl, rfl⟩
       refine ⟨fun w hs => Hold.sub (Hp.le_refl _) ⟨3, rfl, trivial⟩ hs, ?_⟩
       refine JT.leaf rfl <| JQ.nil <| J.front 2 rfl <| J.front 2 rfl <| J.front 2 rfl <| J.front 3 rfl <| J.nil ?_
       obtain rfl := si ho1513
       exact ⟨rfl, ⟨z1553, z1555, b1574, (some ⟨b1571, 0, none⟩), (IntKind.wrap .i64 (xa + 1)).toNat, (some ⟨b1568, 0, none⟩), (((xb.length : Nat) : Int)).toNat, rfl, ⟨rfl, rfl, rfl, rfl, rfl, trivial⟩, rfl, rfl⟩⟩
     refine JT.alt rfl ?_ JT.done
     refine JB.op rfl (A.alloc (cs := [nos, nos]) inf67 rfl) ?_
     rintro _ _ _ ⟨b1575, rfl, rfl, rfl⟩
     refine ⟨fun w hs => Hold.sub (Hp.le_refl _) ⟨2, rfl, trivial⟩ hs, ?_⟩
     refine JT.alt rfl ?_ JT.done
     refine JB.op rfl (A.make (K0 := Hp.nil) (ty := (.int .i64)) (x0 := 0) Try.underlying54 inf3 rfl rfl (by decide) (by decide) rfl rfl hz1554) ?_
     rintro _ _ _ ⟨b1576, rfl, rfl, rfl⟩
     have hn1577 : z1553 ≠ [] → ∃ g, (some ⟨b1576, 0, none⟩ : Option Addr) = some ⟨g, 0, none⟩ := fun _ => ⟨b1576, rfl⟩
     refine ⟨fun w hs => Hold.sub (Hp.le_refl _) ⟨3, rfl, trivial⟩ hs, ?_⟩
     refine JT.still rfl <| qv (.agg #[.slice (some ⟨b1576, 0, none⟩) z1553.length (IntKind.wrap .i64 (xa + 1)).toNat, .slice (some ⟨b1568, 0, none⟩) z1555.length (((xb.length : Nat) : Int)).toNat]) (V.build inf67 places67 rfl rfl) <| JQ.nil <| JT.alt rfl ?_ JT.done
     refine JB.front 1 rfl <| JB.op rfl (A.store (v := .agg #[.slice (some ⟨b1576, 0, none⟩) z1553.length (IntKind.wrap .i64 (xa + 1)).toNat, .slice (some ⟨b1568, 0, none⟩) z1555.length (((xb.length : Nat) : Int)).toNat]) (cs' := [.slice (some ⟨b1576, 0, none⟩) z1553.length (IntKind.wrap .i64 (xa + 1)).toNat, .slice (some ⟨b1568, 0, none⟩) z1555.length (((xb.length : Nat) : Int)).toNat]) sz67 rfl rfl rfl rfl rfl rfl) ?_
     rintro _ _ _ ⟨rfl, rfl, rfl⟩
     refine ⟨fun w hs => Hold.sub (Hp.le_refl _) ⟨3, rfl, trivial⟩ hs, ?_⟩
     refine JT.leaf rfl <| JQ.nil <| J.front 2 rfl <| J.front 2 rfl <| J.front 2 rfl <| J.front 3 rfl <| J.nil ?_
     obtain rfl := si ho1513
     exact ⟨rfl, ⟨z1553, z1555, b1575, (some ⟨b1576, 0, none⟩), (IntKind.wrap .i64 (xa + 1)).toNat, (some ⟨b1568, 0, none⟩), (((xb.length : Nat) : Int)).toNat, rfl, ⟨rfl, rfl, rfl, rfl, rfl, trivial⟩, rfl, rfl⟩⟩
   refine JT.alt rfl ?_ JT.done
   refine JB.op rfl (A.alloc (cs := [nos, nos]) inf67 rfl) ?_
   rintro _ _ _ ⟨b1579, rfl, rfl, rfl⟩
   refine ⟨fun w hs => Hold.sub (Hp.le_refl _) ⟨1, rfl, trivial⟩ hs, ?_⟩
   refine JT.alt rfl ?_ ?_
   · refine JB.op rfl (A.make (K0 := Hp.nil) (ty := (.int .i64)) (x0 := 0) Try.underlying54 inf3 rfl rfl (by decide) (by decide) rfl rfl hz1554) ?_
     rintro _ _ _ ⟨b1580, rfl, rfl, rfl⟩
     have hn1581 : z1553 ≠ [] → ∃ g, (some ⟨b1580, 0, none⟩ : Option Addr) = some ⟨g, 0, none⟩ := fun _ => ⟨b1580, rfl⟩
     refine ⟨fun w hs => Hold.sub (Hp.le_refl _) ⟨2, rfl, trivial⟩ hs, ?_⟩
     refine JT.alt rfl ?_ JT.done
     refine JB.op rfl (A.make (K0 := Hp.nil) (ty := (.int .i64)) (x0 := 0) Try.underlying54 inf3 rfl rfl (by decide) (by decide) rfl rfl hz1556) ?_
     rintro _ _ _ ⟨b1583, rfl, rfl, rfl⟩
     have hn1584 : z1555 ≠ [] → ∃ g, (some ⟨b1583, 0, none⟩ : Option Addr) = some ⟨g, 0, none⟩ := fun _ => ⟨b1583, rfl⟩
     refine ⟨fun w hs => Hold.sub (Hp.le_refl _) ⟨3, rfl, trivial⟩ hs, ?_⟩
     refine JT.still rfl <| qv (.agg #[.slice (some ⟨b1580, 0, none⟩) z1553.length (IntKind.wrap .i64 (xa + 1)).toNat, .slice (some ⟨b1583, 0, none⟩) z1555.length (((xb.length : Nat) : Int)).toNat]) (V.build inf67 places67 rfl rfl) <| JQ.nil <| JT.alt rfl ?_ JT.done
     refine JB.front 2 rfl <| JB.op rfl (A.store (v := .agg #[.slice (some ⟨b1580, 0, none⟩) z1553.length (IntKind.wrap .i64 (xa + 1)).toNat, .slice (some ⟨b1583, 0, none⟩) z1555.length (((xb.length : Nat) : Int)).toNat]) (cs' := [.slice (some ⟨b1580, 0, none⟩) z1553.length (IntKind.wrap .i64 (xa + 1)).toNat, .slice (some ⟨b1583, 0, none⟩) z1555.length (((xb.length : Nat) : Int)).toNat]) sz67 rfl rfl rfl rfl rfl rfl) ?_
     rintro _ _ _ ⟨rfl, rfl, rfl⟩
     refine ⟨fun w hs => Hold.sub (Hp.le_refl _) ⟨3, rfl, trivial⟩ hs, ?_⟩
     refine JT.leaf rfl <| JQ.nil <| J.front 1 rfl <| J.front 2 rfl <| J.front 2 rfl <| J.front 3 rfl <| J.nil ?_
     obtain rfl := si ho1513
     exact ⟨rfl, ⟨z1553, z1555, b1579, (some ⟨b1580, 0, none⟩), (IntKind.wrap .i64 (xa + 1)).toNat, (some ⟨b1583, 0, none⟩), (((xb.length : Nat) : Int)).toNat, rfl, ⟨rfl, rfl, rfl, rfl, rfl, trivial⟩, rfl, rfl⟩⟩
   refine JT.alt rfl ?_ JT.done
   refine JB.op rfl (A.make (K0 := Hp.nil) (ty := (.int .i64)) (x0 := 0) Try.underlying54 inf3 rfl rfl (by decide) (by decide) rfl rfl hz1556) ?_
   rintro _ _ _ ⟨b1586, rfl, rfl, rfl⟩
   have hn1587 : z1555 ≠ [] → ∃ g, (some ⟨b1586, 0, none⟩ : Option Addr) = some ⟨g, 0, none⟩ := fun _ => ⟨b1586, rfl⟩
   refine ⟨fun w hs => Hold.sub (Hp.le_refl _) ⟨2, rfl, trivial⟩ hs, ?_⟩
   refine JT.alt rfl ?_ JT.done
   refine JB.op rfl (A.make (K0 := Hp.nil) (ty := (.int .i64)) (x0 := 0) Try.underlying54 inf3 rfl rfl (by decide) (by decide) rfl rfl hz1554) ?_
   rintro _ _ _ ⟨b1589, rfl, rfl, rfl⟩
   have hn1590 : z1553 ≠ [] → ∃ g, (some ⟨b1589, 0, none⟩ : Option Addr) = some ⟨g, 0, none⟩ := fun _ => ⟨b1589, rfl⟩
   refine ⟨fun w hs => Hold.sub (Hp.le_refl _) ⟨3, rfl, trivial⟩ hs, ?_⟩
   refine JT.still rfl <| qv (.agg #[.slice (some ⟨b1589, 0, none⟩) z1553.length (IntKind.wrap .i64 (xa + 1)).toNat, .slice (some ⟨b1586, 0, none⟩) z1555.length (((xb.length : Nat) : Int)).toNat]) (V.build inf67 places67 rfl rfl) <| JQ.nil <| JT.alt rfl ?_ JT.done
   refine JB.front 2 rfl <| JB.op rfl (A.store (v := .agg #[.slice (some ⟨b1589, 0, none⟩) z1553.length (IntKind.wrap .i64 (xa + 1)).toNat, .slice (some ⟨b1586, 0, none⟩) z1555.length (((xb.length : Nat) : Int)).toNat]) (cs' := [.slice (some ⟨b1589, 0, none⟩) z1553.length (IntKind.wrap .i64 (xa + 1)).toNat, .slice (some ⟨b1586, 0, none⟩) z1555.length (((xb.length : Nat) : Int)).toNat]) sz67 rfl rfl rfl rfl rfl rfl) ?_
   rintro _ _ _ ⟨rfl, rfl, rfl⟩
   refine ⟨fun w hs => Hold.sub (Hp.le_refl _) ⟨3, rfl, trivial⟩ hs, ?_⟩
   refine JT.leaf rfl <| JQ.nil <| J.front 2 rfl <| J.front 2 rfl <| J.front 2 rfl <| J.front 3 rfl <| J.nil ?_
   obtain rfl := si ho1513
   exact ⟨rfl, ⟨z1553, z1555, b1579, (some ⟨b1589, 0, none⟩), (IntKind.wrap .i64 (xa + 1)).toNat, (some ⟨b1586, 0, none⟩), (((xb.length : Nat) : Int)).toNat, rfl, ⟨rfl, rfl, rfl, rfl, rfl, trivial⟩, rfl, rfl⟩⟩
 rintro ρ _ _ ⟨l1502, l1507, nb1501, ad1503, cp1504, ad1508, cp1509, rfl, hf1592, rfl, rfl⟩
 obtain ⟨ρ, rfl⟩ := hf1592.ex
 refine PJ.front 2 rfl <| PJ.wit Row.hn fun hn1506 => PJ.front 3 rfl <| PJ.wit Row.hn fun hn1511 => PJ.done <| CJ.seq <| CJ.seq ?_
 refine CJ.region <| jm (.slice adxb_0 xb.length cpxb_0) rfl <| jv (ii (((xb.length : Nat) : Int))) (V.len Try.underlying62 rfl) <| jm (ii 0) rfl <| J.nil ?_
 obtain ⟨o1789, ho1790, h⟩ := ob h
 refine CJ.meetN (fun ρ K' L' => ∃ (l1784 : (List Int)) (ad1785 : Option Addr) (cp1786 : Nat), l1784 = o1789 ∧ Fits [(0, ii xa), (1, .slice adxb_0 xb.length cpxb_0), (2, .func (.func 21) #[] #[]), (6, .pointer (some ⟨b1422, 0, none⟩)), (7, .pointer (some ⟨nb1501, 0, none⟩))] ρ ∧ K = K' ∧ L' = Cl b1422 67 [nos, nos] :: Cl nb1501 67 [.slice ad1785 l1784.length cp1786, .slice ad1508 l1507.length cp1509] :: Row Hp.nil 3 (.int .i64) (.slice ad1508 l1507.length cp1509) l1507 :: Row Hp.nil 3 (.int .i64) (.slice ad1785 l1784.length cp1786) l1784 :: F) ?_ ?_
 · refine CJ.block <| CJ.front 1 rfl <| CJ.front 1 rfl <| CJ.front 3 rfl <| CJ.front 3 rfl <| CJ.loop (fun s ρ K' L' => ∃ (i1853 : Int) (l1854 : (List Int)) (ad1855 : Option Addr) (cp1856 : Nat), (i1853, l1854) = s ∧ Fits [(0, ii xa), (1, .slice adxb_0 xb.length cpxb_0), (2, .func (.func 21) #[] #[]), (6, .pointer (some ⟨b1422, 0, none⟩)), (7, .pointer (some ⟨nb1501, 0, none⟩)), (22, .slice adxb_0 xb.length cpxb_0), (23, ii (((xb.length : Nat) : Int))), (24, ii i1853)] ρ ∧ K = K' ∧ L' = Cl b1422 67 [nos, nos] :: Cl nb1501 67 [.slice ad1855 l1854.length cp1856, .slice ad1508 l1507.length cp1509] :: Row Hp.nil 3 (.int .i64) (.slice ad1508 l1507.length cp1509) l1507 :: Row Hp.nil 3 (.int .i64) (.slice ad1855 l1854.length cp1856) l1854 :: F) ho1790 ⟨0, l1502, ad1503, cp1504, rfl, ⟨rfl, rfl, rfl, rfl, rfl, rfl, rfl, rfl, trivial⟩, rfl, rfl⟩ ?_
   rintro s ρ _ _ r1924 ⟨i1853, l1854, ad1855, cp1856, rfl, hf1922, rfl, rfl⟩ h1921
   obtain ⟨ρ, rfl⟩ := hf1922.ex
   refine CJ.front 3 rfl <| CJ.wit Row.hn fun hn1858 => cr <| jv (.bool (decide (i1853 < (((xb.length : Nat) : Int))))) (V.lss rfl rfl) <| J.nil <| CJ.seq ?_
   refine cc rfl h1921 (fun hc1925 h1921 => ?_) fun hc1925 h1921 => ?_
   · refine CJ.skip <| CJ.seq <| CJ.block <| CJ.seq <| CJ.region ?_
     obtain ⟨x1926, hx1927, h1921⟩ := ob h1921
     obtain ⟨p1928, p1929, p1930⟩ := getI_some hx1927
     obtain ⟨b1931, o1932, e1933, a1934⟩ := (fxb_0).at p1929
     refine jv _ (V.iad Try.underlying62 sz41 rfl e1933 rfl p1928 p1930) <| jv (.agg #[ii x1926.1, ii x1926.2]) (V.ld rfl (Ld.aggK (cs := [ii x1926.1, ii x1926.2]) Try.underlying41 sz41 rfl ⟨((a1934).fst).int, (((a1934).snd).one).int, trivial⟩ (Hp.le_refl _))) <| jal inf41 [ii 0, ii 0] rfl fun b1935 => js [ii x1926.1, ii x1926.2] sz41 rfl rfl rfl rfl rfl rfl <| J.nil <| CJ.mix [Cl b1935 41 [ii x1926.1, ii x1926.2], Row Hp.nil 3 (.int .i64) (.slice ad1855 l1854.length cp1856) l1854, Cl b1422 67 [nos, nos], Cl nb1501 67 [.slice ad1855 l1854.length cp1856, .slice ad1508 l1507.length cp1509], Row Hp.nil 3 (.int .i64) (.slice ad1508 l1507.length cp1509) l1507] [([0, 1, 2, 3], 4)] [5, 6, 7, 8, 9] [10] mixO (by decide +kernel) ⟨0, rfl, 0, rfl, 0, rfl, 0, rfl, 0, rfl, trivial⟩ rfl rfl rfl <| JM.cons ?_
     refine qv _ (V.fad Try.underlying67 rfl nz54 rfl) <| qv (.slice ad1855 l1854.length cp1856) (V.ld rfl (Ld.sc sc54 (Rd.cl 3 rfl rfl))) <| qm (.func (.func 21) #[] #[]) rfl <| qv (.agg #[ii x1926.1, ii x1926.2]) (V.ld rfl (Ld.agg (cs := [ii x1926.1, ii x1926.2]) Try.underlying41 sz41 rfl (Rd.cls 0 0 rfl rfl))) <| JQ.nil ?_
     obtain ⟨r1956, hr1957, h1921⟩ := ob h1921
     refine JA.op rfl (A.call (L1 := []) Try.call21 rfl (graph_New_1_ok hr1957) rfl rfl) ?_
     rintro _ _ _ ⟨v1959, _, rfl, ⟨⟨i1958, rfl, rfl, rfl⟩, rfl⟩, _, rfl⟩
     refine ⟨fun w hs => Hold.sub (Hp.le_refl _) ⟨0, rfl, 0, rfl, 0, rfl, 0, rfl, 0, rfl, trivial⟩ hs, ?_⟩
     refine JM.nil <| qv (ii (IntKind.wrap .i64 (i1958 + 1))) (V.add rfl rfl) ?_
     obtain ⟨x1962, hx1963, h1921⟩ := ob h1921
     obtain ⟨p1964, p1965, p1966⟩ := getI_some hx1963
     obtain ⟨g1967, e1968⟩ := hn1858 (fun e => by rw [e] at p1965; simp at p1965)
     refine qv _ (V.iad Try.underlying54 sz3 rfl e1968 rfl p1964 p1966) <| qv (ii x1962) (V.ld rfl (Ld.sc sc3 (Rd.row 1 rfl e1968 p1965 (q := 0) (by simp [Tp.size]) (by decide) (by rintro _ rfl; rfl)))) <| qv (ii (IntKind.wrap .i64 (x1962 + 1))) (V.add rfl rfl) ?_
     obtain ⟨x1969, hx1970, h1921⟩ := ob h1921
     obtain ⟨p1971, p1972, p1973⟩ := getI_some hx1970
     obtain ⟨g1974, e1975⟩ := hn1858 (fun e => by rw [e] at p1972; simp at p1972)
     refine qv _ (V.iad Try.underlying54 sz3 rfl e1975 rfl p1971 p1973) <| JQ.nil <| J.front 1 rfl ?_
     obtain ⟨z1976, hz1977, h1921⟩ := ob h1921
     have e1978 := Option.some.inj hz1977
     have hl1979 : z1976.length = l1854.length := by rw [← e1978, List.length_set]
     refine J.op rfl (A.storeR (ty := (.int .i64)) (q := 0) (y0 := IntKind.wrap .i64 (x1962 + 1)) (zs := z1976) sz3 rfl rfl rfl rfl e1975 p1972 (by simp [Tp.size]) (by decide) (by rintro _ rfl; exact rfl) e1978) ?_
     rintro _ _ _ ⟨rfl, rfl, rfl⟩
     have hn1980 : z1976 ≠ [] → _ := fun h => hn1858 (fun e => h (List.length_eq_zero_iff.1 (by rw [hl1979]; exact List.length_eq_zero_iff.2 e)))
     refine J.nil <| CJ.region <| jv (ii (IntKind.wrap .i64 (i1853 + 1))) (V.add rfl rfl) <| jm (ii (IntKind.wrap .i64 (i1853 + 1))) rfl <| J.dropAt 1 rfl <| J.front 3 rfl <| J.front 3 rfl ?_
     refine J.front 3 rfl <| J.nil ?_
     obtain rfl := si h1921
     exact ⟨rfl, ⟨IntKind.wrap .i64 (i1853 + 1), z1976, ad1855, cp1856, rfl, ⟨rfl, rfl, rfl, rfl, rfl, rfl, rfl, rfl, trivial⟩, rfl, (by rw [hl1979]; first | done | rfl)⟩⟩
   refine CJ.front 3 rfl <| CJ.front 3 rfl <| CJ.front 3 rfl <| CJ.exit ?_
   obtain rfl := si h1921
   refine ⟨nofun, fun e => ?_⟩
   subst e
   exact ⟨rfl, ⟨l1854, ad1855, cp1856, rfl, ⟨rfl, rfl, rfl, rfl, rfl, trivial⟩, rfl, rfl⟩⟩
 rintro ρ _ _ ⟨l1784, ad1785, cp1786, rfl, hf1981, rfl, rfl⟩
 obtain ⟨ρ, rfl⟩ := hf1981.ex
 refine PJ.front 3 rfl <| PJ.wit Row.hn fun hn1788 => PJ.done <| CJ.seq <| cr <| jm (ii xa) rfl ?_
 refine jm (ii 0) rfl <| J.nil ?_
 obtain ⟨o2154, ho2155, h⟩ := ob h
 refine CJ.meetN (fun ρ K' L' => ∃ (l2149 : (List Int)) (ad2150 : Option Addr) (cp2151 : Nat), l2149 = o2154 ∧ Fits [(1, .slice adxb_0 xb.length cpxb_0), (2, .func (.func 21) #[] #[]), (6, .pointer (some ⟨b1422, 0, none⟩)), (7, .pointer (some ⟨nb1501, 0, none⟩))] ρ ∧ K = K' ∧ L' = Cl b1422 67 [nos, nos] :: Cl nb1501 67 [.slice ad2150 l2149.length cp2151, .slice ad1508 l1507.length cp1509] :: Row Hp.nil 3 (.int .i64) (.slice ad1508 l1507.length cp1509) l1507 :: Row Hp.nil 3 (.int .i64) (.slice ad2150 l2149.length cp2151) l2149 :: F) ?_ ?_
 · refine CJ.block <| CJ.front 3 rfl <| CJ.front 3 rfl <| CJ.front 3 rfl <| CJ.loop (fun s ρ K' L' => ∃ (i2210 : Int) (l2211 : (List Int)) (ad2212 : Option Addr) (cp2213 : Nat), (i2210, l2211) = s ∧ Fits [(1, .slice adxb_0 xb.length cpxb_0), (2, .func (.func 21) #[] #[]), (6, .pointer (some ⟨b1422, 0, none⟩)), (7, .pointer (some ⟨nb1501, 0, none⟩)), (39, ii xa), (40, ii i2210)] ρ ∧ K = K' ∧ L' = Cl b1422 67 [nos, nos] :: Cl nb1501 67 [.slice ad2212 l2211.length cp2213, .slice ad1508 l1507.length cp1509] :: Row Hp.nil 3 (.int .i64) (.slice ad1508 l1507.length cp1509) l1507 :: Row Hp.nil 3 (.int .i64) (.slice ad2212 l2211.length cp2213) l2211 :: F) ho2155 ⟨0, l1784, ad1785, cp1786, rfl, ⟨rfl, rfl, rfl, rfl, rfl, rfl, trivial⟩, rfl, rfl⟩ ?_
   rintro s ρ _ _ r2273 ⟨i2210, l2211, ad2212, cp2213, rfl, hf2271, rfl, rfl⟩ h2270
   obtain ⟨ρ, rfl⟩ := hf2271.ex
   refine CJ.front 3 rfl <| CJ.wit Row.hn fun hn2215 => cr <| jv (.bool (decide (i2210 < xa))) (V.lss rfl rfl) <| J.nil <| CJ.seq ?_
   refine cc rfl h2270 (fun hc2274 h2270 => ?_) fun hc2274 h2270 => ?_
   · refine CJ.skip <| CJ.seq <| CJ.block <| cr <| jm (ii i2210) rfl <| ja (ii i2210) rfl ?_
     refine J.nil <| CJ.mix [Row Hp.nil 3 (.int .i64) (.slice ad2212 l2211.length cp2213) l2211, Cl b1422 67 [nos, nos], Cl nb1501 67 [.slice ad2212 l2211.length cp2213, .slice ad1508 l1507.length cp1509], Row Hp.nil 3 (.int .i64) (.slice ad1508 l1507.length cp1509) l1507] [] [0, 1, 2, 3, 4, 5, 6, 7, 8, 9, 10, 11, 12] [13] mixO (by decide +kernel) ⟨0, rfl, 0, rfl, 0, rfl, 0, rfl, trivial⟩ rfl rfl rfl <| JM.nil <| qv _ (V.fad Try.underlying67 rfl nz54 rfl) <| qv (.slice ad2212 l2211.length cp2213) (V.ld rfl (Ld.sc sc54 (Rd.cl 2 rfl rfl))) <| qm (ii i2210) rfl <| qv (ii (IntKind.wrap .i64 (i2210 + 1))) (V.add rfl rfl) ?_
     obtain ⟨x2296, hx2297, h2270⟩ := ob h2270
     obtain ⟨p2298, p2299, p2300⟩ := getI_some hx2297
     obtain ⟨g2301, e2302⟩ := hn2215 (fun e => by rw [e] at p2299; simp at p2299)
     refine qv _ (V.iad Try.underlying54 sz3 rfl e2302 rfl p2298 p2300) <| qv (ii x2296) (V.ld rfl (Ld.sc sc3 (Rd.row 0 rfl e2302 p2299 (q := 0) (by simp [Tp.size]) (by decide) (by rintro _ rfl; rfl)))) <| qv _ (V.fad Try.underlying67 rfl nz54 rfl) <| qv (.slice ad2212 l2211.length cp2213) (V.ld rfl (Ld.sc sc54 (Rd.cl 2 rfl rfl))) <| qm (ii i2210) rfl ?_
     obtain ⟨x2303, hx2304, h2270⟩ := ob h2270
     obtain ⟨p2305, p2306, p2307⟩ := getI_some hx2304
     obtain ⟨g2308, e2309⟩ := hn2215 (fun e => by rw [e] at p2306; simp at p2306)
     refine qv _ (V.iad Try.underlying54 sz3 rfl e2309 rfl p2305 p2307) <| qv (ii x2303) (V.ld rfl (Ld.sc sc3 (Rd.row 0 rfl e2309 p2306 (q := 0) (by simp [Tp.size]) (by decide) (by rintro _ rfl; rfl)))) <| qv (ii (IntKind.wrap .i64 (x2296 + x2303))) (V.add rfl rfl) ?_
     obtain ⟨x2310, hx2311, h2270⟩ := ob h2270
     obtain ⟨p2312, p2313, p2314⟩ := getI_some hx2311
     obtain ⟨g2315, e2316⟩ := hn2215 (fun e => by rw [e] at p2313; simp at p2313)
     refine qv _ (V.iad Try.underlying54 sz3 rfl e2316 rfl p2312 p2314) <| JQ.nil ?_
     obtain ⟨z2317, hz2318, h2270⟩ := ob h2270
     have e2319 := Option.some.inj hz2318
     have hl2320 : z2317.length = l2211.length := by rw [← e2319, List.length_set]
     refine J.op rfl (A.storeR (ty := (.int .i64)) (q := 0) (y0 := IntKind.wrap .i64 (x2296 + x2303)) (zs := z2317) sz3 rfl rfl rfl rfl e2316 p2313 (by simp [Tp.size]) (by decide) (by rintro _ rfl; exact rfl) e2319) ?_
     rintro _ _ _ ⟨rfl, rfl, rfl⟩
     have hn2321 : z2317 ≠ [] → _ := fun h => hn2215 (fun e => h (List.length_eq_zero_iff.1 (by rw [hl2320]; exact List.length_eq_zero_iff.2 e)))
     refine J.nil <| CJ.region <| jv (ii (IntKind.wrap .i64 (i2210 + 1))) (V.add rfl rfl) <| jm (ii (IntKind.wrap .i64 (i2210 + 1))) rfl <| J.front 3 rfl <| J.front 3 rfl <| J.front 3 rfl ?_
     refine J.nil ?_
     obtain rfl := si h2270
     exact ⟨rfl, ⟨IntKind.wrap .i64 (i2210 + 1), z2317, ad2212, cp2213, rfl, ⟨rfl, rfl, rfl, rfl, rfl, rfl, trivial⟩, rfl, (by rw [hl2320]; first | done | rfl)⟩⟩
   refine CJ.front 3 rfl <| CJ.front 3 rfl <| CJ.front 3 rfl <| CJ.exit ?_
   obtain rfl := si h2270
   refine ⟨nofun, fun e => ?_⟩
   subst e
   exact ⟨rfl, ⟨l2211, ad2212, cp2213, rfl, ⟨rfl, rfl, rfl, rfl, trivial⟩, rfl, rfl⟩⟩
 rintro ρ _ _ ⟨l2149, ad2150, cp2151, rfl, hf2322, rfl, rfl⟩
 obtain ⟨ρ, rfl⟩ := hf2322.ex
 refine PJ.front 3 rfl <| PJ.wit Row.hn fun hn2153 => PJ.done <| cr <| jv _ (V.fad Try.underlying67 rfl nz54 rfl) <| jv (.slice ad2150 l2149.length cp2151) (V.ld rfl (Ld.sc sc54 (Rd.cl 2 rfl rfl))) ?_
 refine J.persist (Hp.nil_le _) (by decide) fun K2324 hK2325 f2326 => ?_
 obtain ⟨r2327, hr2328, h⟩ := ob h
 refine J.op rfl (A.call (L1 := []) Try.call30 rfl (slices_Clone_int_int_ok f2326 hr2328) rfl rfl) ?_
 rintro _ _ _ ⟨v2333, _, rfl, ⟨⟨l2329, ad2330, cp2331, rfl, rfl, rfl⟩, rfl⟩, _, rfl⟩
 refine J.wit Row.hn fun hn2332 => ja (.slice ad2330 l2329.length cp2331) rfl <| J.nil <| CJ.seq <| cr <| jm (.slice adxb_0 xb.length cpxb_0) rfl ?_
 refine jv (ii (((xb.length : Nat) : Int))) (V.len Try.underlying62 rfl) <| jm (ii 0) rfl <| J.nil ?_
 obtain ⟨o2586, ho2587, h⟩ := ob h
 refine CJ.meetN (fun ρ K' L' => ∃ (l2581 : (List Int)) (ad2582 : Option Addr) (cp2583 : Nat), l2581 = o2586 ∧ Fits [(6, .pointer (some ⟨b1422, 0, none⟩)), (7, .pointer (some ⟨nb1501, 0, none⟩))] ρ ∧ K2324 = K' ∧ L' = Cl b1422 67 [nos, nos] :: Cl nb1501 67 [.slice ad2150 l2149.length cp2151, .slice ad2582 l2581.length cp2583] :: Row Hp.nil 3 (.int .i64) (.slice ad2582 l2581.length cp2583) l2581 :: F) ?_ ?_
 · refine CJ.block <| CJ.front 3 rfl <| CJ.front 1 rfl <| CJ.front 3 rfl <| CJ.front 3 rfl <| CJ.loop (fun s ρ K' L' => ∃ (l2668 : (List Int)) (i2673 : Int) (l2674 : (List Int)) (ad2669 : Option Addr) (cp2670 : Nat) (ad2675 : Option Addr) (cp2676 : Nat), (l2668, i2673, l2674) = s ∧ Fits [(2, .func (.func 21) #[] #[]), (6, .pointer (some ⟨b1422, 0, none⟩)), (7, .pointer (some ⟨nb1501, 0, none⟩)), (11, .slice ad2669 l2668.length cp2670), (60, .slice adxb_0 xb.length cpxb_0), (61, ii (((xb.length : Nat) : Int))), (62, ii i2673)] ρ ∧ K2324 = K' ∧ L' = Cl b1422 67 [nos, nos] :: Cl nb1501 67 [.slice ad2150 l2149.length cp2151, .slice ad2675 l2674.length cp2676] :: Row Hp.nil 3 (.int .i64) (.slice ad2669 l2668.length cp2670) l2668 :: Row Hp.nil 3 (.int .i64) (.slice ad2675 l2674.length cp2676) l2674 :: F) ho2587 ⟨l2329, 0, l1507, ad2330, cp2331, ad1508, cp1509, rfl, ⟨rfl, rfl, rfl, rfl, rfl, rfl, rfl, trivial⟩, rfl, rfl⟩ ?_
   rintro s ρ _ _ r2762 ⟨l2668, i2673, l2674, ad2669, cp2670, ad2675, cp2676, rfl, hf2760, rfl, rfl⟩ h2759
   obtain ⟨ρ, rfl⟩ := hf2760.ex
   refine CJ.front 2 rfl <| CJ.wit Row.hn fun hn2672 => CJ.front 3 rfl <| CJ.wit Row.hn fun hn2678 => cr <| jv (.bool (decide (i2673 < (((xb.length : Nat) : Int))))) (V.lss rfl rfl) ?_
   refine J.nil <| CJ.seq <| cc rfl h2759 (fun hc2763 h2759 => ?_) fun hc2763 h2759 => ?_
   · refine CJ.skip <| CJ.seq <| CJ.block <| cr <| jm (ii i2673) rfl ?_
     obtain ⟨x2764, hx2765, h2759⟩ := ob h2759
     obtain ⟨p2766, p2767, p2768⟩ := getI_some hx2765
     obtain ⟨b2769, o2770, e2771, a2772⟩ := ((fxb_0.mono hK2325)).at p2767
     refine jv _ (V.iad Try.underlying62 sz41 rfl e2771 rfl p2766 p2768) <| jv (.agg #[ii x2764.1, ii x2764.2]) (V.ld rfl (Ld.aggK (cs := [ii x2764.1, ii x2764.2]) Try.underlying41 sz41 rfl ⟨((a2772).fst).int, (((a2772).snd).one).int, trivial⟩ (Hp.le_refl _))) <| jal inf41 [ii 0, ii 0] rfl fun b2773 => ja (ii i2673) rfl <| js [ii x2764.1, ii x2764.2] sz41 rfl rfl rfl rfl rfl rfl <| J.nil <| CJ.seq ?_
     refine CJ.region <| jm (.func (.func 21) #[] #[]) rfl <| jv (.agg #[ii x2764.1, ii x2764.2]) (V.ld rfl (Ld.agg (cs := [ii x2764.1, ii x2764.2]) Try.underlying41 sz41 rfl (Rd.cls 0 0 rfl rfl))) ?_
     obtain ⟨r2774, hr2775, h2759⟩ := ob h2759
     refine J.op rfl (A.call (L1 := []) Try.call21 rfl (graph_New_1_ok hr2775) rfl rfl) ?_
     rintro _ _ _ ⟨v2777, _, rfl, ⟨⟨i2776, rfl, rfl, rfl⟩, rfl⟩, _, rfl⟩
     refine ja (ii i2776) rfl <| J.nil <| CJ.seq <| CJ.mix [Cl b2773 41 [ii x2764.1, ii x2764.2], Row Hp.nil 3 (.int .i64) (.slice ad2675 l2674.length cp2676) l2674, Row Hp.nil 3 (.int .i64) (.slice ad2669 l2668.length cp2670) l2668, Cl b1422 67 [nos, nos], Cl nb1501 67 [.slice ad2150 l2149.length cp2151, .slice ad2675 l2674.length cp2676]] [] [0, 1, 2, 3, 4, 5, 6, 7] [8] mixO (by decide +kernel) ⟨0, rfl, 0, rfl, 0, rfl, 0, rfl, 0, rfl, trivial⟩ rfl rfl rfl <| JM.nil <| qv _ (V.fad Try.underlying67 rfl nz54 rfl) <| qv (.slice ad2675 l2674.length cp2676) (V.ld rfl (Ld.sc sc54 (Rd.cl 4 rfl rfl))) ?_
     refine qm (.slice ad2669 l2668.length cp2670) rfl <| qm (ii i2776) rfl ?_
     obtain ⟨x2794, hx2795, h2759⟩ := ob h2759
     obtain ⟨p2796, p2797, p2798⟩ := getI_some hx2795
     obtain ⟨g2799, e2800⟩ := hn2672 (fun e => by rw [e] at p2797; simp at p2797)
     refine qv _ (V.iad Try.underlying54 sz3 rfl e2800 rfl p2796 p2798) <| qv (ii x2794) (V.ld rfl (Ld.sc sc3 (Rd.row 2 rfl e2800 p2797 (q := 0) (by simp [Tp.size]) (by decide) (by rintro _ rfl; rfl)))) <| qm (ii i2673) rfl ?_
     obtain ⟨x2801, hx2802, h2759⟩ := ob h2759
     obtain ⟨p2803, p2804, p2805⟩ := getI_some hx2802
     obtain ⟨g2806, e2807⟩ := hn2678 (fun e => by rw [e] at p2804; simp at p2804)
     refine qv _ (V.iad Try.underlying54 sz3 rfl e2807 rfl p2803 p2805) <| JQ.nil <| J.front 1 rfl ?_
     obtain ⟨z2808, hz2809, h2759⟩ := ob h2759
     have e2810 := Option.some.inj hz2809
     have hl2811 : z2808.length = l2674.length := by rw [← e2810, List.length_set]
     refine J.op rfl (A.storeR (ty := (.int .i64)) (q := 0) (y0 := i2673) (zs := z2808) sz3 rfl rfl rfl rfl e2807 p2804 (by simp [Tp.size]) (by decide) (by rintro _ rfl; exact rfl) e2810) ?_
     rintro _ _ _ ⟨rfl, rfl, rfl⟩
     have hn2812 : z2808 ≠ [] → _ := fun h => hn2678 (fun e => h (List.length_eq_zero_iff.1 (by rw [hl2811]; exact List.length_eq_zero_iff.2 e)))
     refine J.nil <| CJ.region <| jm (.slice ad2669 l2668.length cp2670) rfl <| jm (ii i2776) rfl ?_
     obtain ⟨x2813, hx2814, h2759⟩ := ob h2759
     obtain ⟨p2815, p2816, p2817⟩ := getI_some hx2814
     obtain ⟨g2818, e2819⟩ := hn2672 (fun e => by rw [e] at p2816; simp at p2816)
     refine jv _ (V.iad Try.underlying54 sz3 rfl e2819 rfl p2815 p2817) <| jv (ii x2813) (V.ld rfl (Ld.sc sc3 (Rd.row 2 rfl e2819 p2816 (q := 0) (by simp [Tp.size]) (by decide) (by rintro _ rfl; rfl)))) <| jv (ii (IntKind.wrap .i64 (x2813 + 1))) (V.add rfl rfl) ?_
     obtain ⟨x2820, hx2821, h2759⟩ := ob h2759
     obtain ⟨p2822, p2823, p2824⟩ := getI_some hx2821
     obtain ⟨g2825, e2826⟩ := hn2672 (fun e => by rw [e] at p2823; simp at p2823)
     refine jv _ (V.iad Try.underlying54 sz3 rfl e2826 rfl p2822 p2824) <| J.front 2 rfl ?_
     obtain ⟨z2827, hz2828, h2759⟩ := ob h2759
     have e2829 := Option.some.inj hz2828
     have hl2830 : z2827.length = l2668.length := by rw [← e2829, List.length_set]
     refine J.op rfl (A.storeR (ty := (.int .i64)) (q := 0) (y0 := IntKind.wrap .i64 (x2813 + 1)) (zs := z2827) sz3 rfl rfl rfl rfl e2826 p2823 (by simp [Tp.size]) (by decide) (by rintro _ rfl; exact rfl) e2829) ?_
     rintro _ _ _ ⟨rfl, rfl, rfl⟩
     have hn2831 : z2827 ≠ [] → _ := fun h => hn2672 (fun e => h (List.length_eq_zero_iff.1 (by rw [hl2830]; exact List.length_eq_zero_iff.2 e)))
     refine J.nil <| CJ.region <| jv (ii (IntKind.wrap .i64 (i2673 + 1))) (V.add rfl rfl) <| jm (ii (IntKind.wrap .i64 (i2673 + 1))) rfl <| J.dropAt 2 rfl <| J.front 1 rfl <| J.front 1 rfl ?_
     refine J.front 3 rfl <| J.front 3 rfl <| J.nil ?_
     obtain rfl := si h2759
     exact ⟨rfl, ⟨z2827, IntKind.wrap .i64 (i2673 + 1), z2808, ad2669, cp2670, ad2675, cp2676, rfl, ⟨rfl, rfl, rfl, (by rw [hl2830]; rfl), rfl, rfl, rfl, trivial⟩, rfl, (by rw [hl2811, hl2830]; first | done | rfl)⟩⟩
   refine CJ.dropAt 1 rfl <| CJ.front 2 rfl <| CJ.front 2 rfl <| CJ.exit ?_
   obtain rfl := si h2759
   refine ⟨nofun, fun e => ?_⟩
   subst e
   exact ⟨rfl, ⟨l2674, ad2675, cp2676, rfl, ⟨rfl, rfl, trivial⟩, rfl, rfl⟩⟩
 rintro ρ _ _ ⟨l2581, ad2582, cp2583, rfl, hf2832, rfl, rfl⟩
 obtain ⟨ρ, rfl⟩ := hf2832.ex
 refine PJ.front 2 rfl <| PJ.wit Row.hn fun hn2585 => PJ.done <| cr <| jv (.agg #[.slice ad2150 l2149.length cp2151, .slice ad2582 l2581.length cp2583]) (V.ld rfl (Ld.agg (cs := [.slice ad2150 l2149.length cp2151, .slice ad2582 l2581.length cp2583]) Try.underlying67 sz67 rfl (Rd.cls 2 0 rfl rfl))) <| J.front 1 rfl ?_
 refine js [.slice ad2150 l2149.length cp2151, .slice ad2582 l2581.length cp2583] sz67 rfl rfl rfl rfl rfl rfl <| J.nil <| CJ.ret ?_
 obtain rfl := si h
 exact ⟨_, _, Res.one rfl ⟨_, _, rfl, Ld.agg (cs := [.slice ad2150 l2149.length cp2151, .slice ad2582 l2581.length cp2583]) Try.underlying67 sz67 rfl (Rd.cls 0 0 rfl rfl)⟩, ⟨l2149, l2581, ad2150, cp2151, ad2582, cp2583, rfl, rfl, f2326, rfl⟩, hK2325, fun w hs => (Sep.dropAt 1 rfl (Sep.dropAt 0 rfl hs))⟩

noncomputable def fn_graph_New_2 (xa : (Int × Int)) : Option Int :=
  some (xa.2)
set_option maxRecDepth 100000 in
set_option maxHeartbeats 4000000 in
theorem graph_New_2_ok {K : Hp} {xa : (Int × Int)}   {r : Int} (h : fn_graph_New_2 xa = some r) :
    Tr Try.prog 22 #[.agg #[ii xa.1, ii xa.2]] K [] (fun v K' L' => (∃ (i2 : Int), i2 = r ∧ ii i2 = v ∧ L' = []) ∧ K = K') := by
 refine Tr.k <| Tr.of Try.func22 rfl Try.ntmps22 rfl fun E F => ?_
 unfold fn_graph_New_2 at h
 refine cr <| jbx [ii xa.1, ii xa.2] rfl rfl fun b3 => ja (ii 0) rfl <| J.nil <| CJ.seq <| CJ.region ?_
 refine jv _ (V.fad Try.underlying41 rfl nz3 rfl) <| jv (ii xa.2) (V.ld rfl (Ld.sc sc3 (Rd.cl 0 rfl rfl))) <| ja (ii xa.2) rfl <| J.nil <| CJ.ret ?_
 obtain rfl := si h
 exact ⟨_, _, Res.one rfl rfl, ⟨xa.2, rfl, rfl, rfl⟩, (Hp.le_refl _), fun w hs => (Sep.dropAt 0 rfl hs)⟩
end Go.Proofs.Ytelekeapfgfknaa
