/- What Go functions answer: generated. -/
import Derived.Test.YtelekeapfgfknaaGreatF5
namespace Go.Proofs.YtelekeapfgfknaaGreat
open Go.RowKit
set_option linter.unusedVariables false
set_option linter.unnecessarySimpa false
set_option linter.unusedSimpArgs false
set_option maxRecDepth 20000
noncomputable def fn_law27_ConsTells_l1 (l556 : (List (Int × Int × (Int × Int × Int × Int × Bool)))) (l652 : (List (List UInt8))) : Int → Option (Int ⊕ (Unit ⊕ Bool)) := fun (i839 : Int) => cond (decide (i839 < (((l556.length : Nat) : Int)))) ((getI l652 i839).bind fun x908 => (getI l556 i839).bind fun x915 => (fn_ref26_Edge ((x915.1, x915.2.1, (x915.2.2.1, x915.2.2.2.1, x915.2.2.2.2.1, x915.2.2.2.2.2.1, x915.2.2.2.2.2.2)))).bind fun s924 => cond (!decide (x908 = s924)) (some (.inr ((.inr (false))))) (some (.inl (IntKind.wrap .i64 (i839 + 1))))) (some (.inr ((.inl ()))))
noncomputable def fn_law27_ConsTells (xa : (Int × Int × (List (Int × Int)) × (List (List (Int × Bool))) × (List (Int × Bool)) × (List (Int × (List (Int × Int)) × (List (List (Int × Bool))) × (List (Int × Bool)))) × (List ((List (Int × Int × Int × Int × Bool)) × (Int × Int × Int × (List Int) × (List Int) × (List Int)))))) (xb : Int) : Option Bool :=
  (fn_ref20_Small (xa.1, xa.2.1, xa.2.2.1, xa.2.2.2.1, xa.2.2.2.2.1, xa.2.2.2.2.2.1, xa.2.2.2.2.2.2)).bind fun t531 => cond (!t531) ((fn_law27_awake).bind fun t538 => some (t538)) ((fn_cons_Of_ap0_iiiiiii (xa.1, xa.2.1, xa.2.2.1, xa.2.2.2.1, xa.2.2.2.2.1, xa.2.2.2.2.2.1, xa.2.2.2.2.2.2) 0 0 0 0 0 0 0).bind fun (l545, i546) => (fn_ref27_Of (xa.1, xa.2.1, xa.2.2.1, xa.2.2.2.1, xa.2.2.2.2.1, xa.2.2.2.2.2.1, xa.2.2.2.2.2.2)).bind fun l556 => (fn_ref22_All (xa.1, xa.2.1, xa.2.2.1, xa.2.2.2.1, xa.2.2.2.2.1, xa.2.2.2.2.2.1, xa.2.2.2.2.2.2)).bind fun l566 => (fn_ref27_Same l545 l556).bind fun t582 => (cond (!t582) (some (true)) ((fn_tick_Counter_Of_p0c3_iiiiiii 0 0 0 i546 0 0 0).bind fun i598 => some (decide (i598 < (((l566.length : Nat) : Int)))))).bind fun t593 => (cond (t593) (some (true)) ((fn_tick_Counter_Of_p0c3_iiiiiii 0 0 0 i546 0 0 0).bind fun i614 => some (decide ((IntKind.wrap .i64 ((((l566.length : Nat) : Int)) + (((l556.length : Nat) : Int)))) < i614)))).bind fun t609 => (cond (t609) (some (true)) ((fn_tick_Counter_Total_p0_iiiiiii 0 0 0 i546 0 0 0).bind fun i636 => (fn_tick_Counter_Of_p0c3_iiiiiii 0 0 0 i546 0 0 0).bind fun i642 => some (!decide (i636 = i642)))).bind fun t631 => cond (t631) (some (false)) ((fn_cons_Lines l545).bind fun l652 => cond (!decide ((((l652.length : Nat) : Int)) = (((l556.length : Nat) : Int)))) (some (false)) ((loop (fn_law27_ConsTells_l1 l556 l652) 0 : Option (Unit ⊕ Bool)).bind fun o => match o with | .inr r => some r | .inl () => cond ((decide (xb < 0)) || (decide ((((l566.length : Nat) : Int)) ≤ xb))) ((fn_cons_At (xa.1, xa.2.1, xa.2.2.1, xa.2.2.2.1, xa.2.2.2.2.1, xa.2.2.2.2.2.1, xa.2.2.2.2.2.2) xb).bind fun l938 => (cond (decide ((((l938.length : Nat) : Int)) = 0)) ((fn_law27_awake).bind fun t958 => some (t958)) (some (false))).bind fun t953 => some (t953)) ((getI l566 xb).bind fun x1008 => (fn_cons_At (xa.1, xa.2.1, xa.2.2.1, xa.2.2.2.1, xa.2.2.2.2.1, xa.2.2.2.2.2.1, xa.2.2.2.2.2.2) xb).bind fun l1017 => (fn_ref27_At (xa.1, xa.2.1, xa.2.2.1, xa.2.2.2.1, xa.2.2.2.2.1, xa.2.2.2.2.2.1, xa.2.2.2.2.2.2) (x1008.1, x1008.2.1, x1008.2.2)).bind fun l1027 => (fn_ref27_Same l1017 l1027).bind fun t1043 => cond (t1043) ((fn_law27_awake).bind fun t1050 => some (t1050)) (some (false))))))
set_option maxRecDepth 100000 in
set_option maxHeartbeats 4000000 in
theorem law27_ConsTells_ok {K : Hp} {xa : (Int × Int × (List (Int × Int)) × (List (List (Int × Bool))) × (List (Int × Bool)) × (List (Int × (List (Int × Int)) × (List (List (Int × Bool))) × (List (Int × Bool)))) × (List ((List (Int × Int × Int × Int × Bool)) × (Int × Int × Int × (List Int) × (List Int) × (List Int)))))} {xb : Int} {adxa_2 : Option Addr} {cpxa_2 : Nat} {adxa_3 : Option Addr} {cpxa_3 : Nat} {adxa_4 : Option Addr} {cpxa_4 : Nat} {adxa_5 : Option Addr} {cpxa_5 : Nat} {adxa_6 : Option Addr} {cpxa_6 : Nat} (fxa_2 : Is K (.sl (.cons (.int .i64) (.one (.int .i64)))) [.slice adxa_2 xa.2.2.1.length cpxa_2] xa.2.2.1) (fxa_3 : Is K (.sl (.one (.sl (.cons (.int .i64) (.one .bool))))) [.slice adxa_3 xa.2.2.2.1.length cpxa_3] xa.2.2.2.1) (fxa_4 : Is K (.sl (.cons (.int .i64) (.one .bool))) [.slice adxa_4 xa.2.2.2.2.1.length cpxa_4] xa.2.2.2.2.1) (fxa_5 : Is K (.sl (.cons (.int .i64) (.cons (.sl (.cons (.int .i64) (.one (.int .i64)))) (.cons (.sl (.one (.sl (.cons (.int .i64) (.one .bool))))) (.one (.one (.sl (.cons (.int .i64) (.one .bool))))))))) [.slice adxa_5 xa.2.2.2.2.2.1.length cpxa_5] xa.2.2.2.2.2.1) (fxa_6 : Is K (.sl (.cons (.sl (.cons (.int .i64) (.cons (.int .i64) (.cons (.int .i64) (.cons (.int .i64) (.one .bool)))))) (.one (.cons (.int .i64) (.cons (.int .i64) (.cons (.int .i64) (.cons (.sl (.int .i64)) (.cons (.sl (.int .i64)) (.one (.sl (.int .i64))))))))))) [.slice adxa_6 xa.2.2.2.2.2.2.length cpxa_6] xa.2.2.2.2.2.2) {r : Bool} (h : fn_law27_ConsTells xa xb = some r) :
    Tr Tryz.prog 3 #[.agg #[ii xa.1, ii xa.2.1, .slice adxa_2 xa.2.2.1.length cpxa_2, .slice adxa_3 xa.2.2.2.1.length cpxa_3, .slice adxa_4 xa.2.2.2.2.1.length cpxa_4, .slice adxa_5 xa.2.2.2.2.2.1.length cpxa_5, .slice adxa_6 xa.2.2.2.2.2.2.length cpxa_6], ii xb] K [] (fun v K' L' => (∃ (t527 : Bool), t527 = r ∧ .bool t527 = v ∧ L' = []) ∧ K = K') := by
 refine Tr.k <| Tr.of Tryz.func3 rfl Tryz.ntmps3 rfl fun E F => ?_
 unfold fn_law27_ConsTells at h
 refine cr <| jbx [ii xa.1, ii xa.2.1, .slice adxa_2 xa.2.2.1.length cpxa_2, .slice adxa_3 xa.2.2.2.1.length cpxa_3, .slice adxa_4 xa.2.2.2.2.1.length cpxa_4, .slice adxa_5 xa.2.2.2.2.2.1.length cpxa_5, .slice adxa_6 xa.2.2.2.2.2.2.length cpxa_6] rfl rfl fun b528 => ja (.bool false) rfl <| J.nil <| CJ.seq <| CJ.seq ?_
 refine CJ.region <| jv (.agg #[ii xa.1, ii xa.2.1, .slice adxa_2 xa.2.2.1.length cpxa_2, .slice adxa_3 xa.2.2.2.1.length cpxa_3, .slice adxa_4 xa.2.2.2.2.1.length cpxa_4, .slice adxa_5 xa.2.2.2.2.2.1.length cpxa_5, .slice adxa_6 xa.2.2.2.2.2.2.length cpxa_6]) (V.ld rfl (Ld.agg (cs := [ii xa.1, ii xa.2.1, .slice adxa_2 xa.2.2.1.length cpxa_2, .slice adxa_3 xa.2.2.2.1.length cpxa_3, .slice adxa_4 xa.2.2.2.2.1.length cpxa_4, .slice adxa_5 xa.2.2.2.2.2.1.length cpxa_5, .slice adxa_6 xa.2.2.2.2.2.2.length cpxa_6]) Tryz.underlying30 sz30 rfl (Rd.cls 0 0 rfl rfl))) ?_
 obtain ⟨r529, hr530, h⟩ := ob h
 refine J.op rfl (A.call (L1 := []) Tryz.call5 rfl (ref20_Small_ok fxa_2 fxa_3 fxa_4 fxa_5 fxa_6 hr530) rfl rfl) ?_
 rintro _ _ _ ⟨v532, _, rfl, ⟨⟨t531, rfl, rfl, rfl⟩, rfl⟩, _, rfl⟩
 refine jv (.bool (!t531)) (V.not rfl) <| J.nil <| cc rfl h (fun hc535 h => ?_) fun hc535 h => ?_
 · refine CJ.seq <| CJ.region ?_
   obtain ⟨r536, hr537, h⟩ := ob h
   refine J.op rfl (A.call (L1 := []) Tryz.call6 rfl (law27_awake_ok hr537) rfl rfl) ?_
   rintro _ _ _ ⟨v539, _, rfl, ⟨⟨t538, rfl, rfl, rfl⟩, rfl⟩, _, rfl⟩
   refine ja (.bool t538) rfl <| J.nil <| CJ.ret ?_
   obtain rfl := si h
   exact ⟨_, _, Res.one rfl rfl, ⟨t538, rfl, rfl, rfl⟩, (Hp.le_refl _), fun w hs => (Sep.dropAt 0 rfl hs)⟩
 refine CJ.skip <| cr <| jal inf35 [ii 0, ii 0, ii 0, ii 0, ii 0, ii 0, ii 0] rfl fun b542 => J.nil <| CJ.seq <| CJ.region ?_
 refine jv (.agg #[ii xa.1, ii xa.2.1, .slice adxa_2 xa.2.2.1.length cpxa_2, .slice adxa_3 xa.2.2.2.1.length cpxa_3, .slice adxa_4 xa.2.2.2.2.1.length cpxa_4, .slice adxa_5 xa.2.2.2.2.2.1.length cpxa_5, .slice adxa_6 xa.2.2.2.2.2.2.length cpxa_6]) (V.ld rfl (Ld.agg (cs := [ii xa.1, ii xa.2.1, .slice adxa_2 xa.2.2.1.length cpxa_2, .slice adxa_3 xa.2.2.2.1.length cpxa_3, .slice adxa_4 xa.2.2.2.2.1.length cpxa_4, .slice adxa_5 xa.2.2.2.2.2.1.length cpxa_5, .slice adxa_6 xa.2.2.2.2.2.2.length cpxa_6]) Tryz.underlying30 sz30 rfl (Rd.cls 1 0 rfl rfl))) ?_
 obtain ⟨r543, hr544, h⟩ := ob h
 refine J.op rfl (A.call (L1 := [Cl b542 35 [ii 0, ii 0, ii 0, ii 0, ii 0, ii 0, ii 0]]) Tryz.call7 rfl (cons_Of_ap0_iiiiiii_ok fxa_2 fxa_3 fxa_4 fxa_5 fxa_6 hr544) rfl rfl) ?_
 rintro _ _ _ ⟨v550, _, rfl, ⟨⟨l545, i546, ad547, cp548, rfl, rfl, rfl⟩, rfl⟩, _, rfl⟩
 refine J.front 1 rfl <| J.wit Row.hn fun hn549 => ja (.slice ad547 l545.length cp548) rfl <| J.nil <| cr <| jv (.agg #[ii xa.1, ii xa.2.1, .slice adxa_2 xa.2.2.1.length cpxa_2, .slice adxa_3 xa.2.2.2.1.length cpxa_3, .slice adxa_4 xa.2.2.2.2.1.length cpxa_4, .slice adxa_5 xa.2.2.2.2.2.1.length cpxa_5, .slice adxa_6 xa.2.2.2.2.2.2.length cpxa_6]) (V.ld rfl (Ld.agg (cs := [ii xa.1, ii xa.2.1, .slice adxa_2 xa.2.2.1.length cpxa_2, .slice adxa_3 xa.2.2.2.1.length cpxa_3, .slice adxa_4 xa.2.2.2.2.1.length cpxa_4, .slice adxa_5 xa.2.2.2.2.2.1.length cpxa_5, .slice adxa_6 xa.2.2.2.2.2.2.length cpxa_6]) Tryz.underlying30 sz30 rfl (Rd.cls 2 0 rfl rfl))) ?_
 obtain ⟨r554, hr555, h⟩ := ob h
 refine J.op rfl (A.call (L1 := []) Tryz.call8 rfl (ref27_Of_ok fxa_2 fxa_3 fxa_4 fxa_5 fxa_6 hr555) rfl rfl) ?_
 rintro _ _ _ ⟨v560, _, rfl, ⟨⟨l556, ad557, cp558, rfl, rfl, rfl⟩, rfl⟩, _, rfl⟩
 refine J.wit Row.hn fun hn559 => ja (.slice ad557 l556.length cp558) rfl <| J.nil <| cr <| jv (.agg #[ii xa.1, ii xa.2.1, .slice adxa_2 xa.2.2.1.length cpxa_2, .slice adxa_3 xa.2.2.2.1.length cpxa_3, .slice adxa_4 xa.2.2.2.2.1.length cpxa_4, .slice adxa_5 xa.2.2.2.2.2.1.length cpxa_5, .slice adxa_6 xa.2.2.2.2.2.2.length cpxa_6]) (V.ld rfl (Ld.agg (cs := [ii xa.1, ii xa.2.1, .slice adxa_2 xa.2.2.1.length cpxa_2, .slice adxa_3 xa.2.2.2.1.length cpxa_3, .slice adxa_4 xa.2.2.2.2.1.length cpxa_4, .slice adxa_5 xa.2.2.2.2.2.1.length cpxa_5, .slice adxa_6 xa.2.2.2.2.2.2.length cpxa_6]) Tryz.underlying30 sz30 rfl (Rd.cls 3 0 rfl rfl))) ?_
 obtain ⟨r564, hr565, h⟩ := ob h
 refine J.op rfl (A.call (L1 := []) Tryz.call9 rfl (ref22_All_ok fxa_2 fxa_3 fxa_4 fxa_5 fxa_6 hr565) rfl rfl) ?_
 rintro _ _ _ ⟨v570, _, rfl, ⟨⟨l566, ad567, cp568, rfl, rfl, rfl⟩, rfl⟩, _, rfl⟩
 refine J.wit Row.hn fun hn569 => ja (.slice ad567 l566.length cp568) rfl <| J.nil <| CJ.seq <| cr <| jm (.slice ad547 l545.length cp548) rfl ?_
 refine jm (.slice ad557 l556.length cp558) rfl ?_
 obtain ⟨r574, hr575, h⟩ := ob h
 refine J.front 1 rfl <| J.front 2 rfl <| J.op rfl (A.call (L1 := [Row Hp.nil 51 (.cons (.int .i64) (.cons (.int .i64) (.one (.cons (.int .i64) (.cons (.int .i64) (.cons (.int .i64) (.cons (.int .i64) (.one .bool)))))))) (.slice ad547 l545.length cp548) l545, Row Hp.nil 51 (.cons (.int .i64) (.cons (.int .i64) (.one (.cons (.int .i64) (.cons (.int .i64) (.cons (.int .i64) (.cons (.int .i64) (.one .bool)))))))) (.slice ad557 l556.length cp558) l556]) Tryz.call10 rfl (Tr.lend (Hp.nil_le _) (by decide) (fun K576 hK577 f578 => Tr.lend (Hp.nil_le _) (by decide) (fun K579 hK580 f581 => ref27_Same_ok (f578.mono hK580) f581 hr575))) rfl rfl) ?_
 rintro _ _ _ ⟨v583, _, rfl, ⟨⟨_, ⟨_, ⟨t582, rfl, rfl, rfl⟩, rfl⟩, rfl⟩, rfl⟩, _, rfl⟩
 refine jv (.bool (!t582)) (V.not rfl) <| jm (.bool (!t582)) rfl <| J.cut 5 ?_
 obtain ⟨t593, ht594, h⟩ := ob h
 refine jmeet [(30, .bool t593), (1, ii xb), (2, .pointer (some ⟨b528, 0, none⟩)), (5, .pointer (some ⟨b542, 0, none⟩)), (6, .slice ad547 l545.length cp548), (7, .slice ad557 l556.length cp558), (8, .slice ad567 l566.length cp568)] ?_ ?_
 · rcases bt (!t582) with hc595 | hc595
   · have ht594 := ct hc595 ht594
     refine J.skip rfl rfl rfl rfl hc595 <| J.skip rfl rfl rfl rfl hc595 <| J.skip rfl rfl rfl rfl hc595 <| J.skip rfl rfl rfl rfl hc595 <| jv (.bool true) (V.pickT rfl hc595 rfl) <| J.nil ?_
     obtain rfl := si ht594
     exact ⟨rfl, ⟨rfl, rfl, rfl, rfl, rfl, rfl, rfl, trivial⟩, rfl, rfl⟩
   have ht594 := cf hc595 ht594
   refine J.run rfl rfl rfl hc595 ?_
   obtain ⟨r596, hr597, ht594⟩ := ob ht594
   refine J.front 3 rfl <| J.op rfl (A.call (L1 := [Cl b542 35 [ii 0, ii 0, ii 0, ii i546, ii 0, ii 0, ii 0]]) Tryz.call11 rfl (tick_Counter_Of_p0c3_iiiiiii_ok hr597) rfl rfl) ?_
   rintro _ _ _ ⟨v599, _, rfl, ⟨⟨i598, rfl, rfl, rfl⟩, rfl⟩, _, rfl⟩
   refine J.run rfl rfl rfl hc595 <| jm (.slice ad567 l566.length cp568) rfl <| J.run rfl rfl rfl hc595 <| jv (ii (((l566.length : Nat) : Int))) (V.len Tryz.underlying40 rfl) <| J.run rfl rfl rfl hc595 <| jv (.bool (decide (i598 < (((l566.length : Nat) : Int))))) (V.lss rfl rfl) <| jv (.bool (decide (i598 < (((l566.length : Nat) : Int))))) (V.pickF rfl hc595 rfl) ?_
   refine J.front 4 rfl <| J.front 1 rfl <| J.front 4 rfl <| J.front 4 rfl <| J.front 4 rfl <| J.nil ?_
   obtain rfl := si ht594
   exact ⟨rfl, ⟨rfl, rfl, rfl, rfl, rfl, rfl, rfl, trivial⟩, rfl, rfl⟩
 intro ρ
 refine jm (.bool t593) rfl <| J.cut 8 ?_
 obtain ⟨t609, ht610, h⟩ := ob h
 refine jmeet [(39, .bool t609), (1, ii xb), (2, .pointer (some ⟨b528, 0, none⟩)), (5, .pointer (some ⟨b542, 0, none⟩)), (6, .slice ad547 l545.length cp548), (7, .slice ad557 l556.length cp558), (8, .slice ad567 l566.length cp568)] ?_ ?_
 · rcases bt (t593) with hc611 | hc611
   · have ht610 := ct hc611 ht610
     refine J.skip rfl rfl rfl rfl hc611 <| J.skip rfl rfl rfl rfl hc611 <| J.skip rfl rfl rfl rfl hc611 <| J.skip rfl rfl rfl rfl hc611 <| J.skip rfl rfl rfl rfl hc611 <| J.skip rfl rfl rfl rfl hc611 <| J.skip rfl rfl rfl rfl hc611 ?_
     refine jv (.bool true) (V.pickT rfl hc611 rfl) <| J.nil ?_
     obtain rfl := si ht610
     exact ⟨rfl, ⟨rfl, rfl, rfl, rfl, rfl, rfl, rfl, trivial⟩, rfl, rfl⟩
   have ht610 := cf hc611 ht610
   refine J.run rfl rfl rfl hc611 ?_
   obtain ⟨r612, hr613, ht610⟩ := ob ht610
   refine J.front 3 rfl <| J.op rfl (A.call (L1 := [Cl b542 35 [ii 0, ii 0, ii 0, ii i546, ii 0, ii 0, ii 0]]) Tryz.call11 rfl (tick_Counter_Of_p0c3_iiiiiii_ok hr613) rfl rfl) ?_
   rintro _ _ _ ⟨v615, _, rfl, ⟨⟨i614, rfl, rfl, rfl⟩, rfl⟩, _, rfl⟩
   refine J.run rfl rfl rfl hc611 <| jm (.slice ad567 l566.length cp568) rfl <| J.run rfl rfl rfl hc611 <| jv (ii (((l566.length : Nat) : Int))) (V.len Tryz.underlying40 rfl) <| J.run rfl rfl rfl hc611 <| jm (.slice ad557 l556.length cp558) rfl <| J.run rfl rfl rfl hc611 ?_
   refine jv (ii (((l556.length : Nat) : Int))) (V.len Tryz.underlying36 rfl) <| J.run rfl rfl rfl hc611 <| jv (ii (IntKind.wrap .i64 ((((l566.length : Nat) : Int)) + (((l556.length : Nat) : Int))))) (V.add rfl rfl) <| J.run rfl rfl rfl hc611 <| jv (.bool (decide ((IntKind.wrap .i64 ((((l566.length : Nat) : Int)) + (((l556.length : Nat) : Int)))) < i614))) (V.gtr rfl rfl) <| jv (.bool (decide ((IntKind.wrap .i64 ((((l566.length : Nat) : Int)) + (((l556.length : Nat) : Int)))) < i614))) (V.pickF rfl hc611 rfl) <| J.front 4 rfl ?_
   refine J.front 1 rfl <| J.front 4 rfl <| J.front 4 rfl <| J.front 4 rfl <| J.nil ?_
   obtain rfl := si ht610
   exact ⟨rfl, ⟨rfl, rfl, rfl, rfl, rfl, rfl, rfl, trivial⟩, rfl, rfl⟩
 intro ρ
 refine jm (.bool t609) rfl <| J.cut 4 ?_
 obtain ⟨t631, ht632, h⟩ := ob h
 refine jmeet [(44, .bool t631), (1, ii xb), (2, .pointer (some ⟨b528, 0, none⟩)), (6, .slice ad547 l545.length cp548), (7, .slice ad557 l556.length cp558), (8, .slice ad567 l566.length cp568)] ?_ ?_
 · rcases bt (t609) with hc633 | hc633
   · have ht632 := ct hc633 ht632
     refine J.skip rfl rfl rfl rfl hc633 <| J.skip rfl rfl rfl rfl hc633 <| J.skip rfl rfl rfl rfl hc633 <| jv (.bool true) (V.pickT rfl hc633 rfl) <| J.nil ?_
     obtain rfl := si ht632
     exact ⟨rfl, ⟨rfl, rfl, rfl, rfl, rfl, rfl, trivial⟩, rfl, rfl⟩
   have ht632 := cf hc633 ht632
   refine J.run rfl rfl rfl hc633 ?_
   obtain ⟨r634, hr635, ht632⟩ := ob ht632
   refine J.front 3 rfl <| J.op rfl (A.call (L1 := [Cl b542 35 [ii 0, ii 0, ii 0, ii i546, ii 0, ii 0, ii 0]]) Tryz.call12 rfl (tick_Counter_Total_p0_iiiiiii_ok hr635) rfl rfl) ?_
   rintro _ _ _ ⟨v637, _, rfl, ⟨⟨i636, rfl, rfl, rfl⟩, rfl⟩, _, rfl⟩
   refine J.run rfl rfl rfl hc633 ?_
   obtain ⟨r640, hr641, ht632⟩ := ob ht632
   refine J.op rfl (A.call (L1 := [Cl b542 35 [ii 0, ii 0, ii 0, ii i546, ii 0, ii 0, ii 0]]) Tryz.call11 rfl (tick_Counter_Of_p0c3_iiiiiii_ok hr641) rfl rfl) ?_
   rintro _ _ _ ⟨v643, _, rfl, ⟨⟨i642, rfl, rfl, rfl⟩, rfl⟩, _, rfl⟩
   refine J.run rfl rfl rfl hc633 <| jv (.bool (!decide (i636 = i642))) (V.neq rfl rfl) <| jv (.bool (!decide (i636 = i642))) (V.pickF rfl hc633 rfl) <| J.front 4 rfl <| J.front 1 rfl <| J.front 4 rfl <| J.front 4 rfl ?_
   refine J.front 4 rfl <| J.nil ?_
   obtain rfl := si ht632
   exact ⟨rfl, ⟨rfl, rfl, rfl, rfl, rfl, rfl, trivial⟩, rfl, rfl⟩
 intro ρ
 refine J.nil <| cc rfl h (fun hc646 h => ?_) fun hc646 h => ?_
 · refine cr <| ja (.bool false) rfl <| J.nil <| CJ.ret ?_
   obtain rfl := si h
   exact ⟨_, _, Res.one rfl rfl, ⟨false, rfl, rfl, rfl⟩, (Hp.le_refl _), fun w hs => (Sep.dropAt 0 rfl (Sep.dropAt 0 rfl (Sep.dropAt 0 rfl (Sep.dropAt 0 rfl (Sep.dropAt 0 rfl hs)))))⟩
 refine CJ.skip <| cr <| jm (.slice ad547 l545.length cp548) rfl <| J.persist (Hp.nil_le _) (by decide) fun K647 hK648 f649 => ?_
 obtain ⟨r650, hr651, h⟩ := ob h
 refine J.op rfl (A.call (L1 := []) Tryz.call13 rfl (cons_Lines_ok f649 hr651) rfl rfl) ?_
 rintro _ _ _ ⟨v656, _, rfl, ⟨⟨l652, ad653, cp654, rfl, rfl, rfl⟩, rfl⟩, _, rfl⟩
 refine J.wit Row.hn fun hn655 => ja (.slice ad653 l652.length cp654) rfl <| J.nil <| CJ.seq <| cr <| jm (.slice ad653 l652.length cp654) rfl ?_
 refine jv (ii (((l652.length : Nat) : Int))) (V.len Tryz.underlying45 rfl) <| jm (.slice ad557 l556.length cp558) rfl <| jv (ii (((l556.length : Nat) : Int))) (V.len Tryz.underlying36 rfl) <| jv (.bool (!decide ((((l652.length : Nat) : Int)) = (((l556.length : Nat) : Int))))) (V.neq rfl rfl) <| J.nil <| cc rfl h (fun hc660 h => ?_) fun hc660 h => ?_
 · refine cr <| ja (.bool false) rfl <| J.nil <| CJ.ret ?_
   obtain rfl := si h
   exact ⟨_, _, Res.one rfl rfl, ⟨false, rfl, rfl, rfl⟩, hK648, fun w hs => (Sep.dropAt 0 rfl (Sep.dropAt 0 rfl (Sep.dropAt 0 rfl (Sep.dropAt 0 rfl (Sep.dropAt 0 rfl hs)))))⟩
 refine CJ.skip <| CJ.seq <| cr <| ja (ii 0) rfl <| J.nil ?_
 obtain ⟨o794, ho795, h⟩ := ob h
 refine CJ.joinN (o := o794) (fun s ρ K' L' => () = s ∧ Fits [(1, ii xb), (2, .pointer (some ⟨b528, 0, none⟩)), (8, .slice ad567 l566.length cp568)] ρ ∧ K647 = K' ∧ L' = Cl b528 30 [ii xa.1, ii xa.2.1, .slice adxa_2 xa.2.2.1.length cpxa_2, .slice adxa_3 xa.2.2.2.1.length cpxa_3, .slice adxa_4 xa.2.2.2.2.1.length cpxa_4, .slice adxa_5 xa.2.2.2.2.2.1.length cpxa_5, .slice adxa_6 xa.2.2.2.2.2.2.length cpxa_6] :: Row Hp.nil 55 (.cons (.int .i64) (.cons (.int .i64) (.one .bool))) (.slice ad567 l566.length cp568) l566 :: F) ?_ ?_
 · refine CJ.block <| CJ.dropAt 3 rfl <| CJ.front 2 rfl <| CJ.front 2 rfl <| CJ.front 3 rfl <| CJ.loop (fun s ρ K' L' => ∃ (i839 : Int), i839 = s ∧ Fits [(1, ii xb), (2, .pointer (some ⟨b528, 0, none⟩)), (7, .slice ad557 l556.length cp558), (8, .slice ad567 l566.length cp568), (9, .slice ad653 l652.length cp654), (10, ii i839)] ρ ∧ K647 = K' ∧ L' = Cl b528 30 [ii xa.1, ii xa.2.1, .slice adxa_2 xa.2.2.1.length cpxa_2, .slice adxa_3 xa.2.2.2.1.length cpxa_3, .slice adxa_4 xa.2.2.2.2.1.length cpxa_4, .slice adxa_5 xa.2.2.2.2.2.1.length cpxa_5, .slice adxa_6 xa.2.2.2.2.2.2.length cpxa_6] :: Row Hp.nil 51 (.cons (.int .i64) (.cons (.int .i64) (.one (.cons (.int .i64) (.cons (.int .i64) (.cons (.int .i64) (.cons (.int .i64) (.one .bool)))))))) (.slice ad557 l556.length cp558) l556 :: Row Hp.nil 55 (.cons (.int .i64) (.cons (.int .i64) (.one .bool))) (.slice ad567 l566.length cp568) l566 :: Row Hp.nil 9 .str (.slice ad653 l652.length cp654) l652 :: F) ho795 ⟨0, rfl, ⟨rfl, rfl, rfl, rfl, rfl, rfl, trivial⟩, rfl, rfl⟩ ?_
   rintro s ρ _ _ r886 ⟨i839, rfl, hf884, rfl, rfl⟩ h883
   obtain ⟨ρ, rfl⟩ := hf884.ex
   refine CJ.seq <| cr <| jm (ii i839) rfl <| jm (.slice ad557 l556.length cp558) rfl <| jv (ii (((l556.length : Nat) : Int))) (V.len Tryz.underlying36 rfl) <| jv (.bool (decide (i839 < (((l556.length : Nat) : Int))))) (V.lss rfl rfl) ?_
   refine J.nil <| cc rfl h883 (fun hc887 h883 => ?_) fun hc887 h883 => ?_
   · refine CJ.skip <| CJ.seq <| CJ.block <| CJ.seq <| CJ.mix [Cl b528 30 [ii xa.1, ii xa.2.1, .slice adxa_2 xa.2.2.1.length cpxa_2, .slice adxa_3 xa.2.2.2.1.length cpxa_3, .slice adxa_4 xa.2.2.2.2.1.length cpxa_4, .slice adxa_5 xa.2.2.2.2.2.1.length cpxa_5, .slice adxa_6 xa.2.2.2.2.2.2.length cpxa_6], Row Hp.nil 51 (.cons (.int .i64) (.cons (.int .i64) (.one (.cons (.int .i64) (.cons (.int .i64) (.cons (.int .i64) (.cons (.int .i64) (.one .bool)))))))) (.slice ad557 l556.length cp558) l556, Row Hp.nil 55 (.cons (.int .i64) (.cons (.int .i64) (.one .bool))) (.slice ad567 l566.length cp568) l566, Row Hp.nil 9 .str (.slice ad653 l652.length cp654) l652] [([0, 1, 2, 3, 4, 5, 6, 7], 8)] [9] [] mixO (by decide +kernel) ⟨0, rfl, 0, rfl, 0, rfl, 0, rfl, trivial⟩ rfl rfl rfl <| JM.cons <| qm (.slice ad653 l652.length cp654) rfl ?_
     refine qm (ii i839) rfl ?_
     obtain ⟨x908, hx909, h883⟩ := ob h883
     obtain ⟨p910, p911, p912⟩ := getI_some hx909
     obtain ⟨g913, e914⟩ := hn655 (fun e => by rw [e] at p911; simp at p911)
     refine qv _ (V.iad Tryz.underlying45 sz9 rfl e914 rfl p910 p912) <| qv (.string ⟨x908.toArray⟩) (V.ld rfl (Ld.sc sc9 (Rd.row 3 rfl e914 p911 (q := 0) (by simp [Tp.size]) (by decide) (by rintro _ rfl; rfl)))) <| qm (.slice ad557 l556.length cp558) rfl <| qm (ii i839) rfl ?_
     obtain ⟨x915, hx916, h883⟩ := ob h883
     obtain ⟨p917, p918, p919⟩ := getI_some hx916
     obtain ⟨g920, e921⟩ := hn559 (fun e => by rw [e] at p918; simp at p918)
     refine qv _ (V.iad Tryz.underlying36 sz51 rfl e921 rfl p917 p919) <| qv (.agg #[ii x915.1, ii x915.2.1, ii x915.2.2.1, ii x915.2.2.2.1, ii x915.2.2.2.2.1, ii x915.2.2.2.2.2.1, .bool x915.2.2.2.2.2.2]) (V.ld rfl (Ld.agg Tryz.underlying51 sz51 rfl (Rd.rows (K0 := Hp.nil) (s := (.cons (.int .i64) (.cons (.int .i64) (.one (.cons (.int .i64) (.cons (.int .i64) (.cons (.int .i64) (.cons (.int .i64) (.one .bool))))))))) 1 rfl e921 p918 (cs := [ii x915.1, ii x915.2.1, ii x915.2.2.1, ii x915.2.2.2.1, ii x915.2.2.2.2.1, ii x915.2.2.2.2.2.1, .bool x915.2.2.2.2.2.2]) rfl (by rintro _ ⟨_, _, rfl, _, rfl, ⟨_, _, rfl, _, rfl, ⟨_, _, rfl, _, rfl, ⟨_, _, rfl, _, rfl, ⟨_, _, rfl, _, rfl, ⟨_, _, rfl, _, rfl, rfl⟩⟩⟩⟩⟩⟩; rfl)))) <| JQ.nil ?_
     obtain ⟨r922, hr923, h883⟩ := ob h883
     refine JA.op rfl (A.call (L1 := []) Tryz.call14 rfl (ref26_Edge_ok hr923) rfl rfl) ?_
     rintro _ _ _ ⟨v925, _, rfl, ⟨⟨s924, rfl, rfl, rfl⟩, rfl⟩, _, rfl⟩
     refine ⟨fun w hs => Hold.sub (Hp.le_refl _) ⟨0, rfl, 0, rfl, 0, rfl, 0, rfl, trivial⟩ hs, ?_⟩
     refine JM.nil <| qv (.bool (!decide (x908 = s924))) (V.nes rfl rfl) <| JQ.nil <| J.nil <| cc rfl h883 (fun hc928 h883 => ?_) fun hc928 h883 => ?_
     · refine cr <| ja (.bool false) rfl <| J.nil <| CJ.ret ?_
       obtain rfl := si h883
       refine ⟨nofun, fun e => ?_⟩
       subst e
       refine .inr ⟨nofun, ?_⟩
       obtain rfl := si h
       exact ⟨_, _, Res.one rfl rfl, ⟨false, rfl, rfl, rfl⟩, hK648, fun w hs => (Sep.dropAt 0 rfl (Sep.dropAt 0 rfl (Sep.dropAt 0 rfl (Sep.dropAt 0 rfl hs))))⟩
     refine CJ.skip <| CJ.region <| jm (ii i839) rfl <| jv (ii (IntKind.wrap .i64 (i839 + 1))) (V.add rfl rfl) <| ja (ii (IntKind.wrap .i64 (i839 + 1))) rfl <| J.nil ?_
     obtain rfl := si h883
     exact ⟨rfl, ⟨IntKind.wrap .i64 (i839 + 1), rfl, ⟨rfl, rfl, rfl, rfl, rfl, rfl, trivial⟩, rfl, rfl⟩⟩
   refine CJ.dropAt 1 rfl <| CJ.dropAt 2 rfl <| CJ.exit ?_
   obtain rfl := si h883
   refine ⟨nofun, fun e => ?_⟩
   subst e
   exact .inl ⟨rfl, _, rfl, ⟨rfl, ⟨rfl, rfl, rfl, trivial⟩, rfl, rfl⟩⟩
 rintro s ρ _ _ ho929 ⟨rfl, hf930, rfl, rfl⟩
 subst ho929
 obtain ⟨ρ, rfl⟩ := hf930.ex
 refine PJ.done <| CJ.seq <| cr <| jm (ii xb) rfl <| jv (.bool (decide (xb < 0))) (V.lss rfl rfl) <| jm (.bool (decide (xb < 0))) rfl ?_
 refine J.cut 5 <| jmeet [(75, .bool ((decide (xb < 0)) || (decide ((((l566.length : Nat) : Int)) ≤ xb)))), (1, ii xb), (2, .pointer (some ⟨b528, 0, none⟩)), (8, .slice ad567 l566.length cp568)] ?_ ?_
 · rcases bt (decide (xb < 0)) with hc934 | hc934
   · refine J.skip rfl rfl rfl rfl hc934 <| J.skip rfl rfl rfl rfl hc934 <| J.skip rfl rfl rfl rfl hc934 <| J.skip rfl rfl rfl rfl hc934 <| jv (.bool true) (V.pickT rfl hc934 rfl) <| J.nil ?_
     exact ⟨rfl, ⟨(by simp only [hc934]; rfl), rfl, rfl, rfl, trivial⟩, rfl, rfl⟩
   refine J.run rfl rfl rfl hc934 <| jm (ii xb) rfl <| J.run rfl rfl rfl hc934 <| jm (.slice ad567 l566.length cp568) rfl <| J.run rfl rfl rfl hc934 <| jv (ii (((l566.length : Nat) : Int))) (V.len Tryz.underlying40 rfl) <| J.run rfl rfl rfl hc934 ?_
   refine jv (.bool (decide ((((l566.length : Nat) : Int)) ≤ xb))) (V.geq rfl rfl) <| jv (.bool (decide ((((l566.length : Nat) : Int)) ≤ xb))) (V.pickF rfl hc934 rfl) <| J.nil ?_
   exact ⟨rfl, ⟨(by simp only [hc934]; rfl), rfl, rfl, rfl, trivial⟩, rfl, rfl⟩
 intro ρ
 refine J.nil <| cc rfl h (fun hc935 h => ?_) fun hc935 h => ?_
 · refine cr <| jv (.agg #[ii xa.1, ii xa.2.1, .slice adxa_2 xa.2.2.1.length cpxa_2, .slice adxa_3 xa.2.2.2.1.length cpxa_3, .slice adxa_4 xa.2.2.2.2.1.length cpxa_4, .slice adxa_5 xa.2.2.2.2.2.1.length cpxa_5, .slice adxa_6 xa.2.2.2.2.2.2.length cpxa_6]) (V.ld rfl (Ld.agg (cs := [ii xa.1, ii xa.2.1, .slice adxa_2 xa.2.2.1.length cpxa_2, .slice adxa_3 xa.2.2.2.1.length cpxa_3, .slice adxa_4 xa.2.2.2.2.1.length cpxa_4, .slice adxa_5 xa.2.2.2.2.2.1.length cpxa_5, .slice adxa_6 xa.2.2.2.2.2.2.length cpxa_6]) Tryz.underlying30 sz30 rfl (Rd.cls 0 0 rfl rfl))) <| jm (ii xb) rfl ?_
   obtain ⟨r936, hr937, h⟩ := ob h
   refine J.op rfl (A.call (L1 := []) Tryz.call15 rfl (cons_At_ok (fxa_2.mono hK648) (fxa_3.mono hK648) (fxa_4.mono hK648) (fxa_5.mono hK648) (fxa_6.mono hK648) hr937) rfl rfl) ?_
   rintro _ _ _ ⟨v942, _, rfl, ⟨⟨l938, ad939, cp940, rfl, rfl, rfl⟩, rfl⟩, _, rfl⟩
   refine J.wit Row.hn fun hn941 => jv (ii (((l938.length : Nat) : Int))) (V.len Tryz.underlying36 rfl) <| jv (.bool (decide ((((l938.length : Nat) : Int)) = 0))) (V.eql rfl rfl) <| jm (.bool (decide ((((l938.length : Nat) : Int)) = 0))) rfl <| J.cut 2 ?_
   obtain ⟨t953, ht954, h⟩ := ob h
   refine jmeet [(83, .bool t953)] ?_ ?_
   · rcases bt (decide ((((l938.length : Nat) : Int)) = 0)) with hc955 | hc955
     · have ht954 := ct hc955 ht954
       refine J.run rfl rfl rfl hc955 ?_
       obtain ⟨r956, hr957, ht954⟩ := ob ht954
       refine J.op rfl (A.call (L1 := []) Tryz.call6 rfl (law27_awake_ok hr957) rfl rfl) ?_
       rintro _ _ _ ⟨v959, _, rfl, ⟨⟨t958, rfl, rfl, rfl⟩, rfl⟩, _, rfl⟩
       refine jv (.bool t958) (V.pickT rfl hc955 rfl) <| J.nil ?_
       obtain rfl := si ht954
       exact ⟨rfl, ⟨rfl, trivial⟩, rfl, rfl⟩
     have ht954 := cf hc955 ht954
     refine J.skip rfl rfl rfl rfl hc955 <| jv (.bool false) (V.pickF rfl hc955 rfl) <| J.nil ?_
     obtain rfl := si ht954
     exact ⟨rfl, ⟨rfl, trivial⟩, rfl, rfl⟩
   intro ρ
   refine ja (.bool t953) rfl <| J.nil <| CJ.ret ?_
   obtain rfl := si h
   exact ⟨_, _, Res.one rfl rfl, ⟨t953, rfl, rfl, rfl⟩, hK648, fun w hs => (Sep.dropAt 0 rfl (Sep.dropAt 0 rfl (Sep.dropAt 0 rfl hs)))⟩
 refine CJ.skip <| CJ.seq <| CJ.mix [Cl b528 30 [ii xa.1, ii xa.2.1, .slice adxa_2 xa.2.2.1.length cpxa_2, .slice adxa_3 xa.2.2.2.1.length cpxa_3, .slice adxa_4 xa.2.2.2.2.1.length cpxa_4, .slice adxa_5 xa.2.2.2.2.2.1.length cpxa_5, .slice adxa_6 xa.2.2.2.2.2.2.length cpxa_6], Row Hp.nil 55 (.cons (.int .i64) (.cons (.int .i64) (.one .bool))) (.slice ad567 l566.length cp568) l566] [([0, 1, 3, 4, 5, 6, 7], 2), ([], 8), ([], 9), ([10], 11)] [12, 13] [] mixO (by decide +kernel) ⟨0, rfl, 0, rfl, trivial⟩ rfl rfl rfl <| JM.cons <| qv (.agg #[ii xa.1, ii xa.2.1, .slice adxa_2 xa.2.2.1.length cpxa_2, .slice adxa_3 xa.2.2.2.1.length cpxa_3, .slice adxa_4 xa.2.2.2.2.1.length cpxa_4, .slice adxa_5 xa.2.2.2.2.2.1.length cpxa_5, .slice adxa_6 xa.2.2.2.2.2.2.length cpxa_6]) (V.ld rfl (Ld.agg (cs := [ii xa.1, ii xa.2.1, .slice adxa_2 xa.2.2.1.length cpxa_2, .slice adxa_3 xa.2.2.2.1.length cpxa_3, .slice adxa_4 xa.2.2.2.2.1.length cpxa_4, .slice adxa_5 xa.2.2.2.2.2.1.length cpxa_5, .slice adxa_6 xa.2.2.2.2.2.2.length cpxa_6]) Tryz.underlying30 sz30 rfl (Rd.cls 0 0 rfl rfl))) <| qm (ii xb) rfl <| qv (.agg #[ii xa.1, ii xa.2.1, .slice adxa_2 xa.2.2.1.length cpxa_2, .slice adxa_3 xa.2.2.2.1.length cpxa_3, .slice adxa_4 xa.2.2.2.2.1.length cpxa_4, .slice adxa_5 xa.2.2.2.2.2.1.length cpxa_5, .slice adxa_6 xa.2.2.2.2.2.2.length cpxa_6]) (V.ld rfl (Ld.agg (cs := [ii xa.1, ii xa.2.1, .slice adxa_2 xa.2.2.1.length cpxa_2, .slice adxa_3 xa.2.2.2.1.length cpxa_3, .slice adxa_4 xa.2.2.2.2.1.length cpxa_4, .slice adxa_5 xa.2.2.2.2.2.1.length cpxa_5, .slice adxa_6 xa.2.2.2.2.2.2.length cpxa_6]) Tryz.underlying30 sz30 rfl (Rd.cls 0 0 rfl rfl))) ?_
 refine qm (.slice ad567 l566.length cp568) rfl <| qm (ii xb) rfl ?_
 obtain ⟨x1008, hx1009, h⟩ := ob h
 obtain ⟨p1010, p1011, p1012⟩ := getI_some hx1009
 obtain ⟨g1013, e1014⟩ := hn569 (fun e => by rw [e] at p1011; simp at p1011)
 refine qv _ (V.iad Tryz.underlying40 sz55 rfl e1014 rfl p1010 p1012) <| qv (.agg #[ii x1008.1, ii x1008.2.1, .bool x1008.2.2]) (V.ld rfl (Ld.agg Tryz.underlying55 sz55 rfl (Rd.rows (K0 := Hp.nil) (s := (.cons (.int .i64) (.cons (.int .i64) (.one .bool)))) 1 rfl e1014 p1011 (cs := [ii x1008.1, ii x1008.2.1, .bool x1008.2.2]) rfl (by rintro _ ⟨_, _, rfl, _, rfl, ⟨_, _, rfl, _, rfl, rfl⟩⟩; rfl)))) <| JQ.nil ?_
 obtain ⟨r1015, hr1016, h⟩ := ob h
 refine JA.op rfl (A.call (L1 := []) Tryz.call15 rfl (cons_At_ok (fxa_2.mono hK648) (fxa_3.mono hK648) (fxa_4.mono hK648) (fxa_5.mono hK648) (fxa_6.mono hK648) hr1016) rfl rfl) ?_
 rintro _ _ _ ⟨v1021, _, rfl, ⟨⟨l1017, ad1018, cp1019, rfl, rfl, rfl⟩, rfl⟩, _, rfl⟩
 refine ⟨fun w hs => Hold.sub (Hp.le_refl _) ⟨1, rfl, 1, rfl, trivial⟩ hs, ?_⟩
 refine JM.wit Row.hn fun hn1020 => JM.cons <| JQ.nil ?_
 obtain ⟨r1025, hr1026, h⟩ := ob h
 refine JA.op rfl (A.call (L1 := []) Tryz.call16 rfl (ref27_At_ok (fxa_2.mono hK648) (fxa_3.mono hK648) (fxa_4.mono hK648) (fxa_5.mono hK648) (fxa_6.mono hK648) hr1026) rfl rfl) ?_
 rintro _ _ _ ⟨v1031, _, rfl, ⟨⟨l1027, ad1028, cp1029, rfl, rfl, rfl⟩, rfl⟩, _, rfl⟩
 refine ⟨fun w hs => Hold.sub (Hp.le_refl _) ⟨2, rfl, 2, rfl, trivial⟩ hs, ?_⟩
 refine JM.wit Row.hn fun hn1030 => JM.cons <| JQ.nil ?_
 obtain ⟨r1035, hr1036, h⟩ := ob h
 refine JA.front 1 rfl <| JA.op rfl (A.call (L1 := [Row Hp.nil 51 (.cons (.int .i64) (.cons (.int .i64) (.one (.cons (.int .i64) (.cons (.int .i64) (.cons (.int .i64) (.cons (.int .i64) (.one .bool)))))))) (.slice ad1018 l1017.length cp1019) l1017, Row Hp.nil 51 (.cons (.int .i64) (.cons (.int .i64) (.one (.cons (.int .i64) (.cons (.int .i64) (.cons (.int .i64) (.cons (.int .i64) (.one .bool)))))))) (.slice ad1028 l1027.length cp1029) l1027]) Tryz.call10 rfl (Tr.lend (Hp.nil_le _) (by decide) (fun K1037 hK1038 f1039 => Tr.lend (Hp.nil_le _) (by decide) (fun K1040 hK1041 f1042 => ref27_Same_ok (f1039.mono hK1041) f1042 hr1036))) rfl rfl) ?_
 rintro _ _ _ ⟨v1044, _, rfl, ⟨⟨_, ⟨_, ⟨t1043, rfl, rfl, rfl⟩, rfl⟩, rfl⟩, rfl⟩, _, rfl⟩
 refine ⟨fun w hs => Hold.sub (Hp.le_refl _) ⟨2, rfl, 2, rfl, trivial⟩ hs, ?_⟩
 refine JM.cons <| qm (.bool t1043) rfl <| JQ.nil ?_
 rcases bt (t1043) with hc1047 | hc1047
 · have h := ct hc1047 h
   refine JA.run rfl rfl rfl hc1047 ?_
   obtain ⟨r1048, hr1049, h⟩ := ob h
   refine JA.op rfl (A.call (L1 := []) Tryz.call6 rfl (law27_awake_ok hr1049) rfl rfl) ?_
   rintro _ _ _ ⟨v1051, _, rfl, ⟨⟨t1050, rfl, rfl, rfl⟩, rfl⟩, _, rfl⟩
   refine ⟨fun w hs => Hold.sub (Hp.le_refl _) ⟨2, rfl, 2, rfl, trivial⟩ hs, ?_⟩
   refine JM.nil <| qv (.bool t1050) (V.pickT rfl hc1047 rfl) <| qa (.bool t1050) rfl <| JQ.nil <| J.nil <| CJ.ret ?_
   obtain rfl := si h
   exact ⟨_, _, Res.one rfl rfl, ⟨t1050, rfl, rfl, rfl⟩, hK648, fun w hs => (Sep.dropAt 0 rfl (Sep.dropAt 0 rfl (Sep.dropAt 0 rfl (Sep.dropAt 0 rfl hs))))⟩
 have h := cf hc1047 h
 refine JA.skip rfl rfl rfl rfl hc1047 <| JM.nil <| qv (.bool false) (V.pickF rfl hc1047 rfl) <| qa (.bool false) rfl <| JQ.nil <| J.nil <| CJ.ret ?_
 obtain rfl := si h
 exact ⟨_, _, Res.one rfl rfl, ⟨false, rfl, rfl, rfl⟩, hK648, fun w hs => (Sep.dropAt 0 rfl (Sep.dropAt 0 rfl (Sep.dropAt 0 rfl (Sep.dropAt 0 rfl hs))))⟩
end Go.Proofs.YtelekeapfgfknaaGreat
