/- What Go functions answer: generated. -/
import Derived.Test.YtelekeapfgfknaaGreatF4
namespace Go.Proofs.YtelekeapfgfknaaGreat
open Go.RowKit
set_option linter.unusedVariables false
set_option linter.unnecessarySimpa false
set_option linter.unusedSimpArgs false
set_option maxRecDepth 20000
noncomputable def fn_ref19_Needs_l1 (xa : (Int × Int × Int × (List Int) × (List Int) × (List Int))) (xb : (Int × Int × (List (List (Int × Bool))) × (List (Int × Bool)) × (List (Int × (List (Int × Int)) × (List (List (Int × Bool))) × (List (Int × Bool)))))) : ((List (List (Int × Bool))) × Int) → Option (((List (List (Int × Bool))) × Int) ⊕ (List (List (Int × Bool)))) := fun ((l1145, i1150) : ((List (List (Int × Bool))) × Int)) => cond (decide (i1150 < (((xa.2.2.2.2.1.length : Nat) : Int)))) ((getI xa.2.2.2.2.1 i1150).bind fun x1244 => (getI xb.2.2.1 x1244).bind fun x1253 => (app l1145 (([x1253] : List (List (Int × Bool))))).bind fun z1269 => some (.inl ((z1269, IntKind.wrap .i64 (i1150 + 1))))) (some (.inr (l1145)))
noncomputable def fn_ref19_Needs (xa : (Int × Int × Int × (List Int) × (List Int) × (List Int))) (xb : (Int × Int × (List (List (Int × Bool))) × (List (Int × Bool)) × (List (Int × (List (Int × Int)) × (List (List (Int × Bool))) × (List (Int × Bool)))))) : Option (((List (Int × Int × Int × Int × Bool)) × Int)) :=
  (fn_ref19_Form (xa.1, xa.2.1, xa.2.2.1, xa.2.2.2.1, xa.2.2.2.2.1, xa.2.2.2.2.2)).bind fun i692 => cond (!decide (i692 = 0)) (some (([], i692))) ((fn_ref19_within xa.2.2.2.1 xb.1).bind fun t700 => (cond (!t700) (some (true)) ((fn_ref19_within xa.2.2.2.2.1 (((xb.2.2.1.length : Nat) : Int))).bind fun t716 => some (!t716))).bind fun t711 => (cond (t711) (some (true)) ((fn_ref19_within xa.2.2.2.2.2 xb.2.1).bind fun t732 => some (!t732))).bind fun t727 => cond (t727) (some (([], 7))) ((cond (decide (xa.1 = 4)) ((fn_ref19_within ([xa.2.2.1] : List Int) (((xb.2.2.1.length : Nat) : Int))).bind fun t790 => (cond (!t790) (some (true)) ((fn_ref19_within ([xa.2.1] : List Int) (((xb.2.2.2.2.length : Nat) : Int))).bind fun t818 => some (!t818))).bind fun t807 => some (t807)) (some (false))).bind fun t779 => cond (t779) (some (([], 7))) (cond ((decide (xa.1 = 3)) && (decide ((((xb.2.2.1.length : Nat) : Int)) = 0))) (some (([], 14))) (cond (decide (xa.1 = 3)) ((getI xb.2.2.1 0).bind fun x854 => (fn_ref16_Flow x854 xb.2.2.2.1 7 0).bind fun (l869, i870) => some ((l869, i870))) (cond (decide (xa.1 = 4)) ((loop (fn_ref19_Needs_l1 xa xb) ((([] : List (List (Int × Bool))), 0)) : Option ((List (List (Int × Bool))))).bind fun l1075 => (getI xb.2.2.2.2 xa.2.1).bind fun x1325 => (getI xb.2.2.1 xa.2.2.1).bind fun x1346 => (fn_ref17_Call (x1325.1, x1325.2.1, x1325.2.2.1, x1325.2.2.2) xa.2.2.2.2.2 l1075 x1346).bind fun (l1364, i1365) => some ((l1364, i1365))) (some (([], 0))))))))
set_option maxRecDepth 100000 in
set_option maxHeartbeats 4000000 in
theorem ref19_Needs_ok {K : Hp} {xa : (Int × Int × Int × (List Int) × (List Int) × (List Int))} {xb : (Int × Int × (List (List (Int × Bool))) × (List (Int × Bool)) × (List (Int × (List (Int × Int)) × (List (List (Int × Bool))) × (List (Int × Bool)))))} {adxa_3 : Option Addr} {cpxa_3 : Nat} {adxa_4 : Option Addr} {cpxa_4 : Nat} {adxa_5 : Option Addr} {cpxa_5 : Nat} {adxb_2 : Option Addr} {cpxb_2 : Nat} {adxb_3 : Option Addr} {cpxb_3 : Nat} {adxb_4 : Option Addr} {cpxb_4 : Nat} (fxa_3 : Is K (.sl (.int .i64)) [.slice adxa_3 xa.2.2.2.1.length cpxa_3] xa.2.2.2.1) (fxa_4 : Is K (.sl (.int .i64)) [.slice adxa_4 xa.2.2.2.2.1.length cpxa_4] xa.2.2.2.2.1) (fxa_5 : Is K (.sl (.int .i64)) [.slice adxa_5 xa.2.2.2.2.2.length cpxa_5] xa.2.2.2.2.2) (fxb_2 : Is K (.sl (.one (.sl (.cons (.int .i64) (.one .bool))))) [.slice adxb_2 xb.2.2.1.length cpxb_2] xb.2.2.1) (fxb_3 : Is K (.sl (.cons (.int .i64) (.one .bool))) [.slice adxb_3 xb.2.2.2.1.length cpxb_3] xb.2.2.2.1) (fxb_4 : Is K (.sl (.cons (.int .i64) (.cons (.sl (.cons (.int .i64) (.one (.int .i64)))) (.cons (.sl (.one (.sl (.cons (.int .i64) (.one .bool))))) (.one (.one (.sl (.cons (.int .i64) (.one .bool))))))))) [.slice adxb_4 xb.2.2.2.2.length cpxb_4] xb.2.2.2.2) {r : ((List (Int × Int × Int × Int × Bool)) × Int)} (h : fn_ref19_Needs xa xb = some r) :
    Tr Tryz.prog 30 #[.agg #[ii xa.1, ii xa.2.1, ii xa.2.2.1, .slice adxa_3 xa.2.2.2.1.length cpxa_3, .slice adxa_4 xa.2.2.2.2.1.length cpxa_4, .slice adxa_5 xa.2.2.2.2.2.length cpxa_5], .agg #[ii xb.1, ii xb.2.1, .slice adxb_2 xb.2.2.1.length cpxb_2, .slice adxb_3 xb.2.2.2.1.length cpxb_3, .slice adxb_4 xb.2.2.2.2.length cpxb_4]] K [] (fun v K' L' => (∃ (l682 : (List (Int × Int × Int × Int × Bool))) (i687 : Int) (ad683 : Option Addr) (cp684 : Nat), (l682, i687) = r ∧ .tuple #[.slice ad683 l682.length cp684, ii i687] = v ∧ L' = [Row Hp.nil 93 (.cons (.int .i64) (.cons (.int .i64) (.cons (.int .i64) (.cons (.int .i64) (.one .bool))))) (.slice ad683 l682.length cp684) l682]) ∧ K = K') := by
 refine Tr.k <| Tr.of Tryz.func30 rfl Tryz.ntmps30 rfl fun E F => ?_
 unfold fn_ref19_Needs at h
 refine cr <| jbx [ii xa.1, ii xa.2.1, ii xa.2.2.1, .slice adxa_3 xa.2.2.2.1.length cpxa_3, .slice adxa_4 xa.2.2.2.2.1.length cpxa_4, .slice adxa_5 xa.2.2.2.2.2.length cpxa_5] rfl rfl fun b688 => jbx [ii xb.1, ii xb.2.1, .slice adxb_2 xb.2.2.1.length cpxb_2, .slice adxb_3 xb.2.2.2.1.length cpxb_3, .slice adxb_4 xb.2.2.2.2.length cpxb_4] rfl rfl fun b689 => ja (nos) rfl <| ja (ii 0) rfl <| J.nil ?_
 refine cr <| jv (.agg #[ii xa.1, ii xa.2.1, ii xa.2.2.1, .slice adxa_3 xa.2.2.2.1.length cpxa_3, .slice adxa_4 xa.2.2.2.2.1.length cpxa_4, .slice adxa_5 xa.2.2.2.2.2.length cpxa_5]) (V.ld rfl (Ld.agg (cs := [ii xa.1, ii xa.2.1, ii xa.2.2.1, .slice adxa_3 xa.2.2.2.1.length cpxa_3, .slice adxa_4 xa.2.2.2.2.1.length cpxa_4, .slice adxa_5 xa.2.2.2.2.2.length cpxa_5]) Tryz.underlying61 sz61 rfl (Rd.cls 1 0 rfl rfl))) ?_
 obtain ⟨r690, hr691, h⟩ := ob h
 refine J.op rfl (A.call (L1 := []) Tryz.call42 rfl (ref19_Form_ok fxa_3 fxa_4 fxa_5 hr691) rfl rfl) ?_
 rintro _ _ _ ⟨v693, _, rfl, ⟨⟨i692, rfl, rfl, rfl⟩, rfl⟩, _, rfl⟩
 refine ja (ii i692) rfl <| J.nil <| CJ.seq <| cr <| jm (ii i692) rfl <| jv (.bool (!decide (i692 = 0))) (V.neq rfl rfl) ?_
 refine J.nil <| cc rfl h (fun hc696 h => ?_) fun hc696 h => ?_
 · refine cr <| jm (ii i692) rfl <| ja (nos) rfl <| ja (ii i692) rfl <| J.nil <| CJ.by (fun w hs => Sep.rowNil (e := 93) (t := (.cons (.int .i64) (.cons (.int .i64) (.cons (.int .i64) (.cons (.int .i64) (.one .bool)))))) hs) ?_
   refine CJ.ret ?_
   obtain rfl := si h
   exact ⟨_, _, Res.two rfl rfl rfl, ⟨[], i692, none, 0, rfl, rfl, rfl⟩, (Hp.le_refl _), fun w hs => (Sep.dropAt 1 rfl (Sep.dropAt 1 rfl hs))⟩
 refine CJ.skip <| CJ.seq <| cr <| jv _ (V.fad Tryz.underlying61 rfl nz59 rfl) <| jv (.slice adxa_3 xa.2.2.2.1.length cpxa_3) (V.ld rfl (Ld.sc sc59 (Rd.cl 1 rfl rfl))) <| jv _ (V.fad Tryz.underlying87 rfl nz3 rfl) ?_
 refine jv (ii xb.1) (V.ld rfl (Ld.sc sc3 (Rd.cl 0 rfl rfl))) ?_
 obtain ⟨r698, hr699, h⟩ := ob h
 refine J.op rfl (A.call (L1 := []) Tryz.call43 rfl (ref19_within_ok fxa_3 hr699) rfl rfl) ?_
 rintro _ _ _ ⟨v701, _, rfl, ⟨⟨t700, rfl, rfl, rfl⟩, rfl⟩, _, rfl⟩
 refine jv (.bool (!t700)) (V.not rfl) <| jm (.bool (!t700)) rfl <| J.cut 8 ?_
 obtain ⟨t711, ht712, h⟩ := ob h
 refine jmeet [(28, .bool t711), (2, .pointer (some ⟨b688, 0, none⟩)), (3, .pointer (some ⟨b689, 0, none⟩))] ?_ ?_
 · rcases bt (!t700) with hc713 | hc713
   · have ht712 := ct hc713 ht712
     refine J.skip rfl rfl rfl rfl hc713 <| J.skip rfl rfl rfl rfl hc713 <| J.skip rfl rfl rfl rfl hc713 <| J.skip rfl rfl rfl rfl hc713 <| J.skip rfl rfl rfl rfl hc713 <| J.skip rfl rfl rfl rfl hc713 <| J.skip rfl rfl rfl rfl hc713 ?_
     refine jv (.bool true) (V.pickT rfl hc713 rfl) <| J.nil ?_
     obtain rfl := si ht712
     exact ⟨rfl, ⟨rfl, rfl, rfl, trivial⟩, rfl, rfl⟩
   have ht712 := cf hc713 ht712
   refine J.run rfl rfl rfl hc713 <| jv _ (V.fad Tryz.underlying61 rfl nz59 rfl) <| J.run rfl rfl rfl hc713 <| jv (.slice adxa_4 xa.2.2.2.2.1.length cpxa_4) (V.ld rfl (Ld.sc sc59 (Rd.cl 1 rfl rfl))) <| J.run rfl rfl rfl hc713 <| jv _ (V.fad Tryz.underlying87 rfl nz23 rfl) <| J.run rfl rfl rfl hc713 ?_
   refine jv (.slice adxb_2 xb.2.2.1.length cpxb_2) (V.ld rfl (Ld.sc sc23 (Rd.cl 0 rfl rfl))) <| J.run rfl rfl rfl hc713 <| jv (ii (((xb.2.2.1.length : Nat) : Int))) (V.len Tryz.underlying23 rfl) <| J.run rfl rfl rfl hc713 ?_
   obtain ⟨r714, hr715, ht712⟩ := ob ht712
   refine J.op rfl (A.call (L1 := []) Tryz.call43 rfl (ref19_within_ok fxa_4 hr715) rfl rfl) ?_
   rintro _ _ _ ⟨v717, _, rfl, ⟨⟨t716, rfl, rfl, rfl⟩, rfl⟩, _, rfl⟩
   refine J.run rfl rfl rfl hc713 <| jv (.bool (!t716)) (V.not rfl) <| jv (.bool (!t716)) (V.pickF rfl hc713 rfl) <| J.nil ?_
   obtain rfl := si ht712
   exact ⟨rfl, ⟨rfl, rfl, rfl, trivial⟩, rfl, rfl⟩
 intro ρ
 refine jm (.bool t711) rfl <| J.cut 7 ?_
 obtain ⟨t727, ht728, h⟩ := ob h
 refine jmeet [(36, .bool t727), (2, .pointer (some ⟨b688, 0, none⟩)), (3, .pointer (some ⟨b689, 0, none⟩))] ?_ ?_
 · rcases bt (t711) with hc729 | hc729
   · have ht728 := ct hc729 ht728
     refine J.skip rfl rfl rfl rfl hc729 <| J.skip rfl rfl rfl rfl hc729 <| J.skip rfl rfl rfl rfl hc729 <| J.skip rfl rfl rfl rfl hc729 <| J.skip rfl rfl rfl rfl hc729 <| J.skip rfl rfl rfl rfl hc729 <| jv (.bool true) (V.pickT rfl hc729 rfl) ?_
     refine J.nil ?_
     obtain rfl := si ht728
     exact ⟨rfl, ⟨rfl, rfl, rfl, trivial⟩, rfl, rfl⟩
   have ht728 := cf hc729 ht728
   refine J.run rfl rfl rfl hc729 <| jv _ (V.fad Tryz.underlying61 rfl nz59 rfl) <| J.run rfl rfl rfl hc729 <| jv (.slice adxa_5 xa.2.2.2.2.2.length cpxa_5) (V.ld rfl (Ld.sc sc59 (Rd.cl 1 rfl rfl))) <| J.run rfl rfl rfl hc729 <| jv _ (V.fad Tryz.underlying87 rfl nz3 rfl) <| J.run rfl rfl rfl hc729 ?_
   refine jv (ii xb.2.1) (V.ld rfl (Ld.sc sc3 (Rd.cl 0 rfl rfl))) <| J.run rfl rfl rfl hc729 ?_
   obtain ⟨r730, hr731, ht728⟩ := ob ht728
   refine J.op rfl (A.call (L1 := []) Tryz.call43 rfl (ref19_within_ok fxa_5 hr731) rfl rfl) ?_
   rintro _ _ _ ⟨v733, _, rfl, ⟨⟨t732, rfl, rfl, rfl⟩, rfl⟩, _, rfl⟩
   refine J.run rfl rfl rfl hc729 <| jv (.bool (!t732)) (V.not rfl) <| jv (.bool (!t732)) (V.pickF rfl hc729 rfl) <| J.nil ?_
   obtain rfl := si ht728
   exact ⟨rfl, ⟨rfl, rfl, rfl, trivial⟩, rfl, rfl⟩
 intro ρ
 refine J.nil <| cc rfl h (fun hc736 h => ?_) fun hc736 h => ?_
 · refine cr <| ja (nos) rfl <| ja (ii 7) rfl <| J.nil <| CJ.by (fun w hs => Sep.rowNil (e := 93) (t := (.cons (.int .i64) (.cons (.int .i64) (.cons (.int .i64) (.cons (.int .i64) (.one .bool)))))) hs) <| CJ.ret ?_
   obtain rfl := si h
   exact ⟨_, _, Res.two rfl rfl rfl, ⟨[], 7, none, 0, rfl, rfl, rfl⟩, (Hp.le_refl _), fun w hs => (Sep.dropAt 1 rfl (Sep.dropAt 1 rfl hs))⟩
 refine CJ.skip <| CJ.seq <| cr <| jv _ (V.fad Tryz.underlying61 rfl nz3 rfl) <| jv (ii xa.1) (V.ld rfl (Ld.sc sc3 (Rd.cl 1 rfl rfl))) <| jv (.bool (decide (xa.1 = 4))) (V.eql rfl rfl) ?_
 refine jm (.bool (decide (xa.1 = 4))) rfl <| J.cut 19 ?_
 obtain ⟨t779, ht780, h⟩ := ob h
 refine jmeet [(59, .bool t779), (2, .pointer (some ⟨b688, 0, none⟩)), (3, .pointer (some ⟨b689, 0, none⟩))] ?_ ?_
 · rcases bt (decide (xa.1 = 4)) with hc781 | hc781
   · have ht780 := ct hc781 ht780
     refine J.run rfl rfl rfl hc781 <| jv _ (V.fad Tryz.underlying61 rfl nz3 rfl) <| J.run rfl rfl rfl hc781 <| jv (ii xa.2.2.1) (V.ld rfl (Ld.sc sc3 (Rd.cl 1 rfl rfl))) <| J.run rfl rfl rfl hc781 ?_
     refine J.op rfl (A.lit (K0 := Hp.nil) (ty := (.int .i64)) (xs := ([xa.2.2.1] : List Int)) Tryz.underlying59 inf3 rfl (by decide) rfl rfl rfl ⟨_, _, rfl, rfl, rfl⟩ rfl (by decide)) ?_
     rintro _ _ _ ⟨b782, rfl, rfl, rfl⟩
     have hn783 : ([xa.2.2.1] : List Int) ≠ [] → ∃ g, (some ⟨b782, 0, none⟩ : Option Addr) = some ⟨g, 0, none⟩ := fun _ => ⟨b782, rfl⟩
     refine J.run rfl rfl rfl hc781 <| jv _ (V.fad Tryz.underlying87 rfl nz23 rfl) <| J.run rfl rfl rfl hc781 <| jv (.slice adxb_2 xb.2.2.1.length cpxb_2) (V.ld rfl (Ld.sc sc23 (Rd.cl 1 rfl rfl))) <| J.run rfl rfl rfl hc781 <| jv (ii (((xb.2.2.1.length : Nat) : Int))) (V.len Tryz.underlying23 rfl) <| J.run rfl rfl rfl hc781 ?_
     obtain ⟨r785, hr786, ht780⟩ := ob ht780
     refine J.op rfl (A.call (L1 := [Row Hp.nil 3 (.int .i64) (.slice (some ⟨b782, 0, none⟩) (([xa.2.2.1] : List Int).length) 1) ([xa.2.2.1] : List Int)]) Tryz.call43 rfl (Tr.lend (Hp.nil_le _) (by decide) (fun K787 hK788 f789 => ref19_within_ok f789 hr786)) rfl rfl) ?_
     rintro _ _ _ ⟨v791, _, rfl, ⟨⟨_, ⟨t790, rfl, rfl, rfl⟩, rfl⟩, rfl⟩, _, rfl⟩
     refine J.run rfl rfl rfl hc781 <| jv (.bool (!t790)) (V.not rfl) <| J.run rfl rfl rfl hc781 <| jm (.bool (!t790)) rfl <| J.cut 9 ?_
     obtain ⟨t807, ht808, ht780⟩ := ob ht780
     refine jmeet [(58, .bool t807), (2, .pointer (some ⟨b688, 0, none⟩)), (3, .pointer (some ⟨b689, 0, none⟩)), (40, .bool (decide (xa.1 = 4)))] ?_ ?_
     · rcases bt (!t790) with hc809 | hc809
       · have ht808 := ct hc809 ht808
         refine J.skip rfl rfl rfl rfl hc809 <| J.skip rfl rfl rfl rfl hc809 <| J.skip rfl rfl rfl rfl hc809 <| J.skip rfl rfl rfl rfl hc809 <| J.skip rfl rfl rfl rfl hc809 <| J.skip rfl rfl rfl rfl hc809 <| J.skip rfl rfl rfl rfl hc809 ?_
         refine J.skip rfl rfl rfl rfl hc809 <| J.run rfl rfl rfl hc781 <| jv (.bool true) (V.pickT rfl hc809 rfl) <| J.nil ?_
         obtain rfl := si ht808
         exact ⟨rfl, ⟨rfl, rfl, rfl, rfl, trivial⟩, rfl, rfl⟩
       have ht808 := cf hc809 ht808
       refine J.run rfl rfl rfl hc809 <| jv _ (V.fad Tryz.underlying61 rfl nz3 rfl) <| J.run rfl rfl rfl hc809 <| jv (ii xa.2.1) (V.ld rfl (Ld.sc sc3 (Rd.cl 2 rfl rfl))) <| J.run rfl rfl rfl hc809 ?_
       refine J.op rfl (A.lit (K0 := Hp.nil) (ty := (.int .i64)) (xs := ([xa.2.1] : List Int)) Tryz.underlying59 inf3 rfl (by decide) rfl rfl rfl ⟨_, _, rfl, rfl, rfl⟩ rfl (by decide)) ?_
       rintro _ _ _ ⟨b810, rfl, rfl, rfl⟩
       have hn811 : ([xa.2.1] : List Int) ≠ [] → ∃ g, (some ⟨b810, 0, none⟩ : Option Addr) = some ⟨g, 0, none⟩ := fun _ => ⟨b810, rfl⟩
       refine J.run rfl rfl rfl hc809 <| jv _ (V.fad Tryz.underlying87 rfl nz27 rfl) <| J.run rfl rfl rfl hc809 <| jv (.slice adxb_4 xb.2.2.2.2.length cpxb_4) (V.ld rfl (Ld.sc sc27 (Rd.cl 2 rfl rfl))) <| J.run rfl rfl rfl hc809 <| jv (ii (((xb.2.2.2.2.length : Nat) : Int))) (V.len Tryz.underlying27 rfl) <| J.run rfl rfl rfl hc809 ?_
       obtain ⟨r813, hr814, ht808⟩ := ob ht808
       refine J.op rfl (A.call (L1 := [Row Hp.nil 3 (.int .i64) (.slice (some ⟨b810, 0, none⟩) (([xa.2.1] : List Int).length) 1) ([xa.2.1] : List Int)]) Tryz.call43 rfl (Tr.lend (Hp.nil_le _) (by decide) (fun K815 hK816 f817 => ref19_within_ok f817 hr814)) rfl rfl) ?_
       rintro _ _ _ ⟨v819, _, rfl, ⟨⟨_, ⟨t818, rfl, rfl, rfl⟩, rfl⟩, rfl⟩, _, rfl⟩
       refine J.run rfl rfl rfl hc809 <| jv (.bool (!t818)) (V.not rfl) <| J.run rfl rfl rfl hc781 <| jv (.bool (!t818)) (V.pickF rfl hc809 rfl) <| J.dropAt 0 rfl <| J.nil ?_
       obtain rfl := si ht808
       exact ⟨rfl, ⟨rfl, rfl, rfl, rfl, trivial⟩, rfl, rfl⟩
     intro ρ
     refine jv (.bool t807) (V.pickT rfl hc781 rfl) <| J.dropAt 0 rfl <| J.nil ?_
     obtain rfl := si ht780
     exact ⟨rfl, ⟨rfl, rfl, rfl, trivial⟩, rfl, rfl⟩
   have ht780 := cf hc781 ht780
   refine J.skip rfl rfl rfl rfl hc781 <| J.skip rfl rfl rfl rfl hc781 <| J.skip rfl rfl rfl rfl hc781 <| J.skip rfl rfl rfl rfl hc781 <| J.skip rfl rfl rfl rfl hc781 <| J.skip rfl rfl rfl rfl hc781 <| J.skip rfl rfl rfl rfl hc781 ?_
   refine J.skip rfl rfl rfl rfl hc781 <| J.skip rfl rfl rfl rfl hc781 <| J.skipu rfl rfl rfl rfl <| J.skipu rfl rfl rfl rfl <| J.skipu rfl rfl rfl rfl <| J.skipu rfl rfl rfl rfl <| J.skipu rfl rfl rfl rfl ?_
   refine J.skipu rfl rfl rfl rfl <| J.skipu rfl rfl rfl rfl <| J.skipu rfl rfl rfl rfl <| J.skip rfl rfl rfl rfl hc781 <| jv (.bool false) (V.pickF rfl hc781 rfl) <| J.nil ?_
   obtain rfl := si ht780
   exact ⟨rfl, ⟨rfl, rfl, rfl, trivial⟩, rfl, rfl⟩
 intro ρ
 refine J.nil <| cc rfl h (fun hc822 h => ?_) fun hc822 h => ?_
 · refine cr <| ja (nos) rfl <| ja (ii 7) rfl <| J.nil <| CJ.by (fun w hs => Sep.rowNil (e := 93) (t := (.cons (.int .i64) (.cons (.int .i64) (.cons (.int .i64) (.cons (.int .i64) (.one .bool)))))) hs) <| CJ.ret ?_
   obtain rfl := si h
   exact ⟨_, _, Res.two rfl rfl rfl, ⟨[], 7, none, 0, rfl, rfl, rfl⟩, (Hp.le_refl _), fun w hs => (Sep.dropAt 1 rfl (Sep.dropAt 1 rfl hs))⟩
 refine CJ.skip <| CJ.seq <| cr <| jv _ (V.fad Tryz.underlying61 rfl nz3 rfl) <| jv (ii xa.1) (V.ld rfl (Ld.sc sc3 (Rd.cl 1 rfl rfl))) <| jv (.bool (decide (xa.1 = 3))) (V.eql rfl rfl) ?_
 refine jm (.bool (decide (xa.1 = 3))) rfl <| J.cut 5 <| jmeet [(68, .bool ((decide (xa.1 = 3)) && (decide ((((xb.2.2.1.length : Nat) : Int)) = 0)))), (2, .pointer (some ⟨b688, 0, none⟩)), (3, .pointer (some ⟨b689, 0, none⟩))] ?_ ?_
 · rcases bt (decide (xa.1 = 3)) with hc826 | hc826
   · refine J.run rfl rfl rfl hc826 <| jv _ (V.fad Tryz.underlying87 rfl nz23 rfl) <| J.run rfl rfl rfl hc826 <| jv (.slice adxb_2 xb.2.2.1.length cpxb_2) (V.ld rfl (Ld.sc sc23 (Rd.cl 0 rfl rfl))) <| J.run rfl rfl rfl hc826 <| jv (ii (((xb.2.2.1.length : Nat) : Int))) (V.len Tryz.underlying23 rfl) <| J.run rfl rfl rfl hc826 ?_
     refine jv (.bool (decide ((((xb.2.2.1.length : Nat) : Int)) = 0))) (V.eql rfl rfl) <| jv (.bool (decide ((((xb.2.2.1.length : Nat) : Int)) = 0))) (V.pickT rfl hc826 rfl) <| J.nil ?_
     exact ⟨rfl, ⟨(by simp only [hc826]; rfl), rfl, rfl, trivial⟩, rfl, rfl⟩
   refine J.skip rfl rfl rfl rfl hc826 <| J.skip rfl rfl rfl rfl hc826 <| J.skip rfl rfl rfl rfl hc826 <| J.skip rfl rfl rfl rfl hc826 <| jv (.bool false) (V.pickF rfl hc826 rfl) <| J.nil ?_
   exact ⟨rfl, ⟨(by simp only [hc826]; rfl), rfl, rfl, trivial⟩, rfl, rfl⟩
 intro ρ
 refine J.nil <| cc rfl h (fun hc827 h => ?_) fun hc827 h => ?_
 · refine cr <| ja (nos) rfl <| ja (ii 14) rfl <| J.nil <| CJ.by (fun w hs => Sep.rowNil (e := 93) (t := (.cons (.int .i64) (.cons (.int .i64) (.cons (.int .i64) (.cons (.int .i64) (.one .bool)))))) hs) <| CJ.ret ?_
   obtain rfl := si h
   exact ⟨_, _, Res.two rfl rfl rfl, ⟨[], 14, none, 0, rfl, rfl, rfl⟩, (Hp.le_refl _), fun w hs => (Sep.dropAt 1 rfl (Sep.dropAt 1 rfl hs))⟩
 refine CJ.skip <| CJ.seq <| cr <| jv _ (V.fad Tryz.underlying61 rfl nz3 rfl) <| jv (ii xa.1) (V.ld rfl (Ld.sc sc3 (Rd.cl 1 rfl rfl))) <| jv (.bool (decide (xa.1 = 3))) (V.eql rfl rfl) ?_
 refine J.nil <| cc rfl h (fun hc829 h => ?_) fun hc829 h => ?_
 · refine CJ.seq <| CJ.mix [Cl b689 87 [ii xb.1, ii xb.2.1, .slice adxb_2 xb.2.2.1.length cpxb_2, .slice adxb_3 xb.2.2.2.1.length cpxb_3, .slice adxb_4 xb.2.2.2.2.length cpxb_4], Cl b688 61 [ii xa.1, ii xa.2.1, ii xa.2.2.1, .slice adxa_3 xa.2.2.2.1.length cpxa_3, .slice adxa_4 xa.2.2.2.2.1.length cpxa_4, .slice adxa_5 xa.2.2.2.2.2.length cpxa_5]] [([0, 1, 2, 3, 4, 5], 6)] [7, 8, 9, 10] [] mixO (by decide +kernel) ⟨0, rfl, 0, rfl, trivial⟩ rfl rfl rfl <| JM.cons <| qv _ (V.fad Tryz.underlying87 rfl nz23 rfl) <| qv (.slice adxb_2 xb.2.2.1.length cpxb_2) (V.ld rfl (Ld.sc sc23 (Rd.cl 0 rfl rfl))) ?_
   obtain ⟨x854, hx855, h⟩ := ob h
   obtain ⟨p856, p857, p858⟩ := getI_some hx855
   obtain ⟨b859, o860, e861, a862⟩ := (fxb_2).at p857
   refine qv _ (V.iad Tryz.underlying23 sz26 rfl e861 rfl p856 p858) ?_
   obtain ⟨ad863, cp864, c865, f866⟩ := ((a862).one).sl
   refine qv (.agg #[.slice ad863 x854.length cp864]) (V.ld rfl (Ld.aggK (cs := [.slice ad863 x854.length cp864]) Tryz.underlying26 sz26 rfl ⟨c865, trivial⟩ (Hp.le_refl _))) <| qv _ (V.fad Tryz.underlying87 rfl nz26 rfl) <| qv (.agg #[.slice adxb_3 xb.2.2.2.1.length cpxb_3]) (V.ld rfl (Ld.agg (cs := [.slice adxb_3 xb.2.2.2.1.length cpxb_3]) Tryz.underlying26 sz26 rfl (Rd.cls 0 3 rfl rfl))) <| JQ.nil ?_
   obtain ⟨r867, hr868, h⟩ := ob h
   refine JA.op rfl (A.call (L1 := []) Tryz.call44 rfl (ref16_Flow_ok f866 fxb_3 hr868) rfl rfl) ?_
   rintro _ _ _ ⟨v874, _, rfl, ⟨⟨l869, i870, ad871, cp872, rfl, rfl, rfl⟩, rfl⟩, _, rfl⟩
   refine ⟨fun w hs => Hold.sub (Hp.le_refl _) ⟨1, rfl, 1, rfl, trivial⟩ hs, ?_⟩
   refine JM.wit Row.hn fun hn873 => JM.nil <| qv (.slice ad871 l869.length cp872) (V.ext rfl rfl) <| qv (ii i870) (V.ext rfl rfl) <| qa (.slice ad871 l869.length cp872) rfl <| qa (ii i870) rfl <| JQ.nil ?_
   refine J.nil <| CJ.ret ?_
   obtain rfl := si h
   exact ⟨_, _, Res.two rfl rfl rfl, ⟨l869, i870, ad871, cp872, rfl, rfl, rfl⟩, (Hp.le_refl _), fun w hs => (Sep.dropAt 1 rfl (Sep.dropAt 1 rfl hs))⟩
 refine CJ.skip <| CJ.seq <| cr <| jv _ (V.fad Tryz.underlying61 rfl nz3 rfl) <| jv (ii xa.1) (V.ld rfl (Ld.sc sc3 (Rd.cl 1 rfl rfl))) <| jv (.bool (decide (xa.1 = 4))) (V.eql rfl rfl) ?_
 refine J.nil <| cc rfl h (fun hc878 h => ?_) fun hc878 h => ?_
 · refine CJ.seq <| CJ.region ?_
   refine J.op rfl (A.lit (K0 := K) (ty := (.one (.sl (.cons (.int .i64) (.one .bool))))) (xs := ([] : List (List (Int × Bool)))) Tryz.underlying23 inf26 rfl (by decide) rfl rfl rfl rfl rfl (by decide)) ?_
   rintro _ _ _ ⟨b879, rfl, rfl, rfl⟩
   have hn880 : ([] : List (List (Int × Bool))) ≠ [] → ∃ g, (some ⟨b879, 0, none⟩ : Option Addr) = some ⟨g, 0, none⟩ := fun _ => ⟨b879, rfl⟩
   refine ja (.slice (some ⟨b879, 0, none⟩) ((([] : List (List (Int × Bool)))).length) 0) rfl <| J.nil <| CJ.seq <| cr <| ja (ii 0) rfl <| J.nil ?_
   obtain ⟨o1080, ho1081, h⟩ := ob h
   refine CJ.meetN (fun ρ K' L' => ∃ (l1075 : (List (List (Int × Bool)))) (ad1076 : Option Addr) (cp1077 : Nat), l1075 = o1080 ∧ Fits [(2, .pointer (some ⟨b688, 0, none⟩)), (3, .pointer (some ⟨b689, 0, none⟩)), (7, .slice ad1076 l1075.length cp1077)] ρ ∧ K = K' ∧ L' = Cl b688 61 [ii xa.1, ii xa.2.1, ii xa.2.2.1, .slice adxa_3 xa.2.2.2.1.length cpxa_3, .slice adxa_4 xa.2.2.2.2.1.length cpxa_4, .slice adxa_5 xa.2.2.2.2.2.length cpxa_5] :: Cl b689 87 [ii xb.1, ii xb.2.1, .slice adxb_2 xb.2.2.1.length cpxb_2, .slice adxb_3 xb.2.2.2.1.length cpxb_3, .slice adxb_4 xb.2.2.2.2.length cpxb_4] :: Row K 26 (.one (.sl (.cons (.int .i64) (.one .bool)))) (.slice ad1076 l1075.length cp1077) l1075 :: F) ?_ ?_
   · refine CJ.block <| CJ.front 1 rfl <| CJ.front 2 rfl <| CJ.loop (fun s ρ K' L' => ∃ (l1145 : (List (List (Int × Bool)))) (i1150 : Int) (ad1146 : Option Addr) (cp1147 : Nat), (l1145, i1150) = s ∧ Fits [(2, .pointer (some ⟨b688, 0, none⟩)), (3, .pointer (some ⟨b689, 0, none⟩)), (7, .slice ad1146 l1145.length cp1147), (8, ii i1150)] ρ ∧ K = K' ∧ L' = Cl b688 61 [ii xa.1, ii xa.2.1, ii xa.2.2.1, .slice adxa_3 xa.2.2.2.1.length cpxa_3, .slice adxa_4 xa.2.2.2.2.1.length cpxa_4, .slice adxa_5 xa.2.2.2.2.2.length cpxa_5] :: Cl b689 87 [ii xb.1, ii xb.2.1, .slice adxb_2 xb.2.2.1.length cpxb_2, .slice adxb_3 xb.2.2.2.1.length cpxb_3, .slice adxb_4 xb.2.2.2.2.length cpxb_4] :: Row K 26 (.one (.sl (.cons (.int .i64) (.one .bool)))) (.slice ad1146 l1145.length cp1147) l1145 :: F) ho1081 ⟨([] : List (List (Int × Bool))), 0, (some ⟨b879, 0, none⟩), 0, rfl, ⟨rfl, rfl, rfl, rfl, trivial⟩, rfl, rfl⟩ ?_
     rintro s ρ _ _ r1217 ⟨l1145, i1150, ad1146, cp1147, rfl, hf1215, rfl, rfl⟩ h1214
     obtain ⟨ρ, rfl⟩ := hf1215.ex
     refine CJ.front 2 rfl <| CJ.wit Row.hn fun hn1149 => CJ.seq <| cr <| jm (ii i1150) rfl <| jv _ (V.fad Tryz.underlying61 rfl nz59 rfl) ?_
     refine jv (.slice adxa_4 xa.2.2.2.2.1.length cpxa_4) (V.ld rfl (Ld.sc sc59 (Rd.cl 1 rfl rfl))) <| jv (ii (((xa.2.2.2.2.1.length : Nat) : Int))) (V.len Tryz.underlying59 rfl) <| jv (.bool (decide (i1150 < (((xa.2.2.2.2.1.length : Nat) : Int))))) (V.lss rfl rfl) <| J.nil <| cc rfl h1214 (fun hc1218 h1214 => ?_) fun hc1218 h1214 => ?_
     · refine CJ.skip <| CJ.seq <| CJ.block <| CJ.mix [Row K 26 (.one (.sl (.cons (.int .i64) (.one .bool)))) (.slice ad1146 l1145.length cp1147) l1145, Cl b688 61 [ii xa.1, ii xa.2.1, ii xa.2.2.1, .slice adxa_3 xa.2.2.2.1.length cpxa_3, .slice adxa_4 xa.2.2.2.2.1.length cpxa_4, .slice adxa_5 xa.2.2.2.2.2.length cpxa_5], Cl b689 87 [ii xb.1, ii xb.2.1, .slice adxb_2 xb.2.2.1.length cpxb_2, .slice adxb_3 xb.2.2.2.1.length cpxb_3, .slice adxb_4 xb.2.2.2.2.length cpxb_4]] [([0, 1, 2, 3, 4, 5, 6, 7, 8, 9], 10)] [] [11, 12] mixO (by decide +kernel) ⟨0, rfl, 0, rfl, 0, rfl, trivial⟩ rfl rfl rfl <| JM.cons <| qm (.slice ad1146 l1145.length cp1147) rfl <| qv _ (V.fad Tryz.underlying87 rfl nz23 rfl) ?_
       refine qv (.slice adxb_2 xb.2.2.1.length cpxb_2) (V.ld rfl (Ld.sc sc23 (Rd.cl 2 rfl rfl))) <| qv _ (V.fad Tryz.underlying61 rfl nz59 rfl) <| qv (.slice adxa_4 xa.2.2.2.2.1.length cpxa_4) (V.ld rfl (Ld.sc sc59 (Rd.cl 1 rfl rfl))) <| qm (ii i1150) rfl ?_
       obtain ⟨x1244, hx1245, h1214⟩ := ob h1214
       obtain ⟨p1246, p1247, p1248⟩ := getI_some hx1245
       obtain ⟨b1249, o1250, e1251, a1252⟩ := (fxa_4).at p1247
       refine qv _ (V.iad Tryz.underlying59 sz3 rfl e1251 rfl p1246 p1248) <| qv (ii x1244) (V.ld rfl (Ld.sc sc3 (Rd.k (a1252).int (Hp.le_refl _)))) ?_
       obtain ⟨x1253, hx1254, h1214⟩ := ob h1214
       obtain ⟨p1255, p1256, p1257⟩ := getI_some hx1254
       obtain ⟨b1258, o1259, e1260, a1261⟩ := (fxb_2).at p1256
       refine qv _ (V.iad Tryz.underlying23 sz26 rfl e1260 rfl p1255 p1257) ?_
       obtain ⟨ad1262, cp1263, c1264, f1265⟩ := ((a1261).one).sl
       refine qv (.agg #[.slice ad1262 x1253.length cp1263]) (V.ld rfl (Ld.aggK (cs := [.slice ad1262 x1253.length cp1263]) Tryz.underlying26 sz26 rfl ⟨c1264, trivial⟩ (Hp.le_refl _))) <| JQ.nil ?_
       refine JA.op rfl (A.lit (K0 := K) (ty := (.one (.sl (.cons (.int .i64) (.one .bool))))) (xs := ([x1253] : List (List (Int × Bool)))) Tryz.underlying23 inf26 rfl (by decide) rfl rfl rfl ⟨_, _, rfl, f1265, rfl⟩ rfl (by decide)) ?_
       rintro _ _ _ ⟨b1266, rfl, rfl, rfl⟩
       have hn1267 : ([x1253] : List (List (Int × Bool))) ≠ [] → ∃ g, (some ⟨b1266, 0, none⟩ : Option Addr) = some ⟨g, 0, none⟩ := fun _ => ⟨b1266, rfl⟩
       refine ⟨fun w hs => Hold.sub (Hp.le_refl _) ⟨1, rfl, 1, rfl, 1, rfl, trivial⟩ hs, ?_⟩
       refine JM.nil <| JQ.nil ?_
       obtain ⟨z1269, hz1270, h1214⟩ := ob h1214
       refine J.front 1 rfl <| J.op rfl (A.appR (Kr := K) Tryz.underlying23 inf26 rfl rfl (by decide) (by decide) rfl rfl (Els.mono (Hp.le_refl _)) (Els.mono (Hp.le_refl _)) hz1270) ?_
       rintro _ _ _ ⟨v1271, rfl, rfl, rfl⟩
       refine J.wit Row.form ?_
       rintro ⟨ad1272, cp1273, rfl, _, _, hn1274⟩
       refine ja (.slice ad1272 z1269.length cp1273) rfl <| J.nil <| CJ.region <| jm (ii i1150) rfl <| jv (ii (IntKind.wrap .i64 (i1150 + 1))) (V.add rfl rfl) <| ja (ii (IntKind.wrap .i64 (i1150 + 1))) rfl <| J.front 2 rfl ?_
       refine J.front 2 rfl <| J.nil ?_
       obtain rfl := si h1214
       exact ⟨rfl, ⟨z1269, IntKind.wrap .i64 (i1150 + 1), ad1272, cp1273, rfl, ⟨rfl, rfl, rfl, rfl, trivial⟩, rfl, rfl⟩⟩
     refine CJ.front 2 rfl <| CJ.front 2 rfl <| CJ.exit ?_
     obtain rfl := si h1214
     refine ⟨nofun, fun e => ?_⟩
     subst e
     exact ⟨rfl, ⟨l1145, ad1146, cp1147, rfl, ⟨rfl, rfl, rfl, trivial⟩, rfl, rfl⟩⟩
   rintro ρ _ _ ⟨l1075, ad1076, cp1077, rfl, hf1275, rfl, rfl⟩
   obtain ⟨ρ, rfl⟩ := hf1275.ex
   refine PJ.front 2 rfl <| PJ.wit Row.hn fun hn1079 => PJ.done <| CJ.seq <| CJ.mix [Cl b688 61 [ii xa.1, ii xa.2.1, ii xa.2.2.1, .slice adxa_3 xa.2.2.2.1.length cpxa_3, .slice adxa_4 xa.2.2.2.2.1.length cpxa_4, .slice adxa_5 xa.2.2.2.2.2.length cpxa_5], Cl b689 87 [ii xb.1, ii xb.2.1, .slice adxb_2 xb.2.2.1.length cpxb_2, .slice adxb_3 xb.2.2.2.1.length cpxb_3, .slice adxb_4 xb.2.2.2.2.length cpxb_4]] [([0, 1, 2, 3, 4, 5, 6, 7, 8, 9, 10, 11, 12, 13, 14], 15)] [16, 17, 18, 19] [] mixO (by decide +kernel) ⟨1, rfl, 1, rfl, trivial⟩ rfl rfl rfl <| JM.cons <| qv _ (V.fad Tryz.underlying87 rfl nz27 rfl) ?_
   refine qv (.slice adxb_4 xb.2.2.2.2.length cpxb_4) (V.ld rfl (Ld.sc sc27 (Rd.cl 1 rfl rfl))) <| qv _ (V.fad Tryz.underlying61 rfl nz3 rfl) <| qv (ii xa.2.1) (V.ld rfl (Ld.sc sc3 (Rd.cl 0 rfl rfl))) ?_
   obtain ⟨x1325, hx1326, h⟩ := ob h
   obtain ⟨p1327, p1328, p1329⟩ := getI_some hx1326
   obtain ⟨b1330, o1331, e1332, a1333⟩ := (fxb_4).at p1328
   refine qv _ (V.iad Tryz.underlying27 sz70 rfl e1332 rfl p1327 p1329) ?_
   obtain ⟨ad1334, cp1335, c1336, f1337⟩ := (((a1333).snd).fst).sl
   obtain ⟨ad1338, cp1339, c1340, f1341⟩ := ((((a1333).snd).snd).fst).sl
   obtain ⟨ad1342, cp1343, c1344, f1345⟩ := ((((((a1333).snd).snd).snd).one).one).sl
   refine qv (.agg #[ii x1325.1, .slice ad1334 x1325.2.1.length cp1335, .slice ad1338 x1325.2.2.1.length cp1339, .slice ad1342 x1325.2.2.2.length cp1343]) (V.ld rfl (Ld.aggK (cs := [ii x1325.1, .slice ad1334 x1325.2.1.length cp1335, .slice ad1338 x1325.2.2.1.length cp1339, .slice ad1342 x1325.2.2.2.length cp1343]) Tryz.underlying70 sz70 rfl ⟨((a1333).fst).int, c1336, c1340, c1344, trivial⟩ (Hp.le_refl _))) <| qv _ (V.fad Tryz.underlying61 rfl nz59 rfl) <| qv (.slice adxa_5 xa.2.2.2.2.2.length cpxa_5) (V.ld rfl (Ld.sc sc59 (Rd.cl 0 rfl rfl))) <| qm (.slice ad1076 l1075.length cp1077) rfl <| qv _ (V.fad Tryz.underlying87 rfl nz23 rfl) <| qv (.slice adxb_2 xb.2.2.1.length cpxb_2) (V.ld rfl (Ld.sc sc23 (Rd.cl 1 rfl rfl))) <| qv _ (V.fad Tryz.underlying61 rfl nz3 rfl) ?_
   refine qv (ii xa.2.2.1) (V.ld rfl (Ld.sc sc3 (Rd.cl 0 rfl rfl))) ?_
   obtain ⟨x1346, hx1347, h⟩ := ob h
   obtain ⟨p1348, p1349, p1350⟩ := getI_some hx1347
   obtain ⟨b1351, o1352, e1353, a1354⟩ := (fxb_2).at p1349
   refine qv _ (V.iad Tryz.underlying23 sz26 rfl e1353 rfl p1348 p1350) ?_
   obtain ⟨ad1355, cp1356, c1357, f1358⟩ := ((a1354).one).sl
   refine qv (.agg #[.slice ad1355 x1346.length cp1356]) (V.ld rfl (Ld.aggK (cs := [.slice ad1355 x1346.length cp1356]) Tryz.underlying26 sz26 rfl ⟨c1357, trivial⟩ (Hp.le_refl _))) <| JQ.nil <| JA.persist (Hp.le_refl _) (by decide) fun K1359 hK1360 f1361 => ?_
   obtain ⟨r1362, hr1363, h⟩ := ob h
   refine JA.op rfl (A.call (L1 := []) Tryz.call45 rfl (ref17_Call_ok (f1337.mono hK1360) (f1341.mono hK1360) (f1345.mono hK1360) (fxa_5.mono hK1360) f1361 (f1358.mono hK1360) hr1363) rfl rfl) ?_
   rintro _ _ _ ⟨v1369, _, rfl, ⟨⟨l1364, i1365, ad1366, cp1367, rfl, rfl, rfl⟩, rfl⟩, _, rfl⟩
   refine ⟨fun w hs => Hold.sub hK1360 ⟨1, rfl, 1, rfl, trivial⟩ hs, ?_⟩
   refine JM.wit Row.hn fun hn1368 => JM.nil <| qv (.slice ad1366 l1364.length cp1367) (V.ext rfl rfl) <| qv (ii i1365) (V.ext rfl rfl) <| qa (.slice ad1366 l1364.length cp1367) rfl <| qa (ii i1365) rfl <| JQ.nil ?_
   refine J.nil <| CJ.ret ?_
   obtain rfl := si h
   exact ⟨_, _, Res.two rfl rfl rfl, ⟨l1364, i1365, ad1366, cp1367, rfl, rfl, rfl⟩, hK1360, fun w hs => (Sep.dropAt 1 rfl (Sep.dropAt 1 rfl hs))⟩
 refine CJ.skip <| cr <| ja (nos) rfl <| ja (ii 0) rfl <| J.nil <| CJ.by (fun w hs => Sep.rowNil (e := 93) (t := (.cons (.int .i64) (.cons (.int .i64) (.cons (.int .i64) (.cons (.int .i64) (.one .bool)))))) hs) ?_
 refine CJ.ret ?_
 obtain rfl := si h
 exact ⟨_, _, Res.two rfl rfl rfl, ⟨[], 0, none, 0, rfl, rfl, rfl⟩, (Hp.le_refl _), fun w hs => (Sep.dropAt 1 rfl (Sep.dropAt 1 rfl hs))⟩
noncomputable def fn_ref21_blocks_l1 (xa : (Int × Int × (List (Int × Int)) × (List (List (Int × Bool))) × (List (Int × Bool)) × (List (Int × (List (Int × Int)) × (List (List (Int × Bool))) × (List (Int × Bool)))) × (List ((List (Int × Int × Int × Int × Bool)) × (Int × Int × Int × (List Int) × (List Int) × (List Int)))))) : (Int × Int) → Option ((Int × Int) ⊕ (Unit ⊕ (Int × Int × Int × Int))) := fun ((i2322, i2323) : (Int × Int)) => cond (decide (i2323 < (((xa.2.2.2.2.2.2.length : Nat) : Int)))) ((getI xa.2.2.2.2.2.2 i2323).bind fun x2346 => cond (decide (65536 < (IntKind.wrap .i64 (i2322 + (((x2346.1.length : Nat) : Int)))))) (some (.inr ((.inr ((6, 5, i2323, 0)))))) (some (.inl ((IntKind.wrap .i64 (i2322 + (((x2346.1.length : Nat) : Int))), IntKind.wrap .i64 (i2323 + 1)))))) (some (.inr ((.inl ()))))
noncomputable def fn_ref21_blocks_l2 (xa : (Int × Int × (List (Int × Int)) × (List (List (Int × Bool))) × (List (Int × Bool)) × (List (Int × (List (Int × Int)) × (List (List (Int × Bool))) × (List (Int × Bool)))) × (List ((List (Int × Int × Int × Int × Bool)) × (Int × Int × Int × (List Int) × (List Int) × (List Int)))))) (i3774 : Int) (x4131 : ((List (Int × Int × Int × Int × Bool)) × (Int × Int × Int × (List Int) × (List Int) × (List Int)))) : Int → Option (Int ⊕ (Unit ⊕ (Int ⊕ (Unit ⊕ (Int × Int × Int × Int))))) := fun (i4322 : Int) => cond (decide (i4322 < (((x4131.1.length : Nat) : Int)))) ((getI x4131.1 i4322).bind fun x4391 => (fn_ref18_Needs (x4391.1, x4391.2.1, x4391.2.2.1, x4391.2.2.2.1, x4391.2.2.2.2) xa.2.2.2.1 xa.2.1).bind fun (l4402, i4403) => cond (!decide (i4403 = 0)) (some (.inr ((.inr (.inr ((.inr ((i4403, 6, i3774, i4322))))))))) (some (.inl (IntKind.wrap .i64 (i4322 + 1))))) (some (.inr ((.inl ()))))
noncomputable def fn_ref21_blocks_l3 (xa : (Int × Int × (List (Int × Int)) × (List (List (Int × Bool))) × (List (Int × Bool)) × (List (Int × (List (Int × Int)) × (List (List (Int × Bool))) × (List (Int × Bool)))) × (List ((List (Int × Int × Int × Int × Bool)) × (Int × Int × Int × (List Int) × (List Int) × (List Int)))))) : Int → Option (Int ⊕ (Unit ⊕ (Int × Int × Int × Int))) := fun (i3774 : Int) => cond (decide (i3774 < (((xa.2.2.2.2.2.2.length : Nat) : Int)))) ((getI xa.2.2.2.2.2.2 i3774).bind fun x4131 => (loop (fn_ref21_blocks_l2 xa i3774 x4131) 0 : Option (Unit ⊕ (Int ⊕ (Unit ⊕ (Int × Int × Int × Int))))).bind fun o => match o with | .inr r => some r | .inl () => (getI xa.2.2.2.2.2.2 i3774).bind fun x4447 => (fn_ref19_Needs (x4447.2.1, x4447.2.2.1, x4447.2.2.2.1, x4447.2.2.2.2.1, x4447.2.2.2.2.2.1, x4447.2.2.2.2.2.2) ((((xa.2.2.2.2.2.2.length : Nat) : Int), xa.2.1, xa.2.2.2.1, xa.2.2.2.2.1, xa.2.2.2.2.2.1))).bind fun (l4470, i4471) => cond (!decide (i4471 = 0)) (some (.inr ((.inr ((i4471, 7, i3774, 0)))))) (some (.inl (IntKind.wrap .i64 (i3774 + 1))))) (some (.inr ((.inl ()))))
noncomputable def fn_ref21_blocks (xa : (Int × Int × (List (Int × Int)) × (List (List (Int × Bool))) × (List (Int × Bool)) × (List (Int × (List (Int × Int)) × (List (List (Int × Bool))) × (List (Int × Bool)))) × (List ((List (Int × Int × Int × Int × Bool)) × (Int × Int × Int × (List Int) × (List Int) × (List Int)))))) : Option (Int × Int × Int × Int) :=
  cond (decide ((((xa.2.2.2.2.2.2.length : Nat) : Int)) = 0)) (some ((14, 5, 0, 0))) (cond (decide (65536 < (((xa.2.2.2.2.2.2.length : Nat) : Int)))) (some ((6, 5, 0, 0))) ((loop (fn_ref21_blocks_l1 xa) (0, 0) : Option (Unit ⊕ (Int × Int × Int × Int))).bind fun o => match o with | .inr r => some r | .inl () => (loop (fn_ref21_blocks_l3 xa) 0 : Option (Unit ⊕ (Int × Int × Int × Int))).bind fun o => match o with | .inr r => some r | .inl () => some ((0, 0, 0, 0))))
set_option maxRecDepth 100000 in
set_option maxHeartbeats 4000000 in
theorem ref21_blocks_ok {K : Hp} {xa : (Int × Int × (List (Int × Int)) × (List (List (Int × Bool))) × (List (Int × Bool)) × (List (Int × (List (Int × Int)) × (List (List (Int × Bool))) × (List (Int × Bool)))) × (List ((List (Int × Int × Int × Int × Bool)) × (Int × Int × Int × (List Int) × (List Int) × (List Int)))))} {adxa_2 : Option Addr} {cpxa_2 : Nat} {adxa_3 : Option Addr} {cpxa_3 : Nat} {adxa_4 : Option Addr} {cpxa_4 : Nat} {adxa_5 : Option Addr} {cpxa_5 : Nat} {adxa_6 : Option Addr} {cpxa_6 : Nat} (fxa_2 : Is K (.sl (.cons (.int .i64) (.one (.int .i64)))) [.slice adxa_2 xa.2.2.1.length cpxa_2] xa.2.2.1) (fxa_3 : Is K (.sl (.one (.sl (.cons (.int .i64) (.one .bool))))) [.slice adxa_3 xa.2.2.2.1.length cpxa_3] xa.2.2.2.1) (fxa_4 : Is K (.sl (.cons (.int .i64) (.one .bool))) [.slice adxa_4 xa.2.2.2.2.1.length cpxa_4] xa.2.2.2.2.1) (fxa_5 : Is K (.sl (.cons (.int .i64) (.cons (.sl (.cons (.int .i64) (.one (.int .i64)))) (.cons (.sl (.one (.sl (.cons (.int .i64) (.one .bool))))) (.one (.one (.sl (.cons (.int .i64) (.one .bool))))))))) [.slice adxa_5 xa.2.2.2.2.2.1.length cpxa_5] xa.2.2.2.2.2.1) (fxa_6 : Is K (.sl (.cons (.sl (.cons (.int .i64) (.cons (.int .i64) (.cons (.int .i64) (.cons (.int .i64) (.one .bool)))))) (.one (.cons (.int .i64) (.cons (.int .i64) (.cons (.int .i64) (.cons (.sl (.int .i64)) (.cons (.sl (.int .i64)) (.one (.sl (.int .i64))))))))))) [.slice adxa_6 xa.2.2.2.2.2.2.length cpxa_6] xa.2.2.2.2.2.2) {r : (Int × Int × Int × Int)} (h : fn_ref21_blocks xa = some r) :
    Tr Tryz.prog 54 #[.agg #[ii xa.1, ii xa.2.1, .slice adxa_2 xa.2.2.1.length cpxa_2, .slice adxa_3 xa.2.2.2.1.length cpxa_3, .slice adxa_4 xa.2.2.2.2.1.length cpxa_4, .slice adxa_5 xa.2.2.2.2.2.1.length cpxa_5, .slice adxa_6 xa.2.2.2.2.2.2.length cpxa_6]] K [] (fun v K' L' => (∃ (i2240 : Int) (i2241 : Int) (i2242 : Int) (i2243 : Int), (i2240, i2241, i2242, i2243) = r ∧ .agg #[ii i2240, ii i2241, ii i2242, ii i2243] = v ∧ L' = []) ∧ K = K') := by
 refine Tr.k <| Tr.of Tryz.func54 rfl Tryz.ntmps54 rfl fun E F => ?_
 unfold fn_ref21_blocks at h
 refine cr <| jbx [ii xa.1, ii xa.2.1, .slice adxa_2 xa.2.2.1.length cpxa_2, .slice adxa_3 xa.2.2.2.1.length cpxa_3, .slice adxa_4 xa.2.2.2.2.1.length cpxa_4, .slice adxa_5 xa.2.2.2.2.2.1.length cpxa_5, .slice adxa_6 xa.2.2.2.2.2.2.length cpxa_6] rfl rfl fun b2244 => jal inf95 [ii 0, ii 0, ii 0, ii 0] rfl fun b2245 => J.nil <| CJ.seq <| CJ.seq ?_
 refine CJ.region <| jv _ (V.fad Tryz.underlying30 rfl nz28 rfl) <| jv (.slice adxa_6 xa.2.2.2.2.2.2.length cpxa_6) (V.ld rfl (Ld.sc sc28 (Rd.cl 1 rfl rfl))) <| jv (ii (((xa.2.2.2.2.2.2.length : Nat) : Int))) (V.len Tryz.underlying28 rfl) <| jv (.bool (decide ((((xa.2.2.2.2.2.2.length : Nat) : Int)) = 0))) (V.eql rfl rfl) <| J.nil <| cc rfl h (fun hc2246 h => ?_) fun hc2246 h => ?_
 · refine cr <| jv (.agg #[ii 14, ii 5, ii 0, ii 0]) (V.build inf95 places95 rfl rfl) <| js [ii 14, ii 5, ii 0, ii 0] sz95 rfl rfl rfl rfl rfl rfl <| J.nil <| CJ.ret ?_
   obtain rfl := si h
   exact ⟨_, _, Res.one rfl ⟨_, _, rfl, Ld.agg (cs := [ii 14, ii 5, ii 0, ii 0]) Tryz.underlying95 sz95 rfl (Rd.cls 0 0 rfl rfl)⟩, ⟨14, 5, 0, 0, rfl, rfl, rfl⟩, (Hp.le_refl _), fun w hs => (Sep.dropAt 0 rfl (Sep.dropAt 0 rfl hs))⟩
 refine CJ.skip <| CJ.seq <| cr <| jv _ (V.fad Tryz.underlying30 rfl nz28 rfl) <| jv (.slice adxa_6 xa.2.2.2.2.2.2.length cpxa_6) (V.ld rfl (Ld.sc sc28 (Rd.cl 1 rfl rfl))) <| jv (ii (((xa.2.2.2.2.2.2.length : Nat) : Int))) (V.len Tryz.underlying28 rfl) ?_
 refine jv (.bool (decide (65536 < (((xa.2.2.2.2.2.2.length : Nat) : Int))))) (V.gtr rfl rfl) <| J.nil <| cc rfl h (fun hc2247 h => ?_) fun hc2247 h => ?_
 · refine cr <| jv (.agg #[ii 6, ii 5, ii 0, ii 0]) (V.build inf95 places95 rfl rfl) <| js [ii 6, ii 5, ii 0, ii 0] sz95 rfl rfl rfl rfl rfl rfl <| J.nil <| CJ.ret ?_
   obtain rfl := si h
   exact ⟨_, _, Res.one rfl ⟨_, _, rfl, Ld.agg (cs := [ii 6, ii 5, ii 0, ii 0]) Tryz.underlying95 sz95 rfl (Rd.cls 0 0 rfl rfl)⟩, ⟨6, 5, 0, 0, rfl, rfl, rfl⟩, (Hp.le_refl _), fun w hs => (Sep.dropAt 0 rfl (Sep.dropAt 0 rfl hs))⟩
 refine CJ.skip <| cr <| ja (ii 0) rfl <| J.nil <| CJ.seq <| CJ.seq ?_
 refine CJ.region <| ja (ii 0) rfl <| J.nil ?_
 obtain ⟨o2303, ho2304, h⟩ := ob h
 refine CJ.joinN (o := o2303) (fun s ρ K' L' => () = s ∧ Fits [(1, .pointer (some ⟨b2244, 0, none⟩)), (2, .pointer (some ⟨b2245, 0, none⟩))] ρ ∧ K = K' ∧ L' = Cl b2244 30 [ii xa.1, ii xa.2.1, .slice adxa_2 xa.2.2.1.length cpxa_2, .slice adxa_3 xa.2.2.2.1.length cpxa_3, .slice adxa_4 xa.2.2.2.2.1.length cpxa_4, .slice adxa_5 xa.2.2.2.2.2.1.length cpxa_5, .slice adxa_6 xa.2.2.2.2.2.2.length cpxa_6] :: Cl b2245 95 [ii 0, ii 0, ii 0, ii 0] :: F) ?_ ?_
 · refine CJ.block <| CJ.front 1 rfl <| CJ.loop (fun s ρ K' L' => ∃ (i2322 : Int) (i2323 : Int), (i2322, i2323) = s ∧ Fits [(1, .pointer (some ⟨b2244, 0, none⟩)), (2, .pointer (some ⟨b2245, 0, none⟩)), (3, ii i2322), (4, ii i2323)] ρ ∧ K = K' ∧ L' = Cl b2244 30 [ii xa.1, ii xa.2.1, .slice adxa_2 xa.2.2.1.length cpxa_2, .slice adxa_3 xa.2.2.2.1.length cpxa_3, .slice adxa_4 xa.2.2.2.2.1.length cpxa_4, .slice adxa_5 xa.2.2.2.2.2.1.length cpxa_5, .slice adxa_6 xa.2.2.2.2.2.2.length cpxa_6] :: Cl b2245 95 [ii 0, ii 0, ii 0, ii 0] :: F) ho2304 ⟨0, 0, rfl, ⟨rfl, rfl, rfl, rfl, trivial⟩, rfl, rfl⟩ ?_
   rintro s ρ _ _ r2344 ⟨i2322, i2323, rfl, hf2342, rfl, rfl⟩ h2341
   obtain ⟨ρ, rfl⟩ := hf2342.ex
   refine CJ.seq <| cr <| jm (ii i2323) rfl <| jv _ (V.fad Tryz.underlying30 rfl nz28 rfl) <| jv (.slice adxa_6 xa.2.2.2.2.2.2.length cpxa_6) (V.ld rfl (Ld.sc sc28 (Rd.cl 0 rfl rfl))) <| jv (ii (((xa.2.2.2.2.2.2.length : Nat) : Int))) (V.len Tryz.underlying28 rfl) ?_
   refine jv (.bool (decide (i2323 < (((xa.2.2.2.2.2.2.length : Nat) : Int))))) (V.lss rfl rfl) <| J.nil <| cc rfl h2341 (fun hc2345 h2341 => ?_) fun hc2345 h2341 => ?_
   · refine CJ.skip <| CJ.seq <| CJ.block <| cr <| jm (ii i2322) rfl <| jv _ (V.fad Tryz.underlying30 rfl nz28 rfl) ?_
     refine jv (.slice adxa_6 xa.2.2.2.2.2.2.length cpxa_6) (V.ld rfl (Ld.sc sc28 (Rd.cl 0 rfl rfl))) <| jm (ii i2323) rfl ?_
     obtain ⟨x2346, hx2347, h2341⟩ := ob h2341
     obtain ⟨p2348, p2349, p2350⟩ := getI_some hx2347
     obtain ⟨b2351, o2352, e2353, a2354⟩ := (fxa_6).at p2349
     refine jv _ (V.iad Tryz.underlying28 sz63 rfl e2353 rfl p2348 p2350) <| jv _ (V.fad Tryz.underlying63 rfl nz58 rfl) ?_
     obtain ⟨ad2355, cp2356, c2357, f2358⟩ := ((a2354).fst).sl
     refine jv (.slice ad2355 x2346.1.length cp2356) (V.ld rfl (Ld.sc sc58 (Rd.k c2357 (Hp.le_refl _)))) <| jv (ii (((x2346.1.length : Nat) : Int))) (V.len Tryz.underlying58 rfl) <| jv (ii (IntKind.wrap .i64 (i2322 + (((x2346.1.length : Nat) : Int))))) (V.add rfl rfl) <| ja (ii (IntKind.wrap .i64 (i2322 + (((x2346.1.length : Nat) : Int))))) rfl <| J.nil <| CJ.seq <| CJ.region ?_
     refine jm (ii (IntKind.wrap .i64 (i2322 + (((x2346.1.length : Nat) : Int))))) rfl <| jv (.bool (decide (65536 < (IntKind.wrap .i64 (i2322 + (((x2346.1.length : Nat) : Int))))))) (V.gtr rfl rfl) <| J.nil <| cc rfl h2341 (fun hc2359 h2341 => ?_) fun hc2359 h2341 => ?_
     · refine cr <| jm (ii i2323) rfl <| jv (.agg #[ii 6, ii 5, ii i2323, ii 0]) (V.build inf95 places95 rfl rfl) <| J.front 1 rfl <| js [ii 6, ii 5, ii i2323, ii 0] sz95 rfl rfl rfl rfl rfl rfl <| J.nil ?_
       refine CJ.ret ?_
       obtain rfl := si h2341
       refine ⟨nofun, fun e => ?_⟩
       subst e
       refine .inr ⟨nofun, ?_⟩
       obtain rfl := si h
       exact ⟨_, _, Res.one rfl ⟨_, _, rfl, Ld.agg (cs := [ii 6, ii 5, ii i2323, ii 0]) Tryz.underlying95 sz95 rfl (Rd.cls 0 0 rfl rfl)⟩, ⟨6, 5, i2323, 0, rfl, rfl, rfl⟩, (Hp.le_refl _), fun w hs => (Sep.dropAt 0 rfl (Sep.dropAt 0 rfl hs))⟩
     refine CJ.skip <| CJ.region <| jm (ii i2323) rfl <| jv (ii (IntKind.wrap .i64 (i2323 + 1))) (V.add rfl rfl) <| ja (ii (IntKind.wrap .i64 (i2323 + 1))) rfl <| J.nil ?_
     obtain rfl := si h2341
     exact ⟨rfl, ⟨IntKind.wrap .i64 (i2322 + (((x2346.1.length : Nat) : Int))), IntKind.wrap .i64 (i2323 + 1), rfl, ⟨rfl, rfl, rfl, rfl, trivial⟩, rfl, rfl⟩⟩
   refine CJ.exit ?_
   obtain rfl := si h2341
   refine ⟨nofun, fun e => ?_⟩
   subst e
   exact .inl ⟨rfl, _, rfl, ⟨rfl, ⟨rfl, rfl, trivial⟩, rfl, rfl⟩⟩
 rintro s ρ _ _ ho2360 ⟨rfl, hf2361, rfl, rfl⟩
 subst ho2360
 obtain ⟨ρ, rfl⟩ := hf2361.ex
 refine PJ.done <| cr <| jv _ (V.fad Tryz.underlying30 rfl nz28 rfl) <| jv (.slice adxa_6 xa.2.2.2.2.2.2.length cpxa_6) (V.ld rfl (Ld.sc sc28 (Rd.cl 0 rfl rfl))) <| jv (ii (((xa.2.2.2.2.2.2.length : Nat) : Int))) (V.len Tryz.underlying28 rfl) <| jv _ (V.fad Tryz.underlying30 rfl nz3 rfl) ?_
 refine jv (ii xa.2.1) (V.ld rfl (Ld.sc sc3 (Rd.cl 0 rfl rfl))) <| jv _ (V.fad Tryz.underlying30 rfl nz23 rfl) <| jv (.slice adxa_3 xa.2.2.2.1.length cpxa_3) (V.ld rfl (Ld.sc sc23 (Rd.cl 0 rfl rfl))) <| jv _ (V.fad Tryz.underlying30 rfl nz26 rfl) <| jv (.agg #[.slice adxa_4 xa.2.2.2.2.1.length cpxa_4]) (V.ld rfl (Ld.agg (cs := [.slice adxa_4 xa.2.2.2.2.1.length cpxa_4]) Tryz.underlying26 sz26 rfl (Rd.cls 0 4 rfl rfl))) <| jv _ (V.fad Tryz.underlying30 rfl nz27 rfl) <| jv (.slice adxa_5 xa.2.2.2.2.2.1.length cpxa_5) (V.ld rfl (Ld.sc sc27 (Rd.cl 0 rfl rfl))) ?_
 refine jv (.agg #[ii (((xa.2.2.2.2.2.2.length : Nat) : Int)), ii xa.2.1, .slice adxa_3 xa.2.2.2.1.length cpxa_3, .slice adxa_4 xa.2.2.2.2.1.length cpxa_4, .slice adxa_5 xa.2.2.2.2.2.1.length cpxa_5]) (V.build inf87 places87 rfl rfl) <| jal inf87 [ii 0, ii 0, nos, nos, nos] rfl fun b2363 => js [ii (((xa.2.2.2.2.2.2.length : Nat) : Int)), ii xa.2.1, .slice adxa_3 xa.2.2.2.1.length cpxa_3, .slice adxa_4 xa.2.2.2.2.1.length cpxa_4, .slice adxa_5 xa.2.2.2.2.2.1.length cpxa_5] sz87 rfl rfl rfl rfl rfl rfl <| J.nil <| CJ.seq <| CJ.seq <| CJ.region ?_
 refine ja (ii 0) rfl <| J.nil ?_
 obtain ⟨o3421, ho3422, h⟩ := ob h
 refine CJ.joinN (o := o3421) (fun s ρ K' L' => () = s ∧ Fits [(2, .pointer (some ⟨b2245, 0, none⟩))] ρ ∧ K = K' ∧ L' = Cl b2245 95 [ii 0, ii 0, ii 0, ii 0] :: F) ?_ ?_
 · refine CJ.block <| CJ.front 2 rfl <| CJ.front 2 rfl <| CJ.loop (fun s ρ K' L' => ∃ (i3774 : Int), i3774 = s ∧ Fits [(1, .pointer (some ⟨b2244, 0, none⟩)), (2, .pointer (some ⟨b2245, 0, none⟩)), (5, .pointer (some ⟨b2363, 0, none⟩)), (6, ii i3774)] ρ ∧ K = K' ∧ L' = Cl b2244 30 [ii xa.1, ii xa.2.1, .slice adxa_2 xa.2.2.1.length cpxa_2, .slice adxa_3 xa.2.2.2.1.length cpxa_3, .slice adxa_4 xa.2.2.2.2.1.length cpxa_4, .slice adxa_5 xa.2.2.2.2.2.1.length cpxa_5, .slice adxa_6 xa.2.2.2.2.2.2.length cpxa_6] :: Cl b2245 95 [ii 0, ii 0, ii 0, ii 0] :: Cl b2363 87 [ii (((xa.2.2.2.2.2.2.length : Nat) : Int)), ii xa.2.1, .slice adxa_3 xa.2.2.2.1.length cpxa_3, .slice adxa_4 xa.2.2.2.2.1.length cpxa_4, .slice adxa_5 xa.2.2.2.2.2.1.length cpxa_5] :: F) ho3422 ⟨0, rfl, ⟨rfl, rfl, rfl, rfl, trivial⟩, rfl, rfl⟩ ?_
   rintro s ρ _ _ r4129 ⟨i3774, rfl, hf4127, rfl, rfl⟩ h4126
   obtain ⟨ρ, rfl⟩ := hf4127.ex
   refine CJ.seq <| cr <| jm (ii i3774) rfl <| jv _ (V.fad Tryz.underlying30 rfl nz28 rfl) <| jv (.slice adxa_6 xa.2.2.2.2.2.2.length cpxa_6) (V.ld rfl (Ld.sc sc28 (Rd.cl 0 rfl rfl))) <| jv (ii (((xa.2.2.2.2.2.2.length : Nat) : Int))) (V.len Tryz.underlying28 rfl) ?_
   refine jv (.bool (decide (i3774 < (((xa.2.2.2.2.2.2.length : Nat) : Int))))) (V.lss rfl rfl) <| J.nil <| cc rfl h4126 (fun hc4130 h4126 => ?_) fun hc4130 h4126 => ?_
   · refine CJ.skip <| CJ.seq <| CJ.block <| cr <| jv _ (V.fad Tryz.underlying30 rfl nz28 rfl) <| jv (.slice adxa_6 xa.2.2.2.2.2.2.length cpxa_6) (V.ld rfl (Ld.sc sc28 (Rd.cl 0 rfl rfl))) ?_
     refine jm (ii i3774) rfl ?_
     obtain ⟨x4131, hx4132, h4126⟩ := ob h4126
     obtain ⟨p4133, p4134, p4135⟩ := getI_some hx4132
     obtain ⟨b4136, o4137, e4138, a4139⟩ := (fxa_6).at p4134
     refine jv _ (V.iad Tryz.underlying28 sz63 rfl e4138 rfl p4133 p4135) <| jv _ (V.fad Tryz.underlying63 rfl nz58 rfl) ?_
     obtain ⟨ad4140, cp4141, c4142, f4143⟩ := ((a4139).fst).sl
     refine jv (.slice ad4140 x4131.1.length cp4141) (V.ld rfl (Ld.sc sc58 (Rd.k c4142 (Hp.le_refl _)))) <| ja (.slice ad4140 x4131.1.length cp4141) rfl <| J.nil <| CJ.seq <| cr <| ja (ii 0) rfl ?_
     refine J.nil ?_
     obtain ⟨o4277, ho4278, h4126⟩ := ob h4126
     refine CJ.joinN (o := o4277) (fun s ρ K' L' => () = s ∧ Fits [(1, .pointer (some ⟨b2244, 0, none⟩)), (2, .pointer (some ⟨b2245, 0, none⟩)), (5, .pointer (some ⟨b2363, 0, none⟩)), (6, ii i3774)] ρ ∧ K = K' ∧ L' = Cl b2244 30 [ii xa.1, ii xa.2.1, .slice adxa_2 xa.2.2.1.length cpxa_2, .slice adxa_3 xa.2.2.2.1.length cpxa_3, .slice adxa_4 xa.2.2.2.2.1.length cpxa_4, .slice adxa_5 xa.2.2.2.2.2.1.length cpxa_5, .slice adxa_6 xa.2.2.2.2.2.2.length cpxa_6] :: Cl b2245 95 [ii 0, ii 0, ii 0, ii 0] :: Cl b2363 87 [ii (((xa.2.2.2.2.2.2.length : Nat) : Int)), ii xa.2.1, .slice adxa_3 xa.2.2.2.1.length cpxa_3, .slice adxa_4 xa.2.2.2.2.1.length cpxa_4, .slice adxa_5 xa.2.2.2.2.2.1.length cpxa_5] :: F) ?_ ?_
     · refine CJ.block <| CJ.loop (fun s ρ K' L' => ∃ (i4322 : Int), i4322 = s ∧ Fits [(1, .pointer (some ⟨b2244, 0, none⟩)), (2, .pointer (some ⟨b2245, 0, none⟩)), (5, .pointer (some ⟨b2363, 0, none⟩)), (6, ii i3774), (7, .slice ad4140 x4131.1.length cp4141), (8, ii i4322)] ρ ∧ K = K' ∧ L' = Cl b2244 30 [ii xa.1, ii xa.2.1, .slice adxa_2 xa.2.2.1.length cpxa_2, .slice adxa_3 xa.2.2.2.1.length cpxa_3, .slice adxa_4 xa.2.2.2.2.1.length cpxa_4, .slice adxa_5 xa.2.2.2.2.2.1.length cpxa_5, .slice adxa_6 xa.2.2.2.2.2.2.length cpxa_6] :: Cl b2245 95 [ii 0, ii 0, ii 0, ii 0] :: Cl b2363 87 [ii (((xa.2.2.2.2.2.2.length : Nat) : Int)), ii xa.2.1, .slice adxa_3 xa.2.2.2.1.length cpxa_3, .slice adxa_4 xa.2.2.2.2.1.length cpxa_4, .slice adxa_5 xa.2.2.2.2.2.1.length cpxa_5] :: F) ho4278 ⟨0, rfl, ⟨rfl, rfl, rfl, rfl, rfl, rfl, trivial⟩, rfl, rfl⟩ ?_
       rintro s ρ _ _ r4369 ⟨i4322, rfl, hf4367, rfl, rfl⟩ h4366
       obtain ⟨ρ, rfl⟩ := hf4367.ex
       refine CJ.seq <| cr <| jm (ii i4322) rfl <| jm (.slice ad4140 x4131.1.length cp4141) rfl <| jv (ii (((x4131.1.length : Nat) : Int))) (V.len Tryz.underlying58 rfl) <| jv (.bool (decide (i4322 < (((x4131.1.length : Nat) : Int))))) (V.lss rfl rfl) ?_
       refine J.nil <| cc rfl h4366 (fun hc4370 h4366 => ?_) fun hc4370 h4366 => ?_
       · refine CJ.skip <| CJ.seq <| CJ.block <| CJ.seq <| CJ.mix [Cl b2244 30 [ii xa.1, ii xa.2.1, .slice adxa_2 xa.2.2.1.length cpxa_2, .slice adxa_3 xa.2.2.2.1.length cpxa_3, .slice adxa_4 xa.2.2.2.2.1.length cpxa_4, .slice adxa_5 xa.2.2.2.2.2.1.length cpxa_5, .slice adxa_6 xa.2.2.2.2.2.2.length cpxa_6], Cl b2245 95 [ii 0, ii 0, ii 0, ii 0], Cl b2363 87 [ii (((xa.2.2.2.2.2.2.length : Nat) : Int)), ii xa.2.1, .slice adxa_3 xa.2.2.2.1.length cpxa_3, .slice adxa_4 xa.2.2.2.2.1.length cpxa_4, .slice adxa_5 xa.2.2.2.2.2.1.length cpxa_5]] [([0, 1, 2, 3, 4, 5, 6, 7], 8)] [9, 10, 11, 12, 13] [] mixO (by decide +kernel) ⟨0, rfl, 0, rfl, 0, rfl, trivial⟩ rfl rfl rfl <| JM.cons <| qm (.slice ad4140 x4131.1.length cp4141) rfl ?_
         refine qm (ii i4322) rfl ?_
         obtain ⟨x4391, hx4392, h4366⟩ := ob h4366
         obtain ⟨p4393, p4394, p4395⟩ := getI_some hx4392
         obtain ⟨b4396, o4397, e4398, a4399⟩ := (f4143).at p4394
         refine qv _ (V.iad Tryz.underlying58 sz65 rfl e4398 rfl p4393 p4395) <| qv (.agg #[ii x4391.1, ii x4391.2.1, ii x4391.2.2.1, ii x4391.2.2.2.1, .bool x4391.2.2.2.2]) (V.ld rfl (Ld.aggK (cs := [ii x4391.1, ii x4391.2.1, ii x4391.2.2.1, ii x4391.2.2.2.1, .bool x4391.2.2.2.2]) Tryz.underlying65 sz65 rfl ⟨((a4399).fst).int, (((a4399).snd).fst).int, ((((a4399).snd).snd).fst).int, (((((a4399).snd).snd).snd).fst).int, ((((((a4399).snd).snd).snd).snd).one).bool, trivial⟩ (Hp.le_refl _))) <| qv _ (V.fad Tryz.underlying30 rfl nz23 rfl) <| qv (.slice adxa_3 xa.2.2.2.1.length cpxa_3) (V.ld rfl (Ld.sc sc23 (Rd.cl 0 rfl rfl))) <| qv _ (V.fad Tryz.underlying30 rfl nz3 rfl) <| qv (ii xa.2.1) (V.ld rfl (Ld.sc sc3 (Rd.cl 0 rfl rfl))) <| JQ.nil ?_
         obtain ⟨r4400, hr4401, h4366⟩ := ob h4366
         refine JA.op rfl (A.call (L1 := []) Tryz.call31 rfl (ref18_Needs_ok fxa_3 hr4401) rfl rfl) ?_
         rintro _ _ _ ⟨v4407, _, rfl, ⟨⟨l4402, i4403, ad4404, cp4405, rfl, rfl, rfl⟩, rfl⟩, _, rfl⟩
         refine ⟨fun w hs => Hold.sub (Hp.le_refl _) ⟨1, rfl, 1, rfl, 1, rfl, trivial⟩ hs, ?_⟩
         refine JM.wit Row.hn fun hn4406 => JM.nil <| qm (.tuple #[.slice ad4404 l4402.length cp4405, ii i4403]) rfl <| qv (.slice ad4404 l4402.length cp4405) (V.ext rfl rfl) <| qv (ii i4403) (V.ext rfl rfl) <| qa (.slice ad4404 l4402.length cp4405) rfl <| qa (ii i4403) rfl ?_
         refine JQ.nil <| J.nil <| cr <| jm (ii i4403) rfl <| jv (.bool (!decide (i4403 = 0))) (V.neq rfl rfl) <| J.nil ?_
         refine cc rfl h4366 (fun hc4411 h4366 => ?_) fun hc4411 h4366 => ?_
         · refine cr <| jm (ii i4403) rfl <| jm (ii i3774) rfl <| jm (ii i4322) rfl <| jv (.agg #[ii i4403, ii 6, ii i3774, ii i4322]) (V.build inf95 places95 rfl rfl) <| J.front 2 rfl ?_
           refine js [ii i4403, ii 6, ii i3774, ii i4322] sz95 rfl rfl rfl rfl rfl rfl <| J.nil <| CJ.ret ?_
           obtain rfl := si h4366
           refine ⟨nofun, fun e => ?_⟩
           subst e
           refine .inr ⟨nofun, ?_⟩
           obtain rfl := si h4126
           refine ⟨nofun, fun e => ?_⟩
           subst e
           refine .inr ⟨nofun, ?_⟩
           obtain rfl := si h
           exact ⟨_, _, Res.one rfl ⟨_, _, rfl, Ld.agg (cs := [ii i4403, ii 6, ii i3774, ii i4322]) Tryz.underlying95 sz95 rfl (Rd.cls 0 0 rfl rfl)⟩, ⟨i4403, 6, i3774, i4322, rfl, rfl, rfl⟩, (Hp.le_refl _), fun w hs => (Sep.dropAt 0 rfl (Sep.dropAt 0 rfl (Sep.dropAt 0 rfl (Sep.dropAt 0 rfl hs))))⟩
         refine CJ.skip <| CJ.region <| jm (ii i4322) rfl <| jv (ii (IntKind.wrap .i64 (i4322 + 1))) (V.add rfl rfl) <| ja (ii (IntKind.wrap .i64 (i4322 + 1))) rfl <| J.dropAt 0 rfl <| J.nil ?_
         obtain rfl := si h4366
         exact ⟨rfl, ⟨IntKind.wrap .i64 (i4322 + 1), rfl, ⟨rfl, rfl, rfl, rfl, rfl, rfl, trivial⟩, rfl, rfl⟩⟩
       refine CJ.exit ?_
       obtain rfl := si h4366
       refine ⟨nofun, fun e => ?_⟩
       subst e
       exact .inl ⟨rfl, _, rfl, ⟨rfl, ⟨rfl, rfl, rfl, rfl, trivial⟩, rfl, rfl⟩⟩
     rintro s ρ _ _ ho4412 ⟨rfl, hf4413, rfl, rfl⟩
     subst ho4412
     obtain ⟨ρ, rfl⟩ := hf4413.ex
     refine PJ.done <| CJ.seq <| CJ.mix [Cl b2244 30 [ii xa.1, ii xa.2.1, .slice adxa_2 xa.2.2.1.length cpxa_2, .slice adxa_3 xa.2.2.2.1.length cpxa_3, .slice adxa_4 xa.2.2.2.2.1.length cpxa_4, .slice adxa_5 xa.2.2.2.2.2.1.length cpxa_5, .slice adxa_6 xa.2.2.2.2.2.2.length cpxa_6], Cl b2245 95 [ii 0, ii 0, ii 0, ii 0], Cl b2363 87 [ii (((xa.2.2.2.2.2.2.length : Nat) : Int)), ii xa.2.1, .slice adxa_3 xa.2.2.2.1.length cpxa_3, .slice adxa_4 xa.2.2.2.2.1.length cpxa_4, .slice adxa_5 xa.2.2.2.2.2.1.length cpxa_5]] [([0, 1, 2, 3, 4, 5, 6], 7)] [8, 9, 10, 11, 12] [] mixO (by decide +kernel) ⟨0, rfl, 0, rfl, 0, rfl, trivial⟩ rfl rfl rfl <| JM.cons <| qv _ (V.fad Tryz.underlying30 rfl nz28 rfl) <| qv (.slice adxa_6 xa.2.2.2.2.2.2.length cpxa_6) (V.ld rfl (Ld.sc sc28 (Rd.cl 0 rfl rfl))) <| qm (ii i3774) rfl ?_
     obtain ⟨x4447, hx4448, h4126⟩ := ob h4126
     obtain ⟨p4449, p4450, p4451⟩ := getI_some hx4448
     obtain ⟨b4452, o4453, e4454, a4455⟩ := (fxa_6).at p4450
     refine qv _ (V.iad Tryz.underlying28 sz63 rfl e4454 rfl p4449 p4451) <| qv _ (V.fad Tryz.underlying63 rfl nz61 rfl) ?_
     obtain ⟨ad4456, cp4457, c4458, f4459⟩ := (((((((a4455).snd).one).snd).snd).snd).fst).sl
     obtain ⟨ad4460, cp4461, c4462, f4463⟩ := ((((((((a4455).snd).one).snd).snd).snd).snd).fst).sl
     obtain ⟨ad4464, cp4465, c4466, f4467⟩ := (((((((((a4455).snd).one).snd).snd).snd).snd).snd).one).sl
     refine qv (.agg #[ii x4447.2.1, ii x4447.2.2.1, ii x4447.2.2.2.1, .slice ad4456 x4447.2.2.2.2.1.length cp4457, .slice ad4460 x4447.2.2.2.2.2.1.length cp4461, .slice ad4464 x4447.2.2.2.2.2.2.length cp4465]) (V.ld rfl (Ld.aggK (cs := [ii x4447.2.1, ii x4447.2.2.1, ii x4447.2.2.2.1, .slice ad4456 x4447.2.2.2.2.1.length cp4457, .slice ad4460 x4447.2.2.2.2.2.1.length cp4461, .slice ad4464 x4447.2.2.2.2.2.2.length cp4465]) Tryz.underlying61 sz61 rfl ⟨((((a4455).snd).one).fst).int, (((((a4455).snd).one).snd).fst).int, ((((((a4455).snd).one).snd).snd).fst).int, c4458, c4462, c4466, trivial⟩ (Hp.le_refl _))) <| qv (.agg #[ii (((xa.2.2.2.2.2.2.length : Nat) : Int)), ii xa.2.1, .slice adxa_3 xa.2.2.2.1.length cpxa_3, .slice adxa_4 xa.2.2.2.2.1.length cpxa_4, .slice adxa_5 xa.2.2.2.2.2.1.length cpxa_5]) (V.ld rfl (Ld.agg (cs := [ii (((xa.2.2.2.2.2.2.length : Nat) : Int)), ii xa.2.1, .slice adxa_3 xa.2.2.2.1.length cpxa_3, .slice adxa_4 xa.2.2.2.2.1.length cpxa_4, .slice adxa_5 xa.2.2.2.2.2.1.length cpxa_5]) Tryz.underlying87 sz87 rfl (Rd.cls 2 0 rfl rfl))) <| JQ.nil ?_
     obtain ⟨r4468, hr4469, h4126⟩ := ob h4126
     refine JA.op rfl (A.call (L1 := []) Tryz.call30 rfl (ref19_Needs_ok f4459 f4463 f4467 fxa_3 fxa_4 fxa_5 hr4469) rfl rfl) ?_
     rintro _ _ _ ⟨v4475, _, rfl, ⟨⟨l4470, i4471, ad4472, cp4473, rfl, rfl, rfl⟩, rfl⟩, _, rfl⟩
     refine ⟨fun w hs => Hold.sub (Hp.le_refl _) ⟨1, rfl, 1, rfl, 1, rfl, trivial⟩ hs, ?_⟩
     refine JM.wit Row.hn fun hn4474 => JM.nil <| qm (.tuple #[.slice ad4472 l4470.length cp4473, ii i4471]) rfl <| qv (.slice ad4472 l4470.length cp4473) (V.ext rfl rfl) <| qv (ii i4471) (V.ext rfl rfl) <| qa (.slice ad4472 l4470.length cp4473) rfl <| qa (ii i4471) rfl ?_
     refine JQ.nil <| J.nil <| cr <| jm (ii i4471) rfl <| jv (.bool (!decide (i4471 = 0))) (V.neq rfl rfl) <| J.nil ?_
     refine cc rfl h4126 (fun hc4479 h4126 => ?_) fun hc4479 h4126 => ?_
     · refine cr <| jm (ii i4471) rfl <| jm (ii i3774) rfl <| jv (.agg #[ii i4471, ii 7, ii i3774, ii 0]) (V.build inf95 places95 rfl rfl) <| J.front 2 rfl <| js [ii i4471, ii 7, ii i3774, ii 0] sz95 rfl rfl rfl rfl rfl rfl ?_
       refine J.nil <| CJ.ret ?_
       obtain rfl := si h4126
       refine ⟨nofun, fun e => ?_⟩
       subst e
       refine .inr ⟨nofun, ?_⟩
       obtain rfl := si h
       exact ⟨_, _, Res.one rfl ⟨_, _, rfl, Ld.agg (cs := [ii i4471, ii 7, ii i3774, ii 0]) Tryz.underlying95 sz95 rfl (Rd.cls 0 0 rfl rfl)⟩, ⟨i4471, 7, i3774, 0, rfl, rfl, rfl⟩, (Hp.le_refl _), fun w hs => (Sep.dropAt 0 rfl (Sep.dropAt 0 rfl (Sep.dropAt 0 rfl (Sep.dropAt 0 rfl hs))))⟩
     refine CJ.skip <| CJ.region <| jm (ii i3774) rfl <| jv (ii (IntKind.wrap .i64 (i3774 + 1))) (V.add rfl rfl) <| ja (ii (IntKind.wrap .i64 (i3774 + 1))) rfl <| J.dropAt 0 rfl <| J.nil ?_
     obtain rfl := si h4126
     exact ⟨rfl, ⟨IntKind.wrap .i64 (i3774 + 1), rfl, ⟨rfl, rfl, rfl, rfl, trivial⟩, rfl, rfl⟩⟩
   refine CJ.dropAt 0 rfl <| CJ.dropAt 1 rfl <| CJ.exit ?_
   obtain rfl := si h4126
   refine ⟨nofun, fun e => ?_⟩
   subst e
   exact .inl ⟨rfl, _, rfl, ⟨rfl, ⟨rfl, trivial⟩, rfl, rfl⟩⟩
 rintro s ρ _ _ ho4480 ⟨rfl, hf4481, rfl, rfl⟩
 subst ho4480
 obtain ⟨ρ, rfl⟩ := hf4481.ex
 refine PJ.done <| cr <| jv (.agg #[ii 0, ii 0, ii 0, ii 0]) (V.build inf95 places95 rfl rfl) <| js [ii 0, ii 0, ii 0, ii 0] sz95 rfl rfl rfl rfl rfl rfl <| J.nil <| CJ.ret ?_
 obtain rfl := si h
 exact ⟨_, _, Res.one rfl ⟨_, _, rfl, Ld.agg (cs := [ii 0, ii 0, ii 0, ii 0]) Tryz.underlying95 sz95 rfl (Rd.cls 0 0 rfl rfl)⟩, ⟨0, 0, 0, 0, rfl, rfl, rfl⟩, (Hp.le_refl _), fun w hs => (Sep.dropAt 0 rfl hs)⟩

noncomputable def fn_ref21_Check (xa : (Int × Int × (List (Int × Int)) × (List (List (Int × Bool))) × (List (Int × Bool)) × (List (Int × (List (Int × Int)) × (List (List (Int × Bool))) × (List (Int × Bool)))) × (List ((List (Int × Int × Int × Int × Bool)) × (Int × Int × Int × (List Int) × (List Int) × (List Int)))))) : Option (Int × Int × Int × Int) :=
  (fn_ref21_head (xa.1, xa.2.1, xa.2.2.1, xa.2.2.2.1, xa.2.2.2.2.1, xa.2.2.2.2.2.1, xa.2.2.2.2.2.2)).bind fun (i42, i43, i44, i45) => cond (!decide (i42 = 0)) (some ((i42, i43, i44, i45))) ((fn_ref21_types (xa.1, xa.2.1, xa.2.2.1, xa.2.2.2.1, xa.2.2.2.2.1, xa.2.2.2.2.2.1, xa.2.2.2.2.2.2)).bind fun (i53, i54, i55, i56) => cond (!decide (i53 = 0)) (some ((i53, i54, i55, i56))) ((fn_ref21_blocks (xa.1, xa.2.1, xa.2.2.1, xa.2.2.2.1, xa.2.2.2.2.1, xa.2.2.2.2.2.1, xa.2.2.2.2.2.2)).bind fun (i63, i65, i66, i67) => some ((i63, i65, i66, i67))))
set_option maxRecDepth 100000 in
set_option maxHeartbeats 4000000 in
theorem ref21_Check_ok {K : Hp} {xa : (Int × Int × (List (Int × Int)) × (List (List (Int × Bool))) × (List (Int × Bool)) × (List (Int × (List (Int × Int)) × (List (List (Int × Bool))) × (List (Int × Bool)))) × (List ((List (Int × Int × Int × Int × Bool)) × (Int × Int × Int × (List Int) × (List Int) × (List Int)))))} {adxa_2 : Option Addr} {cpxa_2 : Nat} {adxa_3 : Option Addr} {cpxa_3 : Nat} {adxa_4 : Option Addr} {cpxa_4 : Nat} {adxa_5 : Option Addr} {cpxa_5 : Nat} {adxa_6 : Option Addr} {cpxa_6 : Nat} (fxa_2 : Is K (.sl (.cons (.int .i64) (.one (.int .i64)))) [.slice adxa_2 xa.2.2.1.length cpxa_2] xa.2.2.1) (fxa_3 : Is K (.sl (.one (.sl (.cons (.int .i64) (.one .bool))))) [.slice adxa_3 xa.2.2.2.1.length cpxa_3] xa.2.2.2.1) (fxa_4 : Is K (.sl (.cons (.int .i64) (.one .bool))) [.slice adxa_4 xa.2.2.2.2.1.length cpxa_4] xa.2.2.2.2.1) (fxa_5 : Is K (.sl (.cons (.int .i64) (.cons (.sl (.cons (.int .i64) (.one (.int .i64)))) (.cons (.sl (.one (.sl (.cons (.int .i64) (.one .bool))))) (.one (.one (.sl (.cons (.int .i64) (.one .bool))))))))) [.slice adxa_5 xa.2.2.2.2.2.1.length cpxa_5] xa.2.2.2.2.2.1) (fxa_6 : Is K (.sl (.cons (.sl (.cons (.int .i64) (.cons (.int .i64) (.cons (.int .i64) (.cons (.int .i64) (.one .bool)))))) (.one (.cons (.int .i64) (.cons (.int .i64) (.cons (.int .i64) (.cons (.sl (.int .i64)) (.cons (.sl (.int .i64)) (.one (.sl (.int .i64))))))))))) [.slice adxa_6 xa.2.2.2.2.2.2.length cpxa_6] xa.2.2.2.2.2.2) {r : (Int × Int × Int × Int)} (h : fn_ref21_Check xa = some r) :
    Tr Tryz.prog 32 #[.agg #[ii xa.1, ii xa.2.1, .slice adxa_2 xa.2.2.1.length cpxa_2, .slice adxa_3 xa.2.2.2.1.length cpxa_3, .slice adxa_4 xa.2.2.2.2.1.length cpxa_4, .slice adxa_5 xa.2.2.2.2.2.1.length cpxa_5, .slice adxa_6 xa.2.2.2.2.2.2.length cpxa_6]] K [] (fun v K' L' => (∃ (i34 : Int) (i35 : Int) (i36 : Int) (i37 : Int), (i34, i35, i36, i37) = r ∧ .agg #[ii i34, ii i35, ii i36, ii i37] = v ∧ L' = []) ∧ K = K') := by
 refine Tr.k <| Tr.of Tryz.func32 rfl Tryz.ntmps32 rfl fun E F => ?_
 unfold fn_ref21_Check at h
 refine cr <| jbx [ii xa.1, ii xa.2.1, .slice adxa_2 xa.2.2.1.length cpxa_2, .slice adxa_3 xa.2.2.2.1.length cpxa_3, .slice adxa_4 xa.2.2.2.2.1.length cpxa_4, .slice adxa_5 xa.2.2.2.2.2.1.length cpxa_5, .slice adxa_6 xa.2.2.2.2.2.2.length cpxa_6] rfl rfl fun b38 => jal inf95 [ii 0, ii 0, ii 0, ii 0] rfl fun b39 => J.nil <| CJ.seq <| CJ.region ?_
 refine jv (.agg #[ii xa.1, ii xa.2.1, .slice adxa_2 xa.2.2.1.length cpxa_2, .slice adxa_3 xa.2.2.2.1.length cpxa_3, .slice adxa_4 xa.2.2.2.2.1.length cpxa_4, .slice adxa_5 xa.2.2.2.2.2.1.length cpxa_5, .slice adxa_6 xa.2.2.2.2.2.2.length cpxa_6]) (V.ld rfl (Ld.agg (cs := [ii xa.1, ii xa.2.1, .slice adxa_2 xa.2.2.1.length cpxa_2, .slice adxa_3 xa.2.2.2.1.length cpxa_3, .slice adxa_4 xa.2.2.2.2.1.length cpxa_4, .slice adxa_5 xa.2.2.2.2.2.1.length cpxa_5, .slice adxa_6 xa.2.2.2.2.2.2.length cpxa_6]) Tryz.underlying30 sz30 rfl (Rd.cls 1 0 rfl rfl))) ?_
 obtain ⟨r40, hr41, h⟩ := ob h
 refine J.op rfl (A.call (L1 := []) Tryz.call52 rfl (ref21_head_ok fxa_2 fxa_3 fxa_4 fxa_5 fxa_6 hr41) rfl rfl) ?_
 rintro _ _ _ ⟨v46, _, rfl, ⟨⟨i42, i43, i44, i45, rfl, rfl, rfl⟩, rfl⟩, _, rfl⟩
 refine jal inf95 [ii 0, ii 0, ii 0, ii 0] rfl fun b49 => js [ii i42, ii i43, ii i44, ii i45] sz95 rfl rfl rfl rfl rfl rfl <| J.nil <| CJ.seq <| cr <| jv _ (V.fad Tryz.underlying95 rfl nz88 rfl) ?_
 refine jv (ii i42) (V.ld rfl (Ld.sc sc88 (Rd.cl 0 rfl rfl))) <| jv (.bool (!decide (i42 = 0))) (V.neq rfl rfl) <| J.nil <| cc rfl h (fun hc50 h => ?_) fun hc50 h => ?_
 · refine cr <| jv (.agg #[ii i42, ii i43, ii i44, ii i45]) (V.ld rfl (Ld.agg (cs := [ii i42, ii i43, ii i44, ii i45]) Tryz.underlying95 sz95 rfl (Rd.cls 0 0 rfl rfl))) <| J.front 1 rfl <| js [ii i42, ii i43, ii i44, ii i45] sz95 rfl rfl rfl rfl rfl rfl <| J.nil <| CJ.ret ?_
   obtain rfl := si h
   exact ⟨_, _, Res.one rfl ⟨_, _, rfl, Ld.agg (cs := [ii i42, ii i43, ii i44, ii i45]) Tryz.underlying95 sz95 rfl (Rd.cls 0 0 rfl rfl)⟩, ⟨i42, i43, i44, i45, rfl, rfl, rfl⟩, (Hp.le_refl _), fun w hs => (Sep.dropAt 0 rfl (Sep.dropAt 0 rfl (Sep.dropAt 0 rfl hs)))⟩
 refine CJ.skip <| cr <| jv (.agg #[ii xa.1, ii xa.2.1, .slice adxa_2 xa.2.2.1.length cpxa_2, .slice adxa_3 xa.2.2.2.1.length cpxa_3, .slice adxa_4 xa.2.2.2.2.1.length cpxa_4, .slice adxa_5 xa.2.2.2.2.2.1.length cpxa_5, .slice adxa_6 xa.2.2.2.2.2.2.length cpxa_6]) (V.ld rfl (Ld.agg (cs := [ii xa.1, ii xa.2.1, .slice adxa_2 xa.2.2.1.length cpxa_2, .slice adxa_3 xa.2.2.2.1.length cpxa_3, .slice adxa_4 xa.2.2.2.2.1.length cpxa_4, .slice adxa_5 xa.2.2.2.2.2.1.length cpxa_5, .slice adxa_6 xa.2.2.2.2.2.2.length cpxa_6]) Tryz.underlying30 sz30 rfl (Rd.cls 2 0 rfl rfl))) ?_
 obtain ⟨r51, hr52, h⟩ := ob h
 refine J.op rfl (A.call (L1 := []) Tryz.call53 rfl (ref21_types_ok fxa_2 fxa_3 fxa_4 fxa_5 fxa_6 hr52) rfl rfl) ?_
 rintro _ _ _ ⟨v57, _, rfl, ⟨⟨i53, i54, i55, i56, rfl, rfl, rfl⟩, rfl⟩, _, rfl⟩
 refine js [ii i53, ii i54, ii i55, ii i56] sz95 rfl rfl rfl rfl rfl rfl <| J.nil <| CJ.seq <| cr <| jv _ (V.fad Tryz.underlying95 rfl nz88 rfl) <| jv (ii i53) (V.ld rfl (Ld.sc sc88 (Rd.cl 0 rfl rfl))) ?_
 refine jv (.bool (!decide (i53 = 0))) (V.neq rfl rfl) <| J.nil <| cc rfl h (fun hc60 h => ?_) fun hc60 h => ?_
 · refine cr <| jv (.agg #[ii i53, ii i54, ii i55, ii i56]) (V.ld rfl (Ld.agg (cs := [ii i53, ii i54, ii i55, ii i56]) Tryz.underlying95 sz95 rfl (Rd.cls 0 0 rfl rfl))) <| J.front 1 rfl <| js [ii i53, ii i54, ii i55, ii i56] sz95 rfl rfl rfl rfl rfl rfl <| J.nil <| CJ.ret ?_
   obtain rfl := si h
   exact ⟨_, _, Res.one rfl ⟨_, _, rfl, Ld.agg (cs := [ii i53, ii i54, ii i55, ii i56]) Tryz.underlying95 sz95 rfl (Rd.cls 0 0 rfl rfl)⟩, ⟨i53, i54, i55, i56, rfl, rfl, rfl⟩, (Hp.le_refl _), fun w hs => (Sep.dropAt 0 rfl (Sep.dropAt 0 rfl (Sep.dropAt 0 rfl hs)))⟩
 refine CJ.skip <| cr <| jv (.agg #[ii xa.1, ii xa.2.1, .slice adxa_2 xa.2.2.1.length cpxa_2, .slice adxa_3 xa.2.2.2.1.length cpxa_3, .slice adxa_4 xa.2.2.2.2.1.length cpxa_4, .slice adxa_5 xa.2.2.2.2.2.1.length cpxa_5, .slice adxa_6 xa.2.2.2.2.2.2.length cpxa_6]) (V.ld rfl (Ld.agg (cs := [ii xa.1, ii xa.2.1, .slice adxa_2 xa.2.2.1.length cpxa_2, .slice adxa_3 xa.2.2.2.1.length cpxa_3, .slice adxa_4 xa.2.2.2.2.1.length cpxa_4, .slice adxa_5 xa.2.2.2.2.2.1.length cpxa_5, .slice adxa_6 xa.2.2.2.2.2.2.length cpxa_6]) Tryz.underlying30 sz30 rfl (Rd.cls 2 0 rfl rfl))) ?_
 obtain ⟨r61, hr62, h⟩ := ob h
 refine J.op rfl (A.call (L1 := []) Tryz.call54 rfl (ref21_blocks_ok fxa_2 fxa_3 fxa_4 fxa_5 fxa_6 hr62) rfl rfl) ?_
 rintro _ _ _ ⟨v68, _, rfl, ⟨⟨i63, i65, i66, i67, rfl, rfl, rfl⟩, rfl⟩, _, rfl⟩
 refine J.front 1 rfl <| js [ii i63, ii i65, ii i66, ii i67] sz95 rfl rfl rfl rfl rfl rfl <| J.nil <| CJ.ret ?_
 obtain rfl := si h
 exact ⟨_, _, Res.one rfl ⟨_, _, rfl, Ld.agg (cs := [ii i63, ii i65, ii i66, ii i67]) Tryz.underlying95 sz95 rfl (Rd.cls 0 0 rfl rfl)⟩, ⟨i63, i65, i66, i67, rfl, rfl, rfl⟩, (Hp.le_refl _), fun w hs => (Sep.dropAt 0 rfl (Sep.dropAt 0 rfl (Sep.dropAt 0 rfl hs)))⟩

noncomputable def fn_ref21_OK (xa : (Int × Int × (List (Int × Int)) × (List (List (Int × Bool))) × (List (Int × Bool)) × (List (Int × (List (Int × Int)) × (List (List (Int × Bool))) × (List (Int × Bool)))) × (List ((List (Int × Int × Int × Int × Bool)) × (Int × Int × Int × (List Int) × (List Int) × (List Int)))))) : Option Bool :=
  (fn_ref21_Check (xa.1, xa.2.1, xa.2.2.1, xa.2.2.2.1, xa.2.2.2.2.1, xa.2.2.2.2.2.1, xa.2.2.2.2.2.2)).bind fun (i15, i17, i18, i19) => some (decide (i15 = 0))
set_option maxRecDepth 100000 in
set_option maxHeartbeats 4000000 in
theorem ref21_OK_ok {K : Hp} {xa : (Int × Int × (List (Int × Int)) × (List (List (Int × Bool))) × (List (Int × Bool)) × (List (Int × (List (Int × Int)) × (List (List (Int × Bool))) × (List (Int × Bool)))) × (List ((List (Int × Int × Int × Int × Bool)) × (Int × Int × Int × (List Int) × (List Int) × (List Int)))))} {adxa_2 : Option Addr} {cpxa_2 : Nat} {adxa_3 : Option Addr} {cpxa_3 : Nat} {adxa_4 : Option Addr} {cpxa_4 : Nat} {adxa_5 : Option Addr} {cpxa_5 : Nat} {adxa_6 : Option Addr} {cpxa_6 : Nat} (fxa_2 : Is K (.sl (.cons (.int .i64) (.one (.int .i64)))) [.slice adxa_2 xa.2.2.1.length cpxa_2] xa.2.2.1) (fxa_3 : Is K (.sl (.one (.sl (.cons (.int .i64) (.one .bool))))) [.slice adxa_3 xa.2.2.2.1.length cpxa_3] xa.2.2.2.1) (fxa_4 : Is K (.sl (.cons (.int .i64) (.one .bool))) [.slice adxa_4 xa.2.2.2.2.1.length cpxa_4] xa.2.2.2.2.1) (fxa_5 : Is K (.sl (.cons (.int .i64) (.cons (.sl (.cons (.int .i64) (.one (.int .i64)))) (.cons (.sl (.one (.sl (.cons (.int .i64) (.one .bool))))) (.one (.one (.sl (.cons (.int .i64) (.one .bool))))))))) [.slice adxa_5 xa.2.2.2.2.2.1.length cpxa_5] xa.2.2.2.2.2.1) (fxa_6 : Is K (.sl (.cons (.sl (.cons (.int .i64) (.cons (.int .i64) (.cons (.int .i64) (.cons (.int .i64) (.one .bool)))))) (.one (.cons (.int .i64) (.cons (.int .i64) (.cons (.int .i64) (.cons (.sl (.int .i64)) (.cons (.sl (.int .i64)) (.one (.sl (.int .i64))))))))))) [.slice adxa_6 xa.2.2.2.2.2.2.length cpxa_6] xa.2.2.2.2.2.2) {r : Bool} (h : fn_ref21_OK xa = some r) :
    Tr Tryz.prog 17 #[.agg #[ii xa.1, ii xa.2.1, .slice adxa_2 xa.2.2.1.length cpxa_2, .slice adxa_3 xa.2.2.2.1.length cpxa_3, .slice adxa_4 xa.2.2.2.2.1.length cpxa_4, .slice adxa_5 xa.2.2.2.2.2.1.length cpxa_5, .slice adxa_6 xa.2.2.2.2.2.2.length cpxa_6]] K [] (fun v K' L' => (∃ (t11 : Bool), t11 = r ∧ .bool t11 = v ∧ L' = []) ∧ K = K') := by
 refine Tr.k <| Tr.of Tryz.func17 rfl Tryz.ntmps17 rfl fun E F => ?_
 unfold fn_ref21_OK at h
 refine cr <| jbx [ii xa.1, ii xa.2.1, .slice adxa_2 xa.2.2.1.length cpxa_2, .slice adxa_3 xa.2.2.2.1.length cpxa_3, .slice adxa_4 xa.2.2.2.2.1.length cpxa_4, .slice adxa_5 xa.2.2.2.2.2.1.length cpxa_5, .slice adxa_6 xa.2.2.2.2.2.2.length cpxa_6] rfl rfl fun b12 => ja (.bool false) rfl <| J.nil <| CJ.seq <| CJ.region ?_
 refine jv (.agg #[ii xa.1, ii xa.2.1, .slice adxa_2 xa.2.2.1.length cpxa_2, .slice adxa_3 xa.2.2.2.1.length cpxa_3, .slice adxa_4 xa.2.2.2.2.1.length cpxa_4, .slice adxa_5 xa.2.2.2.2.2.1.length cpxa_5, .slice adxa_6 xa.2.2.2.2.2.2.length cpxa_6]) (V.ld rfl (Ld.agg (cs := [ii xa.1, ii xa.2.1, .slice adxa_2 xa.2.2.1.length cpxa_2, .slice adxa_3 xa.2.2.2.1.length cpxa_3, .slice adxa_4 xa.2.2.2.2.1.length cpxa_4, .slice adxa_5 xa.2.2.2.2.2.1.length cpxa_5, .slice adxa_6 xa.2.2.2.2.2.2.length cpxa_6]) Tryz.underlying30 sz30 rfl (Rd.cls 0 0 rfl rfl))) ?_
 obtain ⟨r13, hr14, h⟩ := ob h
 refine J.op rfl (A.call (L1 := []) Tryz.call32 rfl (ref21_Check_ok fxa_2 fxa_3 fxa_4 fxa_5 fxa_6 hr14) rfl rfl) ?_
 rintro _ _ _ ⟨v20, _, rfl, ⟨⟨i15, i17, i18, i19, rfl, rfl, rfl⟩, rfl⟩, _, rfl⟩
 refine jv (ii i15) (V.fld (ft := 0) Tryz.underlying95 rfl (Ld0.sc sc88 rfl) rfl) <| jv (.bool (decide (i15 = 0))) (V.eql rfl rfl) <| ja (.bool (decide (i15 = 0))) rfl <| J.nil <| CJ.ret ?_
 obtain rfl := si h
 exact ⟨_, _, Res.one rfl rfl, ⟨decide (i15 = 0), rfl, rfl, rfl⟩, (Hp.le_refl _), fun w hs => (Sep.dropAt 0 rfl hs)⟩
noncomputable def fn_ref22_All_l1 (i1391 : Int) (x1530 : ((List (Int × Int × Int × Int × Bool)) × (Int × Int × Int × (List Int) × (List Int) × (List Int)))) : ((List (Int × Int × Bool)) × Int) → Option (((List (Int × Int × Bool)) × Int) ⊕ (List (Int × Int × Bool))) := fun ((l1618, i1623) : ((List (Int × Int × Bool)) × Int)) => cond (decide (i1623 ≤ (((x1530.1.length : Nat) : Int)))) ((app l1618 (([(i1391, i1623, decide (i1623 = (((x1530.1.length : Nat) : Int))))] : List (Int × Int × Bool)))).bind fun z1648 => some (.inl ((z1648, IntKind.wrap .i64 (i1623 + 1))))) (some (.inr (l1618)))
noncomputable def fn_ref22_All_l2 (xa : (Int × Int × (List (Int × Int)) × (List (List (Int × Bool))) × (List (Int × Bool)) × (List (Int × (List (Int × Int)) × (List (List (Int × Bool))) × (List (Int × Bool)))) × (List ((List (Int × Int × Int × Int × Bool)) × (Int × Int × Int × (List Int) × (List Int) × (List Int)))))) : ((List (Int × Int × Bool)) × Int) → Option (((List (Int × Int × Bool)) × Int) ⊕ (List (Int × Int × Bool))) := fun ((l1386, i1391) : ((List (Int × Int × Bool)) × Int)) => cond (decide (i1391 < (((xa.2.2.2.2.2.2.length : Nat) : Int)))) ((getI xa.2.2.2.2.2.2 i1391).bind fun x1530 => (loop (fn_ref22_All_l1 i1391 x1530) (l1386, 0) : Option ((List (Int × Int × Bool)))).bind fun l1595 => some (.inl ((l1595, IntKind.wrap .i64 (i1391 + 1))))) (some (.inr (l1386)))
noncomputable def fn_ref22_All (xa : (Int × Int × (List (Int × Int)) × (List (List (Int × Bool))) × (List (Int × Bool)) × (List (Int × (List (Int × Int)) × (List (List (Int × Bool))) × (List (Int × Bool)))) × (List ((List (Int × Int × Int × Int × Bool)) × (Int × Int × Int × (List Int) × (List Int) × (List Int)))))) : Option ((List (Int × Int × Bool))) :=
  (fn_ref21_OK (xa.1, xa.2.1, xa.2.2.1, xa.2.2.2.1, xa.2.2.2.2.1, xa.2.2.2.2.2.1, xa.2.2.2.2.2.2)).bind fun t838 => cond (!t838) (some (([] : List (Int × Int × Bool)))) ((loop (fn_ref22_All_l2 xa) ((([] : List (Int × Int × Bool)), 0)) : Option ((List (Int × Int × Bool)))).bind fun l1246 => some (l1246))
set_option maxRecDepth 100000 in
set_option maxHeartbeats 4000000 in
theorem ref22_All_ok {K : Hp} {xa : (Int × Int × (List (Int × Int)) × (List (List (Int × Bool))) × (List (Int × Bool)) × (List (Int × (List (Int × Int)) × (List (List (Int × Bool))) × (List (Int × Bool)))) × (List ((List (Int × Int × Int × Int × Bool)) × (Int × Int × Int × (List Int) × (List Int) × (List Int)))))} {adxa_2 : Option Addr} {cpxa_2 : Nat} {adxa_3 : Option Addr} {cpxa_3 : Nat} {adxa_4 : Option Addr} {cpxa_4 : Nat} {adxa_5 : Option Addr} {cpxa_5 : Nat} {adxa_6 : Option Addr} {cpxa_6 : Nat} (fxa_2 : Is K (.sl (.cons (.int .i64) (.one (.int .i64)))) [.slice adxa_2 xa.2.2.1.length cpxa_2] xa.2.2.1) (fxa_3 : Is K (.sl (.one (.sl (.cons (.int .i64) (.one .bool))))) [.slice adxa_3 xa.2.2.2.1.length cpxa_3] xa.2.2.2.1) (fxa_4 : Is K (.sl (.cons (.int .i64) (.one .bool))) [.slice adxa_4 xa.2.2.2.2.1.length cpxa_4] xa.2.2.2.2.1) (fxa_5 : Is K (.sl (.cons (.int .i64) (.cons (.sl (.cons (.int .i64) (.one (.int .i64)))) (.cons (.sl (.one (.sl (.cons (.int .i64) (.one .bool))))) (.one (.one (.sl (.cons (.int .i64) (.one .bool))))))))) [.slice adxa_5 xa.2.2.2.2.2.1.length cpxa_5] xa.2.2.2.2.2.1) (fxa_6 : Is K (.sl (.cons (.sl (.cons (.int .i64) (.cons (.int .i64) (.cons (.int .i64) (.cons (.int .i64) (.one .bool)))))) (.one (.cons (.int .i64) (.cons (.int .i64) (.cons (.int .i64) (.cons (.sl (.int .i64)) (.cons (.sl (.int .i64)) (.one (.sl (.int .i64))))))))))) [.slice adxa_6 xa.2.2.2.2.2.2.length cpxa_6] xa.2.2.2.2.2.2) {r : (List (Int × Int × Bool))} (h : fn_ref22_All xa = some r) :
    Tr Tryz.prog 9 #[.agg #[ii xa.1, ii xa.2.1, .slice adxa_2 xa.2.2.1.length cpxa_2, .slice adxa_3 xa.2.2.2.1.length cpxa_3, .slice adxa_4 xa.2.2.2.2.1.length cpxa_4, .slice adxa_5 xa.2.2.2.2.2.1.length cpxa_5, .slice adxa_6 xa.2.2.2.2.2.2.length cpxa_6]] K [] (fun v K' L' => (∃ (l827 : (List (Int × Int × Bool))) (ad828 : Option Addr) (cp829 : Nat), l827 = r ∧ .slice ad828 l827.length cp829 = v ∧ L' = [Row Hp.nil 55 (.cons (.int .i64) (.cons (.int .i64) (.one .bool))) (.slice ad828 l827.length cp829) l827]) ∧ K = K') := by
 refine Tr.k <| Tr.of Tryz.func9 rfl Tryz.ntmps9 rfl fun E F => ?_
 unfold fn_ref22_All at h
 refine cr <| jbx [ii xa.1, ii xa.2.1, .slice adxa_2 xa.2.2.1.length cpxa_2, .slice adxa_3 xa.2.2.2.1.length cpxa_3, .slice adxa_4 xa.2.2.2.2.1.length cpxa_4, .slice adxa_5 xa.2.2.2.2.2.1.length cpxa_5, .slice adxa_6 xa.2.2.2.2.2.2.length cpxa_6] rfl rfl fun b832 => ja (nos) rfl <| J.nil <| CJ.seq <| CJ.region ?_
 refine J.op rfl (A.lit (K0 := Hp.nil) (ty := (.cons (.int .i64) (.cons (.int .i64) (.one .bool)))) (xs := ([] : List (Int × Int × Bool))) Tryz.underlying40 inf55 rfl (by decide) rfl rfl rfl rfl rfl (by decide)) ?_
 rintro _ _ _ ⟨b833, rfl, rfl, rfl⟩
 have hn834 : ([] : List (Int × Int × Bool)) ≠ [] → ∃ g, (some ⟨b833, 0, none⟩ : Option Addr) = some ⟨g, 0, none⟩ := fun _ => ⟨b833, rfl⟩
 refine ja (.slice (some ⟨b833, 0, none⟩) ((([] : List (Int × Int × Bool))).length) 0) rfl <| J.nil <| CJ.seq <| cr <| jv (.agg #[ii xa.1, ii xa.2.1, .slice adxa_2 xa.2.2.1.length cpxa_2, .slice adxa_3 xa.2.2.2.1.length cpxa_3, .slice adxa_4 xa.2.2.2.2.1.length cpxa_4, .slice adxa_5 xa.2.2.2.2.2.1.length cpxa_5, .slice adxa_6 xa.2.2.2.2.2.2.length cpxa_6]) (V.ld rfl (Ld.agg (cs := [ii xa.1, ii xa.2.1, .slice adxa_2 xa.2.2.1.length cpxa_2, .slice adxa_3 xa.2.2.2.1.length cpxa_3, .slice adxa_4 xa.2.2.2.2.1.length cpxa_4, .slice adxa_5 xa.2.2.2.2.2.1.length cpxa_5, .slice adxa_6 xa.2.2.2.2.2.2.length cpxa_6]) Tryz.underlying30 sz30 rfl (Rd.cls 1 0 rfl rfl))) ?_
 obtain ⟨r836, hr837, h⟩ := ob h
 refine J.op rfl (A.call (L1 := []) Tryz.call17 rfl (ref21_OK_ok fxa_2 fxa_3 fxa_4 fxa_5 fxa_6 hr837) rfl rfl) ?_
 rintro _ _ _ ⟨v839, _, rfl, ⟨⟨t838, rfl, rfl, rfl⟩, rfl⟩, _, rfl⟩
 refine jv (.bool (!t838)) (V.not rfl) <| J.nil <| cc rfl h (fun hc842 h => ?_) fun hc842 h => ?_
 · refine cr <| jm (.slice (some ⟨b833, 0, none⟩) ((([] : List (Int × Int × Bool))).length) 0) rfl <| ja (.slice (some ⟨b833, 0, none⟩) ((([] : List (Int × Int × Bool))).length) 0) rfl <| J.nil <| CJ.ret ?_
   obtain rfl := si h
   exact ⟨_, _, Res.one rfl rfl, ⟨([] : List (Int × Int × Bool)), (some ⟨b833, 0, none⟩), 0, rfl, rfl, rfl⟩, (Hp.le_refl _), fun w hs => (Sep.dropAt 1 rfl hs)⟩
 refine CJ.skip <| CJ.seq <| cr <| ja (ii 0) rfl <| J.nil ?_
 obtain ⟨o1251, ho1252, h⟩ := ob h
 refine CJ.meetN (fun ρ K' L' => ∃ (l1246 : (List (Int × Int × Bool))) (ad1247 : Option Addr) (cp1248 : Nat), l1246 = o1251 ∧ Fits [(3, .slice ad1247 l1246.length cp1248)] ρ ∧ K = K' ∧ L' = Row Hp.nil 55 (.cons (.int .i64) (.cons (.int .i64) (.one .bool))) (.slice ad1247 l1246.length cp1248) l1246 :: F) ?_ ?_
 · refine CJ.block <| CJ.front 1 rfl <| CJ.loop (fun s ρ K' L' => ∃ (l1386 : (List (Int × Int × Bool))) (i1391 : Int) (ad1387 : Option Addr) (cp1388 : Nat), (l1386, i1391) = s ∧ Fits [(1, .pointer (some ⟨b832, 0, none⟩)), (3, .slice ad1387 l1386.length cp1388), (4, ii i1391)] ρ ∧ K = K' ∧ L' = Cl b832 30 [ii xa.1, ii xa.2.1, .slice adxa_2 xa.2.2.1.length cpxa_2, .slice adxa_3 xa.2.2.2.1.length cpxa_3, .slice adxa_4 xa.2.2.2.2.1.length cpxa_4, .slice adxa_5 xa.2.2.2.2.2.1.length cpxa_5, .slice adxa_6 xa.2.2.2.2.2.2.length cpxa_6] :: Row Hp.nil 55 (.cons (.int .i64) (.cons (.int .i64) (.one .bool))) (.slice ad1387 l1386.length cp1388) l1386 :: F) ho1252 ⟨([] : List (Int × Int × Bool)), 0, (some ⟨b833, 0, none⟩), 0, rfl, ⟨rfl, rfl, rfl, trivial⟩, rfl, rfl⟩ ?_
   rintro s ρ _ _ r1528 ⟨l1386, i1391, ad1387, cp1388, rfl, hf1526, rfl, rfl⟩ h1525
   obtain ⟨ρ, rfl⟩ := hf1526.ex
   refine CJ.front 1 rfl <| CJ.wit Row.hn fun hn1390 => CJ.seq <| cr <| jm (ii i1391) rfl <| jv _ (V.fad Tryz.underlying30 rfl nz28 rfl) ?_
   refine jv (.slice adxa_6 xa.2.2.2.2.2.2.length cpxa_6) (V.ld rfl (Ld.sc sc28 (Rd.cl 1 rfl rfl))) <| jv (ii (((xa.2.2.2.2.2.2.length : Nat) : Int))) (V.len Tryz.underlying28 rfl) <| jv (.bool (decide (i1391 < (((xa.2.2.2.2.2.2.length : Nat) : Int))))) (V.lss rfl rfl) <| J.nil <| cc rfl h1525 (fun hc1529 h1525 => ?_) fun hc1529 h1525 => ?_
   · refine CJ.skip <| CJ.seq <| CJ.block <| cr <| jv _ (V.fad Tryz.underlying30 rfl nz28 rfl) <| jv (.slice adxa_6 xa.2.2.2.2.2.2.length cpxa_6) (V.ld rfl (Ld.sc sc28 (Rd.cl 1 rfl rfl))) ?_
     refine jm (ii i1391) rfl ?_
     obtain ⟨x1530, hx1531, h1525⟩ := ob h1525
     obtain ⟨p1532, p1533, p1534⟩ := getI_some hx1531
     obtain ⟨b1535, o1536, e1537, a1538⟩ := (fxa_6).at p1533
     refine jv _ (V.iad Tryz.underlying28 sz63 rfl e1537 rfl p1532 p1534) <| jv _ (V.fad Tryz.underlying63 rfl nz58 rfl) ?_
     obtain ⟨ad1539, cp1540, c1541, f1542⟩ := ((a1538).fst).sl
     refine jv (.slice ad1539 x1530.1.length cp1540) (V.ld rfl (Ld.sc sc58 (Rd.k c1541 (Hp.le_refl _)))) <| jv (ii (((x1530.1.length : Nat) : Int))) (V.len Tryz.underlying58 rfl) <| ja (ii (((x1530.1.length : Nat) : Int))) rfl <| J.nil <| cr <| ja (ii 0) rfl ?_
     refine J.nil ?_
     obtain ⟨o1600, ho1601, h1525⟩ := ob h1525
     refine CJ.meetN (fun ρ K' L' => ∃ (l1595 : (List (Int × Int × Bool))) (ad1596 : Option Addr) (cp1597 : Nat), l1595 = o1600 ∧ Fits [(1, .pointer (some ⟨b832, 0, none⟩)), (3, .slice ad1596 l1595.length cp1597), (4, ii i1391)] ρ ∧ K = K' ∧ L' = Cl b832 30 [ii xa.1, ii xa.2.1, .slice adxa_2 xa.2.2.1.length cpxa_2, .slice adxa_3 xa.2.2.2.1.length cpxa_3, .slice adxa_4 xa.2.2.2.2.1.length cpxa_4, .slice adxa_5 xa.2.2.2.2.2.1.length cpxa_5, .slice adxa_6 xa.2.2.2.2.2.2.length cpxa_6] :: Row Hp.nil 55 (.cons (.int .i64) (.cons (.int .i64) (.one .bool))) (.slice ad1596 l1595.length cp1597) l1595 :: F) ?_ ?_
     · refine CJ.block <| CJ.front 1 rfl <| CJ.loop (fun s ρ K' L' => ∃ (l1618 : (List (Int × Int × Bool))) (i1623 : Int) (ad1619 : Option Addr) (cp1620 : Nat), (l1618, i1623) = s ∧ Fits [(1, .pointer (some ⟨b832, 0, none⟩)), (3, .slice ad1619 l1618.length cp1620), (4, ii i1391), (5, ii (((x1530.1.length : Nat) : Int))), (6, ii i1623)] ρ ∧ K = K' ∧ L' = Cl b832 30 [ii xa.1, ii xa.2.1, .slice adxa_2 xa.2.2.1.length cpxa_2, .slice adxa_3 xa.2.2.2.1.length cpxa_3, .slice adxa_4 xa.2.2.2.2.1.length cpxa_4, .slice adxa_5 xa.2.2.2.2.2.1.length cpxa_5, .slice adxa_6 xa.2.2.2.2.2.2.length cpxa_6] :: Row Hp.nil 55 (.cons (.int .i64) (.cons (.int .i64) (.one .bool))) (.slice ad1619 l1618.length cp1620) l1618 :: F) ho1601 ⟨l1386, 0, ad1387, cp1388, rfl, ⟨rfl, rfl, rfl, rfl, rfl, trivial⟩, rfl, rfl⟩ ?_
       rintro s ρ _ _ r1643 ⟨l1618, i1623, ad1619, cp1620, rfl, hf1641, rfl, rfl⟩ h1640
       obtain ⟨ρ, rfl⟩ := hf1641.ex
       refine CJ.front 1 rfl <| CJ.wit Row.hn fun hn1622 => CJ.seq <| cr <| jm (ii i1623) rfl <| jm (ii (((x1530.1.length : Nat) : Int))) rfl ?_
       refine jv (.bool (decide (i1623 ≤ (((x1530.1.length : Nat) : Int))))) (V.leq rfl rfl) <| J.nil <| cc rfl h1640 (fun hc1644 h1640 => ?_) fun hc1644 h1640 => ?_
       · refine CJ.skip <| CJ.seq <| CJ.block <| CJ.region <| jm (.slice ad1619 l1618.length cp1620) rfl <| jm (ii i1391) rfl <| jm (ii i1623) rfl ?_
         refine jm (ii i1623) rfl <| jm (ii (((x1530.1.length : Nat) : Int))) rfl <| jv (.bool (decide (i1623 = (((x1530.1.length : Nat) : Int))))) (V.eql rfl rfl) <| jv (.agg #[ii i1391, ii i1623, .bool (decide (i1623 = (((x1530.1.length : Nat) : Int))))]) (V.build inf55 places55 rfl rfl) ?_
         refine J.op rfl (A.lit (K0 := Hp.nil) (ty := (.cons (.int .i64) (.cons (.int .i64) (.one .bool)))) (xs := ([(i1391, i1623, decide (i1623 = (((x1530.1.length : Nat) : Int))))] : List (Int × Int × Bool))) Tryz.underlying40 inf55 rfl (by decide) rfl rfl rfl ⟨_, _, rfl, ⟨_, _, rfl, rfl, rfl, ⟨_, _, rfl, rfl, rfl, rfl⟩⟩, rfl⟩ rfl (by decide)) ?_
         rintro _ _ _ ⟨b1645, rfl, rfl, rfl⟩
         have hn1646 : ([(i1391, i1623, decide (i1623 = (((x1530.1.length : Nat) : Int))))] : List (Int × Int × Bool)) ≠ [] → ∃ g, (some ⟨b1645, 0, none⟩ : Option Addr) = some ⟨g, 0, none⟩ := fun _ => ⟨b1645, rfl⟩
         obtain ⟨z1648, hz1649, h1640⟩ := ob h1640
         refine J.front 1 rfl <| J.op rfl (A.appR (Kr := Hp.nil) Tryz.underlying40 inf55 rfl rfl (by decide) (by decide) rfl rfl (Els.flat rfl) (Els.flat rfl) hz1649) ?_
         rintro _ _ _ ⟨v1650, rfl, rfl, rfl⟩
         refine J.wit Row.form ?_
         rintro ⟨ad1651, cp1652, rfl, _, _, hn1653⟩
         refine ja (.slice ad1651 z1648.length cp1652) rfl <| J.nil <| CJ.region <| jm (ii i1623) rfl <| jv (ii (IntKind.wrap .i64 (i1623 + 1))) (V.add rfl rfl) <| ja (ii (IntKind.wrap .i64 (i1623 + 1))) rfl <| J.front 1 rfl ?_
         refine J.nil ?_
         obtain rfl := si h1640
         exact ⟨rfl, ⟨z1648, IntKind.wrap .i64 (i1623 + 1), ad1651, cp1652, rfl, ⟨rfl, rfl, rfl, rfl, rfl, trivial⟩, rfl, rfl⟩⟩
       refine CJ.front 1 rfl <| CJ.exit ?_
       obtain rfl := si h1640
       refine ⟨nofun, fun e => ?_⟩
       subst e
       exact ⟨rfl, ⟨l1618, ad1619, cp1620, rfl, ⟨rfl, rfl, rfl, trivial⟩, rfl, rfl⟩⟩
     rintro ρ _ _ ⟨l1595, ad1596, cp1597, rfl, hf1654, rfl, rfl⟩
     obtain ⟨ρ, rfl⟩ := hf1654.ex
     refine PJ.front 1 rfl <| PJ.wit Row.hn fun hn1599 => PJ.done <| CJ.region <| jm (ii i1391) rfl <| jv (ii (IntKind.wrap .i64 (i1391 + 1))) (V.add rfl rfl) <| ja (ii (IntKind.wrap .i64 (i1391 + 1))) rfl ?_
     refine J.front 1 rfl <| J.nil ?_
     obtain rfl := si h1525
     exact ⟨rfl, ⟨l1595, IntKind.wrap .i64 (i1391 + 1), ad1596, cp1597, rfl, ⟨rfl, rfl, rfl, trivial⟩, rfl, rfl⟩⟩
   refine CJ.dropAt 1 rfl <| CJ.exit ?_
   obtain rfl := si h1525
   refine ⟨nofun, fun e => ?_⟩
   subst e
   exact ⟨rfl, ⟨l1386, ad1387, cp1388, rfl, ⟨rfl, trivial⟩, rfl, rfl⟩⟩
 rintro ρ _ _ ⟨l1246, ad1247, cp1248, rfl, hf1656, rfl, rfl⟩
 obtain ⟨ρ, rfl⟩ := hf1656.ex
 refine PJ.wit Row.hn fun hn1250 => PJ.done <| cr <| jm (.slice ad1247 l1246.length cp1248) rfl <| ja (.slice ad1247 l1246.length cp1248) rfl <| J.nil ?_
 refine CJ.ret ?_
 obtain rfl := si h
 exact ⟨_, _, Res.one rfl rfl, ⟨l1246, ad1247, cp1248, rfl, rfl, rfl⟩, (Hp.le_refl _), fun w hs => hs⟩
noncomputable def fn_ref27_At_l1 (xb : (Int × Int × Bool)) (l790 : (List (Int × Int × Int × Int × Bool))) : ((List (Int × Int × (Int × Int × Int × Int × Bool))) × Int) → Option (((List (Int × Int × (Int × Int × Int × Int × Bool))) × Int) ⊕ (List (Int × Int × (Int × Int × Int × Int × Bool)))) := fun ((l1222, i1227) : ((List (Int × Int × (Int × Int × Int × Int × Bool))) × Int)) => cond (decide (i1227 < (((l790.length : Nat) : Int)))) ((getI l790 i1227).bind fun x1360 => (getI l790 i1227).bind fun x1367 => (getI l790 i1227).bind fun x1374 => (getI l790 i1227).bind fun x1381 => (getI l790 i1227).bind fun x1388 => (app l1222 (([(x1360.1, x1367.2.1, (xb.1, xb.2.1, x1374.2.2.1, x1381.2.2.2.1, x1388.2.2.2.2))] : List (Int × Int × (Int × Int × Int × Int × Bool))))).bind fun z1398 => some (.inl ((z1398, IntKind.wrap .i64 (i1227 + 1))))) (some (.inr (l1222)))
noncomputable def fn_ref27_At (xa : (Int × Int × (List (Int × Int)) × (List (List (Int × Bool))) × (List (Int × Bool)) × (List (Int × (List (Int × Int)) × (List (List (Int × Bool))) × (List (Int × Bool)))) × (List ((List (Int × Int × Int × Int × Bool)) × (Int × Int × Int × (List Int) × (List Int) × (List Int)))))) (xb : (Int × Int × Bool)) : Option ((List (Int × Int × (Int × Int × Int × Int × Bool)))) :=
  (getI xa.2.2.2.2.2.2 xb.1).bind fun x708 => (cond (xb.2.2) ((fn_ref19_Needs (x708.2.1, x708.2.2.1, x708.2.2.2.1, x708.2.2.2.2.1, x708.2.2.2.2.2.1, x708.2.2.2.2.2.2) ((((xa.2.2.2.2.2.2.length : Nat) : Int), xa.2.1, xa.2.2.2.1, xa.2.2.2.2.1, xa.2.2.2.2.2.1))).bind fun (l801, i802) => some (l801)) ((getI x708.1 xb.2.1).bind fun x830 => (fn_ref18_Needs (x830.1, x830.2.1, x830.2.2.1, x830.2.2.2.1, x830.2.2.2.2) xa.2.2.2.1 xa.2.1).bind fun (l841, i842) => some (l841)) : Option ((List (Int × Int × Int × Int × Bool)))).bind fun l790 => (loop (fn_ref27_At_l1 xb l790) ((([] : List (Int × Int × (Int × Int × Int × Int × Bool))), 0)) : Option ((List (Int × Int × (Int × Int × Int × Int × Bool))))).bind fun l1126 => some (l1126)
set_option maxRecDepth 100000 in
set_option maxHeartbeats 4000000 in
theorem ref27_At_ok {K : Hp} {xa : (Int × Int × (List (Int × Int)) × (List (List (Int × Bool))) × (List (Int × Bool)) × (List (Int × (List (Int × Int)) × (List (List (Int × Bool))) × (List (Int × Bool)))) × (List ((List (Int × Int × Int × Int × Bool)) × (Int × Int × Int × (List Int) × (List Int) × (List Int)))))} {xb : (Int × Int × Bool)} {adxa_2 : Option Addr} {cpxa_2 : Nat} {adxa_3 : Option Addr} {cpxa_3 : Nat} {adxa_4 : Option Addr} {cpxa_4 : Nat} {adxa_5 : Option Addr} {cpxa_5 : Nat} {adxa_6 : Option Addr} {cpxa_6 : Nat} (fxa_2 : Is K (.sl (.cons (.int .i64) (.one (.int .i64)))) [.slice adxa_2 xa.2.2.1.length cpxa_2] xa.2.2.1) (fxa_3 : Is K (.sl (.one (.sl (.cons (.int .i64) (.one .bool))))) [.slice adxa_3 xa.2.2.2.1.length cpxa_3] xa.2.2.2.1) (fxa_4 : Is K (.sl (.cons (.int .i64) (.one .bool))) [.slice adxa_4 xa.2.2.2.2.1.length cpxa_4] xa.2.2.2.2.1) (fxa_5 : Is K (.sl (.cons (.int .i64) (.cons (.sl (.cons (.int .i64) (.one (.int .i64)))) (.cons (.sl (.one (.sl (.cons (.int .i64) (.one .bool))))) (.one (.one (.sl (.cons (.int .i64) (.one .bool))))))))) [.slice adxa_5 xa.2.2.2.2.2.1.length cpxa_5] xa.2.2.2.2.2.1) (fxa_6 : Is K (.sl (.cons (.sl (.cons (.int .i64) (.cons (.int .i64) (.cons (.int .i64) (.cons (.int .i64) (.one .bool)))))) (.one (.cons (.int .i64) (.cons (.int .i64) (.cons (.int .i64) (.cons (.sl (.int .i64)) (.cons (.sl (.int .i64)) (.one (.sl (.int .i64))))))))))) [.slice adxa_6 xa.2.2.2.2.2.2.length cpxa_6] xa.2.2.2.2.2.2) {r : (List (Int × Int × (Int × Int × Int × Int × Bool)))} (h : fn_ref27_At xa xb = some r) :
    Tr Tryz.prog 16 #[.agg #[ii xa.1, ii xa.2.1, .slice adxa_2 xa.2.2.1.length cpxa_2, .slice adxa_3 xa.2.2.2.1.length cpxa_3, .slice adxa_4 xa.2.2.2.2.1.length cpxa_4, .slice adxa_5 xa.2.2.2.2.2.1.length cpxa_5, .slice adxa_6 xa.2.2.2.2.2.2.length cpxa_6], .agg #[ii xb.1, ii xb.2.1, .bool xb.2.2]] K [] (fun v K' L' => (∃ (l701 : (List (Int × Int × (Int × Int × Int × Int × Bool)))) (ad702 : Option Addr) (cp703 : Nat), l701 = r ∧ .slice ad702 l701.length cp703 = v ∧ L' = [Row Hp.nil 51 (.cons (.int .i64) (.cons (.int .i64) (.one (.cons (.int .i64) (.cons (.int .i64) (.cons (.int .i64) (.cons (.int .i64) (.one .bool)))))))) (.slice ad702 l701.length cp703) l701]) ∧ K = K') := by
 refine Tr.k <| Tr.of Tryz.func16 rfl Tryz.ntmps16 rfl fun E F => ?_
 unfold fn_ref27_At at h
 refine cr <| jbx [ii xa.1, ii xa.2.1, .slice adxa_2 xa.2.2.1.length cpxa_2, .slice adxa_3 xa.2.2.2.1.length cpxa_3, .slice adxa_4 xa.2.2.2.2.1.length cpxa_4, .slice adxa_5 xa.2.2.2.2.2.1.length cpxa_5, .slice adxa_6 xa.2.2.2.2.2.2.length cpxa_6] rfl rfl fun b706 => jbx [ii xb.1, ii xb.2.1, .bool xb.2.2] rfl rfl fun b707 => ja (nos) rfl <| J.nil <| CJ.seq ?_
 refine CJ.region <| jv _ (V.fad Tryz.underlying30 rfl nz28 rfl) <| jv (.slice adxa_6 xa.2.2.2.2.2.2.length cpxa_6) (V.ld rfl (Ld.sc sc28 (Rd.cl 1 rfl rfl))) <| jv _ (V.fad Tryz.underlying55 rfl nz3 rfl) <| jv (ii xb.1) (V.ld rfl (Ld.sc sc3 (Rd.cl 0 rfl rfl))) ?_
 obtain ⟨x708, hx709, h⟩ := ob h
 obtain ⟨p710, p711, p712⟩ := getI_some hx709
 obtain ⟨b713, o714, e715, a716⟩ := (fxa_6).at p711
 refine jv _ (V.iad Tryz.underlying28 sz63 rfl e715 rfl p710 p712) ?_
 obtain ⟨ad717, cp718, c719, f720⟩ := ((a716).fst).sl
 obtain ⟨ad721, cp722, c723, f724⟩ := (((((((a716).snd).one).snd).snd).snd).fst).sl
 obtain ⟨ad725, cp726, c727, f728⟩ := ((((((((a716).snd).one).snd).snd).snd).snd).fst).sl
 obtain ⟨ad729, cp730, c731, f732⟩ := (((((((((a716).snd).one).snd).snd).snd).snd).snd).one).sl
 refine jv (.agg #[.slice ad717 x708.1.length cp718, ii x708.2.1, ii x708.2.2.1, ii x708.2.2.2.1, .slice ad721 x708.2.2.2.2.1.length cp722, .slice ad725 x708.2.2.2.2.2.1.length cp726, .slice ad729 x708.2.2.2.2.2.2.length cp730]) (V.ld rfl (Ld.aggK (cs := [.slice ad717 x708.1.length cp718, ii x708.2.1, ii x708.2.2.1, ii x708.2.2.2.1, .slice ad721 x708.2.2.2.2.1.length cp722, .slice ad725 x708.2.2.2.2.2.1.length cp726, .slice ad729 x708.2.2.2.2.2.2.length cp730]) Tryz.underlying63 sz63 rfl ⟨c719, ((((a716).snd).one).fst).int, (((((a716).snd).one).snd).fst).int, ((((((a716).snd).one).snd).snd).fst).int, c723, c727, c731, trivial⟩ (Hp.le_refl _))) <| jal inf63 [nos, ii 0, ii 0, ii 0, nos, nos, nos] rfl fun b733 => js [.slice ad717 x708.1.length cp718, ii x708.2.1, ii x708.2.2.1, ii x708.2.2.2.1, .slice ad721 x708.2.2.2.2.1.length cp722, .slice ad725 x708.2.2.2.2.2.1.length cp726, .slice ad729 x708.2.2.2.2.2.2.length cp730] sz63 rfl rfl rfl rfl rfl rfl <| J.nil <| CJ.seq <| CJ.region ?_
 refine J.op rfl (A.lit (K0 := Hp.nil) (ty := (.cons (.int .i64) (.cons (.int .i64) (.cons (.int .i64) (.cons (.int .i64) (.one .bool)))))) (xs := ([] : List (Int × Int × Int × Int × Bool))) Tryz.underlying85 inf93 rfl (by decide) rfl rfl rfl rfl rfl (by decide)) ?_
 rintro _ _ _ ⟨b734, rfl, rfl, rfl⟩
 have hn735 : ([] : List (Int × Int × Int × Int × Bool)) ≠ [] → ∃ g, (some ⟨b734, 0, none⟩ : Option Addr) = some ⟨g, 0, none⟩ := fun _ => ⟨b734, rfl⟩
 refine ja (.slice (some ⟨b734, 0, none⟩) ((([] : List (Int × Int × Int × Int × Bool))).length) 0) rfl <| J.nil <| CJ.seq ?_
 obtain ⟨o795, ho796, h⟩ := ob h
 refine CJ.meetN (fun ρ K' L' => ∃ (l790 : (List (Int × Int × Int × Int × Bool))) (ad791 : Option Addr) (cp792 : Nat), l790 = o795 ∧ Fits [(3, .pointer (some ⟨b707, 0, none⟩)), (6, .slice ad791 l790.length cp792)] ρ ∧ K = K' ∧ L' = Cl b707 55 [ii xb.1, ii xb.2.1, .bool xb.2.2] :: Row Hp.nil 93 (.cons (.int .i64) (.cons (.int .i64) (.cons (.int .i64) (.cons (.int .i64) (.one .bool))))) (.slice ad791 l790.length cp792) l790 :: F) ?_ ?_
 · refine cr <| jv _ (V.fad Tryz.underlying55 rfl nz4 rfl) <| jv (.bool xb.2.2) (V.ld rfl (Ld.sc sc4 (Rd.cl 2 rfl rfl))) <| J.nil <| cc rfl ho796 (fun hc797 ho796 => ?_) fun hc797 ho796 => ?_
   · refine cr <| jv _ (V.fad Tryz.underlying30 rfl nz28 rfl) <| jv (.slice adxa_6 xa.2.2.2.2.2.2.length cpxa_6) (V.ld rfl (Ld.sc sc28 (Rd.cl 3 rfl rfl))) <| jv (ii (((xa.2.2.2.2.2.2.length : Nat) : Int))) (V.len Tryz.underlying28 rfl) <| jv _ (V.fad Tryz.underlying30 rfl nz3 rfl) <| jv (ii xa.2.1) (V.ld rfl (Ld.sc sc3 (Rd.cl 3 rfl rfl))) ?_
     refine jv _ (V.fad Tryz.underlying30 rfl nz23 rfl) <| jv (.slice adxa_3 xa.2.2.2.1.length cpxa_3) (V.ld rfl (Ld.sc sc23 (Rd.cl 3 rfl rfl))) <| jv _ (V.fad Tryz.underlying30 rfl nz26 rfl) <| jv (.agg #[.slice adxa_4 xa.2.2.2.2.1.length cpxa_4]) (V.ld rfl (Ld.agg (cs := [.slice adxa_4 xa.2.2.2.2.1.length cpxa_4]) Tryz.underlying26 sz26 rfl (Rd.cls 3 4 rfl rfl))) <| jv _ (V.fad Tryz.underlying30 rfl nz27 rfl) <| jv (.slice adxa_5 xa.2.2.2.2.2.1.length cpxa_5) (V.ld rfl (Ld.sc sc27 (Rd.cl 3 rfl rfl))) <| jv (.agg #[ii (((xa.2.2.2.2.2.2.length : Nat) : Int)), ii xa.2.1, .slice adxa_3 xa.2.2.2.1.length cpxa_3, .slice adxa_4 xa.2.2.2.2.1.length cpxa_4, .slice adxa_5 xa.2.2.2.2.2.1.length cpxa_5]) (V.build inf87 places87 rfl rfl) ?_
     refine jal inf87 [ii 0, ii 0, nos, nos, nos] rfl fun b798 => js [ii (((xa.2.2.2.2.2.2.length : Nat) : Int)), ii xa.2.1, .slice adxa_3 xa.2.2.2.1.length cpxa_3, .slice adxa_4 xa.2.2.2.2.1.length cpxa_4, .slice adxa_5 xa.2.2.2.2.2.1.length cpxa_5] sz87 rfl rfl rfl rfl rfl rfl <| J.nil <| CJ.region <| jv _ (V.fad Tryz.underlying63 rfl nz61 rfl) <| jv (.agg #[ii x708.2.1, ii x708.2.2.1, ii x708.2.2.2.1, .slice ad721 x708.2.2.2.2.1.length cp722, .slice ad725 x708.2.2.2.2.2.1.length cp726, .slice ad729 x708.2.2.2.2.2.2.length cp730]) (V.ld rfl (Ld.agg (cs := [ii x708.2.1, ii x708.2.2.1, ii x708.2.2.2.1, .slice ad721 x708.2.2.2.2.1.length cp722, .slice ad725 x708.2.2.2.2.2.1.length cp726, .slice ad729 x708.2.2.2.2.2.2.length cp730]) Tryz.underlying61 sz61 rfl (Rd.cls 2 1 rfl rfl))) <| jv (.agg #[ii (((xa.2.2.2.2.2.2.length : Nat) : Int)), ii xa.2.1, .slice adxa_3 xa.2.2.2.1.length cpxa_3, .slice adxa_4 xa.2.2.2.2.1.length cpxa_4, .slice adxa_5 xa.2.2.2.2.2.1.length cpxa_5]) (V.ld rfl (Ld.agg (cs := [ii (((xa.2.2.2.2.2.2.length : Nat) : Int)), ii xa.2.1, .slice adxa_3 xa.2.2.2.1.length cpxa_3, .slice adxa_4 xa.2.2.2.2.1.length cpxa_4, .slice adxa_5 xa.2.2.2.2.2.1.length cpxa_5]) Tryz.underlying87 sz87 rfl (Rd.cls 0 0 rfl rfl))) ?_
     obtain ⟨r799, hr800, ho796⟩ := ob ho796
     refine J.op rfl (A.call (L1 := []) Tryz.call30 rfl (ref19_Needs_ok f724 f728 f732 fxa_3 fxa_4 fxa_5 hr800) rfl rfl) ?_
     rintro _ _ _ ⟨v806, _, rfl, ⟨⟨l801, i802, ad803, cp804, rfl, rfl, rfl⟩, rfl⟩, _, rfl⟩
     refine J.wit Row.hn fun hn805 => jm (.tuple #[.slice ad803 l801.length cp804, ii i802]) rfl <| jx (.slice ad803 l801.length cp804) rfl rfl <| jx (ii i802) rfl rfl <| ja (.slice ad803 l801.length cp804) rfl <| J.dropAt 1 rfl <| J.dropAt 1 rfl ?_
     refine J.dropAt 1 rfl <| J.dropAt 2 rfl <| J.front 1 rfl <| J.nil ?_
     obtain rfl := si ho796
     exact ⟨rfl, ⟨l801, ad803, cp804, rfl, ⟨rfl, rfl, trivial⟩, rfl, rfl⟩⟩
   refine CJ.mix [Row Hp.nil 93 (.cons (.int .i64) (.cons (.int .i64) (.cons (.int .i64) (.cons (.int .i64) (.one .bool))))) (.slice (some ⟨b734, 0, none⟩) ((([] : List (Int × Int × Int × Int × Bool))).length) 0) (([] : List (Int × Int × Int × Int × Bool))), Cl b733 63 [.slice ad717 x708.1.length cp718, ii x708.2.1, ii x708.2.2.1, ii x708.2.2.2.1, .slice ad721 x708.2.2.2.2.1.length cp722, .slice ad725 x708.2.2.2.2.2.1.length cp726, .slice ad729 x708.2.2.2.2.2.2.length cp730], Cl b707 55 [ii xb.1, ii xb.2.1, .bool xb.2.2], Cl b706 30 [ii xa.1, ii xa.2.1, .slice adxa_2 xa.2.2.1.length cpxa_2, .slice adxa_3 xa.2.2.2.1.length cpxa_3, .slice adxa_4 xa.2.2.2.2.1.length cpxa_4, .slice adxa_5 xa.2.2.2.2.2.1.length cpxa_5, .slice adxa_6 xa.2.2.2.2.2.2.length cpxa_6]] [([0, 1, 2, 3, 4, 5, 6, 7, 8, 9], 10)] [11, 12, 13, 14] [] mixO (by decide +kernel) ⟨0, rfl, 0, rfl, 0, rfl, 0, rfl, trivial⟩ rfl rfl rfl <| JM.cons <| qv _ (V.fad Tryz.underlying63 rfl nz58 rfl) <| qv (.slice ad717 x708.1.length cp718) (V.ld rfl (Ld.sc sc58 (Rd.cl 1 rfl rfl))) <| qv _ (V.fad Tryz.underlying55 rfl nz3 rfl) <| qv (ii xb.2.1) (V.ld rfl (Ld.sc sc3 (Rd.cl 2 rfl rfl))) ?_
   obtain ⟨x830, hx831, ho796⟩ := ob ho796
   obtain ⟨p832, p833, p834⟩ := getI_some hx831
   obtain ⟨b835, o836, e837, a838⟩ := (f720).at p833
   refine qv _ (V.iad Tryz.underlying58 sz65 rfl e837 rfl p832 p834) <| qv (.agg #[ii x830.1, ii x830.2.1, ii x830.2.2.1, ii x830.2.2.2.1, .bool x830.2.2.2.2]) (V.ld rfl (Ld.aggK (cs := [ii x830.1, ii x830.2.1, ii x830.2.2.1, ii x830.2.2.2.1, .bool x830.2.2.2.2]) Tryz.underlying65 sz65 rfl ⟨((a838).fst).int, (((a838).snd).fst).int, ((((a838).snd).snd).fst).int, (((((a838).snd).snd).snd).fst).int, ((((((a838).snd).snd).snd).snd).one).bool, trivial⟩ (Hp.le_refl _))) <| qv _ (V.fad Tryz.underlying30 rfl nz23 rfl) <| qv (.slice adxa_3 xa.2.2.2.1.length cpxa_3) (V.ld rfl (Ld.sc sc23 (Rd.cl 3 rfl rfl))) <| qv _ (V.fad Tryz.underlying30 rfl nz3 rfl) <| qv (ii xa.2.1) (V.ld rfl (Ld.sc sc3 (Rd.cl 3 rfl rfl))) <| JQ.nil ?_
   obtain ⟨r839, hr840, ho796⟩ := ob ho796
   refine JA.op rfl (A.call (L1 := []) Tryz.call31 rfl (ref18_Needs_ok fxa_3 hr840) rfl rfl) ?_
   rintro _ _ _ ⟨v846, _, rfl, ⟨⟨l841, i842, ad843, cp844, rfl, rfl, rfl⟩, rfl⟩, _, rfl⟩
   refine ⟨fun w hs => Hold.sub (Hp.le_refl _) ⟨1, rfl, 1, rfl, 1, rfl, 1, rfl, trivial⟩ hs, ?_⟩
   refine JM.wit Row.hn fun hn845 => JM.nil <| qm (.tuple #[.slice ad843 l841.length cp844, ii i842]) rfl <| qv (.slice ad843 l841.length cp844) (V.ext rfl rfl) <| qv (ii i842) (V.ext rfl rfl) <| qa (.slice ad843 l841.length cp844) rfl <| JQ.nil ?_
   refine J.dropAt 1 rfl <| J.dropAt 1 rfl <| J.dropAt 2 rfl <| J.front 1 rfl <| J.nil ?_
   obtain rfl := si ho796
   exact ⟨rfl, ⟨l841, ad843, cp844, rfl, ⟨rfl, rfl, trivial⟩, rfl, rfl⟩⟩
 rintro ρ _ _ ⟨l790, ad791, cp792, rfl, hf850, rfl, rfl⟩
 obtain ⟨ρ, rfl⟩ := hf850.ex
 refine PJ.front 1 rfl <| PJ.wit Row.hn fun hn794 => PJ.done <| CJ.seq <| CJ.region ?_
 refine J.op rfl (A.lit (K0 := Hp.nil) (ty := (.cons (.int .i64) (.cons (.int .i64) (.one (.cons (.int .i64) (.cons (.int .i64) (.cons (.int .i64) (.cons (.int .i64) (.one .bool))))))))) (xs := ([] : List (Int × Int × (Int × Int × Int × Int × Bool)))) Tryz.underlying36 inf51 rfl (by decide) rfl rfl rfl rfl rfl (by decide)) ?_
 rintro _ _ _ ⟨b852, rfl, rfl, rfl⟩
 have hn853 : ([] : List (Int × Int × (Int × Int × Int × Int × Bool))) ≠ [] → ∃ g, (some ⟨b852, 0, none⟩ : Option Addr) = some ⟨g, 0, none⟩ := fun _ => ⟨b852, rfl⟩
 refine ja (.slice (some ⟨b852, 0, none⟩) ((([] : List (Int × Int × (Int × Int × Int × Int × Bool)))).length) 0) rfl <| J.nil <| CJ.seq <| cr <| ja (ii 0) rfl <| J.nil ?_
 obtain ⟨o1131, ho1132, h⟩ := ob h
 refine CJ.meetN (fun ρ K' L' => ∃ (l1126 : (List (Int × Int × (Int × Int × Int × Int × Bool)))) (ad1127 : Option Addr) (cp1128 : Nat), l1126 = o1131 ∧ Fits [(8, .slice ad1127 l1126.length cp1128)] ρ ∧ K = K' ∧ L' = Row Hp.nil 51 (.cons (.int .i64) (.cons (.int .i64) (.one (.cons (.int .i64) (.cons (.int .i64) (.cons (.int .i64) (.cons (.int .i64) (.one .bool)))))))) (.slice ad1127 l1126.length cp1128) l1126 :: F) ?_ ?_
 · refine CJ.block <| CJ.front 1 rfl <| CJ.front 2 rfl <| CJ.loop (fun s ρ K' L' => ∃ (l1222 : (List (Int × Int × (Int × Int × Int × Int × Bool)))) (i1227 : Int) (ad1223 : Option Addr) (cp1224 : Nat), (l1222, i1227) = s ∧ Fits [(3, .pointer (some ⟨b707, 0, none⟩)), (6, .slice ad791 l790.length cp792), (8, .slice ad1223 l1222.length cp1224), (9, ii i1227)] ρ ∧ K = K' ∧ L' = Cl b707 55 [ii xb.1, ii xb.2.1, .bool xb.2.2] :: Row Hp.nil 93 (.cons (.int .i64) (.cons (.int .i64) (.cons (.int .i64) (.cons (.int .i64) (.one .bool))))) (.slice ad791 l790.length cp792) l790 :: Row Hp.nil 51 (.cons (.int .i64) (.cons (.int .i64) (.one (.cons (.int .i64) (.cons (.int .i64) (.cons (.int .i64) (.cons (.int .i64) (.one .bool)))))))) (.slice ad1223 l1222.length cp1224) l1222 :: F) ho1132 ⟨([] : List (Int × Int × (Int × Int × Int × Int × Bool))), 0, (some ⟨b852, 0, none⟩), 0, rfl, ⟨rfl, rfl, rfl, rfl, trivial⟩, rfl, rfl⟩ ?_
   rintro s ρ _ _ r1320 ⟨l1222, i1227, ad1223, cp1224, rfl, hf1318, rfl, rfl⟩ h1317
   obtain ⟨ρ, rfl⟩ := hf1318.ex
   refine CJ.front 2 rfl <| CJ.wit Row.hn fun hn1226 => CJ.seq <| cr <| jm (ii i1227) rfl <| jm (.slice ad791 l790.length cp792) rfl ?_
   refine jv (ii (((l790.length : Nat) : Int))) (V.len Tryz.underlying85 rfl) <| jv (.bool (decide (i1227 < (((l790.length : Nat) : Int))))) (V.lss rfl rfl) <| J.nil <| cc rfl h1317 (fun hc1321 h1317 => ?_) fun hc1321 h1317 => ?_
   · refine CJ.skip <| CJ.seq <| CJ.block <| CJ.mix [Row Hp.nil 51 (.cons (.int .i64) (.cons (.int .i64) (.one (.cons (.int .i64) (.cons (.int .i64) (.cons (.int .i64) (.cons (.int .i64) (.one .bool)))))))) (.slice ad1223 l1222.length cp1224) l1222, Cl b707 55 [ii xb.1, ii xb.2.1, .bool xb.2.2], Row Hp.nil 93 (.cons (.int .i64) (.cons (.int .i64) (.cons (.int .i64) (.cons (.int .i64) (.one .bool))))) (.slice ad791 l790.length cp792) l790] [([0, 1, 2, 3, 4, 5, 6, 7, 8, 9, 10, 11, 12, 13, 14, 15, 16, 17, 18, 19, 20, 21, 22, 23, 24, 25, 26, 27, 28, 29, 30, 31], 32)] [] [33, 34] mixO (by decide +kernel) ⟨0, rfl, 0, rfl, 0, rfl, trivial⟩ rfl rfl rfl <| JM.cons <| qm (.slice ad1223 l1222.length cp1224) rfl <| qm (.slice ad791 l790.length cp792) rfl ?_
     refine qm (ii i1227) rfl ?_
     obtain ⟨x1360, hx1361, h1317⟩ := ob h1317
     obtain ⟨p1362, p1363, p1364⟩ := getI_some hx1361
     obtain ⟨g1365, e1366⟩ := hn794 (fun e => by rw [e] at p1363; simp at p1363)
     refine qv _ (V.iad Tryz.underlying85 sz93 rfl e1366 rfl p1362 p1364) <| qv _ (V.fad Tryz.underlying93 rfl nz3 rfl) <| qv (ii x1360.1) (V.ld rfl (Ld.sc sc3 (Rd.row 2 rfl e1366 p1363 (q := 0) (by simp [Tp.size]) (by decide) (by rintro _ ⟨_, _, rfl, _, rfl, ⟨_, _, rfl, _, rfl, ⟨_, _, rfl, _, rfl, ⟨_, _, rfl, _, rfl, rfl⟩⟩⟩⟩; rfl)))) <| qm (.slice ad791 l790.length cp792) rfl <| qm (ii i1227) rfl ?_
     obtain ⟨x1367, hx1368, h1317⟩ := ob h1317
     obtain ⟨p1369, p1370, p1371⟩ := getI_some hx1368
     obtain ⟨g1372, e1373⟩ := hn794 (fun e => by rw [e] at p1370; simp at p1370)
     refine qv _ (V.iad Tryz.underlying85 sz93 rfl e1373 rfl p1369 p1371) <| qv _ (V.fad Tryz.underlying93 rfl nz3 rfl) <| qv (ii x1367.2.1) (V.ld rfl (Ld.sc sc3 (Rd.row 2 rfl e1373 p1370 (q := 1) (by simp [Tp.size]) (by decide) (by rintro _ ⟨_, _, rfl, _, rfl, ⟨_, _, rfl, _, rfl, ⟨_, _, rfl, _, rfl, ⟨_, _, rfl, _, rfl, rfl⟩⟩⟩⟩; rfl)))) <| qv _ (V.fad Tryz.underlying55 rfl nz3 rfl) <| qv (ii xb.1) (V.ld rfl (Ld.sc sc3 (Rd.cl 1 rfl rfl))) <| qv _ (V.fad Tryz.underlying55 rfl nz3 rfl) <| qv (ii xb.2.1) (V.ld rfl (Ld.sc sc3 (Rd.cl 1 rfl rfl))) ?_
     refine qm (.slice ad791 l790.length cp792) rfl <| qm (ii i1227) rfl ?_
     obtain ⟨x1374, hx1375, h1317⟩ := ob h1317
     obtain ⟨p1376, p1377, p1378⟩ := getI_some hx1375
     obtain ⟨g1379, e1380⟩ := hn794 (fun e => by rw [e] at p1377; simp at p1377)
     refine qv _ (V.iad Tryz.underlying85 sz93 rfl e1380 rfl p1376 p1378) <| qv _ (V.fad Tryz.underlying93 rfl nz3 rfl) <| qv (ii x1374.2.2.1) (V.ld rfl (Ld.sc sc3 (Rd.row 2 rfl e1380 p1377 (q := 2) (by simp [Tp.size]) (by decide) (by rintro _ ⟨_, _, rfl, _, rfl, ⟨_, _, rfl, _, rfl, ⟨_, _, rfl, _, rfl, ⟨_, _, rfl, _, rfl, rfl⟩⟩⟩⟩; rfl)))) <| qm (.slice ad791 l790.length cp792) rfl <| qm (ii i1227) rfl ?_
     obtain ⟨x1381, hx1382, h1317⟩ := ob h1317
     obtain ⟨p1383, p1384, p1385⟩ := getI_some hx1382
     obtain ⟨g1386, e1387⟩ := hn794 (fun e => by rw [e] at p1384; simp at p1384)
     refine qv _ (V.iad Tryz.underlying85 sz93 rfl e1387 rfl p1383 p1385) <| qv _ (V.fad Tryz.underlying93 rfl nz3 rfl) <| qv (ii x1381.2.2.2.1) (V.ld rfl (Ld.sc sc3 (Rd.row 2 rfl e1387 p1384 (q := 3) (by simp [Tp.size]) (by decide) (by rintro _ ⟨_, _, rfl, _, rfl, ⟨_, _, rfl, _, rfl, ⟨_, _, rfl, _, rfl, ⟨_, _, rfl, _, rfl, rfl⟩⟩⟩⟩; rfl)))) <| qm (.slice ad791 l790.length cp792) rfl <| qm (ii i1227) rfl ?_
     obtain ⟨x1388, hx1389, h1317⟩ := ob h1317
     obtain ⟨p1390, p1391, p1392⟩ := getI_some hx1389
     obtain ⟨g1393, e1394⟩ := hn794 (fun e => by rw [e] at p1391; simp at p1391)
     refine qv _ (V.iad Tryz.underlying85 sz93 rfl e1394 rfl p1390 p1392) <| qv _ (V.fad Tryz.underlying93 rfl nz4 rfl) <| qv (.bool x1388.2.2.2.2) (V.ld rfl (Ld.sc sc4 (Rd.row 2 rfl e1394 p1391 (q := 4) (by simp [Tp.size]) (by decide) (by rintro _ ⟨_, _, rfl, _, rfl, ⟨_, _, rfl, _, rfl, ⟨_, _, rfl, _, rfl, ⟨_, _, rfl, _, rfl, rfl⟩⟩⟩⟩; rfl)))) <| qv (.agg #[ii xb.1, ii xb.2.1, ii x1374.2.2.1, ii x1381.2.2.2.1, .bool x1388.2.2.2.2]) (V.build inf49 places49 rfl rfl) <| qv (.agg #[ii x1360.1, ii x1367.2.1, ii xb.1, ii xb.2.1, ii x1374.2.2.1, ii x1381.2.2.2.1, .bool x1388.2.2.2.2]) (V.build inf51 places51 rfl rfl) <| JQ.nil ?_
     refine JA.op rfl (A.lit (K0 := Hp.nil) (ty := (.cons (.int .i64) (.cons (.int .i64) (.one (.cons (.int .i64) (.cons (.int .i64) (.cons (.int .i64) (.cons (.int .i64) (.one .bool))))))))) (xs := ([(x1360.1, x1367.2.1, (xb.1, xb.2.1, x1374.2.2.1, x1381.2.2.2.1, x1388.2.2.2.2))] : List (Int × Int × (Int × Int × Int × Int × Bool)))) Tryz.underlying36 inf51 rfl (by decide) rfl rfl rfl ⟨_, _, rfl, ⟨_, _, rfl, rfl, rfl, ⟨_, _, rfl, rfl, rfl, ⟨_, _, rfl, rfl, rfl, ⟨_, _, rfl, rfl, rfl, ⟨_, _, rfl, rfl, rfl, ⟨_, _, rfl, rfl, rfl, rfl⟩⟩⟩⟩⟩⟩, rfl⟩ rfl (by decide)) ?_
     rintro _ _ _ ⟨b1395, rfl, rfl, rfl⟩
     have hn1396 : ([(x1360.1, x1367.2.1, (xb.1, xb.2.1, x1374.2.2.1, x1381.2.2.2.1, x1388.2.2.2.2))] : List (Int × Int × (Int × Int × Int × Int × Bool))) ≠ [] → ∃ g, (some ⟨b1395, 0, none⟩ : Option Addr) = some ⟨g, 0, none⟩ := fun _ => ⟨b1395, rfl⟩
     refine ⟨fun w hs => Hold.sub (Hp.le_refl _) ⟨1, rfl, 1, rfl, 1, rfl, trivial⟩ hs, ?_⟩
     refine JM.nil <| JQ.nil ?_
     obtain ⟨z1398, hz1399, h1317⟩ := ob h1317
     refine J.front 1 rfl <| J.op rfl (A.appR (Kr := Hp.nil) Tryz.underlying36 inf51 rfl rfl (by decide) (by decide) rfl rfl (Els.flat rfl) (Els.flat rfl) hz1399) ?_
     rintro _ _ _ ⟨v1400, rfl, rfl, rfl⟩
     refine J.wit Row.form ?_
     rintro ⟨ad1401, cp1402, rfl, _, _, hn1403⟩
     refine ja (.slice ad1401 z1398.length cp1402) rfl <| J.nil <| CJ.region <| jm (ii i1227) rfl <| jv (ii (IntKind.wrap .i64 (i1227 + 1))) (V.add rfl rfl) <| ja (ii (IntKind.wrap .i64 (i1227 + 1))) rfl <| J.front 2 rfl ?_
     refine J.front 2 rfl <| J.nil ?_
     obtain rfl := si h1317
     exact ⟨rfl, ⟨z1398, IntKind.wrap .i64 (i1227 + 1), ad1401, cp1402, rfl, ⟨rfl, rfl, rfl, rfl, trivial⟩, rfl, rfl⟩⟩
   refine CJ.dropAt 1 rfl <| CJ.dropAt 1 rfl <| CJ.exit ?_
   obtain rfl := si h1317
   refine ⟨nofun, fun e => ?_⟩
   subst e
   exact ⟨rfl, ⟨l1222, ad1223, cp1224, rfl, ⟨rfl, trivial⟩, rfl, rfl⟩⟩
 rintro ρ _ _ ⟨l1126, ad1127, cp1128, rfl, hf1404, rfl, rfl⟩
 obtain ⟨ρ, rfl⟩ := hf1404.ex
 refine PJ.wit Row.hn fun hn1130 => PJ.done <| cr <| jm (.slice ad1127 l1126.length cp1128) rfl <| ja (.slice ad1127 l1126.length cp1128) rfl <| J.nil ?_
 refine CJ.ret ?_
 obtain rfl := si h
 exact ⟨_, _, Res.one rfl rfl, ⟨l1126, ad1127, cp1128, rfl, rfl, rfl⟩, (Hp.le_refl _), fun w hs => hs⟩
noncomputable def fn_ref27_Of_l1 (xa : (Int × Int × (List (Int × Int)) × (List (List (Int × Bool))) × (List (Int × Bool)) × (List (Int × (List (Int × Int)) × (List (List (Int × Bool))) × (List (Int × Bool)))) × (List ((List (Int × Int × Int × Int × Bool)) × (Int × Int × Int × (List Int) × (List Int) × (List Int)))))) (l322 : (List (Int × Int × Bool))) : ((List (Int × Int × (Int × Int × Int × Int × Bool))) × Int) → Option (((List (Int × Int × (Int × Int × Int × Int × Bool))) × Int) ⊕ (List (Int × Int × (Int × Int × Int × Int × Bool)))) := fun ((l532, i537) : ((List (Int × Int × (Int × Int × Int × Int × Bool))) × Int)) => cond (decide (i537 < (((l322.length : Nat) : Int)))) ((getI l322 i537).bind fun x607 => (fn_ref27_At (xa.1, xa.2.1, xa.2.2.1, xa.2.2.2.1, xa.2.2.2.2.1, xa.2.2.2.2.2.1, xa.2.2.2.2.2.2) (x607.1, x607.2.1, x607.2.2)).bind fun l616 => (app l532 l616).bind fun z624 => some (.inl ((z624, IntKind.wrap .i64 (i537 + 1))))) (some (.inr (l532)))
noncomputable def fn_ref27_Of (xa : (Int × Int × (List (Int × Int)) × (List (List (Int × Bool))) × (List (Int × Bool)) × (List (Int × (List (Int × Int)) × (List (List (Int × Bool))) × (List (Int × Bool)))) × (List ((List (Int × Int × Int × Int × Bool)) × (Int × Int × Int × (List Int) × (List Int) × (List Int)))))) : Option ((List (Int × Int × (Int × Int × Int × Int × Bool)))) :=
  (fn_ref22_All (xa.1, xa.2.1, xa.2.2.1, xa.2.2.2.1, xa.2.2.2.2.1, xa.2.2.2.2.2.1, xa.2.2.2.2.2.2)).bind fun l322 => (loop (fn_ref27_Of_l1 xa l322) ((([] : List (Int × Int × (Int × Int × Int × Int × Bool))), 0)) : Option ((List (Int × Int × (Int × Int × Int × Int × Bool))))).bind fun l478 => some (l478)
set_option maxRecDepth 100000 in
set_option maxHeartbeats 4000000 in
theorem ref27_Of_ok {K : Hp} {xa : (Int × Int × (List (Int × Int)) × (List (List (Int × Bool))) × (List (Int × Bool)) × (List (Int × (List (Int × Int)) × (List (List (Int × Bool))) × (List (Int × Bool)))) × (List ((List (Int × Int × Int × Int × Bool)) × (Int × Int × Int × (List Int) × (List Int) × (List Int)))))} {adxa_2 : Option Addr} {cpxa_2 : Nat} {adxa_3 : Option Addr} {cpxa_3 : Nat} {adxa_4 : Option Addr} {cpxa_4 : Nat} {adxa_5 : Option Addr} {cpxa_5 : Nat} {adxa_6 : Option Addr} {cpxa_6 : Nat} (fxa_2 : Is K (.sl (.cons (.int .i64) (.one (.int .i64)))) [.slice adxa_2 xa.2.2.1.length cpxa_2] xa.2.2.1) (fxa_3 : Is K (.sl (.one (.sl (.cons (.int .i64) (.one .bool))))) [.slice adxa_3 xa.2.2.2.1.length cpxa_3] xa.2.2.2.1) (fxa_4 : Is K (.sl (.cons (.int .i64) (.one .bool))) [.slice adxa_4 xa.2.2.2.2.1.length cpxa_4] xa.2.2.2.2.1) (fxa_5 : Is K (.sl (.cons (.int .i64) (.cons (.sl (.cons (.int .i64) (.one (.int .i64)))) (.cons (.sl (.one (.sl (.cons (.int .i64) (.one .bool))))) (.one (.one (.sl (.cons (.int .i64) (.one .bool))))))))) [.slice adxa_5 xa.2.2.2.2.2.1.length cpxa_5] xa.2.2.2.2.2.1) (fxa_6 : Is K (.sl (.cons (.sl (.cons (.int .i64) (.cons (.int .i64) (.cons (.int .i64) (.cons (.int .i64) (.one .bool)))))) (.one (.cons (.int .i64) (.cons (.int .i64) (.cons (.int .i64) (.cons (.sl (.int .i64)) (.cons (.sl (.int .i64)) (.one (.sl (.int .i64))))))))))) [.slice adxa_6 xa.2.2.2.2.2.2.length cpxa_6] xa.2.2.2.2.2.2) {r : (List (Int × Int × (Int × Int × Int × Int × Bool)))} (h : fn_ref27_Of xa = some r) :
    Tr Tryz.prog 8 #[.agg #[ii xa.1, ii xa.2.1, .slice adxa_2 xa.2.2.1.length cpxa_2, .slice adxa_3 xa.2.2.2.1.length cpxa_3, .slice adxa_4 xa.2.2.2.2.1.length cpxa_4, .slice adxa_5 xa.2.2.2.2.2.1.length cpxa_5, .slice adxa_6 xa.2.2.2.2.2.2.length cpxa_6]] K [] (fun v K' L' => (∃ (l314 : (List (Int × Int × (Int × Int × Int × Int × Bool)))) (ad315 : Option Addr) (cp316 : Nat), l314 = r ∧ .slice ad315 l314.length cp316 = v ∧ L' = [Row Hp.nil 51 (.cons (.int .i64) (.cons (.int .i64) (.one (.cons (.int .i64) (.cons (.int .i64) (.cons (.int .i64) (.cons (.int .i64) (.one .bool)))))))) (.slice ad315 l314.length cp316) l314]) ∧ K = K') := by
 refine Tr.k <| Tr.of Tryz.func8 rfl Tryz.ntmps8 rfl fun E F => ?_
 unfold fn_ref27_Of at h
 refine cr <| jbx [ii xa.1, ii xa.2.1, .slice adxa_2 xa.2.2.1.length cpxa_2, .slice adxa_3 xa.2.2.2.1.length cpxa_3, .slice adxa_4 xa.2.2.2.2.1.length cpxa_4, .slice adxa_5 xa.2.2.2.2.2.1.length cpxa_5, .slice adxa_6 xa.2.2.2.2.2.2.length cpxa_6] rfl rfl fun b319 => ja (nos) rfl <| J.nil <| CJ.seq <| CJ.region ?_
 refine jv (.agg #[ii xa.1, ii xa.2.1, .slice adxa_2 xa.2.2.1.length cpxa_2, .slice adxa_3 xa.2.2.2.1.length cpxa_3, .slice adxa_4 xa.2.2.2.2.1.length cpxa_4, .slice adxa_5 xa.2.2.2.2.2.1.length cpxa_5, .slice adxa_6 xa.2.2.2.2.2.2.length cpxa_6]) (V.ld rfl (Ld.agg (cs := [ii xa.1, ii xa.2.1, .slice adxa_2 xa.2.2.1.length cpxa_2, .slice adxa_3 xa.2.2.2.1.length cpxa_3, .slice adxa_4 xa.2.2.2.2.1.length cpxa_4, .slice adxa_5 xa.2.2.2.2.2.1.length cpxa_5, .slice adxa_6 xa.2.2.2.2.2.2.length cpxa_6]) Tryz.underlying30 sz30 rfl (Rd.cls 0 0 rfl rfl))) ?_
 obtain ⟨r320, hr321, h⟩ := ob h
 refine J.op rfl (A.call (L1 := []) Tryz.call9 rfl (ref22_All_ok fxa_2 fxa_3 fxa_4 fxa_5 fxa_6 hr321) rfl rfl) ?_
 rintro _ _ _ ⟨v326, _, rfl, ⟨⟨l322, ad323, cp324, rfl, rfl, rfl⟩, rfl⟩, _, rfl⟩
 refine J.wit Row.hn fun hn325 => ja (.slice ad323 l322.length cp324) rfl <| J.nil <| CJ.seq <| CJ.region ?_
 refine J.op rfl (A.lit (K0 := Hp.nil) (ty := (.cons (.int .i64) (.cons (.int .i64) (.one (.cons (.int .i64) (.cons (.int .i64) (.cons (.int .i64) (.cons (.int .i64) (.one .bool))))))))) (xs := ([] : List (Int × Int × (Int × Int × Int × Int × Bool)))) Tryz.underlying36 inf51 rfl (by decide) rfl rfl rfl rfl rfl (by decide)) ?_
 rintro _ _ _ ⟨b330, rfl, rfl, rfl⟩
 have hn331 : ([] : List (Int × Int × (Int × Int × Int × Int × Bool))) ≠ [] → ∃ g, (some ⟨b330, 0, none⟩ : Option Addr) = some ⟨g, 0, none⟩ := fun _ => ⟨b330, rfl⟩
 refine ja (.slice (some ⟨b330, 0, none⟩) ((([] : List (Int × Int × (Int × Int × Int × Int × Bool)))).length) 0) rfl <| J.nil <| CJ.seq <| cr <| ja (ii 0) rfl <| J.nil ?_
 obtain ⟨o483, ho484, h⟩ := ob h
 refine CJ.meetN (fun ρ K' L' => ∃ (l478 : (List (Int × Int × (Int × Int × Int × Int × Bool)))) (ad479 : Option Addr) (cp480 : Nat), l478 = o483 ∧ Fits [(4, .slice ad479 l478.length cp480)] ρ ∧ K = K' ∧ L' = Row Hp.nil 51 (.cons (.int .i64) (.cons (.int .i64) (.one (.cons (.int .i64) (.cons (.int .i64) (.cons (.int .i64) (.cons (.int .i64) (.one .bool)))))))) (.slice ad479 l478.length cp480) l478 :: F) ?_ ?_
 · refine CJ.block <| CJ.front 1 rfl <| CJ.front 2 rfl <| CJ.loop (fun s ρ K' L' => ∃ (l532 : (List (Int × Int × (Int × Int × Int × Int × Bool)))) (i537 : Int) (ad533 : Option Addr) (cp534 : Nat), (l532, i537) = s ∧ Fits [(1, .pointer (some ⟨b319, 0, none⟩)), (3, .slice ad323 l322.length cp324), (4, .slice ad533 l532.length cp534), (5, ii i537)] ρ ∧ K = K' ∧ L' = Cl b319 30 [ii xa.1, ii xa.2.1, .slice adxa_2 xa.2.2.1.length cpxa_2, .slice adxa_3 xa.2.2.2.1.length cpxa_3, .slice adxa_4 xa.2.2.2.2.1.length cpxa_4, .slice adxa_5 xa.2.2.2.2.2.1.length cpxa_5, .slice adxa_6 xa.2.2.2.2.2.2.length cpxa_6] :: Row Hp.nil 55 (.cons (.int .i64) (.cons (.int .i64) (.one .bool))) (.slice ad323 l322.length cp324) l322 :: Row Hp.nil 51 (.cons (.int .i64) (.cons (.int .i64) (.one (.cons (.int .i64) (.cons (.int .i64) (.cons (.int .i64) (.cons (.int .i64) (.one .bool)))))))) (.slice ad533 l532.length cp534) l532 :: F) ho484 ⟨([] : List (Int × Int × (Int × Int × Int × Int × Bool))), 0, (some ⟨b330, 0, none⟩), 0, rfl, ⟨rfl, rfl, rfl, rfl, trivial⟩, rfl, rfl⟩ ?_
   rintro s ρ _ _ r588 ⟨l532, i537, ad533, cp534, rfl, hf586, rfl, rfl⟩ h585
   obtain ⟨ρ, rfl⟩ := hf586.ex
   refine CJ.front 2 rfl <| CJ.wit Row.hn fun hn536 => CJ.seq <| cr <| jm (ii i537) rfl <| jm (.slice ad323 l322.length cp324) rfl ?_
   refine jv (ii (((l322.length : Nat) : Int))) (V.len Tryz.underlying40 rfl) <| jv (.bool (decide (i537 < (((l322.length : Nat) : Int))))) (V.lss rfl rfl) <| J.nil <| cc rfl h585 (fun hc589 h585 => ?_) fun hc589 h585 => ?_
   · refine CJ.skip <| CJ.seq <| CJ.block <| CJ.mix [Row Hp.nil 51 (.cons (.int .i64) (.cons (.int .i64) (.one (.cons (.int .i64) (.cons (.int .i64) (.cons (.int .i64) (.cons (.int .i64) (.one .bool)))))))) (.slice ad533 l532.length cp534) l532, Cl b319 30 [ii xa.1, ii xa.2.1, .slice adxa_2 xa.2.2.1.length cpxa_2, .slice adxa_3 xa.2.2.2.1.length cpxa_3, .slice adxa_4 xa.2.2.2.2.1.length cpxa_4, .slice adxa_5 xa.2.2.2.2.2.1.length cpxa_5, .slice adxa_6 xa.2.2.2.2.2.2.length cpxa_6], Row Hp.nil 55 (.cons (.int .i64) (.cons (.int .i64) (.one .bool))) (.slice ad323 l322.length cp324) l322] [([0, 1, 2, 3, 4, 5], 6)] [] [7, 8] mixO (by decide +kernel) ⟨0, rfl, 0, rfl, 0, rfl, trivial⟩ rfl rfl rfl <| JM.cons <| qm (.slice ad533 l532.length cp534) rfl <| qv (.agg #[ii xa.1, ii xa.2.1, .slice adxa_2 xa.2.2.1.length cpxa_2, .slice adxa_3 xa.2.2.2.1.length cpxa_3, .slice adxa_4 xa.2.2.2.2.1.length cpxa_4, .slice adxa_5 xa.2.2.2.2.2.1.length cpxa_5, .slice adxa_6 xa.2.2.2.2.2.2.length cpxa_6]) (V.ld rfl (Ld.agg (cs := [ii xa.1, ii xa.2.1, .slice adxa_2 xa.2.2.1.length cpxa_2, .slice adxa_3 xa.2.2.2.1.length cpxa_3, .slice adxa_4 xa.2.2.2.2.1.length cpxa_4, .slice adxa_5 xa.2.2.2.2.2.1.length cpxa_5, .slice adxa_6 xa.2.2.2.2.2.2.length cpxa_6]) Tryz.underlying30 sz30 rfl (Rd.cls 1 0 rfl rfl))) ?_
     refine qm (.slice ad323 l322.length cp324) rfl <| qm (ii i537) rfl ?_
     obtain ⟨x607, hx608, h585⟩ := ob h585
     obtain ⟨p609, p610, p611⟩ := getI_some hx608
     obtain ⟨g612, e613⟩ := hn325 (fun e => by rw [e] at p610; simp at p610)
     refine qv _ (V.iad Tryz.underlying40 sz55 rfl e613 rfl p609 p611) <| qv (.agg #[ii x607.1, ii x607.2.1, .bool x607.2.2]) (V.ld rfl (Ld.agg Tryz.underlying55 sz55 rfl (Rd.rows (K0 := Hp.nil) (s := (.cons (.int .i64) (.cons (.int .i64) (.one .bool)))) 2 rfl e613 p610 (cs := [ii x607.1, ii x607.2.1, .bool x607.2.2]) rfl (by rintro _ ⟨_, _, rfl, _, rfl, ⟨_, _, rfl, _, rfl, rfl⟩⟩; rfl)))) <| JQ.nil ?_
     obtain ⟨r614, hr615, h585⟩ := ob h585
     refine JA.op rfl (A.call (L1 := []) Tryz.call16 rfl (ref27_At_ok fxa_2 fxa_3 fxa_4 fxa_5 fxa_6 hr615) rfl rfl) ?_
     rintro _ _ _ ⟨v620, _, rfl, ⟨⟨l616, ad617, cp618, rfl, rfl, rfl⟩, rfl⟩, _, rfl⟩
     refine ⟨fun w hs => Hold.sub (Hp.le_refl _) ⟨1, rfl, 1, rfl, 1, rfl, trivial⟩ hs, ?_⟩
     refine JM.wit Row.hn fun hn619 => JM.nil <| JQ.nil ?_
     obtain ⟨z624, hz625, h585⟩ := ob h585
     refine J.front 1 rfl <| J.op rfl (A.appR (Kr := Hp.nil) Tryz.underlying36 inf51 rfl rfl (by decide) (by decide) rfl rfl (Els.flat rfl) (Els.flat rfl) hz625) ?_
     rintro _ _ _ ⟨v626, rfl, rfl, rfl⟩
     refine J.wit Row.form ?_
     rintro ⟨ad627, cp628, rfl, _, _, hn629⟩
     refine ja (.slice ad627 z624.length cp628) rfl <| J.nil <| CJ.region <| jm (ii i537) rfl <| jv (ii (IntKind.wrap .i64 (i537 + 1))) (V.add rfl rfl) <| ja (ii (IntKind.wrap .i64 (i537 + 1))) rfl <| J.front 2 rfl ?_
     refine J.front 2 rfl <| J.nil ?_
     obtain rfl := si h585
     exact ⟨rfl, ⟨z624, IntKind.wrap .i64 (i537 + 1), ad627, cp628, rfl, ⟨rfl, rfl, rfl, rfl, trivial⟩, rfl, rfl⟩⟩
   refine CJ.dropAt 1 rfl <| CJ.dropAt 1 rfl <| CJ.exit ?_
   obtain rfl := si h585
   refine ⟨nofun, fun e => ?_⟩
   subst e
   exact ⟨rfl, ⟨l532, ad533, cp534, rfl, ⟨rfl, trivial⟩, rfl, rfl⟩⟩
 rintro ρ _ _ ⟨l478, ad479, cp480, rfl, hf630, rfl, rfl⟩
 obtain ⟨ρ, rfl⟩ := hf630.ex
 refine PJ.wit Row.hn fun hn482 => PJ.done <| cr <| jm (.slice ad479 l478.length cp480) rfl <| ja (.slice ad479 l478.length cp480) rfl <| J.nil ?_
 refine CJ.ret ?_
 obtain rfl := si h
 exact ⟨_, _, Res.one rfl rfl, ⟨l478, ad479, cp480, rfl, rfl, rfl⟩, (Hp.le_refl _), fun w hs => hs⟩
noncomputable def fn_ref27_Same_l1 (xa : (List (Int × Int × (Int × Int × Int × Int × Bool)))) (xb : (List (Int × Int × (Int × Int × Int × Int × Bool)))) : Int → Option (Int ⊕ (Unit ⊕ Bool)) := fun (i413 : Int) => cond (decide (i413 < (((xa.length : Nat) : Int)))) ((getI xa i413).bind fun x476 => (getI xb i413).bind fun x485 => cond (!((decide (x476.1 = x485.1)) && ((decide (x476.2.1 = x485.2.1)) && (((decide (x476.2.2.1 = x485.2.2.1)) && ((decide (x476.2.2.2.1 = x485.2.2.2.1)) && ((decide (x476.2.2.2.2.1 = x485.2.2.2.2.1)) && ((decide (x476.2.2.2.2.2.1 = x485.2.2.2.2.2.1)) && (x476.2.2.2.2.2.2 == x485.2.2.2.2.2.2))))))))) (some (.inr ((.inr (false))))) (some (.inl (IntKind.wrap .i64 (i413 + 1))))) (some (.inr ((.inl ()))))
noncomputable def fn_ref27_Same (xa : (List (Int × Int × (Int × Int × Int × Int × Bool)))) (xb : (List (Int × Int × (Int × Int × Int × Int × Bool)))) : Option Bool :=
  cond (!decide ((((xa.length : Nat) : Int)) = (((xb.length : Nat) : Int)))) (some (false)) ((loop (fn_ref27_Same_l1 xa xb) 0 : Option (Unit ⊕ Bool)).bind fun o => match o with | .inr r => some r | .inl () => some (true))
set_option maxRecDepth 100000 in
set_option maxHeartbeats 4000000 in
theorem ref27_Same_ok {K : Hp} {xa : (List (Int × Int × (Int × Int × Int × Int × Bool)))} {xb : (List (Int × Int × (Int × Int × Int × Int × Bool)))} {adxa_0 : Option Addr} {cpxa_0 : Nat} {adxb_0 : Option Addr} {cpxb_0 : Nat} (fxa_0 : Is K (.sl (.cons (.int .i64) (.cons (.int .i64) (.one (.cons (.int .i64) (.cons (.int .i64) (.cons (.int .i64) (.cons (.int .i64) (.one .bool))))))))) [.slice adxa_0 xa.length cpxa_0] xa) (fxb_0 : Is K (.sl (.cons (.int .i64) (.cons (.int .i64) (.one (.cons (.int .i64) (.cons (.int .i64) (.cons (.int .i64) (.cons (.int .i64) (.one .bool))))))))) [.slice adxb_0 xb.length cpxb_0] xb) {r : Bool} (h : fn_ref27_Same xa xb = some r) :
    Tr Tryz.prog 10 #[.slice adxa_0 xa.length cpxa_0, .slice adxb_0 xb.length cpxb_0] K [] (fun v K' L' => (∃ (t249 : Bool), t249 = r ∧ .bool t249 = v ∧ L' = []) ∧ K = K') := by
 refine Tr.k <| Tr.of Tryz.func10 rfl Tryz.ntmps10 rfl fun E F => ?_
 unfold fn_ref27_Same at h
 refine cr <| ja (.bool false) rfl <| J.nil <| CJ.seq <| CJ.seq <| CJ.region ?_
 refine jm (.slice adxa_0 xa.length cpxa_0) rfl <| jv (ii (((xa.length : Nat) : Int))) (V.len Tryz.underlying36 rfl) <| jm (.slice adxb_0 xb.length cpxb_0) rfl <| jv (ii (((xb.length : Nat) : Int))) (V.len Tryz.underlying36 rfl) <| jv (.bool (!decide ((((xa.length : Nat) : Int)) = (((xb.length : Nat) : Int))))) (V.neq rfl rfl) <| J.nil <| cc rfl h (fun hc250 h => ?_) fun hc250 h => ?_
 · refine cr <| ja (.bool false) rfl <| J.nil <| CJ.ret ?_
   obtain rfl := si h
   exact ⟨_, _, Res.one rfl rfl, ⟨false, rfl, rfl, rfl⟩, (Hp.le_refl _), fun w hs => hs⟩
 refine CJ.skip <| CJ.seq <| cr <| ja (ii 0) rfl <| J.nil ?_
 obtain ⟨o372, ho373, h⟩ := ob h
 refine CJ.joinN (o := o372) (fun s ρ K' L' => () = s ∧ Fits [] ρ ∧ K = K' ∧ F = L') ?_ ?_
 · refine CJ.block <| CJ.loop (fun s ρ K' L' => ∃ (i413 : Int), i413 = s ∧ Fits [(0, .slice adxa_0 xa.length cpxa_0), (1, .slice adxb_0 xb.length cpxb_0), (5, ii i413)] ρ ∧ K = K' ∧ F = L') ho373 ⟨0, rfl, ⟨rfl, rfl, rfl, trivial⟩, rfl, rfl⟩ ?_
   rintro s ρ _ _ r456 ⟨i413, rfl, hf454, rfl, rfl⟩ h453
   obtain ⟨ρ, rfl⟩ := hf454.ex
   refine CJ.seq <| cr <| jm (ii i413) rfl <| jm (.slice adxa_0 xa.length cpxa_0) rfl <| jv (ii (((xa.length : Nat) : Int))) (V.len Tryz.underlying36 rfl) <| jv (.bool (decide (i413 < (((xa.length : Nat) : Int))))) (V.lss rfl rfl) ?_
   refine J.nil <| cc rfl h453 (fun hc457 h453 => ?_) fun hc457 h453 => ?_
   · refine CJ.skip <| CJ.seq <| CJ.block <| CJ.seq <| CJ.mix [] [] [0, 1, 2, 3, 4, 5, 6, 7, 8] [] mixO (by decide +kernel) trivial rfl rfl rfl <| JM.nil <| qm (.slice adxa_0 xa.length cpxa_0) rfl ?_
     refine qm (ii i413) rfl ?_
     obtain ⟨x476, hx477, h453⟩ := ob h453
     obtain ⟨p478, p479, p480⟩ := getI_some hx477
     obtain ⟨b481, o482, e483, a484⟩ := (fxa_0).at p479
     refine qv _ (V.iad Tryz.underlying36 sz51 rfl e483 rfl p478 p480) <| qv (.agg #[ii x476.1, ii x476.2.1, ii x476.2.2.1, ii x476.2.2.2.1, ii x476.2.2.2.2.1, ii x476.2.2.2.2.2.1, .bool x476.2.2.2.2.2.2]) (V.ld rfl (Ld.aggK (cs := [ii x476.1, ii x476.2.1, ii x476.2.2.1, ii x476.2.2.2.1, ii x476.2.2.2.2.1, ii x476.2.2.2.2.2.1, .bool x476.2.2.2.2.2.2]) Tryz.underlying51 sz51 rfl ⟨((a484).fst).int, (((a484).snd).fst).int, (((((a484).snd).snd).one).fst).int, ((((((a484).snd).snd).one).snd).fst).int, (((((((a484).snd).snd).one).snd).snd).fst).int, ((((((((a484).snd).snd).one).snd).snd).snd).fst).int, (((((((((a484).snd).snd).one).snd).snd).snd).snd).one).bool, trivial⟩ (Hp.le_refl _))) <| qm (.slice adxb_0 xb.length cpxb_0) rfl <| qm (ii i413) rfl ?_
     obtain ⟨x485, hx486, h453⟩ := ob h453
     obtain ⟨p487, p488, p489⟩ := getI_some hx486
     obtain ⟨b490, o491, e492, a493⟩ := (fxb_0).at p488
     refine qv _ (V.iad Tryz.underlying36 sz51 rfl e492 rfl p487 p489) <| qv (.agg #[ii x485.1, ii x485.2.1, ii x485.2.2.1, ii x485.2.2.2.1, ii x485.2.2.2.2.1, ii x485.2.2.2.2.2.1, .bool x485.2.2.2.2.2.2]) (V.ld rfl (Ld.aggK (cs := [ii x485.1, ii x485.2.1, ii x485.2.2.1, ii x485.2.2.2.1, ii x485.2.2.2.2.1, ii x485.2.2.2.2.2.1, .bool x485.2.2.2.2.2.2]) Tryz.underlying51 sz51 rfl ⟨((a493).fst).int, (((a493).snd).fst).int, (((((a493).snd).snd).one).fst).int, ((((((a493).snd).snd).one).snd).fst).int, (((((((a493).snd).snd).one).snd).snd).fst).int, ((((((((a493).snd).snd).one).snd).snd).snd).fst).int, (((((((((a493).snd).snd).one).snd).snd).snd).snd).one).bool, trivial⟩ (Hp.le_refl _))) <| qv (.bool (!((decide (x476.1 = x485.1)) && ((decide (x476.2.1 = x485.2.1)) && (((decide (x476.2.2.1 = x485.2.2.1)) && ((decide (x476.2.2.2.1 = x485.2.2.2.1)) && ((decide (x476.2.2.2.2.1 = x485.2.2.2.2.1)) && ((decide (x476.2.2.2.2.2.1 = x485.2.2.2.2.2.1)) && (x476.2.2.2.2.2.2 == x485.2.2.2.2.2.2)))))))))) (V.nest eqg51 (EqIn.st (d := 9999) rfl Tryz.underlying51 sih51 (EqFs.cons (by decide) (Ld0.sc sc3 rfl) (Ld0.sc sc3 rfl) (EqIn.int (d := 9998) rfl Tryz.underlying3) (EqFs.cons (by decide) (Ld0.sc sc3 rfl) (Ld0.sc sc3 rfl) (EqIn.int (d := 9998) rfl Tryz.underlying3) (EqFs.last (by decide) (Ld0.agg Tryz.underlying49 sz49 rfl) (Ld0.agg Tryz.underlying49 sz49 rfl) (EqIn.st (d := 9998) rfl Tryz.underlying49 sih49 (EqFs.cons (by decide) (Ld0.sc sc3 rfl) (Ld0.sc sc3 rfl) (EqIn.int (d := 9997) rfl Tryz.underlying3) (EqFs.cons (by decide) (Ld0.sc sc3 rfl) (Ld0.sc sc3 rfl) (EqIn.int (d := 9997) rfl Tryz.underlying3) (EqFs.cons (by decide) (Ld0.sc sc3 rfl) (Ld0.sc sc3 rfl) (EqIn.int (d := 9997) rfl Tryz.underlying3) (EqFs.cons (by decide) (Ld0.sc sc3 rfl) (Ld0.sc sc3 rfl) (EqIn.int (d := 9997) rfl Tryz.underlying3) (EqFs.last (by decide) (Ld0.sc sc4 rfl) (Ld0.sc sc4 rfl) (EqIn.bool (d := 9997) rfl Tryz.underlying4))))))))))) rfl rfl) <| JQ.nil <| J.nil <| cc rfl h453 (fun hc494 h453 => ?_) fun hc494 h453 => ?_
     · refine cr <| ja (.bool false) rfl <| J.nil <| CJ.ret ?_
       obtain rfl := si h453
       refine ⟨nofun, fun e => ?_⟩
       subst e
       refine .inr ⟨nofun, ?_⟩
       obtain rfl := si h
       exact ⟨_, _, Res.one rfl rfl, ⟨false, rfl, rfl, rfl⟩, (Hp.le_refl _), fun w hs => hs⟩
     refine CJ.skip <| CJ.region <| jm (ii i413) rfl <| jv (ii (IntKind.wrap .i64 (i413 + 1))) (V.add rfl rfl) <| ja (ii (IntKind.wrap .i64 (i413 + 1))) rfl <| J.nil ?_
     obtain rfl := si h453
     exact ⟨rfl, ⟨IntKind.wrap .i64 (i413 + 1), rfl, ⟨rfl, rfl, rfl, trivial⟩, rfl, rfl⟩⟩
   refine CJ.exit ?_
   obtain rfl := si h453
   refine ⟨nofun, fun e => ?_⟩
   subst e
   exact .inl ⟨rfl, _, rfl, ⟨rfl, trivial, rfl, rfl⟩⟩
 rintro s ρ _ _ ho495 ⟨rfl, hf496, rfl, rfl⟩
 subst ho495
 obtain ⟨ρ, rfl⟩ := hf496.ex
 refine PJ.done <| cr <| ja (.bool true) rfl <| J.nil <| CJ.ret ?_
 obtain rfl := si h
 exact ⟨_, _, Res.one rfl rfl, ⟨true, rfl, rfl, rfl⟩, (Hp.le_refl _), fun w hs => hs⟩

noncomputable def fn_tick_Counter_Of_p0c3_iiiiiii (qa0 : Int) (qa1 : Int) (qa2 : Int) (qa3 : Int) (qa4 : Int) (qa5 : Int) (qa6 : Int) : Option Int :=
  (fn_tick_isPart 3).bind fun t12 => cond (!t12) (some (0)) (some (qa3))
set_option maxRecDepth 100000 in
set_option maxHeartbeats 4000000 in
theorem tick_Counter_Of_p0c3_iiiiiii_ok {K : Hp} {qa0 : Int} {qa1 : Int} {qa2 : Int} {qa3 : Int} {qa4 : Int} {qa5 : Int} {qa6 : Int} {pba : Nat}  {r : Int} (h : fn_tick_Counter_Of_p0c3_iiiiiii qa0 qa1 qa2 qa3 qa4 qa5 qa6 = some r) :
    Tr Tryz.prog 11 #[.pointer (some ⟨pba, 0, none⟩), ii 3] K [Cl pba 35 [ii qa0, ii qa1, ii qa2, ii qa3, ii qa4, ii qa5, ii qa6]] (fun v K' L' => (∃ (i9 : Int), i9 = r ∧ ii i9 = v ∧ L' = [Cl pba 35 [ii qa0, ii qa1, ii qa2, ii qa3, ii qa4, ii qa5, ii qa6]]) ∧ K = K') := by
 refine Tr.k <| Tr.of Tryz.func11 rfl Tryz.ntmps11 rfl fun E F => ?_
 unfold fn_tick_Counter_Of_p0c3_iiiiiii at h
 refine cr <| ja (ii 0) rfl <| J.nil <| CJ.seq <| CJ.seq <| CJ.region ?_
 refine jm _ rfl <| jv (.bool false) (Val.eq (V.pn_eql Tryz.underlying38 rfl rfl) rfl) <| jm (.bool false) rfl <| J.run rfl rfl rfl rfl <| jm (ii 3) rfl <| J.run rfl rfl rfl rfl ?_
 obtain ⟨r10, hr11, h⟩ := ob h
 refine J.op rfl (A.call (L1 := []) Tryz.call25 rfl (tick_isPart_ok hr11) rfl rfl) ?_
 rintro _ _ _ ⟨v13, _, rfl, ⟨⟨t12, rfl, rfl, rfl⟩, rfl⟩, _, rfl⟩
 refine J.run rfl rfl rfl rfl <| jv (.bool (!t12)) (V.not rfl) <| jv (.bool (!t12)) (V.pickF rfl rfl rfl) <| J.nil <| cc rfl h (fun hc16 h => ?_) fun hc16 h => ?_
 · refine cr <| ja (ii 0) rfl <| J.nil <| CJ.ret ?_
   obtain rfl := si h
   exact ⟨_, _, Res.one rfl rfl, ⟨0, rfl, rfl, rfl⟩, (Hp.le_refl _), fun w hs => hs⟩
 refine CJ.skip <| cr <| jm _ rfl <| jm (ii 3) rfl <| jv _ (V.nck rfl) <| jv _ (V.fad Tryz.underlying35 rfl nz33 rfl) ?_
 refine jv _ (V.iadA Tryz.underlying33 sz3 rfl rfl (by decide) (by decide)) <| jv (ii qa3) (V.ld rfl (Ld.sc sc3 (Rd.cl 0 rfl rfl))) <| ja (ii qa3) rfl <| J.nil <| CJ.ret ?_
 obtain rfl := si h
 exact ⟨_, _, Res.one rfl rfl, ⟨qa3, rfl, rfl, rfl⟩, (Hp.le_refl _), fun w hs => hs⟩

noncomputable def fn_tick_Counter_Of_p0c0_iiiiiii (qa0 : Int) (qa1 : Int) (qa2 : Int) (qa3 : Int) (qa4 : Int) (qa5 : Int) (qa6 : Int) : Option Int :=
  (fn_tick_isPart 0).bind fun t12 => cond (!t12) (some (0)) (some (qa0))
set_option maxRecDepth 100000 in
set_option maxHeartbeats 4000000 in
theorem tick_Counter_Of_p0c0_iiiiiii_ok {K : Hp} {qa0 : Int} {qa1 : Int} {qa2 : Int} {qa3 : Int} {qa4 : Int} {qa5 : Int} {qa6 : Int} {pba : Nat}  {r : Int} (h : fn_tick_Counter_Of_p0c0_iiiiiii qa0 qa1 qa2 qa3 qa4 qa5 qa6 = some r) :
    Tr Tryz.prog 11 #[.pointer (some ⟨pba, 0, none⟩), ii 0] K [Cl pba 35 [ii qa0, ii qa1, ii qa2, ii qa3, ii qa4, ii qa5, ii qa6]] (fun v K' L' => (∃ (i9 : Int), i9 = r ∧ ii i9 = v ∧ L' = [Cl pba 35 [ii qa0, ii qa1, ii qa2, ii qa3, ii qa4, ii qa5, ii qa6]]) ∧ K = K') := by
 refine Tr.k <| Tr.of Tryz.func11 rfl Tryz.ntmps11 rfl fun E F => ?_
 unfold fn_tick_Counter_Of_p0c0_iiiiiii at h
 refine cr <| ja (ii 0) rfl <| J.nil <| CJ.seq <| CJ.seq <| CJ.region ?_
 refine jm _ rfl <| jv (.bool false) (Val.eq (V.pn_eql Tryz.underlying38 rfl rfl) rfl) <| jm (.bool false) rfl <| J.run rfl rfl rfl rfl <| jm (ii 0) rfl <| J.run rfl rfl rfl rfl ?_
 obtain ⟨r10, hr11, h⟩ := ob h
 refine J.op rfl (A.call (L1 := []) Tryz.call25 rfl (tick_isPart_ok hr11) rfl rfl) ?_
 rintro _ _ _ ⟨v13, _, rfl, ⟨⟨t12, rfl, rfl, rfl⟩, rfl⟩, _, rfl⟩
 refine J.run rfl rfl rfl rfl <| jv (.bool (!t12)) (V.not rfl) <| jv (.bool (!t12)) (V.pickF rfl rfl rfl) <| J.nil <| cc rfl h (fun hc16 h => ?_) fun hc16 h => ?_
 · refine cr <| ja (ii 0) rfl <| J.nil <| CJ.ret ?_
   obtain rfl := si h
   exact ⟨_, _, Res.one rfl rfl, ⟨0, rfl, rfl, rfl⟩, (Hp.le_refl _), fun w hs => hs⟩
 refine CJ.skip <| cr <| jm _ rfl <| jm (ii 0) rfl <| jv _ (V.nck rfl) <| jv _ (V.fad Tryz.underlying35 rfl nz33 rfl) ?_
 refine jv _ (V.iadA Tryz.underlying33 sz3 rfl rfl (by decide) (by decide)) <| jv (ii qa0) (V.ld rfl (Ld.sc sc3 (Rd.cl 0 rfl rfl))) <| ja (ii qa0) rfl <| J.nil <| CJ.ret ?_
 obtain rfl := si h
 exact ⟨_, _, Res.one rfl rfl, ⟨qa0, rfl, rfl, rfl⟩, (Hp.le_refl _), fun w hs => hs⟩

noncomputable def fn_tick_Counter_Of_p0c1_iiiiiii (qa0 : Int) (qa1 : Int) (qa2 : Int) (qa3 : Int) (qa4 : Int) (qa5 : Int) (qa6 : Int) : Option Int :=
  (fn_tick_isPart 1).bind fun t12 => cond (!t12) (some (0)) (some (qa1))
set_option maxRecDepth 100000 in
set_option maxHeartbeats 4000000 in
theorem tick_Counter_Of_p0c1_iiiiiii_ok {K : Hp} {qa0 : Int} {qa1 : Int} {qa2 : Int} {qa3 : Int} {qa4 : Int} {qa5 : Int} {qa6 : Int} {pba : Nat}  {r : Int} (h : fn_tick_Counter_Of_p0c1_iiiiiii qa0 qa1 qa2 qa3 qa4 qa5 qa6 = some r) :
    Tr Tryz.prog 11 #[.pointer (some ⟨pba, 0, none⟩), ii 1] K [Cl pba 35 [ii qa0, ii qa1, ii qa2, ii qa3, ii qa4, ii qa5, ii qa6]] (fun v K' L' => (∃ (i9 : Int), i9 = r ∧ ii i9 = v ∧ L' = [Cl pba 35 [ii qa0, ii qa1, ii qa2, ii qa3, ii qa4, ii qa5, ii qa6]]) ∧ K = K') := by
 refine Tr.k <| Tr.of Tryz.func11 rfl Tryz.ntmps11 rfl fun E F => ?_
 unfold fn_tick_Counter_Of_p0c1_iiiiiii at h
 refine cr <| ja (ii 0) rfl <| J.nil <| CJ.seq <| CJ.seq <| CJ.region ?_
 refine jm _ rfl <| jv (.bool false) (Val.eq (V.pn_eql Tryz.underlying38 rfl rfl) rfl) <| jm (.bool false) rfl <| J.run rfl rfl rfl rfl <| jm (ii 1) rfl <| J.run rfl rfl rfl rfl ?_
 obtain ⟨r10, hr11, h⟩ := ob h
 refine J.op rfl (A.call (L1 := []) Tryz.call25 rfl (tick_isPart_ok hr11) rfl rfl) ?_
 rintro _ _ _ ⟨v13, _, rfl, ⟨⟨t12, rfl, rfl, rfl⟩, rfl⟩, _, rfl⟩
 refine J.run rfl rfl rfl rfl <| jv (.bool (!t12)) (V.not rfl) <| jv (.bool (!t12)) (V.pickF rfl rfl rfl) <| J.nil <| cc rfl h (fun hc16 h => ?_) fun hc16 h => ?_
 · refine cr <| ja (ii 0) rfl <| J.nil <| CJ.ret ?_
   obtain rfl := si h
   exact ⟨_, _, Res.one rfl rfl, ⟨0, rfl, rfl, rfl⟩, (Hp.le_refl _), fun w hs => hs⟩
 refine CJ.skip <| cr <| jm _ rfl <| jm (ii 1) rfl <| jv _ (V.nck rfl) <| jv _ (V.fad Tryz.underlying35 rfl nz33 rfl) ?_
 refine jv _ (V.iadA Tryz.underlying33 sz3 rfl rfl (by decide) (by decide)) <| jv (ii qa1) (V.ld rfl (Ld.sc sc3 (Rd.cl 0 rfl rfl))) <| ja (ii qa1) rfl <| J.nil <| CJ.ret ?_
 obtain rfl := si h
 exact ⟨_, _, Res.one rfl rfl, ⟨qa1, rfl, rfl, rfl⟩, (Hp.le_refl _), fun w hs => hs⟩

noncomputable def fn_tick_Counter_Of_p0c2_iiiiiii (qa0 : Int) (qa1 : Int) (qa2 : Int) (qa3 : Int) (qa4 : Int) (qa5 : Int) (qa6 : Int) : Option Int :=
  (fn_tick_isPart 2).bind fun t12 => cond (!t12) (some (0)) (some (qa2))
set_option maxRecDepth 100000 in
set_option maxHeartbeats 4000000 in
theorem tick_Counter_Of_p0c2_iiiiiii_ok {K : Hp} {qa0 : Int} {qa1 : Int} {qa2 : Int} {qa3 : Int} {qa4 : Int} {qa5 : Int} {qa6 : Int} {pba : Nat}  {r : Int} (h : fn_tick_Counter_Of_p0c2_iiiiiii qa0 qa1 qa2 qa3 qa4 qa5 qa6 = some r) :
    Tr Tryz.prog 11 #[.pointer (some ⟨pba, 0, none⟩), ii 2] K [Cl pba 35 [ii qa0, ii qa1, ii qa2, ii qa3, ii qa4, ii qa5, ii qa6]] (fun v K' L' => (∃ (i9 : Int), i9 = r ∧ ii i9 = v ∧ L' = [Cl pba 35 [ii qa0, ii qa1, ii qa2, ii qa3, ii qa4, ii qa5, ii qa6]]) ∧ K = K') := by
 refine Tr.k <| Tr.of Tryz.func11 rfl Tryz.ntmps11 rfl fun E F => ?_
 unfold fn_tick_Counter_Of_p0c2_iiiiiii at h
 refine cr <| ja (ii 0) rfl <| J.nil <| CJ.seq <| CJ.seq <| CJ.region ?_
 refine jm _ rfl <| jv (.bool false) (Val.eq (V.pn_eql Tryz.underlying38 rfl rfl) rfl) <| jm (.bool false) rfl <| J.run rfl rfl rfl rfl <| jm (ii 2) rfl <| J.run rfl rfl rfl rfl ?_
 obtain ⟨r10, hr11, h⟩ := ob h
 refine J.op rfl (A.call (L1 := []) Tryz.call25 rfl (tick_isPart_ok hr11) rfl rfl) ?_
 rintro _ _ _ ⟨v13, _, rfl, ⟨⟨t12, rfl, rfl, rfl⟩, rfl⟩, _, rfl⟩
 refine J.run rfl rfl rfl rfl <| jv (.bool (!t12)) (V.not rfl) <| jv (.bool (!t12)) (V.pickF rfl rfl rfl) <| J.nil <| cc rfl h (fun hc16 h => ?_) fun hc16 h => ?_
 · refine cr <| ja (ii 0) rfl <| J.nil <| CJ.ret ?_
   obtain rfl := si h
   exact ⟨_, _, Res.one rfl rfl, ⟨0, rfl, rfl, rfl⟩, (Hp.le_refl _), fun w hs => hs⟩
 refine CJ.skip <| cr <| jm _ rfl <| jm (ii 2) rfl <| jv _ (V.nck rfl) <| jv _ (V.fad Tryz.underlying35 rfl nz33 rfl) ?_
 refine jv _ (V.iadA Tryz.underlying33 sz3 rfl rfl (by decide) (by decide)) <| jv (ii qa2) (V.ld rfl (Ld.sc sc3 (Rd.cl 0 rfl rfl))) <| ja (ii qa2) rfl <| J.nil <| CJ.ret ?_
 obtain rfl := si h
 exact ⟨_, _, Res.one rfl rfl, ⟨qa2, rfl, rfl, rfl⟩, (Hp.le_refl _), fun w hs => hs⟩

noncomputable def fn_tick_Counter_Of_p0c4_iiiiiii (qa0 : Int) (qa1 : Int) (qa2 : Int) (qa3 : Int) (qa4 : Int) (qa5 : Int) (qa6 : Int) : Option Int :=
  (fn_tick_isPart 4).bind fun t12 => cond (!t12) (some (0)) (some (qa4))
set_option maxRecDepth 100000 in
set_option maxHeartbeats 4000000 in
theorem tick_Counter_Of_p0c4_iiiiiii_ok {K : Hp} {qa0 : Int} {qa1 : Int} {qa2 : Int} {qa3 : Int} {qa4 : Int} {qa5 : Int} {qa6 : Int} {pba : Nat}  {r : Int} (h : fn_tick_Counter_Of_p0c4_iiiiiii qa0 qa1 qa2 qa3 qa4 qa5 qa6 = some r) :
    Tr Tryz.prog 11 #[.pointer (some ⟨pba, 0, none⟩), ii 4] K [Cl pba 35 [ii qa0, ii qa1, ii qa2, ii qa3, ii qa4, ii qa5, ii qa6]] (fun v K' L' => (∃ (i9 : Int), i9 = r ∧ ii i9 = v ∧ L' = [Cl pba 35 [ii qa0, ii qa1, ii qa2, ii qa3, ii qa4, ii qa5, ii qa6]]) ∧ K = K') := by
 refine Tr.k <| Tr.of Tryz.func11 rfl Tryz.ntmps11 rfl fun E F => ?_
 unfold fn_tick_Counter_Of_p0c4_iiiiiii at h
 refine cr <| ja (ii 0) rfl <| J.nil <| CJ.seq <| CJ.seq <| CJ.region ?_
 refine jm _ rfl <| jv (.bool false) (Val.eq (V.pn_eql Tryz.underlying38 rfl rfl) rfl) <| jm (.bool false) rfl <| J.run rfl rfl rfl rfl <| jm (ii 4) rfl <| J.run rfl rfl rfl rfl ?_
 obtain ⟨r10, hr11, h⟩ := ob h
 refine J.op rfl (A.call (L1 := []) Tryz.call25 rfl (tick_isPart_ok hr11) rfl rfl) ?_
 rintro _ _ _ ⟨v13, _, rfl, ⟨⟨t12, rfl, rfl, rfl⟩, rfl⟩, _, rfl⟩
 refine J.run rfl rfl rfl rfl <| jv (.bool (!t12)) (V.not rfl) <| jv (.bool (!t12)) (V.pickF rfl rfl rfl) <| J.nil <| cc rfl h (fun hc16 h => ?_) fun hc16 h => ?_
 · refine cr <| ja (ii 0) rfl <| J.nil <| CJ.ret ?_
   obtain rfl := si h
   exact ⟨_, _, Res.one rfl rfl, ⟨0, rfl, rfl, rfl⟩, (Hp.le_refl _), fun w hs => hs⟩
 refine CJ.skip <| cr <| jm _ rfl <| jm (ii 4) rfl <| jv _ (V.nck rfl) <| jv _ (V.fad Tryz.underlying35 rfl nz33 rfl) ?_
 refine jv _ (V.iadA Tryz.underlying33 sz3 rfl rfl (by decide) (by decide)) <| jv (ii qa4) (V.ld rfl (Ld.sc sc3 (Rd.cl 0 rfl rfl))) <| ja (ii qa4) rfl <| J.nil <| CJ.ret ?_
 obtain rfl := si h
 exact ⟨_, _, Res.one rfl rfl, ⟨qa4, rfl, rfl, rfl⟩, (Hp.le_refl _), fun w hs => hs⟩

noncomputable def fn_tick_Counter_Of_p0c5_iiiiiii (qa0 : Int) (qa1 : Int) (qa2 : Int) (qa3 : Int) (qa4 : Int) (qa5 : Int) (qa6 : Int) : Option Int :=
  (fn_tick_isPart 5).bind fun t12 => cond (!t12) (some (0)) (some (qa5))
set_option maxRecDepth 100000 in
set_option maxHeartbeats 4000000 in
theorem tick_Counter_Of_p0c5_iiiiiii_ok {K : Hp} {qa0 : Int} {qa1 : Int} {qa2 : Int} {qa3 : Int} {qa4 : Int} {qa5 : Int} {qa6 : Int} {pba : Nat}  {r : Int} (h : fn_tick_Counter_Of_p0c5_iiiiiii qa0 qa1 qa2 qa3 qa4 qa5 qa6 = some r) :
    Tr Tryz.prog 11 #[.pointer (some ⟨pba, 0, none⟩), ii 5] K [Cl pba 35 [ii qa0, ii qa1, ii qa2, ii qa3, ii qa4, ii qa5, ii qa6]] (fun v K' L' => (∃ (i9 : Int), i9 = r ∧ ii i9 = v ∧ L' = [Cl pba 35 [ii qa0, ii qa1, ii qa2, ii qa3, ii qa4, ii qa5, ii qa6]]) ∧ K = K') := by
 refine Tr.k <| Tr.of Tryz.func11 rfl Tryz.ntmps11 rfl fun E F => ?_
 unfold fn_tick_Counter_Of_p0c5_iiiiiii at h
 refine cr <| ja (ii 0) rfl <| J.nil <| CJ.seq <| CJ.seq <| CJ.region ?_
 refine jm _ rfl <| jv (.bool false) (Val.eq (V.pn_eql Tryz.underlying38 rfl rfl) rfl) <| jm (.bool false) rfl <| J.run rfl rfl rfl rfl <| jm (ii 5) rfl <| J.run rfl rfl rfl rfl ?_
 obtain ⟨r10, hr11, h⟩ := ob h
 refine J.op rfl (A.call (L1 := []) Tryz.call25 rfl (tick_isPart_ok hr11) rfl rfl) ?_
 rintro _ _ _ ⟨v13, _, rfl, ⟨⟨t12, rfl, rfl, rfl⟩, rfl⟩, _, rfl⟩
 refine J.run rfl rfl rfl rfl <| jv (.bool (!t12)) (V.not rfl) <| jv (.bool (!t12)) (V.pickF rfl rfl rfl) <| J.nil <| cc rfl h (fun hc16 h => ?_) fun hc16 h => ?_
 · refine cr <| ja (ii 0) rfl <| J.nil <| CJ.ret ?_
   obtain rfl := si h
   exact ⟨_, _, Res.one rfl rfl, ⟨0, rfl, rfl, rfl⟩, (Hp.le_refl _), fun w hs => hs⟩
 refine CJ.skip <| cr <| jm _ rfl <| jm (ii 5) rfl <| jv _ (V.nck rfl) <| jv _ (V.fad Tryz.underlying35 rfl nz33 rfl) ?_
 refine jv _ (V.iadA Tryz.underlying33 sz3 rfl rfl (by decide) (by decide)) <| jv (ii qa5) (V.ld rfl (Ld.sc sc3 (Rd.cl 0 rfl rfl))) <| ja (ii qa5) rfl <| J.nil <| CJ.ret ?_
 obtain rfl := si h
 exact ⟨_, _, Res.one rfl rfl, ⟨qa5, rfl, rfl, rfl⟩, (Hp.le_refl _), fun w hs => hs⟩

noncomputable def fn_tick_Counter_Of_p0c6_iiiiiii (qa0 : Int) (qa1 : Int) (qa2 : Int) (qa3 : Int) (qa4 : Int) (qa5 : Int) (qa6 : Int) : Option Int :=
  (fn_tick_isPart 6).bind fun t12 => cond (!t12) (some (0)) (some (qa6))
set_option maxRecDepth 100000 in
set_option maxHeartbeats 4000000 in
theorem tick_Counter_Of_p0c6_iiiiiii_ok {K : Hp} {qa0 : Int} {qa1 : Int} {qa2 : Int} {qa3 : Int} {qa4 : Int} {qa5 : Int} {qa6 : Int} {pba : Nat}  {r : Int} (h : fn_tick_Counter_Of_p0c6_iiiiiii qa0 qa1 qa2 qa3 qa4 qa5 qa6 = some r) :
    Tr Tryz.prog 11 #[.pointer (some ⟨pba, 0, none⟩), ii 6] K [Cl pba 35 [ii qa0, ii qa1, ii qa2, ii qa3, ii qa4, ii qa5, ii qa6]] (fun v K' L' => (∃ (i9 : Int), i9 = r ∧ ii i9 = v ∧ L' = [Cl pba 35 [ii qa0, ii qa1, ii qa2, ii qa3, ii qa4, ii qa5, ii qa6]]) ∧ K = K') := by
 refine Tr.k <| Tr.of Tryz.func11 rfl Tryz.ntmps11 rfl fun E F => ?_
 unfold fn_tick_Counter_Of_p0c6_iiiiiii at h
 refine cr <| ja (ii 0) rfl <| J.nil <| CJ.seq <| CJ.seq <| CJ.region ?_
 refine jm _ rfl <| jv (.bool false) (Val.eq (V.pn_eql Tryz.underlying38 rfl rfl) rfl) <| jm (.bool false) rfl <| J.run rfl rfl rfl rfl <| jm (ii 6) rfl <| J.run rfl rfl rfl rfl ?_
 obtain ⟨r10, hr11, h⟩ := ob h
 refine J.op rfl (A.call (L1 := []) Tryz.call25 rfl (tick_isPart_ok hr11) rfl rfl) ?_
 rintro _ _ _ ⟨v13, _, rfl, ⟨⟨t12, rfl, rfl, rfl⟩, rfl⟩, _, rfl⟩
 refine J.run rfl rfl rfl rfl <| jv (.bool (!t12)) (V.not rfl) <| jv (.bool (!t12)) (V.pickF rfl rfl rfl) <| J.nil <| cc rfl h (fun hc16 h => ?_) fun hc16 h => ?_
 · refine cr <| ja (ii 0) rfl <| J.nil <| CJ.ret ?_
   obtain rfl := si h
   exact ⟨_, _, Res.one rfl rfl, ⟨0, rfl, rfl, rfl⟩, (Hp.le_refl _), fun w hs => hs⟩
 refine CJ.skip <| cr <| jm _ rfl <| jm (ii 6) rfl <| jv _ (V.nck rfl) <| jv _ (V.fad Tryz.underlying35 rfl nz33 rfl) ?_
 refine jv _ (V.iadA Tryz.underlying33 sz3 rfl rfl (by decide) (by decide)) <| jv (ii qa6) (V.ld rfl (Ld.sc sc3 (Rd.cl 0 rfl rfl))) <| ja (ii qa6) rfl <| J.nil <| CJ.ret ?_
 obtain rfl := si h
 exact ⟨_, _, Res.one rfl rfl, ⟨qa6, rfl, rfl, rfl⟩, (Hp.le_refl _), fun w hs => hs⟩

noncomputable def fn_tick_Counter_Total_p0_iiiiiii (qa0 : Int) (qa1 : Int) (qa2 : Int) (qa3 : Int) (qa4 : Int) (qa5 : Int) (qa6 : Int) : Option Int :=
  (fn_tick_Counter_Of_p0c0_iiiiiii qa0 qa1 qa2 qa3 qa4 qa5 qa6).bind fun i88 => (fn_tick_sum 0 i88).bind fun i94 => (fn_tick_Counter_Of_p0c1_iiiiiii qa0 qa1 qa2 qa3 qa4 qa5 qa6).bind fun i100 => (fn_tick_sum i94 i100).bind fun i106 => (fn_tick_Counter_Of_p0c2_iiiiiii qa0 qa1 qa2 qa3 qa4 qa5 qa6).bind fun i112 => (fn_tick_sum i106 i112).bind fun i118 => (fn_tick_Counter_Of_p0c3_iiiiiii qa0 qa1 qa2 qa3 qa4 qa5 qa6).bind fun i124 => (fn_tick_sum i118 i124).bind fun i130 => (fn_tick_Counter_Of_p0c4_iiiiiii qa0 qa1 qa2 qa3 qa4 qa5 qa6).bind fun i136 => (fn_tick_sum i130 i136).bind fun i142 => (fn_tick_Counter_Of_p0c5_iiiiiii qa0 qa1 qa2 qa3 qa4 qa5 qa6).bind fun i148 => (fn_tick_sum i142 i148).bind fun i154 => (fn_tick_Counter_Of_p0c6_iiiiiii qa0 qa1 qa2 qa3 qa4 qa5 qa6).bind fun i160 => (fn_tick_sum i154 i160).bind fun i166 => some (i166)
set_option maxRecDepth 100000 in
set_option maxHeartbeats 4000000 in
theorem tick_Counter_Total_p0_iiiiiii_ok {K : Hp} {qa0 : Int} {qa1 : Int} {qa2 : Int} {qa3 : Int} {qa4 : Int} {qa5 : Int} {qa6 : Int} {pba : Nat}  {r : Int} (h : fn_tick_Counter_Total_p0_iiiiiii qa0 qa1 qa2 qa3 qa4 qa5 qa6 = some r) :
    Tr Tryz.prog 12 #[.pointer (some ⟨pba, 0, none⟩)] K [Cl pba 35 [ii qa0, ii qa1, ii qa2, ii qa3, ii qa4, ii qa5, ii qa6]] (fun v K' L' => (∃ (i85 : Int), i85 = r ∧ ii i85 = v ∧ L' = [Cl pba 35 [ii qa0, ii qa1, ii qa2, ii qa3, ii qa4, ii qa5, ii qa6]]) ∧ K = K') := by
 refine Tr.k <| Tr.of Tryz.func12 rfl Tryz.ntmps12 rfl fun E F => ?_
 unfold fn_tick_Counter_Total_p0_iiiiiii at h
 refine cr <| ja (ii 0) rfl <| J.nil <| cr <| ja (ii 0) rfl ?_
 refine J.nil <| CJ.seq <| cr <| jm (ii 0) rfl <| J.nil <| CJ.block ?_
 refine CJ.unroll 64 <| RJ.next <| cr <| jv (.bool true) (Val.eq (V.lss rfl rfl) rfl) <| J.nil <| CJ.seq ?_
 refine CJ.condK (b := true) rfl rfl <| CJ.skip <| CJ.seq <| CJ.block <| cr <| jm (ii 0) rfl ?_
 refine ja (ii 0) rfl <| J.nil <| CJ.region <| jm (ii 0) rfl <| jm _ rfl <| jm (ii 0) rfl ?_
 obtain ⟨r86, hr87, h⟩ := ob h
 refine J.op rfl (A.call (L1 := [Cl pba 35 [ii qa0, ii qa1, ii qa2, ii qa3, ii qa4, ii qa5, ii qa6]]) Tryz.call11 rfl (tick_Counter_Of_p0c0_iiiiiii_ok hr87) rfl rfl) ?_
 rintro _ _ _ ⟨v89, _, rfl, ⟨⟨i88, rfl, rfl, rfl⟩, rfl⟩, _, rfl⟩
 obtain ⟨r92, hr93, h⟩ := ob h
 refine J.op rfl (A.call (L1 := []) Tryz.call26 rfl (tick_sum_ok hr93) rfl rfl) ?_
 rintro _ _ _ ⟨v95, _, rfl, ⟨⟨i94, rfl, rfl, rfl⟩, rfl⟩, _, rfl⟩
 refine ja (ii i94) rfl <| J.nil <| CJ.region <| jv (ii 1) (Val.eq (V.add rfl rfl) rfl) <| jm (ii 1) rfl <| J.nil <| RJ.next ?_
 refine cr <| jv (.bool true) (Val.eq (V.lss rfl rfl) rfl) <| J.nil <| CJ.seq <| CJ.condK (b := true) rfl rfl <| CJ.skip ?_
 refine CJ.seq <| CJ.block <| cr <| jm (ii 1) rfl <| ja (ii 1) rfl <| J.nil ?_
 refine CJ.region <| jm (ii i94) rfl <| jm _ rfl <| jm (ii 1) rfl ?_
 obtain ⟨r98, hr99, h⟩ := ob h
 refine J.op rfl (A.call (L1 := [Cl pba 35 [ii qa0, ii qa1, ii qa2, ii qa3, ii qa4, ii qa5, ii qa6]]) Tryz.call11 rfl (tick_Counter_Of_p0c1_iiiiiii_ok hr99) rfl rfl) ?_
 rintro _ _ _ ⟨v101, _, rfl, ⟨⟨i100, rfl, rfl, rfl⟩, rfl⟩, _, rfl⟩
 obtain ⟨r104, hr105, h⟩ := ob h
 refine J.op rfl (A.call (L1 := []) Tryz.call26 rfl (tick_sum_ok hr105) rfl rfl) ?_
 rintro _ _ _ ⟨v107, _, rfl, ⟨⟨i106, rfl, rfl, rfl⟩, rfl⟩, _, rfl⟩
 refine ja (ii i106) rfl <| J.nil <| CJ.region <| jv (ii 2) (Val.eq (V.add rfl rfl) rfl) <| jm (ii 2) rfl <| J.nil <| RJ.next ?_
 refine cr <| jv (.bool true) (Val.eq (V.lss rfl rfl) rfl) <| J.nil <| CJ.seq <| CJ.condK (b := true) rfl rfl <| CJ.skip ?_
 refine CJ.seq <| CJ.block <| cr <| jm (ii 2) rfl <| ja (ii 2) rfl <| J.nil ?_
 refine CJ.region <| jm (ii i106) rfl <| jm _ rfl <| jm (ii 2) rfl ?_
 obtain ⟨r110, hr111, h⟩ := ob h
 refine J.op rfl (A.call (L1 := [Cl pba 35 [ii qa0, ii qa1, ii qa2, ii qa3, ii qa4, ii qa5, ii qa6]]) Tryz.call11 rfl (tick_Counter_Of_p0c2_iiiiiii_ok hr111) rfl rfl) ?_
 rintro _ _ _ ⟨v113, _, rfl, ⟨⟨i112, rfl, rfl, rfl⟩, rfl⟩, _, rfl⟩
 obtain ⟨r116, hr117, h⟩ := ob h
 refine J.op rfl (A.call (L1 := []) Tryz.call26 rfl (tick_sum_ok hr117) rfl rfl) ?_
 rintro _ _ _ ⟨v119, _, rfl, ⟨⟨i118, rfl, rfl, rfl⟩, rfl⟩, _, rfl⟩
 refine ja (ii i118) rfl <| J.nil <| CJ.region <| jv (ii 3) (Val.eq (V.add rfl rfl) rfl) <| jm (ii 3) rfl <| J.nil <| RJ.next ?_
 refine cr <| jv (.bool true) (Val.eq (V.lss rfl rfl) rfl) <| J.nil <| CJ.seq <| CJ.condK (b := true) rfl rfl <| CJ.skip ?_
 refine CJ.seq <| CJ.block <| cr <| jm (ii 3) rfl <| ja (ii 3) rfl <| J.nil ?_
 refine CJ.region <| jm (ii i118) rfl <| jm _ rfl <| jm (ii 3) rfl ?_
 obtain ⟨r122, hr123, h⟩ := ob h
 refine J.op rfl (A.call (L1 := [Cl pba 35 [ii qa0, ii qa1, ii qa2, ii qa3, ii qa4, ii qa5, ii qa6]]) Tryz.call11 rfl (tick_Counter_Of_p0c3_iiiiiii_ok hr123) rfl rfl) ?_
 rintro _ _ _ ⟨v125, _, rfl, ⟨⟨i124, rfl, rfl, rfl⟩, rfl⟩, _, rfl⟩
 obtain ⟨r128, hr129, h⟩ := ob h
 refine J.op rfl (A.call (L1 := []) Tryz.call26 rfl (tick_sum_ok hr129) rfl rfl) ?_
 rintro _ _ _ ⟨v131, _, rfl, ⟨⟨i130, rfl, rfl, rfl⟩, rfl⟩, _, rfl⟩
 refine ja (ii i130) rfl <| J.nil <| CJ.region <| jv (ii 4) (Val.eq (V.add rfl rfl) rfl) <| jm (ii 4) rfl <| J.nil <| RJ.next ?_
 refine cr <| jv (.bool true) (Val.eq (V.lss rfl rfl) rfl) <| J.nil <| CJ.seq <| CJ.condK (b := true) rfl rfl <| CJ.skip ?_
 refine CJ.seq <| CJ.block <| cr <| jm (ii 4) rfl <| ja (ii 4) rfl <| J.nil ?_
 refine CJ.region <| jm (ii i130) rfl <| jm _ rfl <| jm (ii 4) rfl ?_
 obtain ⟨r134, hr135, h⟩ := ob h
 refine J.op rfl (A.call (L1 := [Cl pba 35 [ii qa0, ii qa1, ii qa2, ii qa3, ii qa4, ii qa5, ii qa6]]) Tryz.call11 rfl (tick_Counter_Of_p0c4_iiiiiii_ok hr135) rfl rfl) ?_
 rintro _ _ _ ⟨v137, _, rfl, ⟨⟨i136, rfl, rfl, rfl⟩, rfl⟩, _, rfl⟩
 obtain ⟨r140, hr141, h⟩ := ob h
 refine J.op rfl (A.call (L1 := []) Tryz.call26 rfl (tick_sum_ok hr141) rfl rfl) ?_
 rintro _ _ _ ⟨v143, _, rfl, ⟨⟨i142, rfl, rfl, rfl⟩, rfl⟩, _, rfl⟩
 refine ja (ii i142) rfl <| J.nil <| CJ.region <| jv (ii 5) (Val.eq (V.add rfl rfl) rfl) <| jm (ii 5) rfl <| J.nil <| RJ.next ?_
 refine cr <| jv (.bool true) (Val.eq (V.lss rfl rfl) rfl) <| J.nil <| CJ.seq <| CJ.condK (b := true) rfl rfl <| CJ.skip ?_
 refine CJ.seq <| CJ.block <| cr <| jm (ii 5) rfl <| ja (ii 5) rfl <| J.nil ?_
 refine CJ.region <| jm (ii i142) rfl <| jm _ rfl <| jm (ii 5) rfl ?_
 obtain ⟨r146, hr147, h⟩ := ob h
 refine J.op rfl (A.call (L1 := [Cl pba 35 [ii qa0, ii qa1, ii qa2, ii qa3, ii qa4, ii qa5, ii qa6]]) Tryz.call11 rfl (tick_Counter_Of_p0c5_iiiiiii_ok hr147) rfl rfl) ?_
 rintro _ _ _ ⟨v149, _, rfl, ⟨⟨i148, rfl, rfl, rfl⟩, rfl⟩, _, rfl⟩
 obtain ⟨r152, hr153, h⟩ := ob h
 refine J.op rfl (A.call (L1 := []) Tryz.call26 rfl (tick_sum_ok hr153) rfl rfl) ?_
 rintro _ _ _ ⟨v155, _, rfl, ⟨⟨i154, rfl, rfl, rfl⟩, rfl⟩, _, rfl⟩
 refine ja (ii i154) rfl <| J.nil <| CJ.region <| jv (ii 6) (Val.eq (V.add rfl rfl) rfl) <| jm (ii 6) rfl <| J.nil <| RJ.next ?_
 refine cr <| jv (.bool true) (Val.eq (V.lss rfl rfl) rfl) <| J.nil <| CJ.seq <| CJ.condK (b := true) rfl rfl <| CJ.skip ?_
 refine CJ.seq <| CJ.block <| cr <| jm (ii 6) rfl <| ja (ii 6) rfl <| J.nil ?_
 refine CJ.region <| jm (ii i154) rfl <| jm _ rfl <| jm (ii 6) rfl ?_
 obtain ⟨r158, hr159, h⟩ := ob h
 refine J.op rfl (A.call (L1 := [Cl pba 35 [ii qa0, ii qa1, ii qa2, ii qa3, ii qa4, ii qa5, ii qa6]]) Tryz.call11 rfl (tick_Counter_Of_p0c6_iiiiiii_ok hr159) rfl rfl) ?_
 rintro _ _ _ ⟨v161, _, rfl, ⟨⟨i160, rfl, rfl, rfl⟩, rfl⟩, _, rfl⟩
 obtain ⟨r164, hr165, h⟩ := ob h
 refine J.op rfl (A.call (L1 := []) Tryz.call26 rfl (tick_sum_ok hr165) rfl rfl) ?_
 rintro _ _ _ ⟨v167, _, rfl, ⟨⟨i166, rfl, rfl, rfl⟩, rfl⟩, _, rfl⟩
 refine ja (ii i166) rfl <| J.nil <| CJ.region <| jv (ii 7) (Val.eq (V.add rfl rfl) rfl) <| jm (ii 7) rfl <| J.nil <| RJ.next ?_
 refine cr <| jv (.bool false) (Val.eq (V.lss rfl rfl) rfl) <| J.nil <| CJ.seq <| CJ.condK (b := false) rfl rfl <| CJ.exit ?_
 refine cr <| jm (ii i166) rfl <| ja (ii i166) rfl <| J.nil <| CJ.ret ?_
 obtain rfl := si h
 exact ⟨_, _, Res.one rfl rfl, ⟨i166, rfl, rfl, rfl⟩, (Hp.le_refl _), fun w hs => hs⟩

noncomputable def fnr_ref01_Text : Nat → Int → Option (List UInt8)
  | 0, _ => none
  | fuel + 1, xa => cond (decide (xa < 0)) (some (([] : List UInt8))) (cond (decide (xa < 10)) ((subL ([48, 49, 50, 51, 52, 53, 54, 55, 56, 57] : List UInt8) xa (IntKind.wrap .i64 (xa + 1))).bind fun y37 => some (y37)) ((subL ([48, 49, 50, 51, 52, 53, 54, 55, 56, 57] : List UInt8) (Int.tmod xa 10) (IntKind.wrap .i64 ((Int.tmod xa 10) + 1))).bind fun y49 => (fnr_ref01_Text fuel (IntKind.wrap .i64 (Int.tdiv xa 10))).bind fun s53 => (app s53 y49).bind fun z57 => some (z57)))
noncomputable def fn_ref01_Text (xa : Int) : Option (List UInt8) := lev (fun n => fnr_ref01_Text n xa)
set_option maxRecDepth 100000 in
set_option maxHeartbeats 4000000 in
theorem ref01_Text_okr : ∀ (fuel : Nat) {K : Hp} {xa : Int}   {r : List UInt8} (h : fnr_ref01_Text fuel xa = some r),
    Tr Tryz.prog 39 #[ii xa] K [] (fun v K' L' => (∃ (s34 : List UInt8), s34 = r ∧ .string ⟨s34.toArray⟩ = v ∧ L' = []) ∧ K = K') := by
  intro fuel
  induction fuel with
  | zero => intro K xa r h; rw [fnr_ref01_Text] at h; cases h
  | succ fuel ih =>
    intro K xa r h
    refine Tr.k <| Tr.of Tryz.func39 rfl Tryz.ntmps39 rfl fun E F => ?_
    rw [fnr_ref01_Text] at h
    refine cr <| ja (.string ⟨([] : List UInt8).toArray⟩) rfl <| J.nil <| CJ.seq <| CJ.seq <| CJ.region ?_
    refine jm (ii xa) rfl <| jv (.bool (decide (xa < 0))) (V.lss rfl rfl) <| J.nil <| cc rfl h (fun hc35 h => ?_) fun hc35 h => ?_
    · refine cr <| ja (.string ⟨([] : List UInt8).toArray⟩) rfl <| J.nil <| CJ.ret ?_
      obtain rfl := si h
      exact ⟨_, _, Res.one rfl rfl, ⟨([] : List UInt8), rfl, rfl, rfl⟩, (Hp.le_refl _), fun w hs => hs⟩
    refine CJ.skip <| CJ.seq <| cr <| jm (ii xa) rfl <| jv (.bool (decide (xa < 10))) (V.lss rfl rfl) <| J.nil ?_
    refine cc rfl h (fun hc36 h => ?_) fun hc36 h => ?_
    · refine cr <| jm (ii xa) rfl <| jm (ii xa) rfl <| jv (ii (IntKind.wrap .i64 (xa + 1))) (V.add rfl rfl) ?_
      obtain ⟨y37, hy38, h⟩ := ob h
      refine jv (.string ⟨y37.toArray⟩) (V.subs Tryz.underlying9 rfl (fun _ h => by cases h; exact ⟨_, rfl⟩) nofun (fun _ h => by cases h; exact ⟨_, rfl⟩) nofun hy38) <| ja (.string ⟨y37.toArray⟩) rfl <| J.nil <| CJ.ret ?_
      obtain rfl := si h
      exact ⟨_, _, Res.one rfl rfl, ⟨y37, rfl, rfl, rfl⟩, (Hp.le_refl _), fun w hs => hs⟩
    refine CJ.skip <| CJ.seq <| CJ.mix [] [([0, 1, 3, 4, 5, 6, 7, 8], 2)] [9, 10] [] mixO (by decide +kernel) trivial rfl rfl rfl <| JM.cons <| qm (ii xa) rfl <| qv (ii (IntKind.wrap .i64 (Int.tdiv xa 10))) (V.quo rfl rfl (by decide)) <| qm (ii xa) rfl ?_
    refine qv (ii (Int.tmod xa 10)) (V.rem rfl rfl (by decide)) <| qm (ii xa) rfl <| qv (ii (Int.tmod xa 10)) (V.rem rfl rfl (by decide)) <| qv (ii (IntKind.wrap .i64 ((Int.tmod xa 10) + 1))) (V.add rfl rfl) ?_
    obtain ⟨y49, hy50, h⟩ := ob h
    refine qv (.string ⟨y49.toArray⟩) (V.subs Tryz.underlying9 rfl (fun _ h => by cases h; exact ⟨_, rfl⟩) nofun (fun _ h => by cases h; exact ⟨_, rfl⟩) nofun hy50) <| JQ.nil ?_
    obtain ⟨r51, hr52, h⟩ := ob h
    refine JA.op rfl (A.call (L1 := []) Tryz.call39 rfl (ih hr52) rfl rfl) ?_
    rintro _ _ _ ⟨v54, _, rfl, ⟨⟨s53, rfl, rfl, rfl⟩, rfl⟩, _, rfl⟩
    refine ⟨fun w hs => Hold.sub (Hp.le_refl _) trivial hs, ?_⟩
    refine JM.nil ?_
    obtain ⟨z57, hz58, h⟩ := ob h
    refine qv (.string ⟨z57.toArray⟩) (V.cat rfl rfl hz58) <| qa (.string ⟨z57.toArray⟩) rfl <| JQ.nil <| J.nil <| CJ.ret ?_
    obtain rfl := si h
    exact ⟨_, _, Res.one rfl rfl, ⟨z57, rfl, rfl, rfl⟩, (Hp.le_refl _), fun w hs => hs⟩
set_option maxRecDepth 100000 in
set_option maxHeartbeats 4000000 in
theorem ref01_Text_ok {K : Hp} {xa : Int}   {r : List UInt8} (h : fn_ref01_Text xa = some r) :
    Tr Tryz.prog 39 #[ii xa] K [] (fun v K' L' => (∃ (s34 : List UInt8), s34 = r ∧ .string ⟨s34.toArray⟩ = v ∧ L' = []) ∧ K = K') := by
  obtain ⟨n, hn⟩ := lev_some h
  exact ref01_Text_okr n  hn

noncomputable def fn_ref01_Pair (xa : (Int × Int)) : Option (List UInt8) :=
  cond ((decide (xa.1 < 0)) || (decide (xa.2 < 0))) (some (([] : List UInt8))) ((fn_ref01_Text xa.1).bind fun s62 => (app s62 ([58] : List UInt8)).bind fun z66 => (fn_ref01_Text xa.2).bind fun s70 => (app z66 s70).bind fun z74 => some (z74))
set_option maxRecDepth 100000 in
set_option maxHeartbeats 4000000 in
theorem ref01_Pair_ok {K : Hp} {xa : (Int × Int)}   {r : List UInt8} (h : fn_ref01_Pair xa = some r) :
    Tr Tryz.prog 28 #[.agg #[ii xa.1, ii xa.2]] K [] (fun v K' L' => (∃ (s38 : List UInt8), s38 = r ∧ .string ⟨s38.toArray⟩ = v ∧ L' = []) ∧ K = K') := by
 refine Tr.k <| Tr.of Tryz.func28 rfl Tryz.ntmps28 rfl fun E F => ?_
 unfold fn_ref01_Pair at h
 refine cr <| jbx [ii xa.1, ii xa.2] rfl rfl fun b39 => ja (.string ⟨([] : List UInt8).toArray⟩) rfl <| J.nil <| CJ.seq <| CJ.seq ?_
 refine CJ.region <| jv _ (V.fad Tryz.underlying83 rfl nz3 rfl) <| jv (ii xa.1) (V.ld rfl (Ld.sc sc3 (Rd.cl 0 rfl rfl))) <| jv (.bool (decide (xa.1 < 0))) (V.lss rfl rfl) <| jm (.bool (decide (xa.1 < 0))) rfl <| J.cut 4 <| jmeet [(10, .bool ((decide (xa.1 < 0)) || (decide (xa.2 < 0)))), (1, .pointer (some ⟨b39, 0, none⟩))] ?_ ?_
 · rcases bt (decide (xa.1 < 0)) with hc42 | hc42
   · refine J.skip rfl rfl rfl rfl hc42 <| J.skip rfl rfl rfl rfl hc42 <| J.skip rfl rfl rfl rfl hc42 <| jv (.bool true) (V.pickT rfl hc42 rfl) <| J.nil ?_
     exact ⟨rfl, ⟨(by simp only [hc42]; rfl), rfl, trivial⟩, rfl, rfl⟩
   refine J.run rfl rfl rfl hc42 <| jv _ (V.fad Tryz.underlying83 rfl nz3 rfl) <| J.run rfl rfl rfl hc42 <| jv (ii xa.2) (V.ld rfl (Ld.sc sc3 (Rd.cl 0 rfl rfl))) <| J.run rfl rfl rfl hc42 <| jv (.bool (decide (xa.2 < 0))) (V.lss rfl rfl) <| jv (.bool (decide (xa.2 < 0))) (V.pickF rfl hc42 rfl) ?_
   refine J.nil ?_
   exact ⟨rfl, ⟨(by simp only [hc42]; rfl), rfl, trivial⟩, rfl, rfl⟩
 intro ρ
 refine J.nil <| cc rfl h (fun hc43 h => ?_) fun hc43 h => ?_
 · refine cr <| ja (.string ⟨([] : List UInt8).toArray⟩) rfl <| J.nil <| CJ.ret ?_
   obtain rfl := si h
   exact ⟨_, _, Res.one rfl rfl, ⟨([] : List UInt8), rfl, rfl, rfl⟩, (Hp.le_refl _), fun w hs => (Sep.dropAt 0 rfl hs)⟩
 refine CJ.skip <| CJ.seq <| CJ.mix [Cl b39 83 [ii xa.1, ii xa.2]] [([0, 1, 4, 5], 2), ([3], 6)] [7, 8] [] mixO (by decide +kernel) ⟨0, rfl, trivial⟩ rfl rfl rfl <| JM.cons <| qv _ (V.fad Tryz.underlying83 rfl nz3 rfl) <| qv (ii xa.1) (V.ld rfl (Ld.sc sc3 (Rd.cl 0 rfl rfl))) <| qv _ (V.fad Tryz.underlying83 rfl nz3 rfl) ?_
 refine qv (ii xa.2) (V.ld rfl (Ld.sc sc3 (Rd.cl 0 rfl rfl))) <| JQ.nil ?_
 obtain ⟨r60, hr61, h⟩ := ob h
 refine JA.op rfl (A.call (L1 := []) Tryz.call39 rfl (ref01_Text_ok hr61) rfl rfl) ?_
 rintro _ _ _ ⟨v63, _, rfl, ⟨⟨s62, rfl, rfl, rfl⟩, rfl⟩, _, rfl⟩
 refine ⟨fun w hs => Hold.sub (Hp.le_refl _) ⟨0, rfl, trivial⟩ hs, ?_⟩
 refine JM.cons ?_
 obtain ⟨z66, hz67, h⟩ := ob h
 refine qv (.string ⟨z66.toArray⟩) (V.cat rfl rfl hz67) <| JQ.nil ?_
 obtain ⟨r68, hr69, h⟩ := ob h
 refine JA.op rfl (A.call (L1 := []) Tryz.call39 rfl (ref01_Text_ok hr69) rfl rfl) ?_
 rintro _ _ _ ⟨v71, _, rfl, ⟨⟨s70, rfl, rfl, rfl⟩, rfl⟩, _, rfl⟩
 refine ⟨fun w hs => Hold.sub (Hp.le_refl _) ⟨0, rfl, trivial⟩ hs, ?_⟩
 refine JM.nil ?_
 obtain ⟨z74, hz75, h⟩ := ob h
 refine qv (.string ⟨z74.toArray⟩) (V.cat rfl rfl hz75) <| qa (.string ⟨z74.toArray⟩) rfl <| JQ.nil <| J.nil <| CJ.ret ?_
 obtain rfl := si h
 exact ⟨_, _, Res.one rfl rfl, ⟨z74, rfl, rfl, rfl⟩, (Hp.le_refl _), fun w hs => (Sep.dropAt 0 rfl hs)⟩

noncomputable def fn_ref26_Name (xa : Int) : Option (List UInt8) :=
  cond ((decide (xa < 1)) || (decide (7 < xa))) (some (([63] : List UInt8))) ((getI (([([102, 108, 111, 119] : List UInt8), ([108, 111, 97, 110] : List UInt8), ([98, 97, 115, 101] : List UInt8), ([110, 101, 101, 100] : List UInt8), ([112, 97, 115, 115] : List UInt8), ([103, 105, 118, 101] : List UInt8), ([111, 117, 116] : List UInt8)] : List (List UInt8))) (IntKind.wrap .i64 (xa - 1))).bind fun x23 => some (x23))
set_option maxRecDepth 100000 in
set_option maxHeartbeats 4000000 in
theorem ref26_Name_ok {K : Hp} {xa : Int}   {r : List UInt8} (h : fn_ref26_Name xa = some r) :
    Tr Tryz.prog 41 #[ii xa] K [] (fun v K' L' => (∃ (s15 : List UInt8), s15 = r ∧ .string ⟨s15.toArray⟩ = v ∧ L' = []) ∧ K = K') := by
 refine Tr.k <| Tr.of Tryz.func41 rfl Tryz.ntmps41 rfl fun E F => ?_
 unfold fn_ref26_Name at h
 refine cr <| ja (.string ⟨([] : List UInt8).toArray⟩) rfl <| J.nil <| CJ.seq <| CJ.seq <| CJ.region ?_
 refine jm (ii xa) rfl <| jv (.bool (decide (xa < 1))) (V.lss rfl rfl) <| jm (.bool (decide (xa < 1))) rfl <| J.cut 3 <| jmeet [(8, .bool ((decide (xa < 1)) || (decide (7 < xa)))), (0, ii xa)] ?_ ?_
 · rcases bt (decide (xa < 1)) with hc18 | hc18
   · refine J.skip rfl rfl rfl rfl hc18 <| J.skip rfl rfl rfl rfl hc18 <| jv (.bool true) (V.pickT rfl hc18 rfl) <| J.nil ?_
     exact ⟨rfl, ⟨(by simp only [hc18]; rfl), rfl, trivial⟩, rfl, rfl⟩
   refine J.run rfl rfl rfl hc18 <| jm (ii xa) rfl <| J.run rfl rfl rfl hc18 <| jv (.bool (decide (7 < xa))) (V.gtr rfl rfl) <| jv (.bool (decide (7 < xa))) (V.pickF rfl hc18 rfl) <| J.nil ?_
   exact ⟨rfl, ⟨(by simp only [hc18]; rfl), rfl, trivial⟩, rfl, rfl⟩
 intro ρ
 refine J.nil <| cc rfl h (fun hc19 h => ?_) fun hc19 h => ?_
 · refine cr <| ja (.string ⟨([63] : List UInt8).toArray⟩) rfl <| J.nil <| CJ.ret ?_
   obtain rfl := si h
   exact ⟨_, _, Res.one rfl rfl, ⟨([63] : List UInt8), rfl, rfl, rfl⟩, (Hp.le_refl _), fun w hs => hs⟩
 refine CJ.skip <| CJ.seq <| CJ.region ?_
 refine J.op rfl (A.lit (K0 := Hp.nil) (ty := .str) (xs := ([([102, 108, 111, 119] : List UInt8), ([108, 111, 97, 110] : List UInt8), ([98, 97, 115, 101] : List UInt8), ([110, 101, 101, 100] : List UInt8), ([112, 97, 115, 115] : List UInt8), ([103, 105, 118, 101] : List UInt8), ([111, 117, 116] : List UInt8)] : List (List UInt8))) Tryz.underlying45 inf9 rfl (by decide) rfl rfl rfl ⟨_, _, rfl, rfl, ⟨_, _, rfl, rfl, ⟨_, _, rfl, rfl, ⟨_, _, rfl, rfl, ⟨_, _, rfl, rfl, ⟨_, _, rfl, rfl, ⟨_, _, rfl, rfl, rfl⟩⟩⟩⟩⟩⟩⟩ rfl (by decide)) ?_
 rintro _ _ _ ⟨b20, rfl, rfl, rfl⟩
 have hn21 : ([([102, 108, 111, 119] : List UInt8), ([108, 111, 97, 110] : List UInt8), ([98, 97, 115, 101] : List UInt8), ([110, 101, 101, 100] : List UInt8), ([112, 97, 115, 115] : List UInt8), ([103, 105, 118, 101] : List UInt8), ([111, 117, 116] : List UInt8)] : List (List UInt8)) ≠ [] → ∃ g, (some ⟨b20, 0, none⟩ : Option Addr) = some ⟨g, 0, none⟩ := fun _ => ⟨b20, rfl⟩
 refine jm (ii xa) rfl <| jv (ii (IntKind.wrap .i64 (xa - 1))) (V.sub rfl rfl) ?_
 obtain ⟨x23, hx24, h⟩ := ob h
 obtain ⟨p25, p26, p27⟩ := getI_some hx24
 obtain ⟨g28, e29⟩ := hn21 (fun e => by rw [e] at p26; simp at p26)
 refine jv _ (V.iad Tryz.underlying45 sz9 rfl e29 rfl p25 p27) <| jv (.string ⟨x23.toArray⟩) (V.ld rfl (Ld.sc sc9 (Rd.row 0 rfl e29 p26 (q := 0) (by simp [Tp.size]) (by decide) (by rintro _ rfl; rfl)))) <| ja (.string ⟨x23.toArray⟩) rfl <| J.nil <| CJ.ret ?_
 obtain rfl := si h
 exact ⟨_, _, Res.one rfl rfl, ⟨x23, rfl, rfl, rfl⟩, (Hp.le_refl _), fun w hs => (Sep.dropAt 0 rfl hs)⟩

noncomputable def fn_ref26_Right (xa : (Int × Int × Int × Int × Bool)) : Option Bool :=
  (cond (((decide (0 ≤ xa.1)) && (decide (0 ≤ xa.2.1))) && (decide (0 ≤ xa.2.2.2.1))) ((fn_ref26_Name xa.2.2.1).bind fun s44 => some (!decide (s44 = ([63] : List UInt8)))) (some (false))).bind fun t39 => some (t39)
set_option maxRecDepth 100000 in
set_option maxHeartbeats 4000000 in
theorem ref26_Right_ok {K : Hp} {xa : (Int × Int × Int × Int × Bool)}   {r : Bool} (h : fn_ref26_Right xa = some r) :
    Tr Tryz.prog 40 #[.agg #[ii xa.1, ii xa.2.1, ii xa.2.2.1, ii xa.2.2.2.1, .bool xa.2.2.2.2]] K [] (fun v K' L' => (∃ (t24 : Bool), t24 = r ∧ .bool t24 = v ∧ L' = []) ∧ K = K') := by
 refine Tr.k <| Tr.of Tryz.func40 rfl Tryz.ntmps40 rfl fun E F => ?_
 unfold fn_ref26_Right at h
 refine cr <| jbx [ii xa.1, ii xa.2.1, ii xa.2.2.1, ii xa.2.2.2.1, .bool xa.2.2.2.2] rfl rfl fun b25 => ja (.bool false) rfl <| J.nil <| CJ.seq <| CJ.region ?_
 refine jv _ (V.fad Tryz.underlying49 rfl nz3 rfl) <| jv (ii xa.1) (V.ld rfl (Ld.sc sc3 (Rd.cl 0 rfl rfl))) <| jv (.bool (decide (0 ≤ xa.1))) (V.geq rfl rfl) <| jm (.bool (decide (0 ≤ xa.1))) rfl <| J.cut 4 <| jmeet [(10, .bool ((decide (0 ≤ xa.1)) && (decide (0 ≤ xa.2.1)))), (1, .pointer (some ⟨b25, 0, none⟩))] ?_ ?_
 · rcases bt (decide (0 ≤ xa.1)) with hc28 | hc28
   · refine J.run rfl rfl rfl hc28 <| jv _ (V.fad Tryz.underlying49 rfl nz3 rfl) <| J.run rfl rfl rfl hc28 <| jv (ii xa.2.1) (V.ld rfl (Ld.sc sc3 (Rd.cl 0 rfl rfl))) <| J.run rfl rfl rfl hc28 <| jv (.bool (decide (0 ≤ xa.2.1))) (V.geq rfl rfl) <| jv (.bool (decide (0 ≤ xa.2.1))) (V.pickT rfl hc28 rfl) ?_
     refine J.nil ?_
     exact ⟨rfl, ⟨(by simp only [hc28]; rfl), rfl, trivial⟩, rfl, rfl⟩
   refine J.skip rfl rfl rfl rfl hc28 <| J.skip rfl rfl rfl rfl hc28 <| J.skip rfl rfl rfl rfl hc28 <| jv (.bool false) (V.pickF rfl hc28 rfl) <| J.nil ?_
   exact ⟨rfl, ⟨(by simp only [hc28]; rfl), rfl, trivial⟩, rfl, rfl⟩
 intro ρ
 refine jm (.bool ((decide (0 ≤ xa.1)) && (decide (0 ≤ xa.2.1)))) rfl <| J.cut 4 <| jmeet [(15, .bool (((decide (0 ≤ xa.1)) && (decide (0 ≤ xa.2.1))) && (decide (0 ≤ xa.2.2.2.1)))), (1, .pointer (some ⟨b25, 0, none⟩))] ?_ ?_
 · rcases bt ((decide (0 ≤ xa.1)) && (decide (0 ≤ xa.2.1))) with hc31 | hc31
   · refine J.run rfl rfl rfl hc31 <| jv _ (V.fad Tryz.underlying49 rfl nz3 rfl) <| J.run rfl rfl rfl hc31 <| jv (ii xa.2.2.2.1) (V.ld rfl (Ld.sc sc3 (Rd.cl 0 rfl rfl))) <| J.run rfl rfl rfl hc31 <| jv (.bool (decide (0 ≤ xa.2.2.2.1))) (V.geq rfl rfl) <| jv (.bool (decide (0 ≤ xa.2.2.2.1))) (V.pickT rfl hc31 rfl) ?_
     refine J.nil ?_
     exact ⟨rfl, ⟨(by simp only [hc31]; rfl), rfl, trivial⟩, rfl, rfl⟩
   refine J.skip rfl rfl rfl rfl hc31 <| J.skip rfl rfl rfl rfl hc31 <| J.skip rfl rfl rfl rfl hc31 <| jv (.bool false) (V.pickF rfl hc31 rfl) <| J.nil ?_
   exact ⟨rfl, ⟨(by simp only [hc31]; rfl), rfl, trivial⟩, rfl, rfl⟩
 intro ρ
 refine jm (.bool (((decide (0 ≤ xa.1)) && (decide (0 ≤ xa.2.1))) && (decide (0 ≤ xa.2.2.2.1)))) rfl <| J.cut 5 ?_
 obtain ⟨t39, ht40, h⟩ := ob h
 refine jmeet [(21, .bool t39)] ?_ ?_
 · rcases bt (((decide (0 ≤ xa.1)) && (decide (0 ≤ xa.2.1))) && (decide (0 ≤ xa.2.2.2.1))) with hc41 | hc41
   · have ht40 := ct hc41 ht40
     refine J.run rfl rfl rfl hc41 <| jv _ (V.fad Tryz.underlying49 rfl nz3 rfl) <| J.run rfl rfl rfl hc41 <| jv (ii xa.2.2.1) (V.ld rfl (Ld.sc sc3 (Rd.cl 0 rfl rfl))) <| J.run rfl rfl rfl hc41 ?_
     obtain ⟨r42, hr43, ht40⟩ := ob ht40
     refine J.op rfl (A.call (L1 := []) Tryz.call41 rfl (ref26_Name_ok hr43) rfl rfl) ?_
     rintro _ _ _ ⟨v45, _, rfl, ⟨⟨s44, rfl, rfl, rfl⟩, rfl⟩, _, rfl⟩
     refine J.run rfl rfl rfl hc41 <| jv (.bool (!decide (s44 = ([63] : List UInt8)))) (V.nes rfl rfl) <| jv (.bool (!decide (s44 = ([63] : List UInt8)))) (V.pickT rfl hc41 rfl) <| J.nil ?_
     obtain rfl := si ht40
     exact ⟨rfl, ⟨rfl, trivial⟩, rfl, rfl⟩
   have ht40 := cf hc41 ht40
   refine J.skip rfl rfl rfl rfl hc41 <| J.skip rfl rfl rfl rfl hc41 <| J.skip rfl rfl rfl rfl hc41 <| J.skip rfl rfl rfl rfl hc41 <| jv (.bool false) (V.pickF rfl hc41 rfl) <| J.nil ?_
   obtain rfl := si ht40
   exact ⟨rfl, ⟨rfl, trivial⟩, rfl, rfl⟩
 intro ρ
 refine ja (.bool t39) rfl <| J.nil <| CJ.ret ?_
 obtain rfl := si h
 exact ⟨_, _, Res.one rfl rfl, ⟨t39, rfl, rfl, rfl⟩, (Hp.le_refl _), fun w hs => (Sep.dropAt 0 rfl hs)⟩

noncomputable def fn_ref26_Text (xa : (Int × Int × Int × Int × Bool)) : Option (List UInt8) :=
  (fn_ref26_Right (xa.1, xa.2.1, xa.2.2.1, xa.2.2.2.1, xa.2.2.2.2)).bind fun t88 => cond (!t88) (some (([63] : List UInt8))) ((fn_ref01_Text xa.1).bind fun s131 => (app s131 ([46] : List UInt8)).bind fun z135 => (fn_ref01_Text xa.2.1).bind fun s139 => (app z135 s139).bind fun z143 => (app z143 ([32] : List UInt8)).bind fun z145 => (fn_ref26_Name xa.2.2.1).bind fun s149 => (app z145 s149).bind fun z153 => (app z153 ([32] : List UInt8)).bind fun z155 => (fn_ref01_Text xa.2.2.2.1).bind fun s159 => (app z155 s159).bind fun z163 => cond (xa.2.2.2.2) ((app z163 ([32, 98, 97, 99, 107] : List UInt8)).bind fun z166 => some (z166)) (some (z163)))
set_option maxRecDepth 100000 in
set_option maxHeartbeats 4000000 in
theorem ref26_Text_ok {K : Hp} {xa : (Int × Int × Int × Int × Bool)}   {r : List UInt8} (h : fn_ref26_Text xa = some r) :
    Tr Tryz.prog 29 #[.agg #[ii xa.1, ii xa.2.1, ii xa.2.2.1, ii xa.2.2.2.1, .bool xa.2.2.2.2]] K [] (fun v K' L' => (∃ (s84 : List UInt8), s84 = r ∧ .string ⟨s84.toArray⟩ = v ∧ L' = []) ∧ K = K') := by
 refine Tr.k <| Tr.of Tryz.func29 rfl Tryz.ntmps29 rfl fun E F => ?_
 unfold fn_ref26_Text at h
 refine cr <| jbx [ii xa.1, ii xa.2.1, ii xa.2.2.1, ii xa.2.2.2.1, .bool xa.2.2.2.2] rfl rfl fun b85 => ja (.string ⟨([] : List UInt8).toArray⟩) rfl <| J.nil <| CJ.seq <| CJ.seq ?_
 refine CJ.region <| jv (.agg #[ii xa.1, ii xa.2.1, ii xa.2.2.1, ii xa.2.2.2.1, .bool xa.2.2.2.2]) (V.ld rfl (Ld.agg (cs := [ii xa.1, ii xa.2.1, ii xa.2.2.1, ii xa.2.2.2.1, .bool xa.2.2.2.2]) Tryz.underlying49 sz49 rfl (Rd.cls 0 0 rfl rfl))) ?_
 obtain ⟨r86, hr87, h⟩ := ob h
 refine J.op rfl (A.call (L1 := []) Tryz.call40 rfl (ref26_Right_ok hr87) rfl rfl) ?_
 rintro _ _ _ ⟨v89, _, rfl, ⟨⟨t88, rfl, rfl, rfl⟩, rfl⟩, _, rfl⟩
 refine jv (.bool (!t88)) (V.not rfl) <| J.nil <| cc rfl h (fun hc92 h => ?_) fun hc92 h => ?_
 · refine cr <| ja (.string ⟨([63] : List UInt8).toArray⟩) rfl <| J.nil <| CJ.ret ?_
   obtain rfl := si h
   exact ⟨_, _, Res.one rfl rfl, ⟨([63] : List UInt8), rfl, rfl, rfl⟩, (Hp.le_refl _), fun w hs => (Sep.dropAt 0 rfl hs)⟩
 refine CJ.skip <| CJ.seq <| CJ.mix [Cl b85 49 [ii xa.1, ii xa.2.1, ii xa.2.2.1, ii xa.2.2.2.1, .bool xa.2.2.2.2]] [([0, 1, 4, 5, 9, 10, 14, 15], 2), ([3], 6), ([7, 8], 11), ([12, 13], 16)] [17, 18] [] mixO (by decide +kernel) ⟨0, rfl, trivial⟩ rfl rfl rfl <| JM.cons <| qv _ (V.fad Tryz.underlying49 rfl nz3 rfl) <| qv (ii xa.1) (V.ld rfl (Ld.sc sc3 (Rd.cl 0 rfl rfl))) <| qv _ (V.fad Tryz.underlying49 rfl nz3 rfl) ?_
 refine qv (ii xa.2.1) (V.ld rfl (Ld.sc sc3 (Rd.cl 0 rfl rfl))) <| qv _ (V.fad Tryz.underlying49 rfl nz3 rfl) <| qv (ii xa.2.2.1) (V.ld rfl (Ld.sc sc3 (Rd.cl 0 rfl rfl))) <| qv _ (V.fad Tryz.underlying49 rfl nz3 rfl) <| qv (ii xa.2.2.2.1) (V.ld rfl (Ld.sc sc3 (Rd.cl 0 rfl rfl))) <| JQ.nil ?_
 obtain ⟨r129, hr130, h⟩ := ob h
 refine JA.op rfl (A.call (L1 := []) Tryz.call39 rfl (ref01_Text_ok hr130) rfl rfl) ?_
 rintro _ _ _ ⟨v132, _, rfl, ⟨⟨s131, rfl, rfl, rfl⟩, rfl⟩, _, rfl⟩
 refine ⟨fun w hs => Hold.sub (Hp.le_refl _) ⟨0, rfl, trivial⟩ hs, ?_⟩
 refine JM.cons ?_
 obtain ⟨z135, hz136, h⟩ := ob h
 refine qv (.string ⟨z135.toArray⟩) (V.cat rfl rfl hz136) <| JQ.nil ?_
 obtain ⟨r137, hr138, h⟩ := ob h
 refine JA.op rfl (A.call (L1 := []) Tryz.call39 rfl (ref01_Text_ok hr138) rfl rfl) ?_
 rintro _ _ _ ⟨v140, _, rfl, ⟨⟨s139, rfl, rfl, rfl⟩, rfl⟩, _, rfl⟩
 refine ⟨fun w hs => Hold.sub (Hp.le_refl _) ⟨0, rfl, trivial⟩ hs, ?_⟩
 refine JM.cons ?_
 obtain ⟨z143, hz144, h⟩ := ob h
 refine qv (.string ⟨z143.toArray⟩) (V.cat rfl rfl hz144) ?_
 obtain ⟨z145, hz146, h⟩ := ob h
 refine qv (.string ⟨z145.toArray⟩) (V.cat rfl rfl hz146) <| JQ.nil ?_
 obtain ⟨r147, hr148, h⟩ := ob h
 refine JA.op rfl (A.call (L1 := []) Tryz.call41 rfl (ref26_Name_ok hr148) rfl rfl) ?_
 rintro _ _ _ ⟨v150, _, rfl, ⟨⟨s149, rfl, rfl, rfl⟩, rfl⟩, _, rfl⟩
 refine ⟨fun w hs => Hold.sub (Hp.le_refl _) ⟨0, rfl, trivial⟩ hs, ?_⟩
 refine JM.cons ?_
 obtain ⟨z153, hz154, h⟩ := ob h
 refine qv (.string ⟨z153.toArray⟩) (V.cat rfl rfl hz154) ?_
 obtain ⟨z155, hz156, h⟩ := ob h
 refine qv (.string ⟨z155.toArray⟩) (V.cat rfl rfl hz156) <| JQ.nil ?_
 obtain ⟨r157, hr158, h⟩ := ob h
 refine JA.op rfl (A.call (L1 := []) Tryz.call39 rfl (ref01_Text_ok hr158) rfl rfl) ?_
 rintro _ _ _ ⟨v160, _, rfl, ⟨⟨s159, rfl, rfl, rfl⟩, rfl⟩, _, rfl⟩
 refine ⟨fun w hs => Hold.sub (Hp.le_refl _) ⟨0, rfl, trivial⟩ hs, ?_⟩
 refine JM.nil ?_
 obtain ⟨z163, hz164, h⟩ := ob h
 refine qv (.string ⟨z163.toArray⟩) (V.cat rfl rfl hz164) <| qa (.string ⟨z163.toArray⟩) rfl <| JQ.nil <| J.nil <| CJ.seq <| CJ.seq <| CJ.region ?_
 refine jv _ (V.fad Tryz.underlying49 rfl nz4 rfl) <| jv (.bool xa.2.2.2.2) (V.ld rfl (Ld.sc sc4 (Rd.cl 0 rfl rfl))) <| J.nil <| cc rfl h (fun hc165 h => ?_) fun hc165 h => ?_
 · refine cr <| jm (.string ⟨z163.toArray⟩) rfl ?_
   obtain ⟨z166, hz167, h⟩ := ob h
   refine jv (.string ⟨z166.toArray⟩) (V.cat rfl rfl hz167) <| ja (.string ⟨z166.toArray⟩) rfl <| J.nil <| CJ.ret ?_
   obtain rfl := si h
   exact ⟨_, _, Res.one rfl rfl, ⟨z166, rfl, rfl, rfl⟩, (Hp.le_refl _), fun w hs => (Sep.dropAt 0 rfl hs)⟩
 refine CJ.skip <| cr <| jm (.string ⟨z163.toArray⟩) rfl <| ja (.string ⟨z163.toArray⟩) rfl <| J.nil <| CJ.ret ?_
 obtain rfl := si h
 exact ⟨_, _, Res.one rfl rfl, ⟨z163, rfl, rfl, rfl⟩, (Hp.le_refl _), fun w hs => (Sep.dropAt 0 rfl hs)⟩

noncomputable def fn_ref26_Edge (xa : (Int × Int × (Int × Int × Int × Int × Bool))) : Option (List UInt8) :=
  (fn_ref01_Pair (xa.1, xa.2.1)).bind fun s54 => (app s54 ([32, 97, 116, 32] : List UInt8)).bind fun z58 => (fn_ref26_Text (xa.2.2.1, xa.2.2.2.1, xa.2.2.2.2.1, xa.2.2.2.2.2.1, xa.2.2.2.2.2.2)).bind fun s62 => (app z58 s62).bind fun z66 => some (z66)
set_option maxRecDepth 100000 in
set_option maxHeartbeats 4000000 in
theorem ref26_Edge_ok {K : Hp} {xa : (Int × Int × (Int × Int × Int × Int × Bool))}   {r : List UInt8} (h : fn_ref26_Edge xa = some r) :
    Tr Tryz.prog 14 #[.agg #[ii xa.1, ii xa.2.1, ii xa.2.2.1, ii xa.2.2.2.1, ii xa.2.2.2.2.1, ii xa.2.2.2.2.2.1, .bool xa.2.2.2.2.2.2]] K [] (fun v K' L' => (∃ (s34 : List UInt8), s34 = r ∧ .string ⟨s34.toArray⟩ = v ∧ L' = []) ∧ K = K') := by
 refine Tr.k <| Tr.of Tryz.func14 rfl Tryz.ntmps14 rfl fun E F => ?_
 unfold fn_ref26_Edge at h
 refine cr <| jbx [ii xa.1, ii xa.2.1, ii xa.2.2.1, ii xa.2.2.2.1, ii xa.2.2.2.2.1, ii xa.2.2.2.2.2.1, .bool xa.2.2.2.2.2.2] rfl rfl fun b35 => ja (.string ⟨([] : List UInt8).toArray⟩) rfl <| J.nil <| CJ.seq <| CJ.mix [Cl b35 51 [ii xa.1, ii xa.2.1, ii xa.2.2.1, ii xa.2.2.2.1, ii xa.2.2.2.2.1, ii xa.2.2.2.2.2.1, .bool xa.2.2.2.2.2.2]] [([0, 1, 2, 3, 4, 7, 8], 5), ([6], 9)] [10, 11] [] mixO (by decide +kernel) ⟨0, rfl, trivial⟩ rfl rfl rfl ?_
 refine JM.cons <| qv _ (V.fad Tryz.underlying51 rfl nz3 rfl) <| qv (ii xa.1) (V.ld rfl (Ld.sc sc3 (Rd.cl 0 rfl rfl))) <| qv _ (V.fad Tryz.underlying51 rfl nz3 rfl) <| qv (ii xa.2.1) (V.ld rfl (Ld.sc sc3 (Rd.cl 0 rfl rfl))) <| qv (.agg #[ii xa.1, ii xa.2.1]) (V.build inf83 places83 rfl rfl) <| qv _ (V.fad Tryz.underlying51 rfl nz49 rfl) ?_
 refine qv (.agg #[ii xa.2.2.1, ii xa.2.2.2.1, ii xa.2.2.2.2.1, ii xa.2.2.2.2.2.1, .bool xa.2.2.2.2.2.2]) (V.ld rfl (Ld.agg (cs := [ii xa.2.2.1, ii xa.2.2.2.1, ii xa.2.2.2.2.1, ii xa.2.2.2.2.2.1, .bool xa.2.2.2.2.2.2]) Tryz.underlying49 sz49 rfl (Rd.cls 0 2 rfl rfl))) <| JQ.nil ?_
 obtain ⟨r52, hr53, h⟩ := ob h
 refine JA.op rfl (A.call (L1 := []) Tryz.call28 rfl (ref01_Pair_ok hr53) rfl rfl) ?_
 rintro _ _ _ ⟨v55, _, rfl, ⟨⟨s54, rfl, rfl, rfl⟩, rfl⟩, _, rfl⟩
 refine ⟨fun w hs => Hold.sub (Hp.le_refl _) ⟨0, rfl, trivial⟩ hs, ?_⟩
 refine JM.cons ?_
 obtain ⟨z58, hz59, h⟩ := ob h
 refine qv (.string ⟨z58.toArray⟩) (V.cat rfl rfl hz59) <| JQ.nil ?_
 obtain ⟨r60, hr61, h⟩ := ob h
 refine JA.op rfl (A.call (L1 := []) Tryz.call29 rfl (ref26_Text_ok hr61) rfl rfl) ?_
 rintro _ _ _ ⟨v63, _, rfl, ⟨⟨s62, rfl, rfl, rfl⟩, rfl⟩, _, rfl⟩
 refine ⟨fun w hs => Hold.sub (Hp.le_refl _) ⟨0, rfl, trivial⟩ hs, ?_⟩
 refine JM.nil ?_
 obtain ⟨z66, hz67, h⟩ := ob h
 refine qv (.string ⟨z66.toArray⟩) (V.cat rfl rfl hz67) <| qa (.string ⟨z66.toArray⟩) rfl <| JQ.nil <| J.nil <| CJ.ret ?_
 obtain rfl := si h
 exact ⟨_, _, Res.one rfl rfl, ⟨z66, rfl, rfl, rfl⟩, (Hp.le_refl _), fun w hs => (Sep.dropAt 0 rfl hs)⟩

noncomputable def fn_cons_At (xa : (Int × Int × (List (Int × Int)) × (List (List (Int × Bool))) × (List (Int × Bool)) × (List (Int × (List (Int × Int)) × (List (List (Int × Bool))) × (List (Int × Bool)))) × (List ((List (Int × Int × Int × Int × Bool)) × (Int × Int × Int × (List Int) × (List Int) × (List Int)))))) (xb : Int) : Option ((List (Int × Int × (Int × Int × Int × Int × Bool)))) :=
  (fn_point_New (xa.1, xa.2.1, xa.2.2.1, xa.2.2.2.1, xa.2.2.2.2.1, xa.2.2.2.2.2.1, xa.2.2.2.2.2.2)).bind fun p67 => (fn_cons_maker_at (((xa.1, xa.2.1, xa.2.2.1, xa.2.2.2.1, xa.2.2.2.2.1, xa.2.2.2.2.2.1, xa.2.2.2.2.2.2), p67)) xb).bind fun l76 => some (l76)
set_option maxRecDepth 100000 in
set_option maxHeartbeats 4000000 in
theorem cons_At_ok {K : Hp} {xa : (Int × Int × (List (Int × Int)) × (List (List (Int × Bool))) × (List (Int × Bool)) × (List (Int × (List (Int × Int)) × (List (List (Int × Bool))) × (List (Int × Bool)))) × (List ((List (Int × Int × Int × Int × Bool)) × (Int × Int × Int × (List Int) × (List Int) × (List Int)))))} {xb : Int} {adxa_2 : Option Addr} {cpxa_2 : Nat} {adxa_3 : Option Addr} {cpxa_3 : Nat} {adxa_4 : Option Addr} {cpxa_4 : Nat} {adxa_5 : Option Addr} {cpxa_5 : Nat} {adxa_6 : Option Addr} {cpxa_6 : Nat} (fxa_2 : Is K (.sl (.cons (.int .i64) (.one (.int .i64)))) [.slice adxa_2 xa.2.2.1.length cpxa_2] xa.2.2.1) (fxa_3 : Is K (.sl (.one (.sl (.cons (.int .i64) (.one .bool))))) [.slice adxa_3 xa.2.2.2.1.length cpxa_3] xa.2.2.2.1) (fxa_4 : Is K (.sl (.cons (.int .i64) (.one .bool))) [.slice adxa_4 xa.2.2.2.2.1.length cpxa_4] xa.2.2.2.2.1) (fxa_5 : Is K (.sl (.cons (.int .i64) (.cons (.sl (.cons (.int .i64) (.one (.int .i64)))) (.cons (.sl (.one (.sl (.cons (.int .i64) (.one .bool))))) (.one (.one (.sl (.cons (.int .i64) (.one .bool))))))))) [.slice adxa_5 xa.2.2.2.2.2.1.length cpxa_5] xa.2.2.2.2.2.1) (fxa_6 : Is K (.sl (.cons (.sl (.cons (.int .i64) (.cons (.int .i64) (.cons (.int .i64) (.cons (.int .i64) (.one .bool)))))) (.one (.cons (.int .i64) (.cons (.int .i64) (.cons (.int .i64) (.cons (.sl (.int .i64)) (.cons (.sl (.int .i64)) (.one (.sl (.int .i64))))))))))) [.slice adxa_6 xa.2.2.2.2.2.2.length cpxa_6] xa.2.2.2.2.2.2) {r : (List (Int × Int × (Int × Int × Int × Int × Bool)))} (h : fn_cons_At xa xb = some r) :
    Tr Tryz.prog 15 #[.agg #[ii xa.1, ii xa.2.1, .slice adxa_2 xa.2.2.1.length cpxa_2, .slice adxa_3 xa.2.2.2.1.length cpxa_3, .slice adxa_4 xa.2.2.2.2.1.length cpxa_4, .slice adxa_5 xa.2.2.2.2.2.1.length cpxa_5, .slice adxa_6 xa.2.2.2.2.2.2.length cpxa_6], ii xb] K [] (fun v K' L' => (∃ (l40 : (List (Int × Int × (Int × Int × Int × Int × Bool)))) (ad41 : Option Addr) (cp42 : Nat), l40 = r ∧ .slice ad41 l40.length cp42 = v ∧ L' = [Row Hp.nil 51 (.cons (.int .i64) (.cons (.int .i64) (.one (.cons (.int .i64) (.cons (.int .i64) (.cons (.int .i64) (.cons (.int .i64) (.one .bool)))))))) (.slice ad41 l40.length cp42) l40]) ∧ K = K') := by
 refine Tr.k <| Tr.of Tryz.func15 rfl Tryz.ntmps15 rfl fun E F => ?_
 unfold fn_cons_At at h
 refine cr <| jbx [ii xa.1, ii xa.2.1, .slice adxa_2 xa.2.2.1.length cpxa_2, .slice adxa_3 xa.2.2.2.1.length cpxa_3, .slice adxa_4 xa.2.2.2.2.1.length cpxa_4, .slice adxa_5 xa.2.2.2.2.2.1.length cpxa_5, .slice adxa_6 xa.2.2.2.2.2.2.length cpxa_6] rfl rfl fun b45 => ja (nos) rfl <| J.nil <| CJ.seq <| CJ.mix [Cl b45 30 [ii xa.1, ii xa.2.1, .slice adxa_2 xa.2.2.1.length cpxa_2, .slice adxa_3 xa.2.2.2.1.length cpxa_3, .slice adxa_4 xa.2.2.2.2.1.length cpxa_4, .slice adxa_5 xa.2.2.2.2.2.1.length cpxa_5, .slice adxa_6 xa.2.2.2.2.2.2.length cpxa_6]] [([0, 1, 4], 2), ([3], 5)] [6] [] mixO (by decide +kernel) ⟨0, rfl, trivial⟩ rfl rfl rfl ?_
 refine JM.cons <| qv (.agg #[ii xa.1, ii xa.2.1, .slice adxa_2 xa.2.2.1.length cpxa_2, .slice adxa_3 xa.2.2.2.1.length cpxa_3, .slice adxa_4 xa.2.2.2.2.1.length cpxa_4, .slice adxa_5 xa.2.2.2.2.2.1.length cpxa_5, .slice adxa_6 xa.2.2.2.2.2.2.length cpxa_6]) (V.ld rfl (Ld.agg (cs := [ii xa.1, ii xa.2.1, .slice adxa_2 xa.2.2.1.length cpxa_2, .slice adxa_3 xa.2.2.2.1.length cpxa_3, .slice adxa_4 xa.2.2.2.2.1.length cpxa_4, .slice adxa_5 xa.2.2.2.2.2.1.length cpxa_5, .slice adxa_6 xa.2.2.2.2.2.2.length cpxa_6]) Tryz.underlying30 sz30 rfl (Rd.cls 0 0 rfl rfl))) <| qv (.agg #[ii xa.1, ii xa.2.1, .slice adxa_2 xa.2.2.1.length cpxa_2, .slice adxa_3 xa.2.2.2.1.length cpxa_3, .slice adxa_4 xa.2.2.2.2.1.length cpxa_4, .slice adxa_5 xa.2.2.2.2.2.1.length cpxa_5, .slice adxa_6 xa.2.2.2.2.2.2.length cpxa_6]) (V.ld rfl (Ld.agg (cs := [ii xa.1, ii xa.2.1, .slice adxa_2 xa.2.2.1.length cpxa_2, .slice adxa_3 xa.2.2.2.1.length cpxa_3, .slice adxa_4 xa.2.2.2.2.1.length cpxa_4, .slice adxa_5 xa.2.2.2.2.2.1.length cpxa_5, .slice adxa_6 xa.2.2.2.2.2.2.length cpxa_6]) Tryz.underlying30 sz30 rfl (Rd.cls 0 0 rfl rfl))) <| qm (ii xb) rfl <| JQ.nil ?_
 obtain ⟨r65, hr66, h⟩ := ob h
 refine JA.op rfl (A.call (L1 := []) Tryz.call21 rfl (point_New_ok fxa_2 fxa_3 fxa_4 fxa_5 fxa_6 hr66) rfl rfl) ?_
 rintro _ K71 _ ⟨v70, _, rfl, ⟨p67, v68, rfl, rfl, f69, rfl⟩, hK72, rfl⟩
 refine ⟨fun w hs => Hold.sub hK72 ⟨0, rfl, trivial⟩ hs, ?_⟩
 refine JM.cons ?_
 obtain ⟨q73, rfl⟩ := Is.ptrv f69
 refine qv (.agg #[ii xa.1, ii xa.2.1, .slice adxa_2 xa.2.2.1.length cpxa_2, .slice adxa_3 xa.2.2.2.1.length cpxa_3, .slice adxa_4 xa.2.2.2.2.1.length cpxa_4, .slice adxa_5 xa.2.2.2.2.2.1.length cpxa_5, .slice adxa_6 xa.2.2.2.2.2.2.length cpxa_6, .pointer q73]) (V.build inf76 places76 rfl rfl) <| JQ.nil ?_
 obtain ⟨r74, hr75, h⟩ := ob h
 refine JA.op rfl (A.call (L1 := []) Tryz.call23 rfl (cons_maker_at_ok (fxa_2.mono hK72) (fxa_3.mono hK72) (fxa_4.mono hK72) (fxa_5.mono hK72) (fxa_6.mono hK72) f69 hr75) rfl rfl) ?_
 rintro _ _ _ ⟨v80, _, rfl, ⟨⟨l76, ad77, cp78, rfl, rfl, rfl⟩, rfl⟩, _, rfl⟩
 refine ⟨fun w hs => Hold.sub hK72 ⟨1, rfl, trivial⟩ hs, ?_⟩
 refine JM.wit Row.hn fun hn79 => JM.nil <| qa (.slice ad77 l76.length cp78) rfl <| JQ.nil <| J.nil <| CJ.ret ?_
 obtain rfl := si h
 exact ⟨_, _, Res.one rfl rfl, ⟨l76, ad77, cp78, rfl, rfl, rfl⟩, hK72, fun w hs => (Sep.dropAt 1 rfl hs)⟩
end Go.Proofs.YtelekeapfgfknaaGreat
