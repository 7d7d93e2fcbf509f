/- What Go functions answer: generated. -/
import Derived.Test.YtbennpandomacaaGreatF6
namespace Go.Proofs.YtbennpandomacaaGreat
open Go.RowKit _root_.Go.Proofs.Tryz
set_option linter.unusedVariables false
set_option linter.unnecessarySimpa false
set_option linter.unusedSimpArgs false
set_option maxRecDepth 100000
set_option maxHeartbeats 4000000
noncomputable def fn_law23_FlowTurns_l1 (i1 : Int) (l2 : (List Int)) : Tq10 → Option (Tq10 ⊕ ((List Int) ⊕ Bool)) := fun ((l3, i4) : Tq10) => cond (decide (i4 < i1)) ((getI l2 i4).bind fun x5 => (cond (decide (x5 < 0)) (some (true)) ((getI l2 i4).bind fun x6 => some (decide (i1 ≤ x6)))).bind fun t7 => (cond (t7) (some (true)) ((getI l2 i4).bind fun x9 => (getI l3 x9).bind fun x10 => some (!decide (x10 = 0)))).bind fun t11 => cond (t11) (some (.inr ((.inr (false))))) ((getI l2 i4).bind fun x12 => (getI l3 x12).bind fun x13 => (some (l3.set x12.toNat (IntKind.wrap .i64 (i4 + 1)))).bind fun z14 => some (.inl ((z14, IntKind.wrap .i64 (i4 + 1)))))) (some (.inr (.inl l3)))
noncomputable def fn_law23_FlowTurns_l2 (i1 : Int) (l2 : (List Int)) : (Bool × Int) → Option ((Bool × Int) ⊕ Bool) := fun ((t3, i4) : (Bool × Int)) => cond (decide (i4 < (((l2.length : Nat) : Int)))) ((cond (t3) (some (true)) ((getI l2 i4).bind fun x5 => some (decide (x5 = i1)))).bind fun t6 => some (.inl ((t6, IntKind.wrap .i64 (i4 + 1))))) (some (.inr (t3)))
noncomputable def fn_law23_FlowTurns_l3 (p1 : Tq7) (i2 : Int) (l3 : (List Int)) (l4 : Tq9) (i5 : Int) (l6 : (List Int)) : Int → Option (Int ⊕ (Unit ⊕ ((Tq9 × Int) ⊕ (Unit ⊕ Bool)))) := fun (i7 : Int) => cond (decide (i7 < (((l6.length : Nat) : Int)))) ((getI l6 i7).bind fun x9 => (fn_flow_Flow_Back p1 x9).bind fun l10 => (loop (fn_law23_FlowTurns_l2 i5 l10) (false, 0) : Option Bool).bind fun t11 => cond (!t11) (some (.inr ((.inr (.inr ((.inr (false)))))))) ((getI l6 i7).bind fun x12 => (getI l3 x12).bind fun x13 => (getI l3 i5).bind fun x14 => cond (decide (x14 < x13)) ((getI l6 i7).bind fun x15 => (fn_ref10_Reach i2 l4 x15).bind fun l17 => (getI l17 i5).bind fun x18 => cond (decide (x18 = 0)) (some (.inr ((.inr (.inr ((.inr (false)))))))) (some (.inl (IntKind.wrap .i64 (i7 + 1))))) (some (.inl (IntKind.wrap .i64 (i7 + 1)))))) (some (.inr ((.inl ()))))
noncomputable def fn_law23_FlowTurns_l4 (p1 : Tq7) (i2 : Int) (l3 : (List Int)) : (Tq9 × Int) → Option ((Tq9 × Int) ⊕ (Unit ⊕ Bool)) := fun ((l4, i5) : (Tq9 × Int)) => cond (decide (i5 < i2)) ((fn_flow_Flow_Next p1 i5).bind fun l6 => (loop (fn_law23_FlowTurns_l3 p1 i2 l3 l4 i5 l6) 0 : Option (Unit ⊕ ((Tq9 × Int) ⊕ (Unit ⊕ Bool)))).bind fun o => match o with | .inr r => some r | .inl () => some (.inl ((l4, IntKind.wrap .i64 (i5 + 1))))) (some (.inr ((.inl ()))))
noncomputable def fn_law23_FlowTurns (xa : Tq1) : Option Bool :=
  (fn_ref20_Small (xa.1, xa.2.1, xa.2.2.1, xa.2.2.2.1, xa.2.2.2.2.1, xa.2.2.2.2.2.1, xa.2.2.2.2.2.2)).bind fun t1 => cond (!t1) ((fn_law23_awake).bind fun t2 => some (t2)) ((fn_flow_New (xa.1, xa.2.1, xa.2.2.1, xa.2.2.2.1, xa.2.2.2.2.1, xa.2.2.2.2.2.1, xa.2.2.2.2.2.2)).bind fun p3 => (fn_flow_Flow_Points p3).bind fun p4 => (fn_point_Points_Len p4).bind fun i5 => (fn_flow_Flow_Order p3).bind fun l6 => cond (!decide ((((l6.length : Nat) : Int)) = i5)) (some (false)) ((mk i5 i5 0 : Option (List Int)).bind fun z7 => (loop (fn_law23_FlowTurns_l1 i5 l6) (z7, 0) : Option ((List Int) ⊕ Bool)).bind fun o => match o with | .inr r => some r | .inl l9 => (fn_ref23_Arcs (xa.1, xa.2.1, xa.2.2.1, xa.2.2.2.1, xa.2.2.2.2.1, xa.2.2.2.2.2.1, xa.2.2.2.2.2.2)).bind fun l10 => (loop (fn_law23_FlowTurns_l4 p3 i5 l9) (l10, 0) : Option (Unit ⊕ Bool)).bind fun o => match o with | .inr r => some r | .inl () => (fn_flow_Flow_Points none).bind fun p11 => (cond (p11.isNone) ((fn_flow_Flow_Next none 0).bind fun l12 => some (decide ((((l12.length : Nat) : Int)) = 0))) (some (false))).bind fun t13 => (cond (t13) ((fn_flow_Flow_Back none 0).bind fun l14 => some (decide ((((l14.length : Nat) : Int)) = 0))) (some (false))).bind fun t15 => (cond (t15) ((fn_flow_Flow_Reached none).bind fun l17 => some (decide ((((l17.length : Nat) : Int)) = 0))) (some (false))).bind fun t18 => (cond (t18) ((fn_flow_Flow_Stops none).bind fun l19 => some (decide ((((l19.length : Nat) : Int)) = 0))) (some (false))).bind fun t20 => (cond (t20) ((fn_flow_Flow_Order none).bind fun l21 => some (decide ((((l21.length : Nat) : Int)) = 0))) (some (false))).bind fun t22 => (cond (t22) ((fn_law23_awake).bind fun t23 => some (t23)) (some (false))).bind fun t24 => some (t24)))
theorem law23_FlowTurns_ok {K : Hp} {xa : Tq1} {Aa2 : Option Addr} {Ca2 : Nat} {Aa3 : Option Addr} {Ca3 : Nat} {Aa4 : Option Addr} {Ca4 : Nat} {Aa5 : Option Addr} {Ca5 : Nat} {Aa6 : Option Addr} {Ca6 : Nat} (Ga2 : Is K (.sl Yq6) [.slice Aa2 xa.2.2.1.length Ca2] xa.2.2.1) (Ga3 : Is K Yq8 [.slice Aa3 xa.2.2.2.1.length Ca3] xa.2.2.2.1) (Ga4 : Is K (.sl Yq1) [.slice Aa4 xa.2.2.2.2.1.length Ca4] xa.2.2.2.2.1) (Ga5 : Is K Yq5 [.slice Aa5 xa.2.2.2.2.2.1.length Ca5] xa.2.2.2.2.2.1) (Ga6 : Is K (.sl Yq4) [.slice Aa6 xa.2.2.2.2.2.2.length Ca6] xa.2.2.2.2.2.2) {r : Bool} (h : fn_law23_FlowTurns xa = some r) :
    Tr Tryz.prog 5 #[.agg #[ii xa.1, ii xa.2.1, .slice Aa2 xa.2.2.1.length Ca2, .slice Aa3 xa.2.2.2.1.length Ca3, .slice Aa4 xa.2.2.2.2.1.length Ca4, .slice Aa5 xa.2.2.2.2.2.1.length Ca5, .slice Aa6 xa.2.2.2.2.2.2.length Ca6]] K [] (fun v K' L' => (∃ (t9 : Bool), t9 = r ∧ .bool t9 = v ∧ L' = []) ∧ K = K') := by
 refine Tr.k <| Tr.of func5 rfl ntmps5 rfl fun E F => ?_
 unfold fn_law23_FlowTurns at h
 refine cr <| jbx [ii xa.1, ii xa.2.1, .slice Aa2 xa.2.2.1.length Ca2, .slice Aa3 xa.2.2.2.1.length Ca3, .slice Aa4 xa.2.2.2.2.1.length Ca4, .slice Aa5 xa.2.2.2.2.2.1.length Ca5, .slice Aa6 xa.2.2.2.2.2.2.length Ca6] rfl rfl fun b18 => ja (.bool false) rfl <| J.nil <| CJ.seq <| CJ.seq ?_
 refine CJ.region <| jv (.agg #[ii xa.1, ii xa.2.1, .slice Aa2 xa.2.2.1.length Ca2, .slice Aa3 xa.2.2.2.1.length Ca3, .slice Aa4 xa.2.2.2.2.1.length Ca4, .slice Aa5 xa.2.2.2.2.2.1.length Ca5, .slice Aa6 xa.2.2.2.2.2.2.length Ca6]) (V.ld rfl (Ld.agg (cs := [ii xa.1, ii xa.2.1, .slice Aa2 xa.2.2.1.length Ca2, .slice Aa3 xa.2.2.2.1.length Ca3, .slice Aa4 xa.2.2.2.2.1.length Ca4, .slice Aa5 xa.2.2.2.2.2.1.length Ca5, .slice Aa6 xa.2.2.2.2.2.2.length Ca6]) underlying30 sz30 rfl (Rd.cls 0 0 rfl rfl))) ?_
 obtain ⟨r19, hr20, h⟩ := ob h
 refine J.op rfl (A.call (L1 := []) call6 rfl (ref20_Small_ok Ga2 Ga3 Ga4 Ga5 Ga6 hr20) rfl rfl) ?_
 rintro _ _ _ ⟨v21, _, rfl, ⟨⟨t23, rfl, rfl, rfl⟩, rfl⟩, _, rfl⟩
 refine jv (.bool (!t23)) (V.not rfl) <| J.nil <| cc rfl h (fun hc24 h => ?_) fun hc24 h => ?_
 · refine CJ.seq <| CJ.region ?_
   obtain ⟨r25, hr26, h⟩ := ob h
   refine J.op rfl (A.call (L1 := []) call7 rfl (law23_awake_ok hr26) rfl rfl) ?_
   rintro _ _ _ ⟨v27, _, rfl, ⟨⟨t28, rfl, rfl, rfl⟩, rfl⟩, _, rfl⟩
   refine ja (.bool t28) rfl <| J.nil <| CJ.ret ?_
   obtain rfl := si h
   exact ⟨_, _, Res.one rfl rfl, ⟨t28, rfl, rfl, rfl⟩, hpr, fun w hs => (Sep.dropAt 0 rfl hs)⟩
 refine CJ.skip <| cr <| jv (.agg #[ii xa.1, ii xa.2.1, .slice Aa2 xa.2.2.1.length Ca2, .slice Aa3 xa.2.2.2.1.length Ca3, .slice Aa4 xa.2.2.2.2.1.length Ca4, .slice Aa5 xa.2.2.2.2.2.1.length Ca5, .slice Aa6 xa.2.2.2.2.2.2.length Ca6]) (V.ld rfl (Ld.agg (cs := [ii xa.1, ii xa.2.1, .slice Aa2 xa.2.2.1.length Ca2, .slice Aa3 xa.2.2.2.1.length Ca3, .slice Aa4 xa.2.2.2.2.1.length Ca4, .slice Aa5 xa.2.2.2.2.2.1.length Ca5, .slice Aa6 xa.2.2.2.2.2.2.length Ca6]) underlying30 sz30 rfl (Rd.cls 0 0 rfl rfl))) ?_
 obtain ⟨r29, hr31, h⟩ := ob h
 refine J.op rfl (A.call (L1 := []) call8 rfl (flow_New_ok Ga2 Ga3 Ga4 Ga5 Ga6 hr31) rfl rfl) ?_
 rintro _ K33 _ ⟨v34, _, rfl, ⟨p35, v36, rfl, rfl, f37, rfl⟩, hK38, rfl⟩
 refine ja v36 rfl <| J.nil <| cr <| jm v36 rfl ?_
 obtain ⟨r40, hr41, h⟩ := ob h
 refine J.op rfl (A.call (L1 := []) call11 rfl (flow_Flow_Points_ok f37 hr41) rfl rfl) ?_
 rintro _ K43 _ ⟨v44, _, rfl, ⟨p45, v46, rfl, rfl, f47, rfl⟩, hK48, rfl⟩
 obtain ⟨r49, hr50, h⟩ := ob h
 refine J.op rfl (A.call (L1 := []) call12 rfl (point_Points_Len_ok f47 hr50) rfl rfl) ?_
 rintro _ _ _ ⟨v51, _, rfl, ⟨⟨i52, rfl, rfl, rfl⟩, rfl⟩, _, rfl⟩
 refine ja (ii i52) rfl <| J.nil <| cr <| jm v36 rfl ?_
 obtain ⟨r53, hr54, h⟩ := ob h
 refine J.op rfl (A.call (L1 := []) call17 rfl (flow_Flow_Order_ok (f37.mono hK48) hr54) rfl rfl) ?_
 rintro _ _ _ ⟨v55, _, rfl, ⟨⟨l56, ad57, cp58, rfl, rfl, rfl⟩, rfl⟩, _, rfl⟩
 refine J.wit Row.hn fun hn59 => ja (.slice ad57 l56.length cp58) rfl <| J.nil <| CJ.seq <| cr <| jm (.slice ad57 l56.length cp58) rfl ?_
 refine jv (ii (((l56.length : Nat) : Int))) (V.len underlying42 rfl) <| jm (ii i52) rfl <| jv (.bool (!decide ((((l56.length : Nat) : Int)) = i52))) (V.neq rfl rfl) <| J.nil <| cc rfl h (fun hc60 h => ?_) fun hc60 h => ?_
 · refine cr <| ja (.bool false) rfl <| J.nil <| CJ.ret ?_
   obtain rfl := si h
   exact ⟨_, _, Res.one rfl rfl, ⟨false, rfl, rfl, rfl⟩, (hK38.trans hK48), fun w hs => (Sep.dropAt 0 rfl (Sep.dropAt 0 rfl hs))⟩
 refine CJ.skip <| cr <| jm (ii i52) rfl ?_
 obtain ⟨z61, hz62, h⟩ := ob h
 refine J.op rfl (A.make (K0 := Hp.nil) (ty := (.int .i64)) (x0 := 0) underlying42 inf3 rfl rfl (by decide) (by decide) rfl rfl hz62) ?_
 rintro _ _ _ ⟨b63, rfl, rfl, rfl⟩
 have hn65 : z61 ≠ [] → ∃ g, (some ⟨b63, 0, none⟩ : Option Addr) = some ⟨g, 0, none⟩ := fun _ => ⟨b63, rfl⟩
 refine ja (.slice (some ⟨b63, 0, none⟩) z61.length i52.toNat) rfl <| J.nil <| CJ.seq <| cr <| ja (ii 0) rfl <| J.nil ?_
 obtain ⟨o66, ho67, h⟩ := ob h
 refine CJ.joinN (o := o66) (fun s ρ K' L' => ∃ (l68 : (List Int)) (ad69 : Option Addr) (cp70 : Nat), l68 = s ∧ Fits [(1, pt b18), (3, v36), (4, ii i52), (6, .slice ad69 l68.length cp70)] ρ ∧ K43 = K' ∧ L' = Cl b18 30 [ii xa.1, ii xa.2.1, .slice Aa2 xa.2.2.1.length Ca2, .slice Aa3 xa.2.2.2.1.length Ca3, .slice Aa4 xa.2.2.2.2.1.length Ca4, .slice Aa5 xa.2.2.2.2.2.1.length Ca5, .slice Aa6 xa.2.2.2.2.2.2.length Ca6] :: Row Hp.nil 3 (.int .i64) (.slice ad69 l68.length cp70) l68 :: F) ?_ ?_
 · refine CJ.block <| CJ.front 1 rfl <| CJ.front 2 rfl <| CJ.loop (fun s ρ K' L' => ∃ (l71 : (List Int)) (i72 : Int) (ad73 : Option Addr) (cp74 : Nat), (l71, i72) = s ∧ Fits [(1, pt b18), (3, v36), (4, ii i52), (5, .slice ad57 l56.length cp58), (6, .slice ad73 l71.length cp74), (7, ii i72)] ρ ∧ K43 = K' ∧ L' = Cl b18 30 [ii xa.1, ii xa.2.1, .slice Aa2 xa.2.2.1.length Ca2, .slice Aa3 xa.2.2.2.1.length Ca3, .slice Aa4 xa.2.2.2.2.1.length Ca4, .slice Aa5 xa.2.2.2.2.2.1.length Ca5, .slice Aa6 xa.2.2.2.2.2.2.length Ca6] :: Row Hp.nil 3 (.int .i64) (.slice ad57 l56.length cp58) l56 :: Row Hp.nil 3 (.int .i64) (.slice ad73 l71.length cp74) l71 :: F) ho67 ⟨z61, 0, (some ⟨b63, 0, none⟩), i52.toNat, rfl, rt6, rfl, rfl⟩ ?_
   rintro s ρ _ _ r75 ⟨l71, i72, ad73, cp74, rfl, hf76, rfl, rfl⟩ h77
   obtain ⟨ρ, rfl⟩ := hf76.ex
   refine CJ.front 2 rfl <| CJ.wit Row.hn fun hn78 => CJ.seq <| cr <| jm (ii i72) rfl <| jm (ii i52) rfl ?_
   refine jv (.bool (decide (i72 < i52))) (V.lss rfl rfl) <| J.nil <| cc rfl h77 (fun hc79 h77 => ?_) fun hc79 h77 => ?_
   · refine CJ.skip <| CJ.seq <| CJ.block <| CJ.seq <| cr <| jm (.slice ad57 l56.length cp58) rfl ?_
     refine jm (ii i72) rfl ?_
     obtain ⟨x80, hx81, h77⟩ := ob h77
     obtain ⟨p82, p83, p84⟩ := getI_some hx81
     obtain ⟨g85, e86⟩ := hn59 (fun e => by rw [e] at p83; simp at p83)
     refine jv _ (V.iad underlying42 sz3 rfl e86 rfl p82 p84) <| jv (ii x80) (V.ld rfl (Ld.sc sc3 (Rd.row 2 rfl e86 p83 (q := 0) (by simp [Tp.size]) (by decide) (by rintro _ rfl; rfl)))) <| jv (.bool (decide (x80 < 0))) (V.lss rfl rfl) <| jm (.bool (decide (x80 < 0))) rfl <| J.cut 7 ?_
     obtain ⟨t87, ht88, h77⟩ := ob h77
     refine jmeet [(50, .bool t87), (1, pt b18), (3, v36), (4, ii i52), (5, .slice ad57 l56.length cp58), (6, .slice ad73 l71.length cp74), (7, ii i72)] ?_ ?_
     · rcases bt (decide (x80 < 0)) with hc89 | hc89
       · have ht88 := ct hc89 ht88
         refine J.skip rfl rfl rfl rfl hc89 <| J.skip rfl rfl rfl rfl hc89 <| J.skip rfl rfl rfl rfl hc89 <| J.skip rfl rfl rfl rfl hc89 <| J.skip rfl rfl rfl rfl hc89 <| J.skip rfl rfl rfl rfl hc89 <| jv (.bool true) (V.pickT rfl hc89 rfl) ?_
         refine J.nil ?_
         obtain rfl := si ht88
         exact ⟨rfl, rt7, rfl, rfl⟩
       have ht88 := cf hc89 ht88
       refine J.run rfl rfl rfl hc89 <| jm (.slice ad57 l56.length cp58) rfl <| J.run rfl rfl rfl hc89 <| jm (ii i72) rfl <| J.run rfl rfl rfl hc89 ?_
       obtain ⟨x90, hx91, ht88⟩ := ob ht88
       obtain ⟨p92, p93, p94⟩ := getI_some hx91
       obtain ⟨g95, e96⟩ := hn59 (fun e => by rw [e] at p93; simp at p93)
       refine jv _ (V.iad underlying42 sz3 rfl e96 rfl p92 p94) <| J.run rfl rfl rfl hc89 <| jv (ii x90) (V.ld rfl (Ld.sc sc3 (Rd.row 2 rfl e96 p93 (q := 0) (by simp [Tp.size]) (by decide) (by rintro _ rfl; rfl)))) <| J.run rfl rfl rfl hc89 <| jm (ii i52) rfl <| J.run rfl rfl rfl hc89 <| jv (.bool (decide (i52 ≤ x90))) (V.geq rfl rfl) ?_
       refine jv (.bool (decide (i52 ≤ x90))) (V.pickF rfl hc89 rfl) <| J.nil ?_
       obtain rfl := si ht88
       exact ⟨rfl, rt7, rfl, rfl⟩
     intro ρ
     refine jm (.bool t87) rfl <| J.cut 9 ?_
     obtain ⟨t97, ht98, h77⟩ := ob h77
     refine jmeet [(60, .bool t97), (1, pt b18), (3, v36), (4, ii i52), (5, .slice ad57 l56.length cp58), (6, .slice ad73 l71.length cp74), (7, ii i72)] ?_ ?_
     · rcases bt (t87) with hc99 | hc99
       · have ht98 := ct hc99 ht98
         refine J.skip rfl rfl rfl rfl hc99 <| J.skip rfl rfl rfl rfl hc99 <| J.skip rfl rfl rfl rfl hc99 <| J.skip rfl rfl rfl rfl hc99 <| J.skip rfl rfl rfl rfl hc99 <| J.skip rfl rfl rfl rfl hc99 <| J.skip rfl rfl rfl rfl hc99 ?_
         refine J.skip rfl rfl rfl rfl hc99 <| jv (.bool true) (V.pickT rfl hc99 rfl) <| J.nil ?_
         obtain rfl := si ht98
         exact ⟨rfl, rt7, rfl, rfl⟩
       have ht98 := cf hc99 ht98
       refine J.run rfl rfl rfl hc99 <| jm (.slice ad73 l71.length cp74) rfl <| J.run rfl rfl rfl hc99 <| jm (.slice ad57 l56.length cp58) rfl <| J.run rfl rfl rfl hc99 <| jm (ii i72) rfl <| J.run rfl rfl rfl hc99 ?_
       obtain ⟨x100, hx101, ht98⟩ := ob ht98
       obtain ⟨p102, p103, p104⟩ := getI_some hx101
       obtain ⟨g105, e106⟩ := hn59 (fun e => by rw [e] at p103; simp at p103)
       refine jv _ (V.iad underlying42 sz3 rfl e106 rfl p102 p104) <| J.run rfl rfl rfl hc99 <| jv (ii x100) (V.ld rfl (Ld.sc sc3 (Rd.row 2 rfl e106 p103 (q := 0) (by simp [Tp.size]) (by decide) (by rintro _ rfl; rfl)))) <| J.run rfl rfl rfl hc99 ?_
       obtain ⟨x107, hx108, ht98⟩ := ob ht98
       obtain ⟨p109, p110, p111⟩ := getI_some hx108
       obtain ⟨g112, e113⟩ := hn78 (fun e => by rw [e] at p110; simp at p110)
       refine jv _ (V.iad underlying42 sz3 rfl e113 rfl p109 p111) <| J.run rfl rfl rfl hc99 <| jv (ii x107) (V.ld rfl (Ld.sc sc3 (Rd.row 0 rfl e113 p110 (q := 0) (by simp [Tp.size]) (by decide) (by rintro _ rfl; rfl)))) <| J.run rfl rfl rfl hc99 <| jv (.bool (!decide (x107 = 0))) (V.neq rfl rfl) <| jv (.bool (!decide (x107 = 0))) (V.pickF rfl hc99 rfl) <| J.nil ?_
       obtain rfl := si ht98
       exact ⟨rfl, rt7, rfl, rfl⟩
     intro ρ
     refine J.nil <| cc rfl h77 (fun hc114 h77 => ?_) fun hc114 h77 => ?_
     · refine cr <| ja (.bool false) rfl <| J.nil <| CJ.ret ?_
       obtain rfl := si h77
       refine ⟨nofun, fun e => ?_⟩
       subst e
       refine .inr ⟨nofun, ?_⟩
       obtain rfl := si h
       exact ⟨_, _, Res.one rfl rfl, ⟨false, rfl, rfl, rfl⟩, (hK38.trans hK48), fun w hs => (Sep.dropAt 0 rfl (Sep.dropAt 0 rfl (Sep.dropAt 0 rfl hs)))⟩
     refine CJ.skip <| CJ.region <| jm (.slice ad73 l71.length cp74) rfl <| jm (.slice ad57 l56.length cp58) rfl <| jm (ii i72) rfl ?_
     obtain ⟨x115, hx116, h77⟩ := ob h77
     obtain ⟨p117, p118, p119⟩ := getI_some hx116
     obtain ⟨g120, e121⟩ := hn59 (fun e => by rw [e] at p118; simp at p118)
     refine jv _ (V.iad underlying42 sz3 rfl e121 rfl p117 p119) <| jv (ii x115) (V.ld rfl (Ld.sc sc3 (Rd.row 2 rfl e121 p118 (q := 0) (by simp [Tp.size]) (by decide) (by rintro _ rfl; rfl)))) <| jm (ii i72) rfl <| jv (ii (IntKind.wrap .i64 (i72 + 1))) (V.add rfl rfl) ?_
     obtain ⟨x122, hx123, h77⟩ := ob h77
     obtain ⟨p124, p125, p126⟩ := getI_some hx123
     obtain ⟨g127, e128⟩ := hn78 (fun e => by rw [e] at p125; simp at p125)
     refine jv _ (V.iad underlying42 sz3 rfl e128 rfl p124 p126) ?_
     obtain ⟨z129, hz130, h77⟩ := ob h77
     have e131 := Option.some.inj hz130
     have hl132 : z129.length = l71.length := by rw [← e131, List.length_set]
     refine J.op rfl (A.storeR (ty := (.int .i64)) (q := 0) (y0 := IntKind.wrap .i64 (i72 + 1)) (zs := z129) sz3 rfl rfl rfl rfl e128 p125 (by simp [Tp.size]) (by decide) (by rintro _ rfl; exact rfl) e131) ?_
     rintro _ _ _ ⟨rfl, rfl, rfl⟩
     have hn133 : z129 ≠ [] → _ := fun h => hn78 (fun e => h (List.length_eq_zero_iff.1 (by rw [hl132]; exact List.length_eq_zero_iff.2 e)))
     refine J.nil <| CJ.region <| jm (ii i72) rfl <| jv (ii (IntKind.wrap .i64 (i72 + 1))) (V.add rfl rfl) <| ja (ii (IntKind.wrap .i64 (i72 + 1))) rfl <| J.front 2 rfl <| J.front 2 rfl ?_
     refine J.nil ?_
     obtain rfl := si h77
     exact ⟨rfl, ⟨z129, IntKind.wrap .i64 (i72 + 1), ad73, cp74, rfl, ⟨rfl, rfl, rfl, rfl, (by rw [hl132]; rfl), rfl, trivial⟩, rfl, (by rw [hl132]; first | done | rfl)⟩⟩
   refine CJ.dropAt 2 rfl <| CJ.front 1 rfl <| CJ.exit ?_
   obtain rfl := si h77
   refine ⟨nofun, fun e => ?_⟩
   subst e
   exact .inl ⟨rfl, _, rfl, ⟨l71, ad73, cp74, rfl, rt4, rfl, rfl⟩⟩
 rintro s ρ _ _ ho134 ⟨l68, ad69, cp70, rfl, hf135, rfl, rfl⟩
 subst ho134
 obtain ⟨ρ, rfl⟩ := hf135.ex
 refine PJ.front 1 rfl <| PJ.wit Row.hn fun hn136 => PJ.done <| cr <| jv (.agg #[ii xa.1, ii xa.2.1, .slice Aa2 xa.2.2.1.length Ca2, .slice Aa3 xa.2.2.2.1.length Ca3, .slice Aa4 xa.2.2.2.2.1.length Ca4, .slice Aa5 xa.2.2.2.2.2.1.length Ca5, .slice Aa6 xa.2.2.2.2.2.2.length Ca6]) (V.ld rfl (Ld.agg (cs := [ii xa.1, ii xa.2.1, .slice Aa2 xa.2.2.1.length Ca2, .slice Aa3 xa.2.2.2.1.length Ca3, .slice Aa4 xa.2.2.2.2.1.length Ca4, .slice Aa5 xa.2.2.2.2.2.1.length Ca5, .slice Aa6 xa.2.2.2.2.2.2.length Ca6]) underlying30 sz30 rfl (Rd.cls 1 0 rfl rfl))) ?_
 obtain ⟨r137, hr138, h⟩ := ob h
 refine J.op rfl (A.call (L1 := []) call10 rfl (ref23_Arcs_ok (Ga2.mono (hK38.trans hK48)) (Ga3.mono (hK38.trans hK48)) (Ga4.mono (hK38.trans hK48)) (Ga5.mono (hK38.trans hK48)) (Ga6.mono (hK38.trans hK48)) hr138) rfl rfl) ?_
 rintro _ _ _ ⟨v139, _, rfl, ⟨⟨l140, ad141, cp142, rfl, rfl, rfl⟩, rfl⟩, _, rfl⟩
 refine J.wit Row.hn fun hn143 => ja (.slice ad141 l140.length cp142) rfl <| J.nil <| CJ.seq <| cr <| ja (ii 0) rfl ?_
 refine J.nil ?_
 obtain ⟨o144, ho145, h⟩ := ob h
 refine CJ.joinN (o := o144) (fun s ρ K' L' => () = s ∧ Fits [] ρ ∧ Hp.le K43 K' ∧ F = L') ?_ ?_
 · refine CJ.block <| CJ.persist (Hp.nil_le _) (by decide) fun K146 hK147 f148 => CJ.dropAt 1 rfl <| CJ.loop (fun s ρ K' L' => ∃ (l149 : Tq9) (i150 : Int) (ad151 : Option Addr) (cp152 : Nat), (l149, i150) = s ∧ Fits [(3, v36), (4, ii i52), (6, .slice ad69 l68.length cp70), (8, .slice ad151 l149.length cp152), (9, ii i150)] ρ ∧ Hp.le K146 K' ∧ Is K' (.sl Yq6) [.slice ad151 l149.length cp152] l149 ∧ L' = Row Hp.nil 3 (.int .i64) (.slice ad69 l68.length cp70) l68 :: F) ho145 ⟨l140, 0, ad141, cp142, rfl, rt5, hpr, f148, rfl⟩ ?_
   rintro s ρ K153 _ r154 ⟨l149, i150, ad151, cp152, rfl, hf155, hk156, f157, rfl⟩ h158
   obtain ⟨ρ, rfl⟩ := hf155.ex
   refine CJ.seq <| cr <| jm (ii i150) rfl <| jm (ii i52) rfl <| jv (.bool (decide (i150 < i52))) (V.lss rfl rfl) <| J.nil ?_
   refine cc rfl h158 (fun hc159 h158 => ?_) fun hc159 h158 => ?_
   · refine CJ.skip <| CJ.seq <| CJ.block <| cr <| jm v36 rfl <| jm (ii i150) rfl ?_
     obtain ⟨r160, hr161, h158⟩ := ob h158
     refine J.op rfl (A.call (L1 := []) call13 rfl (flow_Flow_Next_ok (f37.mono ((hK48.trans hK147).trans hk156)) hr161) rfl rfl) ?_
     rintro _ _ _ ⟨v162, _, rfl, ⟨⟨l163, ad164, cp165, rfl, rfl, rfl⟩, rfl⟩, _, rfl⟩
     refine J.wit Row.hn fun hn166 => ja (.slice ad164 l163.length cp165) rfl <| J.nil <| cr <| ja (ii 0) rfl <| J.nil ?_
     obtain ⟨o167, ho168, h158⟩ := ob h158
     refine CJ.joinN (o := o167) (fun s ρ K' L' => () = s ∧ Fits [(3, v36), (4, ii i52), (6, .slice ad69 l68.length cp70), (8, .slice ad151 l149.length cp152), (9, ii i150)] ρ ∧ K153 = K' ∧ L' = Row Hp.nil 3 (.int .i64) (.slice ad69 l68.length cp70) l68 :: F) ?_ ?_
     · refine CJ.block <| CJ.front 1 rfl <| CJ.loop (fun s ρ K' L' => ∃ (i169 : Int), i169 = s ∧ Fits [(3, v36), (4, ii i52), (6, .slice ad69 l68.length cp70), (8, .slice ad151 l149.length cp152), (9, ii i150), (10, .slice ad164 l163.length cp165), (11, ii i169)] ρ ∧ K153 = K' ∧ L' = Row Hp.nil 3 (.int .i64) (.slice ad69 l68.length cp70) l68 :: Row Hp.nil 3 (.int .i64) (.slice ad164 l163.length cp165) l163 :: F) ho168 ⟨0, rfl, rt7, rfl, rfl⟩ ?_
       rintro s ρ _ _ r170 ⟨i169, rfl, hf171, rfl, rfl⟩ h172
       obtain ⟨ρ, rfl⟩ := hf171.ex
       refine CJ.seq <| cr <| jm (ii i169) rfl <| jm (.slice ad164 l163.length cp165) rfl <| jv (ii (((l163.length : Nat) : Int))) (V.len underlying42 rfl) <| jv (.bool (decide (i169 < (((l163.length : Nat) : Int))))) (V.lss rfl rfl) ?_
       refine J.nil <| cc rfl h172 (fun hc173 h172 => ?_) fun hc173 h172 => ?_
       · refine CJ.skip <| CJ.seq <| CJ.block <| cr <| jm v36 rfl <| jm (.slice ad164 l163.length cp165) rfl ?_
         refine jm (ii i169) rfl ?_
         obtain ⟨x174, hx175, h172⟩ := ob h172
         obtain ⟨p176, p177, p178⟩ := getI_some hx175
         obtain ⟨g179, e180⟩ := hn166 (fun e => by rw [e] at p177; simp at p177)
         refine jv _ (V.iad underlying42 sz3 rfl e180 rfl p176 p178) <| jv (ii x174) (V.ld rfl (Ld.sc sc3 (Rd.row 1 rfl e180 p177 (q := 0) (by simp [Tp.size]) (by decide) (by rintro _ rfl; rfl)))) ?_
         obtain ⟨r181, hr182, h172⟩ := ob h172
         refine J.op rfl (A.call (L1 := []) call14 rfl (flow_Flow_Back_ok (f37.mono ((hK48.trans hK147).trans hk156)) hr182) rfl rfl) ?_
         rintro _ _ _ ⟨v183, _, rfl, ⟨⟨l184, ad185, cp186, rfl, rfl, rfl⟩, rfl⟩, _, rfl⟩
         refine J.wit Row.hn fun hn187 => ja (.slice ad185 l184.length cp186) rfl <| J.nil <| cr <| ja (.bool false) rfl <| J.nil ?_
         refine CJ.seq <| cr <| ja (ii 0) rfl <| J.nil ?_
         obtain ⟨o188, ho189, h172⟩ := ob h172
         refine CJ.meetN (fun ρ K' L' => ∃ (t190 : Bool), t190 = o188 ∧ Fits [(3, v36), (4, ii i52), (6, .slice ad69 l68.length cp70), (8, .slice ad151 l149.length cp152), (9, ii i150), (10, .slice ad164 l163.length cp165), (11, ii i169), (13, .bool t190)] ρ ∧ K153 = K' ∧ L' = Row Hp.nil 3 (.int .i64) (.slice ad69 l68.length cp70) l68 :: Row Hp.nil 3 (.int .i64) (.slice ad164 l163.length cp165) l163 :: F) ?_ ?_
         · refine CJ.block <| CJ.front 2 rfl <| CJ.front 2 rfl <| CJ.loop (fun s ρ K' L' => ∃ (t191 : Bool) (i192 : Int), (t191, i192) = s ∧ Fits [(3, v36), (4, ii i52), (6, .slice ad69 l68.length cp70), (8, .slice ad151 l149.length cp152), (9, ii i150), (10, .slice ad164 l163.length cp165), (11, ii i169), (12, .slice ad185 l184.length cp186), (13, .bool t191), (14, ii i192)] ρ ∧ K153 = K' ∧ L' = Row Hp.nil 3 (.int .i64) (.slice ad69 l68.length cp70) l68 :: Row Hp.nil 3 (.int .i64) (.slice ad164 l163.length cp165) l163 :: Row Hp.nil 3 (.int .i64) (.slice ad185 l184.length cp186) l184 :: F) ho189 ⟨false, 0, rfl, rt10, rfl, rfl⟩ ?_
           rintro s ρ _ _ r193 ⟨t191, i192, rfl, hf194, rfl, rfl⟩ h195
           obtain ⟨ρ, rfl⟩ := hf194.ex
           refine CJ.seq <| cr <| jm (ii i192) rfl <| jm (.slice ad185 l184.length cp186) rfl <| jv (ii (((l184.length : Nat) : Int))) (V.len underlying42 rfl) <| jv (.bool (decide (i192 < (((l184.length : Nat) : Int))))) (V.lss rfl rfl) ?_
           refine J.nil <| cc rfl h195 (fun hc196 h195 => ?_) fun hc196 h195 => ?_
           · refine CJ.skip <| CJ.seq <| CJ.block <| CJ.region <| jm (.bool t191) rfl <| jm (.bool t191) rfl <| J.cut 7 ?_
             obtain ⟨t197, ht198, h195⟩ := ob h195
             refine jmeet [(105, .bool t197), (3, v36), (4, ii i52), (6, .slice ad69 l68.length cp70), (8, .slice ad151 l149.length cp152), (9, ii i150), (10, .slice ad164 l163.length cp165), (11, ii i169), (12, .slice ad185 l184.length cp186), (14, ii i192)] ?_ ?_
             · rcases bt (t191) with hc199 | hc199
               · have ht198 := ct hc199 ht198
                 refine J.skip rfl rfl rfl rfl hc199 <| J.skip rfl rfl rfl rfl hc199 <| J.skip rfl rfl rfl rfl hc199 <| J.skip rfl rfl rfl rfl hc199 <| J.skip rfl rfl rfl rfl hc199 <| J.skip rfl rfl rfl rfl hc199 <| jv (.bool true) (V.pickT rfl hc199 rfl) ?_
                 refine J.nil ?_
                 obtain rfl := si ht198
                 exact ⟨rfl, rt10, rfl, rfl⟩
               have ht198 := cf hc199 ht198
               refine J.run rfl rfl rfl hc199 <| jm (.slice ad185 l184.length cp186) rfl <| J.run rfl rfl rfl hc199 <| jm (ii i192) rfl <| J.run rfl rfl rfl hc199 ?_
               obtain ⟨x200, hx201, ht198⟩ := ob ht198
               obtain ⟨p202, p203, p204⟩ := getI_some hx201
               obtain ⟨g205, e206⟩ := hn187 (fun e => by rw [e] at p203; simp at p203)
               refine jv _ (V.iad underlying42 sz3 rfl e206 rfl p202 p204) <| J.run rfl rfl rfl hc199 <| jv (ii x200) (V.ld rfl (Ld.sc sc3 (Rd.row 2 rfl e206 p203 (q := 0) (by simp [Tp.size]) (by decide) (by rintro _ rfl; rfl)))) <| J.run rfl rfl rfl hc199 <| jm (ii i150) rfl <| J.run rfl rfl rfl hc199 <| jv (.bool (decide (x200 = i150))) (V.eql rfl rfl) ?_
               refine jv (.bool (decide (x200 = i150))) (V.pickF rfl hc199 rfl) <| J.nil ?_
               obtain rfl := si ht198
               exact ⟨rfl, rt10, rfl, rfl⟩
             intro ρ
             refine ja (.bool t197) rfl <| J.nil <| CJ.region <| jm (ii i192) rfl <| jv (ii (IntKind.wrap .i64 (i192 + 1))) (V.add rfl rfl) <| ja (ii (IntKind.wrap .i64 (i192 + 1))) rfl <| J.nil ?_
             obtain rfl := si h195
             exact ⟨rfl, ⟨t197, IntKind.wrap .i64 (i192 + 1), rfl, rt10, rfl, rfl⟩⟩
           refine CJ.dropAt 2 rfl <| CJ.exit ?_
           obtain rfl := si h195
           refine ⟨nofun, fun e => ?_⟩
           subst e
           exact ⟨rfl, ⟨t191, rfl, rt8, rfl, rfl⟩⟩
         rintro ρ _ _ ⟨t190, rfl, hf207, rfl, rfl⟩
         obtain ⟨ρ, rfl⟩ := hf207.ex
         refine PJ.done <| CJ.seq <| CJ.mix [Row Hp.nil 3 (.int .i64) (.slice ad69 l68.length cp70) l68, Row Hp.nil 3 (.int .i64) (.slice ad164 l163.length cp165) l163] [([0, 1, 2, 3, 4, 5, 6, 7, 8, 9, 10, 11, 12, 13, 14, 15, 16, 17, 18, 19, 20, 21, 23], 22)] [] [24, 25, 26, 27, 28] mixO (by decide +kernel) ⟨0, rfl, 0, rfl, trivial⟩ rfl rfl rfl <| JM.cons <| qm (.bool t190) rfl <| qv (.bool (!t190)) (V.not rfl) <| qm (.bool (!t190)) rfl ?_
         rcases bt (!t190) with hc208 | hc208
         · have h172 := ct hc208 h172
           refine JQ.skip rfl rfl rfl rfl hc208 <| JQ.skip rfl rfl rfl rfl hc208 <| JQ.skip rfl rfl rfl rfl hc208 <| JQ.skip rfl rfl rfl rfl hc208 <| JQ.skip rfl rfl rfl rfl hc208 <| JQ.skip rfl rfl rfl rfl hc208 <| JQ.skip rfl rfl rfl rfl hc208 ?_
           refine JQ.skip rfl rfl rfl rfl hc208 <| JQ.skip rfl rfl rfl rfl hc208 <| JQ.skip rfl rfl rfl rfl hc208 <| JQ.skip rfl rfl rfl rfl hc208 <| JQ.skip rfl rfl rfl rfl hc208 <| JQ.skip rfl rfl rfl rfl hc208 <| JQ.skipu rfl rfl rfl rfl ?_
           refine JQ.skipu rfl rfl rfl rfl <| JQ.skipu rfl rfl rfl rfl <| JQ.skipu rfl rfl rfl rfl <| JQ.skipu rfl rfl rfl rfl <| JQ.skipu rfl rfl rfl rfl <| JQ.skipu rfl rfl rfl rfl <| JQ.nil ?_
           refine JA.skipu rfl rfl rfl rfl <| JM.nil <| JQ.nil <| J.skipu rfl rfl rfl rfl <| J.skipu rfl rfl rfl rfl <| J.skipu rfl rfl rfl rfl <| J.skip rfl rfl rfl rfl hc208 ?_
           refine jv (.bool true) (V.pickT rfl hc208 rfl) <| J.nil <| CJ.condK (b := true) rfl rfl <| cr <| ja (.bool false) rfl <| J.nil ?_
           refine CJ.ret ?_
           obtain rfl := si h172
           refine ⟨nofun, fun e => ?_⟩
           subst e
           refine .inr ⟨nofun, ?_⟩
           obtain rfl := si h158
           refine ⟨nofun, fun e => ?_⟩
           subst e
           refine .inr ⟨nofun, ?_⟩
           obtain rfl := si h
           exact ⟨_, _, Res.one rfl rfl, ⟨false, rfl, rfl, rfl⟩, (((hK38.trans hK48).trans hK147).trans hk156), fun w hs => (Sep.dropAt 0 rfl (Sep.dropAt 0 rfl hs))⟩
         have h172 := cf hc208 h172
         refine JQ.run rfl rfl rfl hc208 <| qm (.slice ad69 l68.length cp70) rfl <| JQ.run rfl rfl rfl hc208 <| qm (.slice ad164 l163.length cp165) rfl <| JQ.run rfl rfl rfl hc208 <| qm (ii i169) rfl <| JQ.run rfl rfl rfl hc208 ?_
         obtain ⟨x209, hx210, h172⟩ := ob h172
         obtain ⟨p211, p212, p213⟩ := getI_some hx210
         obtain ⟨g214, e215⟩ := hn166 (fun e => by rw [e] at p212; simp at p212)
         refine qv _ (V.iad underlying42 sz3 rfl e215 rfl p211 p213) <| JQ.run rfl rfl rfl hc208 <| qv (ii x209) (V.ld rfl (Ld.sc sc3 (Rd.row 1 rfl e215 p212 (q := 0) (by simp [Tp.size]) (by decide) (by rintro _ rfl; rfl)))) <| JQ.run rfl rfl rfl hc208 ?_
         obtain ⟨x216, hx217, h172⟩ := ob h172
         obtain ⟨p218, p219, p220⟩ := getI_some hx217
         obtain ⟨g221, e222⟩ := hn136 (fun e => by rw [e] at p219; simp at p219)
         refine qv _ (V.iad underlying42 sz3 rfl e222 rfl p218 p220) <| JQ.run rfl rfl rfl hc208 <| qv (ii x216) (V.ld rfl (Ld.sc sc3 (Rd.row 0 rfl e222 p219 (q := 0) (by simp [Tp.size]) (by decide) (by rintro _ rfl; rfl)))) <| JQ.run rfl rfl rfl hc208 <| qm (.slice ad69 l68.length cp70) rfl <| JQ.run rfl rfl rfl hc208 <| qm (ii i150) rfl ?_
         refine JQ.run rfl rfl rfl hc208 ?_
         obtain ⟨x223, hx224, h172⟩ := ob h172
         obtain ⟨p225, p226, p227⟩ := getI_some hx224
         obtain ⟨g228, e229⟩ := hn136 (fun e => by rw [e] at p226; simp at p226)
         refine qv _ (V.iad underlying42 sz3 rfl e229 rfl p225 p227) <| JQ.run rfl rfl rfl hc208 <| qv (ii x223) (V.ld rfl (Ld.sc sc3 (Rd.row 0 rfl e229 p226 (q := 0) (by simp [Tp.size]) (by decide) (by rintro _ rfl; rfl)))) <| JQ.run rfl rfl rfl hc208 <| qv (.bool (decide (x223 < x216))) (V.gtr rfl rfl) <| JQ.run rfl rfl rfl hc208 <| qm (.bool (decide (x223 < x216))) rfl ?_
         rcases bt (decide (x223 < x216)) with hc230 | hc230
         · have h172 := ct hc230 h172
           refine JQ.run rfl rfl rfl hc230 <| qm (ii i52) rfl <| JQ.run rfl rfl rfl hc230 <| qm (.slice ad151 l149.length cp152) rfl <| JQ.run rfl rfl rfl hc230 <| qm (.slice ad164 l163.length cp165) rfl <| JQ.run rfl rfl rfl hc230 ?_
           refine qm (ii i169) rfl <| JQ.run rfl rfl rfl hc230 ?_
           obtain ⟨x231, hx232, h172⟩ := ob h172
           obtain ⟨p233, p234, p235⟩ := getI_some hx232
           obtain ⟨g236, e237⟩ := hn166 (fun e => by rw [e] at p234; simp at p234)
           refine qv _ (V.iad underlying42 sz3 rfl e237 rfl p233 p235) <| JQ.run rfl rfl rfl hc230 <| qv (ii x231) (V.ld rfl (Ld.sc sc3 (Rd.row 1 rfl e237 p234 (q := 0) (by simp [Tp.size]) (by decide) (by rintro _ rfl; rfl)))) <| JQ.run rfl rfl rfl hc230 <| qm (ii i150) rfl <| JQ.nil <| JA.run rfl rfl rfl hc230 ?_
           obtain ⟨r238, hr239, h172⟩ := ob h172
           refine JA.op rfl (A.call (L1 := []) call22 rfl (ref10_Reach_ok f157 hr239) rfl rfl) ?_
           rintro _ _ _ ⟨v240, _, rfl, ⟨⟨l241, ad242, cp243, rfl, rfl, rfl⟩, rfl⟩, _, rfl⟩
           refine ⟨fun w hs => Hold.sub hpr ⟨1, rfl, 1, rfl, trivial⟩ hs, ?_⟩
           refine JM.wit Row.hn fun hn244 => JM.nil <| JQ.nil <| J.run rfl rfl rfl hc230 ?_
           obtain ⟨x245, hx246, h172⟩ := ob h172
           obtain ⟨p247, p248, p249⟩ := getI_some hx246
           obtain ⟨g250, e251⟩ := hn244 (fun e => by rw [e] at p248; simp at p248)
           refine jv _ (V.iad underlying42 sz3 rfl e251 rfl p247 p249) <| J.run rfl rfl rfl hc230 <| jv (ii x245) (V.ld rfl (Ld.sc sc3 (Rd.row 0 rfl e251 p248 (q := 0) (by simp [Tp.size]) (by decide) (by rintro _ rfl; rfl)))) <| J.run rfl rfl rfl hc230 <| jv (.bool (decide (x245 = 0))) (V.eql rfl rfl) <| J.run rfl rfl rfl hc208 <| jv (.bool (decide (x245 = 0))) (V.pickT rfl hc230 rfl) ?_
           refine jv (.bool (decide (x245 = 0))) (V.pickF rfl hc208 rfl) <| J.nil <| cc rfl h172 (fun hc252 h172 => ?_) fun hc252 h172 => ?_
           · refine cr <| ja (.bool false) rfl <| J.nil <| CJ.ret ?_
             obtain rfl := si h172
             refine ⟨nofun, fun e => ?_⟩
             subst e
             refine .inr ⟨nofun, ?_⟩
             obtain rfl := si h158
             refine ⟨nofun, fun e => ?_⟩
             subst e
             refine .inr ⟨nofun, ?_⟩
             obtain rfl := si h
             exact ⟨_, _, Res.one rfl rfl, ⟨false, rfl, rfl, rfl⟩, (((hK38.trans hK48).trans hK147).trans hk156), fun w hs => (Sep.dropAt 0 rfl (Sep.dropAt 0 rfl (Sep.dropAt 0 rfl hs)))⟩
           refine CJ.skip <| CJ.region <| jm (ii i169) rfl <| jv (ii (IntKind.wrap .i64 (i169 + 1))) (V.add rfl rfl) <| ja (ii (IntKind.wrap .i64 (i169 + 1))) rfl <| J.dropAt 0 rfl <| J.nil ?_
           obtain rfl := si h172
           exact ⟨rfl, ⟨IntKind.wrap .i64 (i169 + 1), rfl, rt7, rfl, rfl⟩⟩
         have h172 := cf hc230 h172
         refine JQ.skip rfl rfl rfl rfl hc230 <| JQ.skip rfl rfl rfl rfl hc230 <| JQ.skip rfl rfl rfl rfl hc230 <| JQ.skip rfl rfl rfl rfl hc230 <| JQ.skip rfl rfl rfl rfl hc230 <| JQ.skip rfl rfl rfl rfl hc230 <| JQ.skip rfl rfl rfl rfl hc230 ?_
         refine JQ.nil <| JA.skip rfl rfl rfl rfl hc230 <| JM.nil <| JQ.nil <| J.skip rfl rfl rfl rfl hc230 <| J.skip rfl rfl rfl rfl hc230 <| J.skip rfl rfl rfl rfl hc230 ?_
         refine J.run rfl rfl rfl hc208 <| jv (.bool false) (V.pickF rfl hc230 rfl) <| jv (.bool false) (V.pickF rfl hc208 rfl) <| J.nil <| CJ.condK (b := false) rfl rfl <| CJ.skip <| CJ.region ?_
         refine jm (ii i169) rfl <| jv (ii (IntKind.wrap .i64 (i169 + 1))) (V.add rfl rfl) <| ja (ii (IntKind.wrap .i64 (i169 + 1))) rfl <| J.nil ?_
         obtain rfl := si h172
         exact ⟨rfl, ⟨IntKind.wrap .i64 (i169 + 1), rfl, rt7, rfl, rfl⟩⟩
       refine CJ.dropAt 1 rfl <| CJ.exit ?_
       obtain rfl := si h172
       refine ⟨nofun, fun e => ?_⟩
       subst e
       exact .inl ⟨rfl, _, rfl, ⟨rfl, rt5, rfl, rfl⟩⟩
     rintro s ρ _ _ ho253 ⟨rfl, hf254, rfl, rfl⟩
     subst ho253
     obtain ⟨ρ, rfl⟩ := hf254.ex
     refine PJ.done <| CJ.region <| jm (ii i150) rfl <| jv (ii (IntKind.wrap .i64 (i150 + 1))) (V.add rfl rfl) <| ja (ii (IntKind.wrap .i64 (i150 + 1))) rfl <| J.nil ?_
     obtain rfl := si h158
     exact ⟨rfl, ⟨l149, IntKind.wrap .i64 (i150 + 1), ad151, cp152, rfl, rt5, hk156, f157, rfl⟩⟩
   refine CJ.dropAt 0 rfl <| CJ.exit ?_
   obtain rfl := si h158
   refine ⟨nofun, fun e => ?_⟩
   subst e
   exact .inl ⟨rfl, _, rfl, ⟨rfl, trivial, (hK147.trans hk156), rfl⟩⟩
 rintro s ρ K255 _ ho256 ⟨rfl, hf257, hk258, rfl⟩
 subst ho256
 obtain ⟨ρ, rfl⟩ := hf257.ex
 refine PJ.done <| cr <| ja (.pointer none) rfl <| J.nil <| CJ.seq <| CJ.region ?_
 refine jm (.pointer none) rfl ?_
 obtain ⟨r259, hr260, h⟩ := ob h
 refine J.op rfl (A.call (L1 := []) call11 rfl (flow_Flow_Points_ok Is.ptr_nil hr260) rfl rfl) ?_
 rintro _ K261 _ ⟨v262, _, rfl, ⟨p263, v264, rfl, rfl, f265, rfl⟩, hK266, rfl⟩
 refine jv (.bool p263.isNone) (V.kp_eql underlying39 f265 rfl rfl) <| jm (.bool p263.isNone) rfl <| J.cut 5 ?_
 obtain ⟨t267, ht268, h⟩ := ob h
 refine jmeet [(143, .bool t267), (15, .pointer none)] ?_ ?_
 · rcases bt (p263.isNone) with hc269 | hc269
   · have ht268 := ct hc269 ht268
     refine J.run rfl rfl rfl hc269 <| jm (.pointer none) rfl <| J.run rfl rfl rfl hc269 ?_
     obtain ⟨r270, hr271, ht268⟩ := ob ht268
     refine J.op rfl (A.call (L1 := []) call13 rfl (flow_Flow_Next_ok Is.ptr_nil hr271) rfl rfl) ?_
     rintro _ _ _ ⟨v272, _, rfl, ⟨⟨l273, ad274, cp275, rfl, rfl, rfl⟩, rfl⟩, _, rfl⟩
     refine J.wit Row.hn fun hn276 => J.run rfl rfl rfl hc269 <| jv (ii (((l273.length : Nat) : Int))) (V.len underlying42 rfl) <| J.run rfl rfl rfl hc269 <| jv (.bool (decide ((((l273.length : Nat) : Int)) = 0))) (V.eql rfl rfl) <| jv (.bool (decide ((((l273.length : Nat) : Int)) = 0))) (V.pickT rfl hc269 rfl) <| J.dropAt 0 rfl ?_
     refine J.nil ?_
     obtain rfl := si ht268
     exact ⟨rfl, rt2, rfl, rfl⟩
   have ht268 := cf hc269 ht268
   refine J.skip rfl rfl rfl rfl hc269 <| J.skip rfl rfl rfl rfl hc269 <| J.skip rfl rfl rfl rfl hc269 <| J.skip rfl rfl rfl rfl hc269 <| jv (.bool false) (V.pickF rfl hc269 rfl) <| J.nil ?_
   obtain rfl := si ht268
   exact ⟨rfl, rt2, rfl, rfl⟩
 intro ρ
 refine jm (.bool t267) rfl <| J.cut 5 ?_
 obtain ⟨t277, ht278, h⟩ := ob h
 refine jmeet [(149, .bool t277), (15, .pointer none)] ?_ ?_
 · rcases bt (t267) with hc279 | hc279
   · have ht278 := ct hc279 ht278
     refine J.run rfl rfl rfl hc279 <| jm (.pointer none) rfl <| J.run rfl rfl rfl hc279 ?_
     obtain ⟨r280, hr281, ht278⟩ := ob ht278
     refine J.op rfl (A.call (L1 := []) call14 rfl (flow_Flow_Back_ok Is.ptr_nil hr281) rfl rfl) ?_
     rintro _ _ _ ⟨v282, _, rfl, ⟨⟨l283, ad284, cp285, rfl, rfl, rfl⟩, rfl⟩, _, rfl⟩
     refine J.wit Row.hn fun hn286 => J.run rfl rfl rfl hc279 <| jv (ii (((l283.length : Nat) : Int))) (V.len underlying42 rfl) <| J.run rfl rfl rfl hc279 <| jv (.bool (decide ((((l283.length : Nat) : Int)) = 0))) (V.eql rfl rfl) <| jv (.bool (decide ((((l283.length : Nat) : Int)) = 0))) (V.pickT rfl hc279 rfl) <| J.dropAt 0 rfl ?_
     refine J.nil ?_
     obtain rfl := si ht278
     exact ⟨rfl, rt2, rfl, rfl⟩
   have ht278 := cf hc279 ht278
   refine J.skip rfl rfl rfl rfl hc279 <| J.skip rfl rfl rfl rfl hc279 <| J.skip rfl rfl rfl rfl hc279 <| J.skip rfl rfl rfl rfl hc279 <| jv (.bool false) (V.pickF rfl hc279 rfl) <| J.nil ?_
   obtain rfl := si ht278
   exact ⟨rfl, rt2, rfl, rfl⟩
 intro ρ
 refine jm (.bool t277) rfl <| J.cut 5 ?_
 obtain ⟨t287, ht288, h⟩ := ob h
 refine jmeet [(155, .bool t287), (15, .pointer none)] ?_ ?_
 · rcases bt (t277) with hc289 | hc289
   · have ht288 := ct hc289 ht288
     refine J.run rfl rfl rfl hc289 <| jm (.pointer none) rfl <| J.run rfl rfl rfl hc289 ?_
     obtain ⟨r290, hr291, ht288⟩ := ob ht288
     refine J.op rfl (A.call (L1 := []) call15 rfl (flow_Flow_Reached_ok Is.ptr_nil hr291) rfl rfl) ?_
     rintro _ _ _ ⟨v292, _, rfl, ⟨⟨l293, ad294, cp295, rfl, rfl, rfl⟩, rfl⟩, _, rfl⟩
     refine J.wit Row.hn fun hn296 => J.run rfl rfl rfl hc289 <| jv (ii (((l293.length : Nat) : Int))) (V.len underlying42 rfl) <| J.run rfl rfl rfl hc289 <| jv (.bool (decide ((((l293.length : Nat) : Int)) = 0))) (V.eql rfl rfl) <| jv (.bool (decide ((((l293.length : Nat) : Int)) = 0))) (V.pickT rfl hc289 rfl) <| J.dropAt 0 rfl ?_
     refine J.nil ?_
     obtain rfl := si ht288
     exact ⟨rfl, rt2, rfl, rfl⟩
   have ht288 := cf hc289 ht288
   refine J.skip rfl rfl rfl rfl hc289 <| J.skip rfl rfl rfl rfl hc289 <| J.skip rfl rfl rfl rfl hc289 <| J.skip rfl rfl rfl rfl hc289 <| jv (.bool false) (V.pickF rfl hc289 rfl) <| J.nil ?_
   obtain rfl := si ht288
   exact ⟨rfl, rt2, rfl, rfl⟩
 intro ρ
 refine jm (.bool t287) rfl <| J.cut 5 ?_
 obtain ⟨t297, ht298, h⟩ := ob h
 refine jmeet [(161, .bool t297), (15, .pointer none)] ?_ ?_
 · rcases bt (t287) with hc299 | hc299
   · have ht298 := ct hc299 ht298
     refine J.run rfl rfl rfl hc299 <| jm (.pointer none) rfl <| J.run rfl rfl rfl hc299 ?_
     obtain ⟨r300, hr301, ht298⟩ := ob ht298
     refine J.op rfl (A.call (L1 := []) call16 rfl (flow_Flow_Stops_ok Is.ptr_nil hr301) rfl rfl) ?_
     rintro _ _ _ ⟨v302, _, rfl, ⟨⟨l303, ad304, cp305, rfl, rfl, rfl⟩, rfl⟩, _, rfl⟩
     refine J.wit Row.hn fun hn306 => J.run rfl rfl rfl hc299 <| jv (ii (((l303.length : Nat) : Int))) (V.len underlying42 rfl) <| J.run rfl rfl rfl hc299 <| jv (.bool (decide ((((l303.length : Nat) : Int)) = 0))) (V.eql rfl rfl) <| jv (.bool (decide ((((l303.length : Nat) : Int)) = 0))) (V.pickT rfl hc299 rfl) <| J.dropAt 0 rfl ?_
     refine J.nil ?_
     obtain rfl := si ht298
     exact ⟨rfl, rt2, rfl, rfl⟩
   have ht298 := cf hc299 ht298
   refine J.skip rfl rfl rfl rfl hc299 <| J.skip rfl rfl rfl rfl hc299 <| J.skip rfl rfl rfl rfl hc299 <| J.skip rfl rfl rfl rfl hc299 <| jv (.bool false) (V.pickF rfl hc299 rfl) <| J.nil ?_
   obtain rfl := si ht298
   exact ⟨rfl, rt2, rfl, rfl⟩
 intro ρ
 refine jm (.bool t297) rfl <| J.cut 5 ?_
 obtain ⟨t307, ht308, h⟩ := ob h
 refine jmeet [(167, .bool t307)] ?_ ?_
 · rcases bt (t297) with hc309 | hc309
   · have ht308 := ct hc309 ht308
     refine J.run rfl rfl rfl hc309 <| jm (.pointer none) rfl <| J.run rfl rfl rfl hc309 ?_
     obtain ⟨r310, hr311, ht308⟩ := ob ht308
     refine J.op rfl (A.call (L1 := []) call17 rfl (flow_Flow_Order_ok Is.ptr_nil hr311) rfl rfl) ?_
     rintro _ _ _ ⟨v312, _, rfl, ⟨⟨l313, ad314, cp315, rfl, rfl, rfl⟩, rfl⟩, _, rfl⟩
     refine J.wit Row.hn fun hn316 => J.run rfl rfl rfl hc309 <| jv (ii (((l313.length : Nat) : Int))) (V.len underlying42 rfl) <| J.run rfl rfl rfl hc309 <| jv (.bool (decide ((((l313.length : Nat) : Int)) = 0))) (V.eql rfl rfl) <| jv (.bool (decide ((((l313.length : Nat) : Int)) = 0))) (V.pickT rfl hc309 rfl) <| J.dropAt 0 rfl ?_
     refine J.nil ?_
     obtain rfl := si ht308
     exact ⟨rfl, rt1, rfl, rfl⟩
   have ht308 := cf hc309 ht308
   refine J.skip rfl rfl rfl rfl hc309 <| J.skip rfl rfl rfl rfl hc309 <| J.skip rfl rfl rfl rfl hc309 <| J.skip rfl rfl rfl rfl hc309 <| jv (.bool false) (V.pickF rfl hc309 rfl) <| J.nil ?_
   obtain rfl := si ht308
   exact ⟨rfl, rt1, rfl, rfl⟩
 intro ρ
 refine jm (.bool t307) rfl <| J.cut 2 ?_
 obtain ⟨t317, ht318, h⟩ := ob h
 refine jmeet [(170, .bool t317)] ?_ ?_
 · rcases bt (t307) with hc319 | hc319
   · have ht318 := ct hc319 ht318
     refine J.run rfl rfl rfl hc319 ?_
     obtain ⟨r320, hr321, ht318⟩ := ob ht318
     refine J.op rfl (A.call (L1 := []) call7 rfl (law23_awake_ok hr321) rfl rfl) ?_
     rintro _ _ _ ⟨v322, _, rfl, ⟨⟨t323, rfl, rfl, rfl⟩, rfl⟩, _, rfl⟩
     refine jv (.bool t323) (V.pickT rfl hc319 rfl) <| J.nil ?_
     obtain rfl := si ht318
     exact ⟨rfl, rt1, rfl, rfl⟩
   have ht318 := cf hc319 ht318
   refine J.skip rfl rfl rfl rfl hc319 <| jv (.bool false) (V.pickF rfl hc319 rfl) <| J.nil ?_
   obtain rfl := si ht318
   exact ⟨rfl, rt1, rfl, rfl⟩
 intro ρ
 refine ja (.bool t317) rfl <| J.nil <| CJ.ret ?_
 obtain rfl := si h
 exact ⟨_, _, Res.one rfl rfl, ⟨t317, rfl, rfl, rfl⟩, (((hK38.trans hK48).trans hk258).trans hK266), fun w hs => hs⟩
end Go.Proofs.YtbennpandomacaaGreat
