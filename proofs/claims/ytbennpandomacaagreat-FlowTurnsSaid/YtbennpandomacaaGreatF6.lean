/- What Go functions answer: generated. -/
import Derived.Test.YtbennpandomacaaGreatF5
namespace Go.Proofs.YtbennpandomacaaGreat
open Go.RowKit _root_.Go.Proofs.Tryz
set_option linter.unusedVariables false
set_option linter.unnecessarySimpa false
set_option linter.unusedSimpArgs false
set_option maxRecDepth 100000
set_option maxHeartbeats 4000000
noncomputable def fn_ref23_Arcs_l1 (xa : Tq1) (l1 : (List Tq12)) (i2 : Int) : (Tq9 × Int) → Option ((Tq9 × Int) ⊕ Tq9) := fun ((l3, i4) : (Tq9 × Int)) => cond (decide (i4 < (((l1.length : Nat) : Int)))) ((fn_ref23_Goes (xa.1, xa.2.1, xa.2.2.1, xa.2.2.2.1, xa.2.2.2.2.1, xa.2.2.2.2.2.1, xa.2.2.2.2.2.2) l1 i2 i4).bind fun t5 => cond (t5) ((app l3 (([(i2, i4)] : List (Int × Int)))).bind fun z6 => some (.inl ((z6, IntKind.wrap .i64 (i4 + 1))))) (some (.inl ((l3, IntKind.wrap .i64 (i4 + 1)))))) (some (.inr (l3)))
noncomputable def fn_ref23_Arcs_l2 (xa : Tq1) (l1 : (List Tq12)) : (Tq9 × Int) → Option ((Tq9 × Int) ⊕ Tq9) := fun ((l2, i3) : (Tq9 × Int)) => cond (decide (i3 < (((l1.length : Nat) : Int)))) ((loop (fn_ref23_Arcs_l1 xa l1 i3) (l2, 0) : Option (Tq9)).bind fun l4 => some (.inl ((l4, IntKind.wrap .i64 (i3 + 1))))) (some (.inr (l2)))
noncomputable def fn_ref23_Arcs (xa : Tq1) : Option (Tq9) :=
  (fn_ref22_All (xa.1, xa.2.1, xa.2.2.1, xa.2.2.2.1, xa.2.2.2.2.1, xa.2.2.2.2.2.1, xa.2.2.2.2.2.2)).bind fun l1 => (loop (fn_ref23_Arcs_l2 xa l1) ((([] : List (Int × Int)), 0)) : Option (Tq9)).bind fun l2 => some (l2)
theorem ref23_Arcs_ok {K : Hp} {xa : Tq1} {Aa2 : Option Addr} {Ca2 : Nat} {Aa3 : Option Addr} {Ca3 : Nat} {Aa4 : Option Addr} {Ca4 : Nat} {Aa5 : Option Addr} {Ca5 : Nat} {Aa6 : Option Addr} {Ca6 : Nat} (Ga2 : Is K (.sl Yq6) [sl Aa2 xa.2.2.1 Ca2] xa.2.2.1) (Ga3 : Is K Yq8 [sl Aa3 xa.2.2.2.1 Ca3] xa.2.2.2.1) (Ga4 : Is K (.sl Yq1) [sl Aa4 xa.2.2.2.2.1 Ca4] xa.2.2.2.2.1) (Ga5 : Is K Yq5 [sl Aa5 xa.2.2.2.2.2.1 Ca5] xa.2.2.2.2.2.1) (Ga6 : Is K (.sl Yq4) [sl Aa6 xa.2.2.2.2.2.2 Ca6] xa.2.2.2.2.2.2) {r : Tq9} (h : fn_ref23_Arcs xa = some r) :
    Tr Tryz.prog 10 #[.agg #[ii xa.1, ii xa.2.1, sl Aa2 xa.2.2.1 Ca2, sl Aa3 xa.2.2.2.1 Ca3, sl Aa4 xa.2.2.2.2.1 Ca4, sl Aa5 xa.2.2.2.2.2.1 Ca5, sl Aa6 xa.2.2.2.2.2.2 Ca6]] K [] (fun v K' L' => (∃ (l7 : Tq9) (ad11 : Option Addr) (cp12 : Nat), l7 = r ∧ sl ad11 l7 cp12 = v ∧ L' = [Row Hp.nil 80 Yq6 (sl ad11 l7 cp12) l7]) ∧ K = K') := by
 refine Tr.k <| Tr.of func10 rfl ntmps10 rfl fun E F => ?_
 unfold fn_ref23_Arcs at h
 refine cr <| jbx [ii xa.1, ii xa.2.1, sl Aa2 xa.2.2.1 Ca2, sl Aa3 xa.2.2.2.1 Ca3, sl Aa4 xa.2.2.2.2.1 Ca4, sl Aa5 xa.2.2.2.2.2.1 Ca5, sl Aa6 xa.2.2.2.2.2.2 Ca6] rfl rfl fun b13 => ja (nos) rfl <| J.nil <| CJ.seq <| CJ.region ?_
 refine jv (.agg #[ii xa.1, ii xa.2.1, sl Aa2 xa.2.2.1 Ca2, sl Aa3 xa.2.2.2.1 Ca3, sl Aa4 xa.2.2.2.2.1 Ca4, sl Aa5 xa.2.2.2.2.2.1 Ca5, sl Aa6 xa.2.2.2.2.2.2 Ca6]) (V.ld rfl (Ld.agg (cs := [ii xa.1, ii xa.2.1, sl Aa2 xa.2.2.1 Ca2, sl Aa3 xa.2.2.2.1 Ca3, sl Aa4 xa.2.2.2.2.1 Ca4, sl Aa5 xa.2.2.2.2.2.1 Ca5, sl Aa6 xa.2.2.2.2.2.2 Ca6]) underlying30 sz30 rfl (Rd.cls 0 0 rfl rfl))) ?_
 obtain ⟨r14, hr15, h⟩ := ob h
 refine J.op rfl (A.call (L1 := []) call9 rfl (ref22_All_ok Ga2 Ga3 Ga4 Ga5 Ga6 hr15) rfl rfl) ?_
 rintro _ _ _ ⟨v17, _, rfl, ⟨⟨l18, ad19, cp20, rfl, rfl, rfl⟩, rfl⟩, _, rfl⟩
 refine J.wit Row.hn fun hn21 => ja (sl ad19 l18 cp20) rfl <| J.nil <| CJ.seq <| CJ.region ?_
 refine J.op rfl (A.lit (K0 := Hp.nil) (ty := Yq6) (xs := ([] : List (Int × Int))) underlying37 inf80 rfl (by decide) rfl rfl rfl rfl rfl (by decide)) ?_
 rintro _ _ _ ⟨b22, rfl, rfl, rfl⟩
 have hn23 : ([] : List (Int × Int)) ≠ [] → ∃ g, (some ⟨b22, 0, none⟩ : Option Addr) = some ⟨g, 0, none⟩ := fun _ => ⟨b22, rfl⟩
 refine ja (.slice (some ⟨b22, 0, none⟩) ((([] : List (Int × Int))).length) 0) rfl <| J.nil <| CJ.seq <| cr <| ja (ii 0) rfl <| J.nil ?_
 obtain ⟨o24, ho25, h⟩ := ob h
 refine CJ.meetN (fun ρ K' L' => ∃ (l26 : Tq9) (ad27 : Option Addr) (cp28 : Nat), l26 = o24 ∧ Fits [(4, sl ad27 l26 cp28)] ρ ∧ K = K' ∧ L' = Row Hp.nil 80 Yq6 (sl ad27 l26 cp28) l26 :: F) ?_ ?_
 · refine CJ.block <| CJ.front 1 rfl <| CJ.front 2 rfl <| CJ.loop (fun s ρ K' L' => ∃ (l29 : Tq9) (i31 : Int) (ad34 : Option Addr) (cp36 : Nat), (l29, i31) = s ∧ Fits [(1, pt b13), (3, sl ad19 l18 cp20), (4, sl ad34 l29 cp36), (5, ii i31)] ρ ∧ K = K' ∧ L' = Cl b13 30 [ii xa.1, ii xa.2.1, sl Aa2 xa.2.2.1 Ca2, sl Aa3 xa.2.2.2.1 Ca3, sl Aa4 xa.2.2.2.2.1 Ca4, sl Aa5 xa.2.2.2.2.2.1 Ca5, sl Aa6 xa.2.2.2.2.2.2 Ca6] :: Row Hp.nil 78 (.cons (.int .i64) Yq1) (sl ad19 l18 cp20) l18 :: Row Hp.nil 80 Yq6 (sl ad34 l29 cp36) l29 :: F) ho25 ⟨([] : List (Int × Int)), 0, (some ⟨b22, 0, none⟩), 0, rfl, rt4, rfl, rfl⟩ ?_
   rintro s ρ _ _ r38 ⟨l29, i31, ad34, cp36, rfl, hf39, rfl, rfl⟩ h40
   obtain ⟨ρ, rfl⟩ := hf39.ex
   refine CJ.front 2 rfl <| CJ.wit Row.hn fun hn41 => CJ.seq <| cr <| jm (ii i31) rfl <| jm (sl ad19 l18 cp20) rfl ?_
   refine jv (ii (((l18.length : Nat) : Int))) (V.len underlying35 rfl) <| jv (.bool (decide (i31 < (((l18.length : Nat) : Int))))) (V.lss rfl rfl) <| J.nil <| cc rfl h40 (fun hc42 h40 => ?_) fun hc42 h40 => ?_
   · refine CJ.skip <| CJ.seq <| CJ.block <| cr <| ja (ii 0) rfl <| J.nil ?_
     obtain ⟨o43, ho44, h40⟩ := ob h40
     refine CJ.meetN (fun ρ K' L' => ∃ (l45 : Tq9) (ad46 : Option Addr) (cp47 : Nat), l45 = o43 ∧ Fits [(1, pt b13), (3, sl ad19 l18 cp20), (4, sl ad46 l45 cp47), (5, ii i31)] ρ ∧ K = K' ∧ L' = Cl b13 30 [ii xa.1, ii xa.2.1, sl Aa2 xa.2.2.1 Ca2, sl Aa3 xa.2.2.2.1 Ca3, sl Aa4 xa.2.2.2.2.1 Ca4, sl Aa5 xa.2.2.2.2.2.1 Ca5, sl Aa6 xa.2.2.2.2.2.2 Ca6] :: Row Hp.nil 78 (.cons (.int .i64) Yq1) (sl ad19 l18 cp20) l18 :: Row Hp.nil 80 Yq6 (sl ad46 l45 cp47) l45 :: F) ?_ ?_
     · refine CJ.block <| CJ.front 2 rfl <| CJ.front 2 rfl <| CJ.loop (fun s ρ K' L' => ∃ (l48 : Tq9) (i49 : Int) (ad50 : Option Addr) (cp51 : Nat), (l48, i49) = s ∧ Fits [(1, pt b13), (3, sl ad19 l18 cp20), (4, sl ad50 l48 cp51), (5, ii i31), (6, ii i49)] ρ ∧ K = K' ∧ L' = Cl b13 30 [ii xa.1, ii xa.2.1, sl Aa2 xa.2.2.1 Ca2, sl Aa3 xa.2.2.2.1 Ca3, sl Aa4 xa.2.2.2.2.1 Ca4, sl Aa5 xa.2.2.2.2.2.1 Ca5, sl Aa6 xa.2.2.2.2.2.2 Ca6] :: Row Hp.nil 78 (.cons (.int .i64) Yq1) (sl ad19 l18 cp20) l18 :: Row Hp.nil 80 Yq6 (sl ad50 l48 cp51) l48 :: F) ho44 ⟨l29, 0, ad34, cp36, rfl, rt5, rfl, rfl⟩ ?_
       rintro s ρ _ _ r52 ⟨l48, i49, ad50, cp51, rfl, hf53, rfl, rfl⟩ h54
       obtain ⟨ρ, rfl⟩ := hf53.ex
       refine CJ.front 2 rfl <| CJ.wit Row.hn fun hn55 => CJ.seq <| cr <| jm (ii i49) rfl <| jm (sl ad19 l18 cp20) rfl ?_
       refine jv (ii (((l18.length : Nat) : Int))) (V.len underlying35 rfl) <| jv (.bool (decide (i49 < (((l18.length : Nat) : Int))))) (V.lss rfl rfl) <| J.nil <| cc rfl h54 (fun hc56 h54 => ?_) fun hc56 h54 => ?_
       · refine CJ.skip <| CJ.seq <| CJ.block <| cr <| jv (.agg #[ii xa.1, ii xa.2.1, sl Aa2 xa.2.2.1 Ca2, sl Aa3 xa.2.2.2.1 Ca3, sl Aa4 xa.2.2.2.2.1 Ca4, sl Aa5 xa.2.2.2.2.2.1 Ca5, sl Aa6 xa.2.2.2.2.2.2 Ca6]) (V.ld rfl (Ld.agg (cs := [ii xa.1, ii xa.2.1, sl Aa2 xa.2.2.1 Ca2, sl Aa3 xa.2.2.2.1 Ca3, sl Aa4 xa.2.2.2.2.1 Ca4, sl Aa5 xa.2.2.2.2.2.1 Ca5, sl Aa6 xa.2.2.2.2.2.2 Ca6]) underlying30 sz30 rfl (Rd.cls 1 0 rfl rfl))) <| jm (sl ad19 l18 cp20) rfl ?_
         refine jm (ii i31) rfl <| jm (ii i49) rfl ?_
         obtain ⟨r57, hr58, h54⟩ := ob h54
         refine J.front 2 rfl <| J.op rfl (A.call (L1 := [Row Hp.nil 78 (.cons (.int .i64) Yq1) (sl ad19 l18 cp20) l18]) call33 rfl (Tr.lend (Hp.nil_le _) (by decide) (fun K59 hK60 f61 => ref23_Goes_ok (Ga2.mono hK60) (Ga3.mono hK60) (Ga4.mono hK60) (Ga5.mono hK60) (Ga6.mono hK60) f61 hr58)) rfl rfl) ?_
         rintro _ _ _ ⟨v62, _, rfl, ⟨⟨_, ⟨t63, rfl, rfl, rfl⟩, rfl⟩, rfl⟩, _, rfl⟩
         refine J.nil <| cc rfl h54 (fun hc65 h54 => ?_) fun hc65 h54 => ?_
         · refine CJ.region <| jm (sl ad50 l48 cp51) rfl <| jm (ii i31) rfl <| jm (ii i49) rfl <| jv (.agg #[ii i31, ii i49]) (V.build inf80 places80 rfl rfl) ?_
           refine J.op rfl (A.lit (K0 := Hp.nil) (ty := Yq6) (xs := ([(i31, i49)] : List (Int × Int))) underlying37 inf80 rfl (by decide) rfl rfl rfl ⟨_, _, rfl, ⟨_, _, rfl, rfl, rfl, rfl⟩, rfl⟩ rfl (by decide)) ?_
           rintro _ _ _ ⟨b66, rfl, rfl, rfl⟩
           have hn67 : ([(i31, i49)] : List (Int × Int)) ≠ [] → ∃ g, (some ⟨b66, 0, none⟩ : Option Addr) = some ⟨g, 0, none⟩ := fun _ => ⟨b66, rfl⟩
           obtain ⟨z68, hz69, h54⟩ := ob h54
           refine J.front 2 rfl <| J.op rfl (A.appR (Kr := Hp.nil) underlying37 inf80 rfl rfl (by decide) (by decide) rfl rfl (Els.flat rfl) (Els.flat rfl) hz69) ?_
           rintro _ _ _ ⟨v70, rfl, rfl, rfl⟩
           refine J.wit Row.form ?_
           rintro ⟨ad71, cp72, rfl, _, _, hn73⟩
           refine ja (sl ad71 z68 cp72) rfl <| J.nil <| CJ.region <| jm (ii i49) rfl <| jv (ii (IntKind.wrap .i64 (i49 + 1))) (V.add rfl rfl) <| ja (ii (IntKind.wrap .i64 (i49 + 1))) rfl <| J.front 1 rfl ?_
           refine J.front 2 rfl <| J.nil ?_
           obtain rfl := si h54
           exact ⟨rfl, ⟨z68, IntKind.wrap .i64 (i49 + 1), ad71, cp72, rfl, rt5, rfl, rfl⟩⟩
         refine CJ.skip <| CJ.region <| jm (ii i49) rfl <| jv (ii (IntKind.wrap .i64 (i49 + 1))) (V.add rfl rfl) <| ja (ii (IntKind.wrap .i64 (i49 + 1))) rfl <| J.front 1 rfl <| J.front 1 rfl ?_
         refine J.front 2 rfl <| J.nil ?_
         obtain rfl := si h54
         exact ⟨rfl, ⟨l48, IntKind.wrap .i64 (i49 + 1), ad50, cp51, rfl, rt5, rfl, rfl⟩⟩
       refine CJ.front 2 rfl <| CJ.front 2 rfl <| CJ.exit ?_
       obtain rfl := si h54
       refine ⟨nofun, fun e => ?_⟩
       subst e
       exact ⟨rfl, ⟨l48, ad50, cp51, rfl, rt4, rfl, rfl⟩⟩
     rintro ρ _ _ ⟨l45, ad46, cp47, rfl, hf74, rfl, rfl⟩
     obtain ⟨ρ, rfl⟩ := hf74.ex
     refine PJ.front 2 rfl <| PJ.wit Row.hn fun hn75 => PJ.done <| CJ.region <| jm (ii i31) rfl <| jv (ii (IntKind.wrap .i64 (i31 + 1))) (V.add rfl rfl) <| ja (ii (IntKind.wrap .i64 (i31 + 1))) rfl ?_
     refine J.front 2 rfl <| J.front 2 rfl <| J.nil ?_
     obtain rfl := si h40
     exact ⟨rfl, ⟨l45, IntKind.wrap .i64 (i31 + 1), ad46, cp47, rfl, rt4, rfl, rfl⟩⟩
   refine CJ.dropAt 1 rfl <| CJ.dropAt 1 rfl <| CJ.exit ?_
   obtain rfl := si h40
   refine ⟨nofun, fun e => ?_⟩
   subst e
   exact ⟨rfl, ⟨l29, ad34, cp36, rfl, rt1, rfl, rfl⟩⟩
 rintro ρ _ _ ⟨l26, ad27, cp28, rfl, hf76, rfl, rfl⟩
 obtain ⟨ρ, rfl⟩ := hf76.ex
 refine PJ.wit Row.hn fun hn77 => PJ.done <| cr <| jm (sl ad27 l26 cp28) rfl <| ja (sl ad27 l26 cp28) rfl <| J.nil ?_
 refine CJ.ret ?_
 obtain rfl := si h
 exact ⟨_, _, Res.one rfl rfl, ⟨l26, ad27, cp28, rfl, rfl, rfl⟩, hpr, fun w hs => hs⟩

noncomputable def fn_graph_Graph_In (xa : (Option Tq3)) (xb : Int) : Option (List Int) :=
  (fn_graph_Graph_isNode xa xb).bind fun t48 => cond (!t48) (some ([])) ((xa : Option Tq3).bind fun y54 => (fn_graph_index_of (y54.2.2.2.1, y54.2.2.2.2) xb).bind fun l70 => (fn_slices_Clone_int_int l70).bind fun l79 => some (l79))
theorem graph_Graph_In_ok {K : Hp} {xa : (Option Tq3)} {xb : Int} {Wa0 : Value} (Ga0 : Is K (.ptr Yq3) [Wa0] xa) {r : (List Int)} (h : fn_graph_Graph_In xa xb = some r) :
    Tr Tryz.prog 36 #[Wa0, ii xb] K [] (fun v K' L' => (∃ (l41 : (List Int)) (ad42 : Option Addr) (cp43 : Nat), l41 = r ∧ sl ad42 l41 cp43 = v ∧ L' = [Row Hp.nil 3 (.int .i64) (sl ad42 l41 cp43) l41]) ∧ K = K') := by
 refine Tr.k <| Tr.of func36 rfl ntmps36 rfl fun E F => ?_
 unfold fn_graph_Graph_In at h
 refine cr <| ja (nos) rfl <| J.nil <| CJ.seq <| CJ.seq <| CJ.region ?_
 refine jm Wa0 rfl <| jm (ii xb) rfl ?_
 obtain ⟨r46, hr47, h⟩ := ob h
 refine J.op rfl (A.call (L1 := []) call55 rfl (graph_Graph_isNode_ok Ga0 hr47) rfl rfl) ?_
 rintro _ _ _ ⟨v49, _, rfl, ⟨⟨t48, rfl, rfl, rfl⟩, rfl⟩, _, rfl⟩
 refine jv (.bool (!t48)) (V.not rfl) <| J.nil <| cc rfl h (fun hc52 h => ?_) fun hc52 h => ?_
 · refine cr <| ja (nos) rfl <| J.nil <| CJ.by (fun w hs => Sep.rowNil (e := 3) (t := (.int .i64)) hs) <| CJ.ret ?_
   obtain rfl := si h
   exact ⟨_, _, Res.one rfl rfl, ⟨[], none, 0, rfl, rfl, rfl⟩, hpr, fun w hs => hs⟩
 refine CJ.skip <| cr <| jm Wa0 rfl ?_
 obtain ⟨y54, hy55, h⟩ := ob h
 obtain ⟨b56, o57, hv58, a59⟩ := Is.psome Ga0 hy55
 refine jv _ (V.nck hv58) <| jv _ (V.fad underlying97 rfl nz95 rfl) ?_
 obtain ⟨ad60, cp61, c62, f63⟩ := ((((((a59).snd).snd).snd).one).fst).sl
 obtain ⟨ad64, cp65, c66, f67⟩ := (((((((a59).snd).snd).snd).one).snd).one).sl
 refine jv (.agg #[sl ad60 y54.2.2.2.1 cp61, sl ad64 y54.2.2.2.2 cp65]) (V.ld rfl (Ld.aggK (cs := [sl ad60 y54.2.2.2.1 cp61, sl ad64 y54.2.2.2.2 cp65]) underlying95 sz95 rfl ⟨c62, c66, trivial⟩ hpr)) <| jm (ii xb) rfl ?_
 obtain ⟨r68, hr69, h⟩ := ob h
 refine J.op rfl (A.call (L1 := []) call56 rfl (graph_index_of_ok f63 f67 hr69) rfl rfl) ?_
 rintro _ K75 _ ⟨v74, _, rfl, ⟨l70, ad71, cp72, rfl, rfl, f73, rfl⟩, hK76, rfl⟩
 obtain ⟨r77, hr78, h⟩ := ob h
 refine J.op rfl (A.call (L1 := []) call42 rfl (slices_Clone_int_int_ok f73 hr78) rfl rfl) ?_
 rintro _ _ _ ⟨v83, _, rfl, ⟨⟨l79, ad80, cp81, rfl, rfl, rfl⟩, rfl⟩, _, rfl⟩
 refine J.wit Row.hn fun hn82 => ja (sl ad80 l79 cp81) rfl <| J.nil <| CJ.ret ?_
 obtain rfl := si h
 exact ⟨_, _, Res.one rfl rfl, ⟨l79, ad80, cp81, rfl, rfl, rfl⟩, hK76, fun w hs => hs⟩

noncomputable def fn_graph_Graph_Arcs (xa : (Option Tq3)) : Option Int :=
  cond (xa.isNone) (some (0)) ((xa : Option Tq3).bind fun y14 => some (((y14.2.1.length : Nat) : Int)))
theorem graph_Graph_Arcs_ok {K : Hp} {xa : (Option Tq3)} {Wa0 : Value} (Ga0 : Is K (.ptr Yq3) [Wa0] xa) {r : Int} (h : fn_graph_Graph_Arcs xa = some r) :
    Tr Tryz.prog 57 #[Wa0] K [] (fun v K' L' => (∃ (i12 : Int), i12 = r ∧ ii i12 = v ∧ L' = []) ∧ K = K') := by
 refine Tr.k <| Tr.of func57 rfl ntmps57 rfl fun E F => ?_
 unfold fn_graph_Graph_Arcs at h
 refine cr <| ja (ii 0) rfl <| J.nil <| CJ.seq <| CJ.seq <| CJ.region ?_
 refine jm Wa0 rfl <| jv (.bool xa.isNone) (V.kp_eql underlying71 Ga0 rfl rfl) <| J.nil <| cc rfl h (fun hc13 h => ?_) fun hc13 h => ?_
 · refine cr <| ja (ii 0) rfl <| J.nil <| CJ.ret ?_
   obtain rfl := si h
   exact ⟨_, _, Res.one rfl rfl, ⟨0, rfl, rfl, rfl⟩, hpr, fun w hs => hs⟩
 refine CJ.skip <| cr <| jm Wa0 rfl ?_
 obtain ⟨y14, hy15, h⟩ := ob h
 obtain ⟨b16, o17, hv18, a19⟩ := Is.psome Ga0 hy15
 refine jv _ (V.nck hv18) <| jv _ (V.fad underlying97 rfl nz64 rfl) ?_
 obtain ⟨ad20, cp21, c22, f23⟩ := (((a19).snd).fst).sl
 refine jv (sl ad20 y14.2.1 cp21) (V.ld rfl (Ld.sc sc64 (Rd.k c22 hpr))) <| jv (ii (((y14.2.1.length : Nat) : Int))) (V.len underlying64 rfl) <| ja (ii (((y14.2.1.length : Nat) : Int))) rfl <| J.nil <| CJ.ret ?_
 obtain rfl := si h
 exact ⟨_, _, Res.one rfl rfl, ⟨((y14.2.1.length : Nat) : Int), rfl, rfl, rfl⟩, hpr, fun w hs => hs⟩

noncomputable def fn_graph_Graph_Arc (xa : (Option Tq3)) (xb : Int) : Option Tq12 :=
  (cond (decide (xb < 0)) (some (true)) ((fn_graph_Graph_Arcs xa).bind fun i54 => some (decide (i54 ≤ xb)))).bind fun t49 => cond (t49) (some ((0, 0, false))) ((xa : Option Tq3).bind fun y59 => (getI y59.2.1 xb).bind fun x69 => some ((x69.1, x69.2, true)))
theorem graph_Graph_Arc_ok {K : Hp} {xa : (Option Tq3)} {xb : Int} {Wa0 : Value} (Ga0 : Is K (.ptr Yq3) [Wa0] xa) {r : Tq12} (h : fn_graph_Graph_Arc xa xb = some r) :
    Tr Tryz.prog 37 #[Wa0, ii xb] K [] (fun v K' L' => (∃ (i38 : Int) (i39 : Int) (t40 : Bool), (i38, i39, t40) = r ∧ .tuple #[.agg #[ii i38, ii i39], .bool t40] = v ∧ L' = []) ∧ K = K') := by
 refine Tr.k <| Tr.of func37 rfl ntmps37 rfl fun E F => ?_
 unfold fn_graph_Graph_Arc at h
 refine cr <| jal inf70 [ii 0, ii 0] rfl fun b41 => ja (.bool false) rfl <| J.nil <| CJ.seq <| CJ.seq ?_
 refine CJ.region <| jm (ii xb) rfl <| jv (.bool (decide (xb < 0))) (V.lss rfl rfl) <| jm (.bool (decide (xb < 0))) rfl <| J.cut 5 ?_
 obtain ⟨t49, ht50, h⟩ := ob h
 refine jmeet [(13, .bool t49), (0, Wa0), (1, ii xb), (4, pt b41)] ?_ ?_
 · rcases bt (decide (xb < 0)) with hc51 | hc51
   · have ht50 := ct hc51 ht50
     refine J.skip rfl rfl rfl rfl hc51 <| J.skip rfl rfl rfl rfl hc51 <| J.skip rfl rfl rfl rfl hc51 <| J.skip rfl rfl rfl rfl hc51 <| jv (.bool true) (V.pickT rfl hc51 rfl) <| J.nil ?_
     obtain rfl := si ht50
     exact ⟨rfl, rt4, rfl, rfl⟩
   have ht50 := cf hc51 ht50
   refine J.run rfl rfl rfl hc51 <| jm (ii xb) rfl <| J.run rfl rfl rfl hc51 <| jm Wa0 rfl <| J.run rfl rfl rfl hc51 ?_
   obtain ⟨r52, hr53, ht50⟩ := ob ht50
   refine J.op rfl (A.call (L1 := []) call57 rfl (graph_Graph_Arcs_ok Ga0 hr53) rfl rfl) ?_
   rintro _ _ _ ⟨v55, _, rfl, ⟨⟨i54, rfl, rfl, rfl⟩, rfl⟩, _, rfl⟩
   refine J.run rfl rfl rfl hc51 <| jv (.bool (decide (i54 ≤ xb))) (V.geq rfl rfl) <| jv (.bool (decide (i54 ≤ xb))) (V.pickF rfl hc51 rfl) <| J.nil ?_
   obtain rfl := si ht50
   exact ⟨rfl, rt4, rfl, rfl⟩
 intro ρ
 refine J.nil <| cc rfl h (fun hc58 h => ?_) fun hc58 h => ?_
 · refine cr <| jv (.agg #[ii 0, ii 0]) (V.build inf70 places70 rfl rfl) <| js [ii 0, ii 0] sz70 rfl rfl rfl rfl rfl rfl <| ja (.bool false) rfl <| J.nil <| CJ.ret ?_
   obtain rfl := si h
   exact ⟨_, _, Res.two rfl ⟨_, _, rfl, Ld.agg (cs := [ii 0, ii 0]) underlying70 sz70 rfl (Rd.cls 0 0 rfl rfl)⟩ rfl, ⟨0, 0, false, rfl, rfl, rfl⟩, hpr, fun w hs => (Sep.dropAt 0 rfl hs)⟩
 refine CJ.skip <| cr <| jm Wa0 rfl ?_
 obtain ⟨y59, hy60, h⟩ := ob h
 obtain ⟨b61, o62, hv63, a64⟩ := Is.psome Ga0 hy60
 refine jv _ (V.nck hv63) <| jv _ (V.fad underlying97 rfl nz64 rfl) ?_
 obtain ⟨ad65, cp66, c67, f68⟩ := (((a64).snd).fst).sl
 refine jv (sl ad65 y59.2.1 cp66) (V.ld rfl (Ld.sc sc64 (Rd.k c67 hpr))) <| jm (ii xb) rfl ?_
 obtain ⟨x69, hx70, h⟩ := ob h
 obtain ⟨p71, p72, p73⟩ := getI_some hx70
 obtain ⟨b74, o75, e76, a77⟩ := (f68).at p72
 refine jv _ (V.iad underlying64 sz70 rfl e76 rfl p71 p73) <| jv (.agg #[ii x69.1, ii x69.2]) (V.ld rfl (Ld.aggK (cs := [ii x69.1, ii x69.2]) underlying70 sz70 rfl ⟨((a77).fst).int, (((a77).snd).one).int, trivial⟩ hpr)) <| js [ii x69.1, ii x69.2] sz70 rfl rfl rfl rfl rfl rfl <| ja (.bool true) rfl <| J.nil <| CJ.ret ?_
 obtain rfl := si h
 exact ⟨_, _, Res.two rfl ⟨_, _, rfl, Ld.agg (cs := [ii x69.1, ii x69.2]) underlying70 sz70 rfl (Rd.cls 0 0 rfl rfl)⟩ rfl, ⟨x69.1, x69.2, true, rfl, rfl, rfl⟩, hpr, fun w hs => (Sep.dropAt 0 rfl hs)⟩
noncomputable def fn_flow_Flow_Back_l1 (xa : Tq7) (l1 : (List Int)) : Tq10 → Option (Tq10 ⊕ (List Int)) := fun ((l2, i3) : Tq10) => cond (decide (i3 < (((l1.length : Nat) : Int)))) ((getI l2 i3).bind fun x4 => (xa : Option ((Option Tq10) × (Option Tq3))).bind fun y5 => (fn_graph_Graph_Arc y5.2 x4).bind fun (i6, i7, t9) => (getI l2 i3).bind fun x10 => (some (l2.set i3.toNat i6)).bind fun z11 => some (.inl ((z11, IntKind.wrap .i64 (i3 + 1))))) (some (.inr (l2)))
noncomputable def fn_flow_Flow_Back (xa : Tq7) (xb : Int) : Option (List Int) :=
  (fn_flow_Flow_ways xa).bind fun p1 => (fn_graph_Graph_In p1 xb).bind fun l2 => (loop (fn_flow_Flow_Back_l1 xa l2) (l2, 0) : Option (List Int)).bind fun l3 => some (l3)
theorem flow_Flow_Back_ok {K : Hp} {xa : Tq7} {xb : Int} {Wa0 : Value} (Ga0 : Is K (.ptr (.cons Yq9 (.one (.ptr Yq3)))) [Wa0] xa) {r : (List Int)} (h : fn_flow_Flow_Back xa xb = some r) :
    Tr Tryz.prog 14 #[Wa0, ii xb] K [] (fun v K' L' => (∃ (l2 : (List Int)) (ad4 : Option Addr) (cp6 : Nat), l2 = r ∧ .slice ad4 l2.length cp6 = v ∧ L' = [Row Hp.nil 3 (.int .i64) (.slice ad4 l2.length cp6) l2]) ∧ K = K') := by
 refine Tr.k <| Tr.of func14 rfl ntmps14 rfl fun E F => ?_
 unfold fn_flow_Flow_Back at h
 refine cr <| ja (nos) rfl <| J.nil <| cr <| jm Wa0 rfl ?_
 obtain ⟨r7, hr9, h⟩ := ob h
 refine J.op rfl (A.call (L1 := []) call34 rfl (flow_Flow_ways_ok Ga0 hr9) rfl rfl) ?_
 rintro _ K10 _ ⟨v11, _, rfl, ⟨p12, v13, rfl, rfl, f15, rfl⟩, hK17, rfl⟩
 refine jm (ii xb) rfl ?_
 obtain ⟨r18, hr19, h⟩ := ob h
 refine J.op rfl (A.call (L1 := []) call36 rfl (graph_Graph_In_ok f15 hr19) rfl rfl) ?_
 rintro _ _ _ ⟨v20, _, rfl, ⟨⟨l21, ad22, cp23, rfl, rfl, rfl⟩, rfl⟩, _, rfl⟩
 refine J.wit Row.hn fun hn24 => ja (.slice ad22 l21.length cp23) rfl <| J.nil <| CJ.seq <| cr <| jm (.slice ad22 l21.length cp23) rfl ?_
 refine jv (ii (((l21.length : Nat) : Int))) (V.len underlying42 rfl) <| jm (ii 0) rfl <| J.nil ?_
 obtain ⟨o25, ho26, h⟩ := ob h
 refine CJ.meetN (fun ρ K' L' => ∃ (l27 : (List Int)) (ad28 : Option Addr) (cp29 : Nat), l27 = o25 ∧ Fits [(5, .slice ad28 l27.length cp29)] ρ ∧ K10 = K' ∧ L' = Row Hp.nil 3 (.int .i64) (.slice ad28 l27.length cp29) l27 :: F) ?_ ?_
 · refine CJ.block <| CJ.loop (fun s ρ K' L' => ∃ (l30 : (List Int)) (i31 : Int) (ad33 : Option Addr) (cp35 : Nat), (l30, i31) = s ∧ Fits [(0, Wa0), (5, .slice ad33 l30.length cp35), (14, .slice ad33 l30.length cp35), (15, ii (((l21.length : Nat) : Int))), (16, ii i31)] ρ ∧ K10 = K' ∧ L' = Row Hp.nil 3 (.int .i64) (.slice ad33 l30.length cp35) l30 :: F) ho26 ⟨l21, 0, ad22, cp23, rfl, rt5, rfl, rfl⟩ ?_
   rintro s ρ _ _ r38 ⟨l30, i31, ad33, cp35, rfl, hf39, rfl, rfl⟩ h40
   obtain ⟨ρ, rfl⟩ := hf39.ex
   refine CJ.wit Row.hn fun hn41 => cr <| jv (.bool (decide (i31 < (((l21.length : Nat) : Int))))) (V.lss rfl rfl) <| J.nil <| CJ.seq <| cc rfl h40 (fun hc43 h40 => ?_) fun hc43 h40 => ?_
   · refine CJ.skip <| CJ.seq <| CJ.block <| cr <| jm (ii i31) rfl ?_
     obtain ⟨x44, hx45, h40⟩ := ob h40
     obtain ⟨p46, p47, p48⟩ := getI_some hx45
     obtain ⟨g49, e50⟩ := hn41 (fun e => by rw [e] at p47; simp at p47)
     refine jv _ (V.iad underlying42 sz3 rfl e50 rfl p46 p48) <| jv (ii x44) (V.ld rfl (Ld.sc sc3 (Rd.row 0 rfl e50 p47 (q := 0) (by simp [Tp.size]) (by decide) (by rintro _ rfl; rfl)))) <| ja (ii i31) rfl <| ja (ii x44) rfl <| J.nil <| CJ.seq <| CJ.region ?_
     refine jm Wa0 rfl ?_
     obtain ⟨y51, hy52, h40⟩ := ob h40
     obtain ⟨b53, o54, hv55, a56⟩ := Is.psome (Ga0.mono hK17) hy52
     refine jv _ (V.nck hv55) <| jv _ (V.fad underlying76 rfl nz71 rfl) ?_
     obtain ⟨v57, c58, f59⟩ := (((a56).snd).one).ptr
     refine jv v57 (V.ld rfl (Ld.sc sc71 (Rd.k c58 hpr))) <| jm (ii x44) rfl ?_
     obtain ⟨r60, hr61, h40⟩ := ob h40
     refine J.op rfl (A.call (L1 := []) call37 rfl (graph_Graph_Arc_ok f59 hr61) rfl rfl) ?_
     rintro _ _ _ ⟨v62, _, rfl, ⟨⟨i63, i65, t66, rfl, rfl, rfl⟩, rfl⟩, _, rfl⟩
     refine jm (.tuple #[.agg #[ii i63, ii i65], .bool t66]) rfl <| jx (.agg #[ii i63, ii i65]) rfl rfl <| jx (.bool t66) rfl rfl <| jal inf70 [ii 0, ii 0] rfl fun b67 => js [ii i63, ii i65] sz70 rfl rfl rfl rfl rfl rfl <| ja (.bool t66) rfl <| J.nil ?_
     refine CJ.region <| jm (.slice ad33 l30.length cp35) rfl <| jm (ii i31) rfl <| jv _ (V.fad underlying70 rfl nz3 rfl) <| jv (ii i63) (V.ld rfl (Ld.sc sc3 (Rd.cl 0 rfl rfl))) ?_
     obtain ⟨x68, hx69, h40⟩ := ob h40
     obtain ⟨p72, p73, p74⟩ := getI_some hx69
     obtain ⟨g75, e77⟩ := hn41 (fun e => by rw [e] at p73; simp at p73)
     refine jv _ (V.iad underlying42 sz3 rfl e77 rfl p72 p74) <| J.front 1 rfl ?_
     obtain ⟨z78, hz79, h40⟩ := ob h40
     have e80 := Option.some.inj hz79
     have hl81 : z78.length = l30.length := by rw [← e80, List.length_set]
     refine J.op rfl (A.storeR (ty := (.int .i64)) (q := 0) (y0 := i63) (zs := z78) sz3 rfl rfl rfl rfl e77 p73 (by simp [Tp.size]) (by decide) (by rintro _ rfl; exact rfl) e80) ?_
     rintro _ _ _ ⟨rfl, rfl, rfl⟩
     have hn82 : z78 ≠ [] → _ := fun h => hn41 (fun e => h (List.length_eq_zero_iff.1 (by rw [hl81]; exact List.length_eq_zero_iff.2 e)))
     refine J.nil <| CJ.region <| jv (ii (IntKind.wrap .i64 (i31 + 1))) (V.add rfl rfl) <| jm (ii (IntKind.wrap .i64 (i31 + 1))) rfl <| J.dropAt 1 rfl <| J.nil ?_
     obtain rfl := si h40
     exact ⟨rfl, ⟨z78, IntKind.wrap .i64 (i31 + 1), ad33, cp35, rfl, ⟨rfl, (by rw [hl81]; rfl), (by rw [hl81]; rfl), rfl, rfl, trivial⟩, rfl, (by rw [hl81]; first | done | rfl)⟩⟩
   refine CJ.exit ?_
   obtain rfl := si h40
   refine ⟨nofun, fun e => ?_⟩
   subst e
   exact ⟨rfl, ⟨l30, ad33, cp35, rfl, rt1, rfl, rfl⟩⟩
 rintro ρ _ _ ⟨l27, ad28, cp29, rfl, hf83, rfl, rfl⟩
 obtain ⟨ρ, rfl⟩ := hf83.ex
 refine PJ.wit Row.hn fun hn84 => PJ.done <| cr <| jm (.slice ad28 l27.length cp29) rfl <| ja (.slice ad28 l27.length cp29) rfl <| J.nil ?_
 refine CJ.ret ?_
 obtain rfl := si h
 exact ⟨_, _, Res.one rfl rfl, ⟨l27, ad28, cp29, rfl, rfl, rfl⟩, hK17, fun w hs => hs⟩
noncomputable def fn_graph_Graph_Reach_l1 (y1 : Tq3) (l2 : (List Int)) : ((List Bool) × (List Int) × Int) → Option (((List Bool) × (List Int) × Int) ⊕ ((List Bool) × (List Int))) := fun ((l3, l4, i5) : ((List Bool) × (List Int) × Int)) => cond (decide (i5 < (((l2.length : Nat) : Int)))) ((getI l2 i5).bind fun x6 => (getI y1.2.1 x6).bind fun x7 => (getI l3 x7.2).bind fun x9 => cond (!x9) ((getI l3 x7.2).bind fun x10 => (some (l3.set x7.2.toNat true)).bind fun z11 => (app l4 ([x7.2] : List Int)).bind fun z12 => some (.inl ((z11, z12, IntKind.wrap .i64 (i5 + 1))))) (some (.inl ((l3, l4, IntKind.wrap .i64 (i5 + 1)))))) (some (.inr (((l3, l4)))))
noncomputable def fn_graph_Graph_Reach_l2 (y1 : Tq3) : ((List Bool) × (List Int) × Int) → Option (((List Bool) × (List Int) × Int) ⊕ (List Int)) := fun ((l2, l3, i4) : ((List Bool) × (List Int) × Int)) => cond (decide (i4 < (((l3.length : Nat) : Int)))) ((getI l3 i4).bind fun x5 => (fn_graph_index_of (y1.2.2.1.1, y1.2.2.1.2) x5).bind fun l6 => (loop (fn_graph_Graph_Reach_l1 y1 l6) (l2, l3, 0) : Option (((List Bool) × (List Int)))).bind fun (l7, l9) => some (.inl ((l7, l9, IntKind.wrap .i64 (i4 + 1))))) (some (.inr (l3)))
noncomputable def fn_graph_Graph_Reach (xa : (Option Tq3)) (xb : Int) : Option (List Int) :=
  (fn_graph_Graph_isNode xa xb).bind fun t1 => cond (!t1) (some ([])) ((xa : Option Tq3).bind fun y2 => (mk y2.1 y2.1 false : Option (List Bool)).bind fun z3 => (getI z3 xb).bind fun x4 => (some (z3.set xb.toNat true)).bind fun z5 => (loop (fn_graph_Graph_Reach_l2 y2) ((z5, ([xb] : List Int), 0)) : Option (List Int)).bind fun l6 => (srt l6).bind fun l7 => some (l7))
theorem graph_Graph_Reach_ok {K : Hp} {xa : (Option Tq3)} {xb : Int} {Wa0 : Value} (Ga0 : Is K (.ptr Yq3) [Wa0] xa) {r : (List Int)} (h : fn_graph_Graph_Reach xa xb = some r) :
    Tr Tryz.prog 38 #[Wa0, ii xb] K [] (fun v K' L' => (∃ (l2 : (List Int)) (ad5 : Option Addr) (cp6 : Nat), l2 = r ∧ .slice ad5 l2.length cp6 = v ∧ L' = [Row Hp.nil 3 (.int .i64) (.slice ad5 l2.length cp6) l2]) ∧ K = K') := by
 refine Tr.k <| Tr.of func38 rfl ntmps38 rfl fun E F => ?_
 unfold fn_graph_Graph_Reach at h
 refine cr <| ja (nos) rfl <| J.nil <| CJ.seq <| CJ.seq <| CJ.region ?_
 refine jm Wa0 rfl <| jm (ii xb) rfl ?_
 obtain ⟨r9, hr10, h⟩ := ob h
 refine J.op rfl (A.call (L1 := []) call55 rfl (graph_Graph_isNode_ok Ga0 hr10) rfl rfl) ?_
 rintro _ _ _ ⟨v11, _, rfl, ⟨⟨t12, rfl, rfl, rfl⟩, rfl⟩, _, rfl⟩
 refine jv (.bool (!t12)) (V.not rfl) <| J.nil <| cc rfl h (fun hc13 h => ?_) fun hc13 h => ?_
 · refine cr <| ja (nos) rfl <| J.nil <| CJ.by (fun w hs => Sep.rowNil (e := 3) (t := (.int .i64)) hs) <| CJ.ret ?_
   obtain rfl := si h
   exact ⟨_, _, Res.one rfl rfl, ⟨[], none, 0, rfl, rfl, rfl⟩, hpr, fun w hs => hs⟩
 refine CJ.skip <| cr <| jm Wa0 rfl ?_
 obtain ⟨y14, hy15, h⟩ := ob h
 obtain ⟨b17, o18, hv19, a20⟩ := Is.psome Ga0 hy15
 refine jv _ (V.nck hv19) <| jv _ (V.fad underlying97 rfl nz3 rfl) <| jv (ii y14.1) (V.ld rfl (Ld.sc sc3 (Rd.k ((a20).fst).int hpr))) ?_
 obtain ⟨z21, hz22, h⟩ := ob h
 refine J.op rfl (A.make (K0 := Hp.nil) (ty := .bool) (x0 := false) underlying87 inf4 rfl rfl (by decide) (by decide) rfl rfl hz22) ?_
 rintro _ _ _ ⟨b23, rfl, rfl, rfl⟩
 have hn24 : z21 ≠ [] → ∃ g, (some ⟨b23, 0, none⟩ : Option Addr) = some ⟨g, 0, none⟩ := fun _ => ⟨b23, rfl⟩
 refine ja (.slice (some ⟨b23, 0, none⟩) z21.length y14.1.toNat) rfl <| J.nil <| cr <| jm (.slice (some ⟨b23, 0, none⟩) z21.length y14.1.toNat) rfl <| jm (ii xb) rfl ?_
 obtain ⟨x25, hx26, h⟩ := ob h
 obtain ⟨p27, p28, p29⟩ := getI_some hx26
 obtain ⟨g30, e31⟩ := hn24 (fun e => by rw [e] at p28; simp at p28)
 refine jv _ (V.iad underlying87 sz4 rfl e31 rfl p27 p29) ?_
 obtain ⟨z33, hz34, h⟩ := ob h
 have e35 := Option.some.inj hz34
 have hl36 : z33.length = z21.length := by rw [← e35, List.length_set]
 refine J.op rfl (A.storeR (ty := .bool) (q := 0) (y0 := true) (zs := z33) sz4 rfl rfl rfl rfl e31 p28 (by simp [Tp.size]) (by decide) (by rintro _ rfl; exact rfl) e35) ?_
 rintro _ _ _ ⟨rfl, rfl, rfl⟩
 have hn37 : z33 ≠ [] → _ := fun h => hn24 (fun e => h (List.length_eq_zero_iff.1 (by rw [hl36]; exact List.length_eq_zero_iff.2 e)))
 refine J.nil <| cr <| jm (ii xb) rfl ?_
 refine J.op rfl (A.lit (K0 := Hp.nil) (ty := (.int .i64)) (xs := ([xb] : List Int)) underlying42 inf3 rfl (by decide) rfl rfl rfl ⟨_, _, rfl, rfl, rfl⟩ rfl (by decide)) ?_
 rintro _ _ _ ⟨b39, rfl, rfl, rfl⟩
 have hn40 : ([xb] : List Int) ≠ [] → ∃ g, (some ⟨b39, 0, none⟩ : Option Addr) = some ⟨g, 0, none⟩ := fun _ => ⟨b39, rfl⟩
 refine ja (.slice (some ⟨b39, 0, none⟩) (([xb] : List Int).length) 1) rfl <| J.nil <| CJ.seq <| cr <| ja (ii 0) rfl <| J.nil ?_
 obtain ⟨o41, ho43, h⟩ := ob h
 refine CJ.meetN (fun ρ K' L' => ∃ (l44 : (List Int)) (ad45 : Option Addr) (cp47 : Nat), l44 = o41 ∧ Fits [(6, .slice ad45 l44.length cp47)] ρ ∧ Hp.le K K' ∧ L' = Row Hp.nil 3 (.int .i64) (.slice ad45 l44.length cp47) l44 :: F) ?_ ?_
 · refine CJ.block <| CJ.front 1 rfl <| CJ.loop (fun s ρ K' L' => ∃ (l48 : (List Bool)) (l49 : (List Int)) (i50 : Int) (ad51 : Option Addr) (cp52 : Nat) (ad53 : Option Addr) (cp54 : Nat), (l48, l49, i50) = s ∧ Fits [(0, Wa0), (5, .slice ad51 l48.length cp52), (6, .slice ad53 l49.length cp54), (7, ii i50)] ρ ∧ Hp.le K K' ∧ L' = Row Hp.nil 4 .bool (.slice ad51 l48.length cp52) l48 :: Row Hp.nil 3 (.int .i64) (.slice ad53 l49.length cp54) l49 :: F) ho43 ⟨z33, ([xb] : List Int), 0, (some ⟨b23, 0, none⟩), y14.1.toNat, (some ⟨b39, 0, none⟩), 1, rfl, ⟨rfl, (by rw [hl36]; rfl), rfl, rfl, trivial⟩, hpr, (by rw [hl36]; first | done | rfl)⟩ ?_
   rintro s ρ K57 _ r58 ⟨l48, l49, i50, ad51, cp52, ad53, cp54, rfl, hf59, hk60, rfl⟩ h61
   obtain ⟨ρ, rfl⟩ := hf59.ex
   refine CJ.wit Row.hn fun hn62 => CJ.front 1 rfl <| CJ.wit Row.hn fun hn63 => CJ.seq <| cr <| jm (ii i50) rfl ?_
   refine jm (.slice ad53 l49.length cp54) rfl <| jv (ii (((l49.length : Nat) : Int))) (V.len underlying42 rfl) <| jv (.bool (decide (i50 < (((l49.length : Nat) : Int))))) (V.lss rfl rfl) <| J.nil <| cc rfl h61 (fun hc65 h61 => ?_) fun hc65 h61 => ?_
   · refine CJ.skip <| CJ.seq <| CJ.block <| CJ.seq <| CJ.mix [Row Hp.nil 3 (.int .i64) (.slice ad53 l49.length cp54) l49, Row Hp.nil 4 .bool (.slice ad51 l48.length cp52) l48] [([0, 1, 2, 3, 4, 5, 6, 7, 10], 8)] [9] [] mixO (by decide +kernel) ⟨0, rfl, 0, rfl, trivial⟩ rfl rfl rfl <| JM.cons <| qm Wa0 rfl ?_
     refine qv _ (V.nck hv19) <| qv _ (V.fad underlying97 rfl nz95 rfl) ?_
     obtain ⟨ad66, cp67, c68, f69⟩ := (((((a20).snd).snd).fst).fst).sl
     obtain ⟨ad71, cp72, c73, f74⟩ := ((((((a20).snd).snd).fst).snd).one).sl
     refine qv (.agg #[.slice ad66 y14.2.2.1.1.length cp67, .slice ad71 y14.2.2.1.2.length cp72]) (V.ld rfl (Ld.aggK (cs := [.slice ad66 y14.2.2.1.1.length cp67, .slice ad71 y14.2.2.1.2.length cp72]) underlying95 sz95 rfl ⟨c68, c73, trivial⟩ hk60)) <| qm (.slice ad53 l49.length cp54) rfl <| qm (ii i50) rfl ?_
     obtain ⟨x75, hx76, h61⟩ := ob h61
     obtain ⟨p77, p78, p79⟩ := getI_some hx76
     obtain ⟨g80, e81⟩ := hn63 (fun e => by rw [e] at p78; simp at p78)
     refine qv _ (V.iad underlying42 sz3 rfl e81 rfl p77 p79) <| qv (ii x75) (V.ld rfl (Ld.sc sc3 (Rd.row 0 rfl e81 p78 (q := 0) (by simp [Tp.size]) (by decide) (by rintro _ rfl; rfl)))) <| qm (ii 0) rfl <| JQ.nil ?_
     obtain ⟨r82, hr83, h61⟩ := ob h61
     refine JA.op rfl (A.call (L1 := []) call56 rfl (graph_index_of_ok (f69.mono hk60) (f74.mono hk60) hr83) rfl rfl) ?_
     rintro _ K84 _ ⟨v85, _, rfl, ⟨l86, ad88, cp89, rfl, rfl, f90, rfl⟩, hK91, rfl⟩
     refine ⟨fun w hs => Hold.sub hK91 ⟨0, rfl, 0, rfl, trivial⟩ hs, ?_⟩
     refine JM.nil <| qv (ii (((l86.length : Nat) : Int))) (V.len underlying42 rfl) <| JQ.nil <| J.nil ?_
     obtain ⟨o92, ho93, h61⟩ := ob h61
     refine CJ.meetN (fun ρ K' L' => ∃ (l94 : (List Bool)) (l96 : (List Int)) (ad98 : Option Addr) (cp99 : Nat) (ad100 : Option Addr) (cp101 : Nat), (l94, l96) = o92 ∧ Fits [(0, Wa0), (5, .slice ad98 l94.length cp99), (6, .slice ad100 l96.length cp101), (7, ii i50)] ρ ∧ K84 = K' ∧ L' = Row Hp.nil 4 .bool (.slice ad98 l94.length cp99) l94 :: Row Hp.nil 3 (.int .i64) (.slice ad100 l96.length cp101) l96 :: F) ?_ ?_
     · refine CJ.block <| CJ.front 1 rfl <| CJ.loop (fun s ρ K' L' => ∃ (l102 : (List Bool)) (l103 : (List Int)) (i104 : Int) (ad105 : Option Addr) (cp106 : Nat) (ad107 : Option Addr) (cp108 : Nat), (l102, l103, i104) = s ∧ Fits [(0, Wa0), (5, .slice ad105 l102.length cp106), (6, .slice ad107 l103.length cp108), (7, ii i50), (39, .slice ad88 l86.length cp89), (40, ii (((l86.length : Nat) : Int))), (41, ii i104)] ρ ∧ K84 = K' ∧ L' = Row Hp.nil 4 .bool (.slice ad105 l102.length cp106) l102 :: Row Hp.nil 3 (.int .i64) (.slice ad107 l103.length cp108) l103 :: F) ho93 ⟨l48, l49, 0, ad51, cp52, ad53, cp54, rfl, rt7, rfl, rfl⟩ ?_
       rintro s ρ _ _ r109 ⟨l102, l103, i104, ad105, cp106, ad107, cp108, rfl, hf110, rfl, rfl⟩ h111
       obtain ⟨ρ, rfl⟩ := hf110.ex
       refine CJ.wit Row.hn fun hn112 => CJ.front 1 rfl <| CJ.wit Row.hn fun hn113 => cr <| jv (.bool (decide (i104 < (((l86.length : Nat) : Int))))) (V.lss rfl rfl) <| J.nil ?_
       refine CJ.seq <| cc rfl h111 (fun hc114 h111 => ?_) fun hc114 h111 => ?_
       · refine CJ.skip <| CJ.seq <| CJ.block <| CJ.seq <| CJ.region ?_
         obtain ⟨x115, hx116, h111⟩ := ob h111
         obtain ⟨p117, p118, p119⟩ := getI_some hx116
         obtain ⟨b120, o121, e122, a123⟩ := (f90).at p118
         refine jv _ (V.iad underlying42 sz3 rfl e122 rfl p117 p119) <| jv (ii x115) (V.ld rfl (Ld.sc sc3 (Rd.k (a123).int hpr))) <| ja (ii x115) rfl <| J.nil <| cr <| jm Wa0 rfl ?_
         refine jv _ (V.nck hv19) <| jv _ (V.fad underlying97 rfl nz64 rfl) ?_
         obtain ⟨ad124, cp125, c126, f127⟩ := (((a20).snd).fst).sl
         refine jv (.slice ad124 y14.2.1.length cp125) (V.ld rfl (Ld.sc sc64 (Rd.k c126 (hk60.trans hK91)))) <| jm (ii x115) rfl ?_
         obtain ⟨x128, hx129, h111⟩ := ob h111
         obtain ⟨p130, p131, p132⟩ := getI_some hx129
         obtain ⟨b133, o134, e135, a136⟩ := ((f127.mono (hk60.trans hK91))).at p131
         refine jv _ (V.iad underlying64 sz70 rfl e135 rfl p130 p132) <| jv _ (V.fad underlying70 rfl nz3 rfl) <| jv (ii x128.2) (V.ld rfl (Ld.sc sc3 (Rd.k (((a136).snd).one).int hpr))) <| ja (ii x128.2) rfl <| J.nil <| CJ.seq <| CJ.region ?_
         refine jm (.slice ad105 l102.length cp106) rfl <| jm (ii x128.2) rfl ?_
         obtain ⟨x137, hx138, h111⟩ := ob h111
         obtain ⟨p139, p140, p141⟩ := getI_some hx138
         obtain ⟨g142, e143⟩ := hn112 (fun e => by rw [e] at p140; simp at p140)
         refine jv _ (V.iad underlying87 sz4 rfl e143 rfl p139 p141) <| jv (.bool x137) (V.ld rfl (Ld.sc sc4 (Rd.row 1 rfl e143 p140 (q := 0) (by simp [Tp.size]) (by decide) (by rintro _ rfl; rfl)))) <| jv (.bool (!x137)) (V.not rfl) <| J.nil <| cc rfl h111 (fun hc144 h111 => ?_) fun hc144 h111 => ?_
         · refine cr <| jm (.slice ad105 l102.length cp106) rfl <| jm (ii x128.2) rfl ?_
           obtain ⟨x145, hx146, h111⟩ := ob h111
           obtain ⟨p147, p148, p149⟩ := getI_some hx146
           obtain ⟨g150, e151⟩ := hn112 (fun e => by rw [e] at p148; simp at p148)
           refine jv _ (V.iad underlying87 sz4 rfl e151 rfl p147 p149) <| J.front 1 rfl ?_
           obtain ⟨z152, hz153, h111⟩ := ob h111
           have e154 := Option.some.inj hz153
           have hl155 : z152.length = l102.length := by rw [← e154, List.length_set]
           refine J.op rfl (A.storeR (ty := .bool) (q := 0) (y0 := true) (zs := z152) sz4 rfl rfl rfl rfl e151 p148 (by simp [Tp.size]) (by decide) (by rintro _ rfl; exact rfl) e154) ?_
           rintro _ _ _ ⟨rfl, rfl, rfl⟩
           have hn156 : z152 ≠ [] → _ := fun h => hn112 (fun e => h (List.length_eq_zero_iff.1 (by rw [hl155]; exact List.length_eq_zero_iff.2 e)))
           refine J.nil <| CJ.region <| jm (.slice ad107 l103.length cp108) rfl <| jm (ii x128.2) rfl ?_
           refine J.op rfl (A.lit (K0 := Hp.nil) (ty := (.int .i64)) (xs := ([x128.2] : List Int)) underlying42 inf3 rfl (by decide) rfl rfl rfl ⟨_, _, rfl, rfl, rfl⟩ rfl (by decide)) ?_
           rintro _ _ _ ⟨b157, rfl, rfl, rfl⟩
           have hn158 : ([x128.2] : List Int) ≠ [] → ∃ g, (some ⟨b157, 0, none⟩ : Option Addr) = some ⟨g, 0, none⟩ := fun _ => ⟨b157, rfl⟩
           obtain ⟨z159, hz160, h111⟩ := ob h111
           refine J.front 2 rfl <| J.op rfl (A.appR (Kr := Hp.nil) underlying42 inf3 rfl rfl (by decide) (by decide) rfl rfl (Els.flat rfl) (Els.flat rfl) hz160) ?_
           rintro _ _ _ ⟨v161, rfl, rfl, rfl⟩
           refine J.wit Row.form ?_
           rintro ⟨ad162, cp163, rfl, _, _, hn164⟩
           refine ja (.slice ad162 z159.length cp163) rfl <| J.nil <| CJ.region <| jv (ii (IntKind.wrap .i64 (i104 + 1))) (V.add rfl rfl) <| jm (ii (IntKind.wrap .i64 (i104 + 1))) rfl <| J.front 1 rfl <| J.nil ?_
           obtain rfl := si h111
           exact ⟨rfl, ⟨z152, z159, IntKind.wrap .i64 (i104 + 1), ad105, cp106, ad162, cp163, rfl, ⟨rfl, (by rw [hl155]; rfl), rfl, rfl, rfl, rfl, rfl, trivial⟩, rfl, (by rw [hl155]; first | done | rfl)⟩⟩
         refine CJ.skip <| CJ.region <| jv (ii (IntKind.wrap .i64 (i104 + 1))) (V.add rfl rfl) <| jm (ii (IntKind.wrap .i64 (i104 + 1))) rfl <| J.front 1 rfl <| J.nil ?_
         obtain rfl := si h111
         exact ⟨rfl, ⟨l102, l103, IntKind.wrap .i64 (i104 + 1), ad105, cp106, ad107, cp108, rfl, rt7, rfl, rfl⟩⟩
       refine CJ.front 1 rfl <| CJ.exit ?_
       obtain rfl := si h111
       refine ⟨nofun, fun e => ?_⟩
       subst e
       exact ⟨rfl, ⟨l102, l103, ad105, cp106, ad107, cp108, rfl, rt4, rfl, rfl⟩⟩
     rintro ρ _ _ ⟨l94, l96, ad98, cp99, ad100, cp101, rfl, hf165, rfl, rfl⟩
     obtain ⟨ρ, rfl⟩ := hf165.ex
     refine PJ.wit Row.hn fun hn166 => PJ.front 1 rfl <| PJ.wit Row.hn fun hn167 => PJ.done <| CJ.region <| jm (ii i50) rfl <| jv (ii (IntKind.wrap .i64 (i50 + 1))) (V.add rfl rfl) ?_
     refine ja (ii (IntKind.wrap .i64 (i50 + 1))) rfl <| J.front 1 rfl <| J.nil ?_
     obtain rfl := si h61
     exact ⟨rfl, ⟨l94, l96, IntKind.wrap .i64 (i50 + 1), ad98, cp99, ad100, cp101, rfl, rt4, (hk60.trans hK91), rfl⟩⟩
   refine CJ.dropAt 1 rfl <| CJ.exit ?_
   obtain rfl := si h61
   refine ⟨nofun, fun e => ?_⟩
   subst e
   exact ⟨rfl, ⟨l49, ad53, cp54, rfl, rt1, hk60, rfl⟩⟩
 rintro ρ K168 _ ⟨l44, ad45, cp47, rfl, hf169, hk170, rfl⟩
 obtain ⟨ρ, rfl⟩ := hf169.ex
 refine PJ.wit Row.hn fun hn171 => PJ.done <| cr <| jm (.slice ad45 l44.length cp47) rfl ?_
 obtain ⟨r172, hr173, h⟩ := ob h
 refine J.op rfl (A.call (L1 := [Row Hp.nil 3 (.int .i64) (.slice ad45 l44.length cp47) l44]) call46 rfl (slices_Sort_ok hr173) rfl rfl) ?_
 rintro _ _ _ ⟨v174, _, rfl, ⟨⟨l175, rfl, rfl, rfl⟩, rfl⟩, _, rfl⟩
 refine J.wit Row.hn fun hn176 => J.wit Row.len fun hl177 => J.nil <| cr <| jm (.slice ad45 l44.length cp47) rfl <| ja (.slice ad45 l44.length cp47) rfl ?_
 refine J.nil <| CJ.ret ?_
 obtain rfl := si h
 exact ⟨_, [Row Hp.nil 3 (.int .i64) (.slice ad45 l44.length cp47) l175], Res.one rfl rfl, ⟨l175, ad45, cp47, rfl, (by first | rfl | (rw [hl177]; first | done | rfl)), (by first | rfl | (rw [hl177]; first | done | rfl))⟩, hk170, fun w hs => hs⟩

noncomputable def fn_flow_Flow_Reached (xa : Tq7) : Option (List Int) :=
  (fn_flow_Flow_ways xa).bind fun p26 => (fn_graph_Graph_Reach p26 0).bind fun l34 => some (l34)
theorem flow_Flow_Reached_ok {K : Hp} {xa : Tq7} {Wa0 : Value} (Ga0 : Is K (.ptr (.cons Yq9 (.one (.ptr Yq3)))) [Wa0] xa) {r : (List Int)} (h : fn_flow_Flow_Reached xa = some r) :
    Tr Tryz.prog 15 #[Wa0] K [] (fun v K' L' => (∃ (l19 : (List Int)) (ad20 : Option Addr) (cp21 : Nat), l19 = r ∧ sl ad20 l19 cp21 = v ∧ L' = [Row Hp.nil 3 (.int .i64) (sl ad20 l19 cp21) l19]) ∧ K = K') := by
 refine Tr.k <| Tr.of func15 rfl ntmps15 rfl fun E F => ?_
 unfold fn_flow_Flow_Reached at h
 refine cr <| ja (nos) rfl <| J.nil <| cr <| jm Wa0 rfl ?_
 obtain ⟨r24, hr25, h⟩ := ob h
 refine J.op rfl (A.call (L1 := []) call34 rfl (flow_Flow_ways_ok Ga0 hr25) rfl rfl) ?_
 rintro _ K30 _ ⟨v29, _, rfl, ⟨p26, v27, rfl, rfl, f28, rfl⟩, hK31, rfl⟩
 obtain ⟨r32, hr33, h⟩ := ob h
 refine J.op rfl (A.call (L1 := []) call38 rfl (graph_Graph_Reach_ok f28 hr33) rfl rfl) ?_
 rintro _ _ _ ⟨v38, _, rfl, ⟨⟨l34, ad35, cp36, rfl, rfl, rfl⟩, rfl⟩, _, rfl⟩
 refine J.wit Row.hn fun hn37 => ja (sl ad35 l34 cp36) rfl <| J.nil <| CJ.ret ?_
 obtain rfl := si h
 exact ⟨_, _, Res.one rfl rfl, ⟨l34, ad35, cp36, rfl, rfl, rfl⟩, hK31, fun w hs => hs⟩
noncomputable def fn_flow_Flow_Stops_l1 (xa : Tq7) (i1 : Int) : Tq10 → Option (Tq10 ⊕ (List Int)) := fun ((l2, i3) : Tq10) => cond (decide (i3 < i1)) ((fn_flow_Flow_Next xa i3).bind fun l4 => cond (decide ((((l4.length : Nat) : Int)) = 0)) ((app l2 ([i3] : List Int)).bind fun z5 => some (.inl ((z5, IntKind.wrap .i64 (i3 + 1))))) (some (.inl ((l2, IntKind.wrap .i64 (i3 + 1)))))) (some (.inr (l2)))
noncomputable def fn_flow_Flow_Stops (xa : Tq7) : Option (List Int) :=
  (fn_flow_Flow_ways xa).bind fun p1 => (fn_graph_Graph_Nodes p1).bind fun i2 => (loop (fn_flow_Flow_Stops_l1 xa i2) ([], 0) : Option (List Int)).bind fun l3 => some (l3)
theorem flow_Flow_Stops_ok {K : Hp} {xa : Tq7} {Wa0 : Value} (Ga0 : Is K (.ptr (.cons Yq9 (.one (.ptr Yq3)))) [Wa0] xa) {r : (List Int)} (h : fn_flow_Flow_Stops xa = some r) :
    Tr Tryz.prog 16 #[Wa0] K [] (fun v K' L' => (∃ (l2 : (List Int)) (ad5 : Option Addr) (cp6 : Nat), l2 = r ∧ sl ad5 l2 cp6 = v ∧ L' = [Row Hp.nil 3 (.int .i64) (sl ad5 l2 cp6) l2]) ∧ K = K') := by
 refine Tr.k <| Tr.of func16 rfl ntmps16 rfl fun E F => ?_
 unfold fn_flow_Flow_Stops at h
 refine cr <| ja (nos) rfl <| J.nil <| cr <| ja (nos) rfl ?_
 refine J.nil <| CJ.seq <| cr <| jm Wa0 rfl ?_
 obtain ⟨r7, hr9, h⟩ := ob h
 refine J.op rfl (A.call (L1 := []) call34 rfl (flow_Flow_ways_ok Ga0 hr9) rfl rfl) ?_
 rintro _ K10 _ ⟨v11, _, rfl, ⟨p12, v14, rfl, rfl, f15, rfl⟩, hK17, rfl⟩
 obtain ⟨r18, hr19, h⟩ := ob h
 refine J.op rfl (A.call (L1 := []) call39 rfl (graph_Graph_Nodes_ok f15 hr19) rfl rfl) ?_
 rintro _ _ _ ⟨v20, _, rfl, ⟨⟨i21, rfl, rfl, rfl⟩, rfl⟩, _, rfl⟩
 refine jm (ii 0) rfl <| J.nil ?_
 obtain ⟨o22, ho23, h⟩ := ob h
 refine CJ.meetN (fun ρ K' L' => ∃ (l24 : (List Int)) (ad25 : Option Addr) (cp26 : Nat), l24 = o22 ∧ Fits [(3, sl ad25 l24 cp26)] ρ ∧ K10 = K' ∧ L' = Row Hp.nil 3 (.int .i64) (sl ad25 l24 cp26) l24 :: F) ?_ ?_
 · refine CJ.block <| CJ.by (fun w hs => Sep.rowNil (e := 3) (t := (.int .i64)) hs) <| CJ.loop (fun s ρ K' L' => ∃ (l27 : (List Int)) (i28 : Int) (ad29 : Option Addr) (cp30 : Nat), (l27, i28) = s ∧ Fits [(0, Wa0), (3, sl ad29 l27 cp30), (7, ii i21), (8, ii i28)] ρ ∧ K10 = K' ∧ L' = Row Hp.nil 3 (.int .i64) (sl ad29 l27 cp30) l27 :: F) ho23 ⟨[], 0, none, 0, rfl, rt4, rfl, rfl⟩ ?_
   rintro s ρ _ _ r31 ⟨l27, i28, ad29, cp30, rfl, hf33, rfl, rfl⟩ h35
   obtain ⟨ρ, rfl⟩ := hf33.ex
   refine CJ.wit Row.hn fun hn36 => cr <| jv (.bool (decide (i28 < i21))) (V.lss rfl rfl) <| J.nil <| CJ.seq <| cc rfl h35 (fun hc37 h35 => ?_) fun hc37 h35 => ?_
   · refine CJ.skip <| CJ.seq <| CJ.block <| cr <| jm (ii i28) rfl <| ja (ii i28) rfl ?_
     refine J.nil <| cr <| jm Wa0 rfl <| jm (ii i28) rfl ?_
     obtain ⟨r38, hr40, h35⟩ := ob h35
     refine J.op rfl (A.call (L1 := []) call13 rfl (flow_Flow_Next_ok (Ga0.mono hK17) hr40) rfl rfl) ?_
     rintro _ _ _ ⟨v41, _, rfl, ⟨⟨l43, ad44, cp45, rfl, rfl, rfl⟩, rfl⟩, _, rfl⟩
     refine J.wit Row.hn fun hn46 => jv (ii (((l43.length : Nat) : Int))) (V.len underlying42 rfl) <| jv (.bool (decide ((((l43.length : Nat) : Int)) = 0))) (V.eql rfl rfl) <| J.nil <| cc rfl h35 (fun hc47 h35 => ?_) fun hc47 h35 => ?_
     · refine CJ.region <| jm (sl ad29 l27 cp30) rfl <| jm (ii i28) rfl ?_
       refine J.op rfl (A.lit (K0 := Hp.nil) (ty := (.int .i64)) (xs := ([i28] : List Int)) underlying42 inf3 rfl (by decide) rfl rfl rfl ⟨_, _, rfl, rfl, rfl⟩ rfl (by decide)) ?_
       rintro _ _ _ ⟨b48, rfl, rfl, rfl⟩
       have hn49 : ([i28] : List Int) ≠ [] → ∃ g, (some ⟨b48, 0, none⟩ : Option Addr) = some ⟨g, 0, none⟩ := fun _ => ⟨b48, rfl⟩
       obtain ⟨z50, hz51, h35⟩ := ob h35
       refine J.front 2 rfl <| J.op rfl (A.appR (Kr := Hp.nil) underlying42 inf3 rfl rfl (by decide) (by decide) rfl rfl (Els.flat rfl) (Els.flat rfl) hz51) ?_
       rintro _ _ _ ⟨v52, rfl, rfl, rfl⟩
       refine J.wit Row.form ?_
       rintro ⟨ad53, cp54, rfl, _, _, hn55⟩
       refine ja (sl ad53 z50 cp54) rfl <| J.nil <| CJ.region <| jv (ii (IntKind.wrap .i64 (i28 + 1))) (V.add rfl rfl) <| jm (ii (IntKind.wrap .i64 (i28 + 1))) rfl <| J.dropAt 1 rfl <| J.nil ?_
       obtain rfl := si h35
       exact ⟨rfl, ⟨z50, IntKind.wrap .i64 (i28 + 1), ad53, cp54, rfl, rt4, rfl, rfl⟩⟩
     refine CJ.skip <| CJ.region <| jv (ii (IntKind.wrap .i64 (i28 + 1))) (V.add rfl rfl) <| jm (ii (IntKind.wrap .i64 (i28 + 1))) rfl <| J.dropAt 0 rfl <| J.nil ?_
     obtain rfl := si h35
     exact ⟨rfl, ⟨l27, IntKind.wrap .i64 (i28 + 1), ad29, cp30, rfl, rt4, rfl, rfl⟩⟩
   refine CJ.exit ?_
   obtain rfl := si h35
   refine ⟨nofun, fun e => ?_⟩
   subst e
   exact ⟨rfl, ⟨l27, ad29, cp30, rfl, rt1, rfl, rfl⟩⟩
 rintro ρ _ _ ⟨l24, ad25, cp26, rfl, hf56, rfl, rfl⟩
 obtain ⟨ρ, rfl⟩ := hf56.ex
 refine PJ.wit Row.hn fun hn57 => PJ.done <| cr <| jm (sl ad25 l24 cp26) rfl <| ja (sl ad25 l24 cp26) rfl <| J.nil ?_
 refine CJ.ret ?_
 obtain rfl := si h
 exact ⟨_, _, Res.one rfl rfl, ⟨l24, ad25, cp26, rfl, rfl, rfl⟩, hK17, fun w hs => hs⟩
noncomputable def fn_ref10_Reach_l1 (xb : Tq9) : ((List Int) × Bool × Int) → Option (((List Int) × Bool × Int) ⊕ ((List Int) × Bool)) := fun ((l1, t2, i3) : ((List Int) × Bool × Int)) => cond (decide (i3 < (((xb.length : Nat) : Int)))) ((getI xb i3).bind fun x4 => (getI l1 x4.1).bind fun x5 => (cond (decide (x5 = 1)) ((getI xb i3).bind fun x6 => (getI l1 x6.2).bind fun x7 => some (decide (x7 = 0))) (some (false))).bind fun t9 => cond (t9) ((getI xb i3).bind fun x10 => (getI l1 x10.2).bind fun x11 => (some (l1.set x10.2.toNat 1)).bind fun z12 => some (.inl ((z12, true, IntKind.wrap .i64 (i3 + 1))))) (some (.inl ((l1, t2, IntKind.wrap .i64 (i3 + 1)))))) (some (.inr (((l1, t2)))))
noncomputable def fn_ref10_Reach_l2 (xb : Tq9) : ((List Int) × Bool) → Option (((List Int) × Bool) ⊕ (List Int)) := fun ((l1, t2) : ((List Int) × Bool)) => cond (t2) ((loop (fn_ref10_Reach_l1 xb) (l1, false, 0) : Option (((List Int) × Bool))).bind fun (l3, t4) => some (.inl (l3, t4))) (some (.inr (l1)))
noncomputable def fn_ref10_Reach (xa : Int) (xb : Tq9) (xc : Int) : Option (List Int) :=
  (mk xa xa 0 : Option (List Int)).bind fun z1 => (getI z1 xc).bind fun x2 => (some (z1.set xc.toNat 1)).bind fun z3 => (loop (fn_ref10_Reach_l2 xb) (z3, true) : Option (List Int)).bind fun l4 => some (l4)
theorem ref10_Reach_ok {K : Hp} {xa : Int} {xb : Tq9} {xc : Int} {Ab0 : Option Addr} {Cb0 : Nat} (Gb0 : Is K (.sl Yq6) [.slice Ab0 xb.length Cb0] xb) {r : (List Int)} (h : fn_ref10_Reach xa xb xc = some r) :
    Tr Tryz.prog 22 #[ii xa, .slice Ab0 xb.length Cb0, ii xc] K [] (fun v K' L' => (∃ (l2 : (List Int)) (ad6 : Option Addr) (cp7 : Nat), l2 = r ∧ .slice ad6 l2.length cp7 = v ∧ L' = [Row Hp.nil 3 (.int .i64) (.slice ad6 l2.length cp7) l2]) ∧ K = K') := by
 refine Tr.k <| Tr.of func22 rfl ntmps22 rfl fun E F => ?_
 unfold fn_ref10_Reach at h
 refine cr <| ja (nos) rfl <| J.nil <| cr <| jm (ii xa) rfl ?_
 obtain ⟨z9, hz10, h⟩ := ob h
 refine J.op rfl (A.make (K0 := Hp.nil) (ty := (.int .i64)) (x0 := 0) underlying42 inf3 rfl rfl (by decide) (by decide) rfl rfl hz10) ?_
 rintro _ _ _ ⟨b11, rfl, rfl, rfl⟩
 have hn12 : z9 ≠ [] → ∃ g, (some ⟨b11, 0, none⟩ : Option Addr) = some ⟨g, 0, none⟩ := fun _ => ⟨b11, rfl⟩
 refine ja (.slice (some ⟨b11, 0, none⟩) z9.length xa.toNat) rfl <| J.nil <| cr <| jm (.slice (some ⟨b11, 0, none⟩) z9.length xa.toNat) rfl <| jm (ii xc) rfl ?_
 obtain ⟨x13, hx14, h⟩ := ob h
 obtain ⟨p15, p17, p18⟩ := getI_some hx14
 obtain ⟨g19, e20⟩ := hn12 (fun e => by rw [e] at p17; simp at p17)
 refine jv _ (V.iad underlying42 sz3 rfl e20 rfl p15 p18) ?_
 obtain ⟨z21, hz23, h⟩ := ob h
 have e24 := Option.some.inj hz23
 have hl25 : z21.length = z9.length := by rw [← e24, List.length_set]
 refine J.op rfl (A.storeR (ty := (.int .i64)) (q := 0) (y0 := 1) (zs := z21) sz3 rfl rfl rfl rfl e20 p17 (by simp [Tp.size]) (by decide) (by rintro _ rfl; exact rfl) e24) ?_
 rintro _ _ _ ⟨rfl, rfl, rfl⟩
 have hn26 : z21 ≠ [] → _ := fun h => hn12 (fun e => h (List.length_eq_zero_iff.1 (by rw [hl25]; exact List.length_eq_zero_iff.2 e)))
 refine J.nil <| CJ.seq <| cr <| ja (.bool true) rfl <| J.nil ?_
 obtain ⟨o27, ho28, h⟩ := ob h
 refine CJ.meetN (fun ρ K' L' => ∃ (l29 : (List Int)) (ad30 : Option Addr) (cp31 : Nat), l29 = o27 ∧ Fits [(7, .slice ad30 l29.length cp31)] ρ ∧ K = K' ∧ L' = Row Hp.nil 3 (.int .i64) (.slice ad30 l29.length cp31) l29 :: F) ?_ ?_
 · refine CJ.block <| CJ.loop (fun s ρ K' L' => ∃ (l33 : (List Int)) (t34 : Bool) (ad35 : Option Addr) (cp36 : Nat), (l33, t34) = s ∧ Fits [(1, .slice Ab0 xb.length Cb0), (7, .slice ad35 l33.length cp36), (8, .bool t34)] ρ ∧ K = K' ∧ L' = Row Hp.nil 3 (.int .i64) (.slice ad35 l33.length cp36) l33 :: F) ho28 ⟨z21, true, (some ⟨b11, 0, none⟩), xa.toNat, rfl, ⟨rfl, (by rw [hl25]; rfl), rfl, trivial⟩, rfl, (by rw [hl25]; first | done | rfl)⟩ ?_
   rintro s ρ _ _ r38 ⟨l33, t34, ad35, cp36, rfl, hf39, rfl, rfl⟩ h40
   obtain ⟨ρ, rfl⟩ := hf39.ex
   refine CJ.wit Row.hn fun hn41 => CJ.seq <| cr <| jm (.bool t34) rfl <| J.nil <| cc rfl h40 (fun hc43 h40 => ?_) fun hc43 h40 => ?_
   · refine CJ.skip <| CJ.block <| cr <| ja (.bool false) rfl <| J.nil <| CJ.seq ?_
     refine CJ.region <| ja (ii 0) rfl <| J.nil ?_
     obtain ⟨o44, ho45, h40⟩ := ob h40
     refine CJ.meetN (fun ρ K' L' => ∃ (l46 : (List Int)) (t47 : Bool) (ad48 : Option Addr) (cp49 : Nat), (l46, t47) = o44 ∧ Fits [(1, .slice Ab0 xb.length Cb0), (7, .slice ad48 l46.length cp49), (8, .bool t47)] ρ ∧ K = K' ∧ L' = Row Hp.nil 3 (.int .i64) (.slice ad48 l46.length cp49) l46 :: F) ?_ ?_
     · refine CJ.block <| CJ.loop (fun s ρ K' L' => ∃ (l50 : (List Int)) (t51 : Bool) (i52 : Int) (ad53 : Option Addr) (cp54 : Nat), (l50, t51, i52) = s ∧ Fits [(1, .slice Ab0 xb.length Cb0), (7, .slice ad53 l50.length cp54), (8, .bool t51), (9, ii i52)] ρ ∧ K = K' ∧ L' = Row Hp.nil 3 (.int .i64) (.slice ad53 l50.length cp54) l50 :: F) ho45 ⟨l33, false, 0, ad35, cp36, rfl, rt4, rfl, rfl⟩ ?_
       rintro s ρ _ _ r55 ⟨l50, t51, i52, ad53, cp54, rfl, hf56, rfl, rfl⟩ h57
       obtain ⟨ρ, rfl⟩ := hf56.ex
       refine CJ.wit Row.hn fun hn58 => CJ.seq <| cr <| jm (ii i52) rfl <| jm (.slice Ab0 xb.length Cb0) rfl <| jv (ii (((xb.length : Nat) : Int))) (V.len underlying37 rfl) ?_
       refine jv (.bool (decide (i52 < (((xb.length : Nat) : Int))))) (V.lss rfl rfl) <| J.nil <| cc rfl h57 (fun hc59 h57 => ?_) fun hc59 h57 => ?_
       · refine CJ.skip <| CJ.seq <| CJ.block <| cr <| jm (.slice ad53 l50.length cp54) rfl <| jm (.slice Ab0 xb.length Cb0) rfl ?_
         refine jm (ii i52) rfl ?_
         obtain ⟨x60, hx61, h57⟩ := ob h57
         obtain ⟨p62, p63, p65⟩ := getI_some hx61
         obtain ⟨b66, o67, e68, a69⟩ := (Gb0).at p63
         refine jv _ (V.iad underlying37 sz80 rfl e68 rfl p62 p65) <| jv _ (V.fad underlying80 rfl nz3 rfl) <| jv (ii x60.1) (V.ld rfl (Ld.sc sc3 (Rd.k ((a69).fst).int hpr))) ?_
         obtain ⟨x70, hx71, h57⟩ := ob h57
         obtain ⟨p72, p73, p74⟩ := getI_some hx71
         obtain ⟨g75, e76⟩ := hn58 (fun e => by rw [e] at p73; simp at p73)
         refine jv _ (V.iad underlying42 sz3 rfl e76 rfl p72 p74) <| jv (ii x70) (V.ld rfl (Ld.sc sc3 (Rd.row 0 rfl e76 p73 (q := 0) (by simp [Tp.size]) (by decide) (by rintro _ rfl; rfl)))) <| jv (.bool (decide (x70 = 1))) (V.eql rfl rfl) <| jm (.bool (decide (x70 = 1))) rfl <| J.cut 10 ?_
         obtain ⟨t77, ht78, h57⟩ := ob h57
         refine jmeet [(41, .bool t77), (1, .slice Ab0 xb.length Cb0), (7, .slice ad53 l50.length cp54), (8, .bool t51), (9, ii i52)] ?_ ?_
         · rcases bt (decide (x70 = 1)) with hc79 | hc79
           · have ht78 := ct hc79 ht78
             refine J.run rfl rfl rfl hc79 <| jm (.slice ad53 l50.length cp54) rfl <| J.run rfl rfl rfl hc79 <| jm (.slice Ab0 xb.length Cb0) rfl <| J.run rfl rfl rfl hc79 <| jm (ii i52) rfl <| J.run rfl rfl rfl hc79 ?_
             obtain ⟨x81, hx82, ht78⟩ := ob ht78
             obtain ⟨p83, p84, p85⟩ := getI_some hx82
             obtain ⟨b86, o87, e88, a89⟩ := (Gb0).at p84
             refine jv _ (V.iad underlying37 sz80 rfl e88 rfl p83 p85) <| J.run rfl rfl rfl hc79 <| jv _ (V.fad underlying80 rfl nz3 rfl) <| J.run rfl rfl rfl hc79 <| jv (ii x81.2) (V.ld rfl (Ld.sc sc3 (Rd.k (((a89).snd).one).int hpr))) <| J.run rfl rfl rfl hc79 ?_
             obtain ⟨x90, hx91, ht78⟩ := ob ht78
             obtain ⟨p92, p93, p94⟩ := getI_some hx91
             obtain ⟨g95, e96⟩ := hn58 (fun e => by rw [e] at p93; simp at p93)
             refine jv _ (V.iad underlying42 sz3 rfl e96 rfl p92 p94) <| J.run rfl rfl rfl hc79 <| jv (ii x90) (V.ld rfl (Ld.sc sc3 (Rd.row 0 rfl e96 p93 (q := 0) (by simp [Tp.size]) (by decide) (by rintro _ rfl; rfl)))) <| J.run rfl rfl rfl hc79 <| jv (.bool (decide (x90 = 0))) (V.eql rfl rfl) <| jv (.bool (decide (x90 = 0))) (V.pickT rfl hc79 rfl) <| J.nil ?_
             obtain rfl := si ht78
             exact ⟨rfl, rt5, rfl, rfl⟩
           have ht78 := cf hc79 ht78
           refine J.skip rfl rfl rfl rfl hc79 <| J.skip rfl rfl rfl rfl hc79 <| J.skip rfl rfl rfl rfl hc79 <| J.skip rfl rfl rfl rfl hc79 <| J.skip rfl rfl rfl rfl hc79 <| J.skip rfl rfl rfl rfl hc79 <| J.skip rfl rfl rfl rfl hc79 ?_
           refine J.skip rfl rfl rfl rfl hc79 <| J.skip rfl rfl rfl rfl hc79 <| jv (.bool false) (V.pickF rfl hc79 rfl) <| J.nil ?_
           obtain rfl := si ht78
           exact ⟨rfl, rt5, rfl, rfl⟩
         intro ρ
         refine J.nil <| cc rfl h57 (fun hc97 h57 => ?_) fun hc97 h57 => ?_
         · refine cr <| jm (.slice ad53 l50.length cp54) rfl <| jm (.slice Ab0 xb.length Cb0) rfl <| jm (ii i52) rfl ?_
           obtain ⟨x98, hx99, h57⟩ := ob h57
           obtain ⟨p100, p101, p102⟩ := getI_some hx99
           obtain ⟨b103, o104, e105, a106⟩ := (Gb0).at p101
           refine jv _ (V.iad underlying37 sz80 rfl e105 rfl p100 p102) <| jv _ (V.fad underlying80 rfl nz3 rfl) <| jv (ii x98.2) (V.ld rfl (Ld.sc sc3 (Rd.k (((a106).snd).one).int hpr))) ?_
           obtain ⟨x107, hx108, h57⟩ := ob h57
           obtain ⟨p109, p110, p111⟩ := getI_some hx108
           obtain ⟨g112, e113⟩ := hn58 (fun e => by rw [e] at p110; simp at p110)
           refine jv _ (V.iad underlying42 sz3 rfl e113 rfl p109 p111) ?_
           obtain ⟨z114, hz115, h57⟩ := ob h57
           have e116 := Option.some.inj hz115
           have hl117 : z114.length = l50.length := by rw [← e116, List.length_set]
           refine J.op rfl (A.storeR (ty := (.int .i64)) (q := 0) (y0 := 1) (zs := z114) sz3 rfl rfl rfl rfl e113 p110 (by simp [Tp.size]) (by decide) (by rintro _ rfl; exact rfl) e116) ?_
           rintro _ _ _ ⟨rfl, rfl, rfl⟩
           have hn118 : z114 ≠ [] → _ := fun h => hn58 (fun e => h (List.length_eq_zero_iff.1 (by rw [hl117]; exact List.length_eq_zero_iff.2 e)))
           refine J.nil <| CJ.region <| ja (.bool true) rfl <| J.nil <| CJ.region <| jm (ii i52) rfl <| jv (ii (IntKind.wrap .i64 (i52 + 1))) (V.add rfl rfl) ?_
           refine ja (ii (IntKind.wrap .i64 (i52 + 1))) rfl <| J.nil ?_
           obtain rfl := si h57
           exact ⟨rfl, ⟨z114, true, IntKind.wrap .i64 (i52 + 1), ad53, cp54, rfl, ⟨rfl, (by rw [hl117]; rfl), rfl, rfl, trivial⟩, rfl, (by rw [hl117]; first | done | rfl)⟩⟩
         refine CJ.skip <| CJ.region <| jm (ii i52) rfl <| jv (ii (IntKind.wrap .i64 (i52 + 1))) (V.add rfl rfl) <| ja (ii (IntKind.wrap .i64 (i52 + 1))) rfl <| J.nil ?_
         obtain rfl := si h57
         exact ⟨rfl, ⟨l50, t51, IntKind.wrap .i64 (i52 + 1), ad53, cp54, rfl, rt4, rfl, rfl⟩⟩
       refine CJ.exit ?_
       obtain rfl := si h57
       refine ⟨nofun, fun e => ?_⟩
       subst e
       exact ⟨rfl, ⟨l50, t51, ad53, cp54, rfl, rt3, rfl, rfl⟩⟩
     rintro ρ _ _ ⟨l46, t47, ad48, cp49, rfl, hf119, rfl, rfl⟩
     obtain ⟨ρ, rfl⟩ := hf119.ex
     refine PJ.wit Row.hn fun hn120 => PJ.done ?_
     obtain rfl := si h40
     exact ⟨rfl, ⟨l46, t47, ad48, cp49, rfl, rt3, rfl, rfl⟩⟩
   refine CJ.exit ?_
   obtain rfl := si h40
   refine ⟨nofun, fun e => ?_⟩
   subst e
   exact ⟨rfl, ⟨l33, ad35, cp36, rfl, rt1, rfl, rfl⟩⟩
 rintro ρ _ _ ⟨l29, ad30, cp31, rfl, hf121, rfl, rfl⟩
 obtain ⟨ρ, rfl⟩ := hf121.ex
 refine PJ.wit Row.hn fun hn122 => PJ.done <| cr <| jm (.slice ad30 l29.length cp31) rfl <| ja (.slice ad30 l29.length cp31) rfl <| J.nil ?_
 refine CJ.ret ?_
 obtain rfl := si h
 exact ⟨_, _, Res.one rfl rfl, ⟨l29, ad30, cp31, rfl, rfl, rfl⟩, hpr, fun w hs => hs⟩
end Go.Proofs.YtbennpandomacaaGreat
