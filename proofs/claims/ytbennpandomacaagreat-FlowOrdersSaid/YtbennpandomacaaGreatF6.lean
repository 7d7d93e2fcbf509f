/- What Go functions answer: generated. -/
import Derived.Test.YtbennpandomacaaGreatF5
namespace Go.Proofs.YtbennpandomacaaGreat
open Go.RowKit _root_.Go.Proofs.Tryz
set_option linter.unusedVariables false
set_option linter.unnecessarySimpa false
set_option linter.unusedSimpArgs false
set_option maxRecDepth 100000
set_option maxHeartbeats 4000000
noncomputable def fn_ref23_Arcs_l1 (xa : Tq1) (l1 : (List Tq11)) (i2 : Int) : (Tq8 × Int) → Option ((Tq8 × Int) ⊕ Tq8) := fun ((l3, i4) : (Tq8 × Int)) => cond (decide (i4 < (((l1.length : Nat) : Int)))) ((fn_ref23_Goes (xa.1, xa.2.1, xa.2.2.1, xa.2.2.2.1, xa.2.2.2.2.1, xa.2.2.2.2.2.1, xa.2.2.2.2.2.2) l1 i2 i4).bind fun t5 => cond (t5) ((app l3 (([(i2, i4)] : List (Int × Int)))).bind fun z6 => some (.inl ((z6, IntKind.wrap .i64 (i4 + 1))))) (some (.inl ((l3, IntKind.wrap .i64 (i4 + 1)))))) (some (.inr (l3)))
noncomputable def fn_ref23_Arcs_l2 (xa : Tq1) (l1 : (List Tq11)) : (Tq8 × Int) → Option ((Tq8 × Int) ⊕ Tq8) := fun ((l2, i3) : (Tq8 × Int)) => cond (decide (i3 < (((l1.length : Nat) : Int)))) ((loop (fn_ref23_Arcs_l1 xa l1 i3) (l2, 0) : Option (Tq8)).bind fun l4 => some (.inl ((l4, IntKind.wrap .i64 (i3 + 1))))) (some (.inr (l2)))
noncomputable def fn_ref23_Arcs (xa : Tq1) : Option (Tq8) :=
  (fn_ref22_All (xa.1, xa.2.1, xa.2.2.1, xa.2.2.2.1, xa.2.2.2.2.1, xa.2.2.2.2.2.1, xa.2.2.2.2.2.2)).bind fun l1 => (loop (fn_ref23_Arcs_l2 xa l1) ((([] : List (Int × Int)), 0)) : Option (Tq8)).bind fun l2 => some (l2)
theorem ref23_Arcs_ok {K : Hp} {xa : Tq1} {Aa2 : Option Addr} {Ca2 : Nat} {Aa3 : Option Addr} {Ca3 : Nat} {Aa4 : Option Addr} {Ca4 : Nat} {Aa5 : Option Addr} {Ca5 : Nat} {Aa6 : Option Addr} {Ca6 : Nat} (Ga2 : Is K (.sl Yq5) [sl Aa2 xa.2.2.1 Ca2] xa.2.2.1) (Ga3 : Is K Yq8 [sl Aa3 xa.2.2.2.1 Ca3] xa.2.2.2.1) (Ga4 : Is K (.sl Yq1) [sl Aa4 xa.2.2.2.2.1 Ca4] xa.2.2.2.2.1) (Ga5 : Is K Yq4 [sl Aa5 xa.2.2.2.2.2.1 Ca5] xa.2.2.2.2.2.1) (Ga6 : Is K (.sl Yq3) [sl Aa6 xa.2.2.2.2.2.2 Ca6] xa.2.2.2.2.2.2) {r : Tq8} (h : fn_ref23_Arcs xa = some r) :
    Tr Tryz.prog 10 #[.agg #[ii xa.1, ii xa.2.1, sl Aa2 xa.2.2.1 Ca2, sl Aa3 xa.2.2.2.1 Ca3, sl Aa4 xa.2.2.2.2.1 Ca4, sl Aa5 xa.2.2.2.2.2.1 Ca5, sl Aa6 xa.2.2.2.2.2.2 Ca6]] K [] (fun v K' L' => (∃ (l7 : Tq8) (ad11 : Option Addr) (cp12 : Nat), l7 = r ∧ sl ad11 l7 cp12 = v ∧ L' = [Row Hp.nil 80 Yq5 (sl ad11 l7 cp12) l7]) ∧ K = K') := by
 refine Tr.k <| Tr.of func10 rfl ntmps10 rfl fun E F => ?_
 unfold fn_ref23_Arcs at h
 refine cr <| jbx [ii xa.1, ii xa.2.1, sl Aa2 xa.2.2.1 Ca2, sl Aa3 xa.2.2.2.1 Ca3, sl Aa4 xa.2.2.2.2.1 Ca4, sl Aa5 xa.2.2.2.2.2.1 Ca5, sl Aa6 xa.2.2.2.2.2.2 Ca6] rfl rfl fun b13 => ja (nos) rfl <| J.nil <| CJ.seq <| CJ.region ?_
 refine jv (.agg #[ii xa.1, ii xa.2.1, sl Aa2 xa.2.2.1 Ca2, sl Aa3 xa.2.2.2.1 Ca3, sl Aa4 xa.2.2.2.2.1 Ca4, sl Aa5 xa.2.2.2.2.2.1 Ca5, sl Aa6 xa.2.2.2.2.2.2 Ca6]) (V.ld rfl (Ld.agg (cs := [ii xa.1, ii xa.2.1, sl Aa2 xa.2.2.1 Ca2, sl Aa3 xa.2.2.2.1 Ca3, sl Aa4 xa.2.2.2.2.1 Ca4, sl Aa5 xa.2.2.2.2.2.1 Ca5, sl Aa6 xa.2.2.2.2.2.2 Ca6]) underlying30 sz30 rfl (Rd.cls 0 0 rfl rfl))) ?_
 obtain ⟨r14, hr15, h⟩ := ob h
 refine J.op rfl (A.call (L1 := []) call9 rfl (ref22_All_ok Ga2 Ga3 Ga4 Ga5 Ga6 hr15) rfl rfl) ?_
 rintro _ _ _ ⟨v17, _, rfl, ⟨⟨l18, ad19, cp20, rfl, rfl, rfl⟩, rfl⟩, _, rfl⟩
 refine J.wit Row.hn fun hn21 => ja (sl ad19 l18 cp20) rfl <| J.nil <| CJ.seq <| CJ.region ?_
 refine J.op rfl (A.lit (K0 := Hp.nil) (ty := Yq5) (xs := ([] : List (Int × Int))) underlying37 inf80 rfl (by decide) rfl rfl rfl rfl rfl (by decide)) ?_
 rintro _ _ _ ⟨b22, rfl, rfl, rfl⟩
 have hn23 : ([] : List (Int × Int)) ≠ [] → ∃ g, (some ⟨b22, 0, none⟩ : Option Addr) = some ⟨g, 0, none⟩ := fun _ => ⟨b22, rfl⟩
 refine ja (.slice (some ⟨b22, 0, none⟩) ((([] : List (Int × Int))).length) 0) rfl <| J.nil <| CJ.seq <| cr <| ja (ii 0) rfl <| J.nil ?_
 obtain ⟨o24, ho25, h⟩ := ob h
 refine CJ.meetN (fun ρ K' L' => ∃ (l26 : Tq8) (ad27 : Option Addr) (cp28 : Nat), l26 = o24 ∧ Fits [(4, sl ad27 l26 cp28)] ρ ∧ K = K' ∧ L' = Row Hp.nil 80 Yq5 (sl ad27 l26 cp28) l26 :: F) ?_ ?_
 · refine CJ.block <| CJ.front 1 rfl <| CJ.front 2 rfl <| CJ.loop (fun s ρ K' L' => ∃ (l29 : Tq8) (i31 : Int) (ad34 : Option Addr) (cp36 : Nat), (l29, i31) = s ∧ Fits [(1, pt b13), (3, sl ad19 l18 cp20), (4, sl ad34 l29 cp36), (5, ii i31)] ρ ∧ K = K' ∧ L' = Cl b13 30 [ii xa.1, ii xa.2.1, sl Aa2 xa.2.2.1 Ca2, sl Aa3 xa.2.2.2.1 Ca3, sl Aa4 xa.2.2.2.2.1 Ca4, sl Aa5 xa.2.2.2.2.2.1 Ca5, sl Aa6 xa.2.2.2.2.2.2 Ca6] :: Row Hp.nil 78 (.cons (.int .i64) Yq1) (sl ad19 l18 cp20) l18 :: Row Hp.nil 80 Yq5 (sl ad34 l29 cp36) l29 :: F) ho25 ⟨([] : List (Int × Int)), 0, (some ⟨b22, 0, none⟩), 0, rfl, rt4, rfl, rfl⟩ ?_
   rintro s ρ _ _ r38 ⟨l29, i31, ad34, cp36, rfl, hf39, rfl, rfl⟩ h40
   obtain ⟨ρ, rfl⟩ := hf39.ex
   refine CJ.front 2 rfl <| CJ.wit Row.hn fun hn41 => CJ.seq <| cr <| jm (ii i31) rfl <| jm (sl ad19 l18 cp20) rfl ?_
   refine jv (ii (((l18.length : Nat) : Int))) (V.len underlying35 rfl) <| jv (.bool (decide (i31 < (((l18.length : Nat) : Int))))) (V.lss rfl rfl) <| J.nil <| cc rfl h40 (fun hc42 h40 => ?_) fun hc42 h40 => ?_
   · refine CJ.skip <| CJ.seq <| CJ.block <| cr <| ja (ii 0) rfl <| J.nil ?_
     obtain ⟨o43, ho44, h40⟩ := ob h40
     refine CJ.meetN (fun ρ K' L' => ∃ (l45 : Tq8) (ad46 : Option Addr) (cp47 : Nat), l45 = o43 ∧ Fits [(1, pt b13), (3, sl ad19 l18 cp20), (4, sl ad46 l45 cp47), (5, ii i31)] ρ ∧ K = K' ∧ L' = Cl b13 30 [ii xa.1, ii xa.2.1, sl Aa2 xa.2.2.1 Ca2, sl Aa3 xa.2.2.2.1 Ca3, sl Aa4 xa.2.2.2.2.1 Ca4, sl Aa5 xa.2.2.2.2.2.1 Ca5, sl Aa6 xa.2.2.2.2.2.2 Ca6] :: Row Hp.nil 78 (.cons (.int .i64) Yq1) (sl ad19 l18 cp20) l18 :: Row Hp.nil 80 Yq5 (sl ad46 l45 cp47) l45 :: F) ?_ ?_
     · refine CJ.block <| CJ.front 2 rfl <| CJ.front 2 rfl <| CJ.loop (fun s ρ K' L' => ∃ (l48 : Tq8) (i49 : Int) (ad50 : Option Addr) (cp51 : Nat), (l48, i49) = s ∧ Fits [(1, pt b13), (3, sl ad19 l18 cp20), (4, sl ad50 l48 cp51), (5, ii i31), (6, ii i49)] ρ ∧ K = K' ∧ L' = Cl b13 30 [ii xa.1, ii xa.2.1, sl Aa2 xa.2.2.1 Ca2, sl Aa3 xa.2.2.2.1 Ca3, sl Aa4 xa.2.2.2.2.1 Ca4, sl Aa5 xa.2.2.2.2.2.1 Ca5, sl Aa6 xa.2.2.2.2.2.2 Ca6] :: Row Hp.nil 78 (.cons (.int .i64) Yq1) (sl ad19 l18 cp20) l18 :: Row Hp.nil 80 Yq5 (sl ad50 l48 cp51) l48 :: F) ho44 ⟨l29, 0, ad34, cp36, rfl, rt5, rfl, rfl⟩ ?_
       rintro s ρ _ _ r52 ⟨l48, i49, ad50, cp51, rfl, hf53, rfl, rfl⟩ h54
       obtain ⟨ρ, rfl⟩ := hf53.ex
       refine CJ.front 2 rfl <| CJ.wit Row.hn fun hn55 => CJ.seq <| cr <| jm (ii i49) rfl <| jm (sl ad19 l18 cp20) rfl ?_
       refine jv (ii (((l18.length : Nat) : Int))) (V.len underlying35 rfl) <| jv (.bool (decide (i49 < (((l18.length : Nat) : Int))))) (V.lss rfl rfl) <| J.nil <| cc rfl h54 (fun hc56 h54 => ?_) fun hc56 h54 => ?_
       · refine CJ.skip <| CJ.seq <| CJ.block <| cr <| jv (.agg #[ii xa.1, ii xa.2.1, sl Aa2 xa.2.2.1 Ca2, sl Aa3 xa.2.2.2.1 Ca3, sl Aa4 xa.2.2.2.2.1 Ca4, sl Aa5 xa.2.2.2.2.2.1 Ca5, sl Aa6 xa.2.2.2.2.2.2 Ca6]) (V.ld rfl (Ld.agg (cs := [ii xa.1, ii xa.2.1, sl Aa2 xa.2.2.1 Ca2, sl Aa3 xa.2.2.2.1 Ca3, sl Aa4 xa.2.2.2.2.1 Ca4, sl Aa5 xa.2.2.2.2.2.1 Ca5, sl Aa6 xa.2.2.2.2.2.2 Ca6]) underlying30 sz30 rfl (Rd.cls 1 0 rfl rfl))) <| jm (sl ad19 l18 cp20) rfl ?_
         refine jm (ii i31) rfl <| jm (ii i49) rfl ?_
         obtain ⟨r57, hr58, h54⟩ := ob h54
         refine J.front 2 rfl <| J.op rfl (A.call (L1 := [Row Hp.nil 78 (.cons (.int .i64) Yq1) (sl ad19 l18 cp20) l18]) call33 rfl (Tr.lend (Hp.nil_le _) (by decide) (fun K59 hK60 f61 => ref23_Goes_ok (Ga2.mono hK60) (Ga3.mono hK60) (Ga4.mono hK60) (Ga5.mono hK60) (Ga6.mono hK60) f61 hr58)) rfl rfl) ?_
         rintro _ _ _ ⟨v62, _, rfl, ⟨⟨_, ⟨t63, rfl, rfl, rfl⟩, rfl⟩, rfl⟩, _, rfl⟩
         refine J.nil <| cc rfl h54 (fun hc65 h54 => ?_) fun hc65 h54 => ?_
         · refine CJ.region <| jm (sl ad50 l48 cp51) rfl <| jm (ii i31) rfl <| jm (ii i49) rfl <| jv (.agg #[ii i31, ii i49]) (V.build inf80 places80 rfl rfl) ?_
           refine J.op rfl (A.lit (K0 := Hp.nil) (ty := Yq5) (xs := ([(i31, i49)] : List (Int × Int))) underlying37 inf80 rfl (by decide) rfl rfl rfl ⟨_, _, rfl, ⟨_, _, rfl, rfl, rfl, rfl⟩, rfl⟩ rfl (by decide)) ?_
           rintro _ _ _ ⟨b66, rfl, rfl, rfl⟩
           have hn67 : ([(i31, i49)] : List (Int × Int)) ≠ [] → ∃ g, (some ⟨b66, 0, none⟩ : Option Addr) = some ⟨g, 0, none⟩ := fun _ => ⟨b66, rfl⟩
           obtain ⟨z68, hz69, h54⟩ := ob h54
           refine J.front 2 rfl <| J.op rfl (A.appR (Kr := Hp.nil) underlying37 inf80 rfl rfl (by decide) (by decide) rfl rfl (Els.flat rfl) (Els.flat rfl) hz69) ?_
           rintro _ _ _ ⟨v70, rfl, rfl, rfl⟩
           refine J.wit Row.form ?_
           rintro ⟨ad71, cp72, rfl, _, _, hn73⟩
           refine ja (sl ad71 z68 cp72) rfl <| J.nil <| CJ.region <| jm (ii i49) rfl <| jv (ii (IntKind.wrap .i64 (i49 + 1))) (V.add rfl rfl) <| ja (ii (IntKind.wrap .i64 (i49 + 1))) rfl <| J.front 1 rfl ?_
           refine J.front 2 rfl <| J.nil ?_
           obtain rfl := si h54
           exact ⟨rfl, ⟨z68, IntKind.wrap .i64 (i49 + 1), ad71, cp72, rfl, rt5, rfl, rfl⟩⟩
         refine CJ.skip <| CJ.region <| jm (ii i49) rfl <| jv (ii (IntKind.wrap .i64 (i49 + 1))) (V.add rfl rfl) <| ja (ii (IntKind.wrap .i64 (i49 + 1))) rfl <| J.front 1 rfl <| J.front 1 rfl ?_
         refine J.front 2 rfl <| J.nil ?_
         obtain rfl := si h54
         exact ⟨rfl, ⟨l48, IntKind.wrap .i64 (i49 + 1), ad50, cp51, rfl, rt5, rfl, rfl⟩⟩
       refine CJ.front 2 rfl <| CJ.front 2 rfl <| CJ.exit ?_
       obtain rfl := si h54
       refine ⟨nofun, fun e => ?_⟩
       subst e
       exact ⟨rfl, ⟨l48, ad50, cp51, rfl, rt4, rfl, rfl⟩⟩
     rintro ρ _ _ ⟨l45, ad46, cp47, rfl, hf74, rfl, rfl⟩
     obtain ⟨ρ, rfl⟩ := hf74.ex
     refine PJ.front 2 rfl <| PJ.wit Row.hn fun hn75 => PJ.done <| CJ.region <| jm (ii i31) rfl <| jv (ii (IntKind.wrap .i64 (i31 + 1))) (V.add rfl rfl) <| ja (ii (IntKind.wrap .i64 (i31 + 1))) rfl ?_
     refine J.front 2 rfl <| J.front 2 rfl <| J.nil ?_
     obtain rfl := si h40
     exact ⟨rfl, ⟨l45, IntKind.wrap .i64 (i31 + 1), ad46, cp47, rfl, rt4, rfl, rfl⟩⟩
   refine CJ.dropAt 1 rfl <| CJ.dropAt 1 rfl <| CJ.exit ?_
   obtain rfl := si h40
   refine ⟨nofun, fun e => ?_⟩
   subst e
   exact ⟨rfl, ⟨l29, ad34, cp36, rfl, rt1, rfl, rfl⟩⟩
 rintro ρ _ _ ⟨l26, ad27, cp28, rfl, hf76, rfl, rfl⟩
 obtain ⟨ρ, rfl⟩ := hf76.ex
 refine PJ.wit Row.hn fun hn77 => PJ.done <| cr <| jm (sl ad27 l26 cp28) rfl <| ja (sl ad27 l26 cp28) rfl <| J.nil ?_
 refine CJ.ret ?_
 obtain rfl := si h
 exact ⟨_, _, Res.one rfl rfl, ⟨l26, ad27, cp28, rfl, rfl, rfl⟩, hpr, fun w hs => hs⟩

noncomputable def fn_ref10_Next_l1 (xa : Tq8) (xb : Int) : ((List Int) × Int) → Option (((List Int) × Int) ⊕ (List Int)) := fun ((l1, i2) : ((List Int) × Int)) => cond (decide (i2 < (((xa.length : Nat) : Int)))) ((getI xa i2).bind fun x3 => cond (decide (x3.1 = xb)) ((getI xa i2).bind fun x4 => (app l1 ([x4.2] : List Int)).bind fun z5 => some (.inl ((z5, IntKind.wrap .i64 (i2 + 1))))) (some (.inl ((l1, IntKind.wrap .i64 (i2 + 1)))))) (some (.inr (l1)))
noncomputable def fn_ref10_Next (xa : Tq8) (xb : Int) : Option (List Int) :=
  (loop (fn_ref10_Next_l1 xa xb) ((([] : List Int), 0)) : Option (List Int)).bind fun l1 => some (l1)
theorem ref10_Next_ok {K : Hp} {xa : Tq8} {xb : Int} {Aa0 : Option Addr} {Ca0 : Nat} (Ga0 : Is K (.sl Yq5) [sl Aa0 xa Ca0] xa) {r : (List Int)} (h : fn_ref10_Next xa xb = some r) :
    Tr Tryz.prog 18 #[sl Aa0 xa Ca0, ii xb] K [] (fun v K' L' => (∃ (l2 : (List Int)) (ad5 : Option Addr) (cp6 : Nat), l2 = r ∧ sl ad5 l2 cp6 = v ∧ L' = [Row Hp.nil 3 (.int .i64) (sl ad5 l2 cp6) l2]) ∧ K = K') := by
 refine Tr.k <| Tr.of func18 rfl ntmps18 rfl fun E F => ?_
 unfold fn_ref10_Next at h
 refine cr <| ja (nos) rfl <| J.nil <| CJ.seq <| CJ.region ?_
 refine J.op rfl (A.lit (K0 := Hp.nil) (ty := (.int .i64)) (xs := ([] : List Int)) underlying42 inf3 rfl (by decide) rfl rfl rfl rfl rfl (by decide)) ?_
 rintro _ _ _ ⟨b7, rfl, rfl, rfl⟩
 have hn9 : ([] : List Int) ≠ [] → ∃ g, (some ⟨b7, 0, none⟩ : Option Addr) = some ⟨g, 0, none⟩ := fun _ => ⟨b7, rfl⟩
 refine ja (.slice (some ⟨b7, 0, none⟩) (([] : List Int).length) 0) rfl <| J.nil <| CJ.seq <| cr <| ja (ii 0) rfl <| J.nil ?_
 obtain ⟨o10, ho11, h⟩ := ob h
 refine CJ.meetN (fun ρ K' L' => ∃ (l12 : (List Int)) (ad13 : Option Addr) (cp14 : Nat), l12 = o10 ∧ Fits [(5, sl ad13 l12 cp14)] ρ ∧ K = K' ∧ L' = Row Hp.nil 3 (.int .i64) (sl ad13 l12 cp14) l12 :: F) ?_ ?_
 · refine CJ.block <| CJ.loop (fun s ρ K' L' => ∃ (l15 : (List Int)) (i17 : Int) (ad19 : Option Addr) (cp20 : Nat), (l15, i17) = s ∧ Fits [(0, sl Aa0 xa Ca0), (1, ii xb), (5, sl ad19 l15 cp20), (6, ii i17)] ρ ∧ K = K' ∧ L' = Row Hp.nil 3 (.int .i64) (sl ad19 l15 cp20) l15 :: F) ho11 ⟨([] : List Int), 0, (some ⟨b7, 0, none⟩), 0, rfl, rt4, rfl, rfl⟩ ?_
   rintro s ρ _ _ r21 ⟨l15, i17, ad19, cp20, rfl, hf22, rfl, rfl⟩ h23
   obtain ⟨ρ, rfl⟩ := hf22.ex
   refine CJ.wit Row.hn fun hn24 => CJ.seq <| cr <| jm (ii i17) rfl <| jm (sl Aa0 xa Ca0) rfl <| jv (ii (((xa.length : Nat) : Int))) (V.len underlying37 rfl) ?_
   refine jv (.bool (decide (i17 < (((xa.length : Nat) : Int))))) (V.lss rfl rfl) <| J.nil <| cc rfl h23 (fun hc25 h23 => ?_) fun hc25 h23 => ?_
   · refine CJ.skip <| CJ.seq <| CJ.block <| cr <| jm (sl Aa0 xa Ca0) rfl <| jm (ii i17) rfl ?_
     obtain ⟨x26, hx27, h23⟩ := ob h23
     obtain ⟨p28, p29, p30⟩ := getI_some hx27
     obtain ⟨b31, o33, e34, a35⟩ := (Ga0).at p29
     refine jv _ (V.iad underlying37 sz80 rfl e34 rfl p28 p30) <| jv _ (V.fad underlying80 rfl nz3 rfl) <| jv (ii x26.1) (V.ld rfl (Ld.sc sc3 (Rd.k ((a35).fst).int hpr))) <| jm (ii xb) rfl <| jv (.bool (decide (x26.1 = xb))) (V.eql rfl rfl) <| J.nil <| cc rfl h23 (fun hc36 h23 => ?_) fun hc36 h23 => ?_
     · refine CJ.region <| jm (sl ad19 l15 cp20) rfl <| jm (sl Aa0 xa Ca0) rfl <| jm (ii i17) rfl ?_
       obtain ⟨x38, hx39, h23⟩ := ob h23
       obtain ⟨p40, p41, p43⟩ := getI_some hx39
       obtain ⟨b44, o45, e46, a47⟩ := (Ga0).at p41
       refine jv _ (V.iad underlying37 sz80 rfl e46 rfl p40 p43) <| jv _ (V.fad underlying80 rfl nz3 rfl) <| jv (ii x38.2) (V.ld rfl (Ld.sc sc3 (Rd.k (((a47).snd).one).int hpr))) ?_
       refine J.op rfl (A.lit (K0 := Hp.nil) (ty := (.int .i64)) (xs := ([x38.2] : List Int)) underlying42 inf3 rfl (by decide) rfl rfl rfl ⟨_, _, rfl, rfl, rfl⟩ rfl (by decide)) ?_
       rintro _ _ _ ⟨b48, rfl, rfl, rfl⟩
       have hn49 : ([x38.2] : List Int) ≠ [] → ∃ g, (some ⟨b48, 0, none⟩ : Option Addr) = some ⟨g, 0, none⟩ := fun _ => ⟨b48, rfl⟩
       obtain ⟨z50, hz51, h23⟩ := ob h23
       refine J.front 1 rfl <| J.op rfl (A.appR (Kr := Hp.nil) underlying42 inf3 rfl rfl (by decide) (by decide) rfl rfl (Els.flat rfl) (Els.flat rfl) hz51) ?_
       rintro _ _ _ ⟨v52, rfl, rfl, rfl⟩
       refine J.wit Row.form ?_
       rintro ⟨ad53, cp54, rfl, _, _, hn55⟩
       refine ja (sl ad53 z50 cp54) rfl <| J.nil <| CJ.region <| jm (ii i17) rfl <| jv (ii (IntKind.wrap .i64 (i17 + 1))) (V.add rfl rfl) <| ja (ii (IntKind.wrap .i64 (i17 + 1))) rfl <| J.nil ?_
       obtain rfl := si h23
       exact ⟨rfl, ⟨z50, IntKind.wrap .i64 (i17 + 1), ad53, cp54, rfl, rt4, rfl, rfl⟩⟩
     refine CJ.skip <| CJ.region <| jm (ii i17) rfl <| jv (ii (IntKind.wrap .i64 (i17 + 1))) (V.add rfl rfl) <| ja (ii (IntKind.wrap .i64 (i17 + 1))) rfl <| J.nil ?_
     obtain rfl := si h23
     exact ⟨rfl, ⟨l15, IntKind.wrap .i64 (i17 + 1), ad19, cp20, rfl, rt4, rfl, rfl⟩⟩
   refine CJ.exit ?_
   obtain rfl := si h23
   refine ⟨nofun, fun e => ?_⟩
   subst e
   exact ⟨rfl, ⟨l15, ad19, cp20, rfl, rt1, rfl, rfl⟩⟩
 rintro ρ _ _ ⟨l12, ad13, cp14, rfl, hf56, rfl, rfl⟩
 obtain ⟨ρ, rfl⟩ := hf56.ex
 refine PJ.wit Row.hn fun hn57 => PJ.done <| cr <| jm (sl ad13 l12 cp14) rfl <| ja (sl ad13 l12 cp14) rfl <| J.nil ?_
 refine CJ.ret ?_
 obtain rfl := si h
 exact ⟨_, _, Res.one rfl rfl, ⟨l12, ad13, cp14, rfl, rfl, rfl⟩, hpr, fun w hs => hs⟩
noncomputable def fn_ref23_through_krri_l1 (l1 : (List Int)) (l2 : (List Int)) (i3 : Int) : (Bool × Int) → Option ((Bool × Int) ⊕ Bool) := fun ((t4, i5) : (Bool × Int)) => cond (decide (i5 < (((l2.length : Nat) : Int)))) (cond (t4) (some (.inl ((true, IntKind.wrap .i64 (i5 + 1))))) ((getI l2 i5).bind fun x6 => (getI l1 i3).bind fun x7 => some (.inl ((decide (x6 = x7), IntKind.wrap .i64 (i5 + 1)))))) (some (.inr (t4)))
noncomputable def fnr_ref23_through_krri : Nat → Tq8 → Int → (List Int) → (List Int) → Option (((List Int) × (List Int)))
  | 0, _, _, _, _ => none
  | fuel + 1, xa, xd, qxb, qxc => (app qxc ([xd] : List Int)).bind fun z1 => (fn_ref10_Next xa xd).bind fun l2 => (loop (fun ((l3, l4, i5) : ((List Int) × (List Int) × Int)) => (cond (decide (i5 < (((l2.length : Nat) : Int)))) ((loop (fn_ref23_through_krri_l1 l2 l4 i5) (false, 0) : Option Bool).bind fun t6 => cond (!t6) ((getI l2 i5).bind fun x7 => (fnr_ref23_through_krri fuel xa x7 l3 l4).bind fun (l9, l10) => some (.inl ((l9, l10, IntKind.wrap .i64 (i5 + 1))))) (some (.inl ((l3, l4, IntKind.wrap .i64 (i5 + 1)))))) (some (.inr (((l3, l4))))) : Option (((List Int) × (List Int) × Int) ⊕ ((List Int) × (List Int))))) (qxb, z1, 0) : Option (((List Int) × (List Int)))).bind fun (l11, l12) => (app l11 ([xd] : List Int)).bind fun z13 => some ((z13, l12))
noncomputable def fn_ref23_through_krri (xa : Tq8) (xd : Int) (qxb : (List Int)) (qxc : (List Int)) : Option (((List Int) × (List Int))) := lev (fun n => fnr_ref23_through_krri n xa xd qxb qxc)
theorem ref23_through_krri_okr : ∀ (fuel : Nat) {K : Hp} {xa : Tq8} {xd : Int} {qxb : (List Int)} {qxc : (List Int)} {Aa0 : Option Addr} {Ca0 : Nat} {adqxb : Option Addr} {cpqxb : Nat} {adqxc : Option Addr} {cpqxc : Nat} (Ga0 : Is K (.sl Yq5) [sl Aa0 xa Ca0] xa) {r : ((List Int) × (List Int))} (h : fnr_ref23_through_krri fuel xa xd qxb qxc = some r),
    Tr Tryz.prog 40 #[sl Aa0 xa Ca0, sl adqxb qxb cpqxb, sl adqxc qxc cpqxc, ii xd] K [Row Hp.nil 3 (.int .i64) (sl adqxb qxb cpqxb) qxb, Row Hp.nil 3 (.int .i64) (sl adqxc qxc cpqxc) qxc] (fun v K' L' => (∃ (l2 : (List Int)) (l4 : (List Int)) (ad5 : Option Addr) (cp9 : Nat) (ad10 : Option Addr) (cp11 : Nat), (l2, l4) = r ∧ .tuple #[sl ad5 l2 cp9, sl ad10 l4 cp11] = v ∧ L' = [Row Hp.nil 3 (.int .i64) (sl ad5 l2 cp9) l2, Row Hp.nil 3 (.int .i64) (sl ad10 l4 cp11) l4]) ∧ K = K') := by
  intro fuel
  induction fuel with
  | zero => intro K xa xd qxb qxc Aa0 Ca0 adqxb cpqxb adqxc cpqxc Ga0 r h; rw [fnr_ref23_through_krri] at h; cases h
  | succ fuel ih =>
    intro K xa xd qxb qxc Aa0 Ca0 adqxb cpqxb adqxc cpqxc Ga0 r h
    refine Tr.k <| Tr.of func40 rfl ntmps40 rfl fun E F => ?_
    rw [fnr_ref23_through_krri] at h
    refine CJ.wit Row.hn fun hnqxb => CJ.front 1 rfl <| CJ.wit Row.hn fun hnqxc => cr <| ja (nos) rfl <| ja (nos) rfl ?_
    refine J.nil <| cr <| jm (sl adqxc qxc cpqxc) rfl <| jm (ii xd) rfl ?_
    refine J.op rfl (A.lit (K0 := Hp.nil) (ty := (.int .i64)) (xs := ([xd] : List Int)) underlying42 inf3 rfl (by decide) rfl rfl rfl ⟨_, _, rfl, rfl, rfl⟩ rfl (by decide)) ?_
    rintro _ _ _ ⟨b12, rfl, rfl, rfl⟩
    have hn13 : ([xd] : List Int) ≠ [] → ∃ g, (some ⟨b12, 0, none⟩ : Option Addr) = some ⟨g, 0, none⟩ := fun _ => ⟨b12, rfl⟩
    obtain ⟨z14, hz15, h⟩ := ob h
    refine J.front 1 rfl <| J.op rfl (A.appR (Kr := Hp.nil) underlying42 inf3 rfl rfl (by decide) (by decide) rfl rfl (Els.flat rfl) (Els.flat rfl) hz15) ?_
    rintro _ _ _ ⟨v17, rfl, rfl, rfl⟩
    refine J.wit Row.form ?_
    rintro ⟨ad19, cp20, rfl, _, _, hn21⟩
    refine ja (sl ad19 z14 cp20) rfl <| J.nil <| cr <| jm (sl Aa0 xa Ca0) rfl <| jm (ii xd) rfl ?_
    obtain ⟨r22, hr23, h⟩ := ob h
    refine J.op rfl (A.call (L1 := []) call18 rfl (ref10_Next_ok Ga0 hr23) rfl rfl) ?_
    rintro _ _ _ ⟨v24, _, rfl, ⟨⟨l25, ad26, cp27, rfl, rfl, rfl⟩, rfl⟩, _, rfl⟩
    refine J.wit Row.hn fun hn28 => ja (sl ad26 l25 cp27) rfl <| J.nil <| CJ.seq <| cr <| ja (ii 0) rfl ?_
    refine J.nil ?_
    obtain ⟨o29, ho30, h⟩ := ob h
    refine CJ.meetN (fun ρ K' L' => ∃ (l31 : (List Int)) (l33 : (List Int)) (ad34 : Option Addr) (cp35 : Nat) (ad36 : Option Addr) (cp37 : Nat), (l31, l33) = o29 ∧ Fits [(1, sl ad34 l31 cp35), (2, sl ad36 l33 cp37), (3, ii xd)] ρ ∧ K = K' ∧ L' = Row Hp.nil 3 (.int .i64) (sl ad34 l31 cp35) l31 :: Row Hp.nil 3 (.int .i64) (sl ad36 l33 cp37) l33 :: F) ?_ ?_
    · refine CJ.block <| CJ.front 1 rfl <| CJ.front 2 rfl <| CJ.front 2 rfl <| CJ.loop (fun s ρ K' L' => ∃ (l38 : (List Int)) (l39 : (List Int)) (i41 : Int) (ad43 : Option Addr) (cp44 : Nat) (ad45 : Option Addr) (cp46 : Nat), (l38, l39, i41) = s ∧ Fits [(0, sl Aa0 xa Ca0), (1, sl ad43 l38 cp44), (2, sl ad45 l39 cp46), (3, ii xd), (10, sl ad26 l25 cp27), (11, ii i41)] ρ ∧ K = K' ∧ L' = Row Hp.nil 3 (.int .i64) (sl ad26 l25 cp27) l25 :: Row Hp.nil 3 (.int .i64) (sl ad43 l38 cp44) l38 :: Row Hp.nil 3 (.int .i64) (sl ad45 l39 cp46) l39 :: F) ho30 ⟨qxb, z14, 0, adqxb, cpqxb, ad19, cp20, rfl, rt6, rfl, rfl⟩ ?_
      rintro s ρ _ _ r47 ⟨l38, l39, i41, ad43, cp44, ad45, cp46, rfl, hf48, rfl, rfl⟩ h49
      obtain ⟨ρ, rfl⟩ := hf48.ex
      refine CJ.front 1 rfl <| CJ.wit Row.hn fun hn50 => CJ.front 2 rfl <| CJ.wit Row.hn fun hn51 => CJ.seq <| CJ.seq <| CJ.region ?_
      refine jm (ii i41) rfl <| jm (sl ad26 l25 cp27) rfl <| jv (ii (((l25.length : Nat) : Int))) (V.len underlying42 rfl) <| jv (.bool (decide (i41 < (((l25.length : Nat) : Int))))) (V.lss rfl rfl) <| J.nil <| cc rfl h49 (fun hc52 h49 => ?_) fun hc52 h49 => ?_
      · refine CJ.skip <| CJ.seq <| CJ.block <| cr <| ja (.bool false) rfl <| J.nil ?_
        refine CJ.seq <| cr <| ja (ii 0) rfl <| J.nil ?_
        obtain ⟨o53, ho54, h49⟩ := ob h49
        refine CJ.meetN (fun ρ K' L' => ∃ (t55 : Bool), t55 = o53 ∧ Fits [(0, sl Aa0 xa Ca0), (1, sl ad43 l38 cp44), (2, sl ad45 l39 cp46), (3, ii xd), (10, sl ad26 l25 cp27), (11, ii i41), (12, .bool t55)] ρ ∧ K = K' ∧ L' = Row Hp.nil 3 (.int .i64) (sl ad43 l38 cp44) l38 :: Row Hp.nil 3 (.int .i64) (sl ad45 l39 cp46) l39 :: Row Hp.nil 3 (.int .i64) (sl ad26 l25 cp27) l25 :: F) ?_ ?_
        · refine CJ.block <| CJ.front 2 rfl <| CJ.front 1 rfl <| CJ.front 2 rfl <| CJ.loop (fun s ρ K' L' => ∃ (t56 : Bool) (i57 : Int), (t56, i57) = s ∧ Fits [(0, sl Aa0 xa Ca0), (1, sl ad43 l38 cp44), (2, sl ad45 l39 cp46), (3, ii xd), (10, sl ad26 l25 cp27), (11, ii i41), (12, .bool t56), (13, ii i57)] ρ ∧ K = K' ∧ L' = Row Hp.nil 3 (.int .i64) (sl ad43 l38 cp44) l38 :: Row Hp.nil 3 (.int .i64) (sl ad45 l39 cp46) l39 :: Row Hp.nil 3 (.int .i64) (sl ad26 l25 cp27) l25 :: F) ho54 ⟨false, 0, rfl, rt8, rfl, rfl⟩ ?_
          rintro s ρ _ _ r58 ⟨t56, i57, rfl, hf59, rfl, rfl⟩ h60
          obtain ⟨ρ, rfl⟩ := hf59.ex
          refine CJ.seq <| cr <| jm (ii i57) rfl <| jm (sl ad45 l39 cp46) rfl <| jv (ii (((l39.length : Nat) : Int))) (V.len underlying42 rfl) <| jv (.bool (decide (i57 < (((l39.length : Nat) : Int))))) (V.lss rfl rfl) ?_
          refine J.nil <| cc rfl h60 (fun hc61 h60 => ?_) fun hc61 h60 => ?_
          · refine CJ.skip <| CJ.seq <| CJ.block <| CJ.mix [Row Hp.nil 3 (.int .i64) (sl ad43 l38 cp44) l38, Row Hp.nil 3 (.int .i64) (sl ad45 l39 cp46) l39, Row Hp.nil 3 (.int .i64) (sl ad26 l25 cp27) l25] [] [0, 1, 2, 3, 4, 5, 6, 7, 8, 9, 10, 11, 12] [] mixO (by decide +kernel) ⟨0, rfl, 0, rfl, 0, rfl, trivial⟩ rfl rfl rfl <| JM.nil <| qm (.bool t56) rfl <| qm (.bool t56) rfl ?_
            rcases bt (t56) with hc62 | hc62
            · have h60 := ct hc62 h60
              refine JQ.skip rfl rfl rfl rfl hc62 <| JQ.skip rfl rfl rfl rfl hc62 <| JQ.skip rfl rfl rfl rfl hc62 <| JQ.skip rfl rfl rfl rfl hc62 <| JQ.skip rfl rfl rfl rfl hc62 <| JQ.skip rfl rfl rfl rfl hc62 <| JQ.skip rfl rfl rfl rfl hc62 ?_
              refine JQ.skip rfl rfl rfl rfl hc62 <| JQ.skip rfl rfl rfl rfl hc62 <| qv (.bool true) (V.pickT rfl hc62 rfl) <| qa (.bool true) rfl <| JQ.nil <| J.nil <| CJ.region ?_
              refine jm (ii i57) rfl <| jv (ii (IntKind.wrap .i64 (i57 + 1))) (V.add rfl rfl) <| ja (ii (IntKind.wrap .i64 (i57 + 1))) rfl <| J.nil ?_
              obtain rfl := si h60
              exact ⟨rfl, ⟨true, IntKind.wrap .i64 (i57 + 1), rfl, rt8, rfl, rfl⟩⟩
            have h60 := cf hc62 h60
            refine JQ.run rfl rfl rfl hc62 <| qm (sl ad45 l39 cp46) rfl <| JQ.run rfl rfl rfl hc62 <| qm (ii i57) rfl <| JQ.run rfl rfl rfl hc62 ?_
            obtain ⟨x63, hx65, h60⟩ := ob h60
            obtain ⟨p66, p67, p68⟩ := getI_some hx65
            obtain ⟨g69, e70⟩ := hn51 (fun e => by rw [e] at p67; simp at p67)
            refine qv _ (V.iad underlying42 sz3 rfl e70 rfl p66 p68) <| JQ.run rfl rfl rfl hc62 <| qv (ii x63) (V.ld rfl (Ld.sc sc3 (Rd.row 1 rfl e70 p67 (q := 0) (by simp [Tp.size]) (by decide) (by rintro _ rfl; rfl)))) <| JQ.run rfl rfl rfl hc62 <| qm (sl ad26 l25 cp27) rfl <| JQ.run rfl rfl rfl hc62 <| qm (ii i41) rfl ?_
            refine JQ.run rfl rfl rfl hc62 ?_
            obtain ⟨x71, hx72, h60⟩ := ob h60
            obtain ⟨p73, p74, p75⟩ := getI_some hx72
            obtain ⟨g76, e77⟩ := hn28 (fun e => by rw [e] at p74; simp at p74)
            refine qv _ (V.iad underlying42 sz3 rfl e77 rfl p73 p75) <| JQ.run rfl rfl rfl hc62 <| qv (ii x71) (V.ld rfl (Ld.sc sc3 (Rd.row 2 rfl e77 p74 (q := 0) (by simp [Tp.size]) (by decide) (by rintro _ rfl; rfl)))) <| JQ.run rfl rfl rfl hc62 <| qv (.bool (decide (x63 = x71))) (V.eql rfl rfl) <| qv (.bool (decide (x63 = x71))) (V.pickF rfl hc62 rfl) <| qa (.bool (decide (x63 = x71))) rfl ?_
            refine JQ.nil <| J.nil <| CJ.region <| jm (ii i57) rfl <| jv (ii (IntKind.wrap .i64 (i57 + 1))) (V.add rfl rfl) <| ja (ii (IntKind.wrap .i64 (i57 + 1))) rfl <| J.nil ?_
            obtain rfl := si h60
            exact ⟨rfl, ⟨decide (x63 = x71), IntKind.wrap .i64 (i57 + 1), rfl, rt8, rfl, rfl⟩⟩
          refine CJ.exit ?_
          obtain rfl := si h60
          refine ⟨nofun, fun e => ?_⟩
          subst e
          exact ⟨rfl, ⟨t56, rfl, rt7, rfl, rfl⟩⟩
        rintro ρ _ _ ⟨t55, rfl, hf78, rfl, rfl⟩
        obtain ⟨ρ, rfl⟩ := hf78.ex
        refine PJ.done <| cr <| jm (.bool t55) rfl <| jv (.bool (!t55)) (V.not rfl) <| J.nil <| cc rfl h49 (fun hc79 h49 => ?_) fun hc79 h49 => ?_
        · refine cr <| jm (sl Aa0 xa Ca0) rfl <| jm (sl ad43 l38 cp44) rfl <| jm (sl ad45 l39 cp46) rfl <| jm (sl ad26 l25 cp27) rfl <| jm (ii i41) rfl ?_
          obtain ⟨x80, hx81, h49⟩ := ob h49
          obtain ⟨p82, p83, p84⟩ := getI_some hx81
          obtain ⟨g85, e86⟩ := hn28 (fun e => by rw [e] at p83; simp at p83)
          refine jv _ (V.iad underlying42 sz3 rfl e86 rfl p82 p84) <| jv (ii x80) (V.ld rfl (Ld.sc sc3 (Rd.row 2 rfl e86 p83 (q := 0) (by simp [Tp.size]) (by decide) (by rintro _ rfl; rfl)))) ?_
          obtain ⟨r87, hr88, h49⟩ := ob h49
          refine J.op rfl (A.call (L1 := [Row Hp.nil 3 (.int .i64) (sl ad43 l38 cp44) l38, Row Hp.nil 3 (.int .i64) (sl ad45 l39 cp46) l39]) call40 rfl (ih Ga0 hr88) rfl rfl) ?_
          rintro _ _ _ ⟨v89, _, rfl, ⟨⟨l90, l91, ad92, cp93, ad94, cp95, rfl, rfl, rfl⟩, rfl⟩, _, rfl⟩
          refine J.wit Row.hn fun hn96 => J.front 1 rfl <| J.wit Row.hn fun hn97 => jm (.tuple #[sl ad92 l90 cp93, sl ad94 l91 cp95]) rfl <| jx (sl ad92 l90 cp93) rfl rfl <| jx (sl ad94 l91 cp95) rfl rfl <| ja (sl ad92 l90 cp93) rfl ?_
          refine ja (sl ad94 l91 cp95) rfl <| J.nil <| cr <| jm (sl ad92 l90 cp93) rfl <| ja (sl ad92 l90 cp93) rfl <| J.nil ?_
          refine CJ.region <| jm (sl ad94 l91 cp95) rfl <| ja (sl ad94 l91 cp95) rfl <| J.nil <| CJ.region <| jm (ii i41) rfl <| jv (ii (IntKind.wrap .i64 (i41 + 1))) (V.add rfl rfl) ?_
          refine ja (ii (IntKind.wrap .i64 (i41 + 1))) rfl <| J.front 1 rfl <| J.front 2 rfl <| J.nil ?_
          obtain rfl := si h49
          exact ⟨rfl, ⟨l90, l91, IntKind.wrap .i64 (i41 + 1), ad92, cp93, ad94, cp95, rfl, rt6, rfl, rfl⟩⟩
        refine CJ.skip <| CJ.region <| jm (ii i41) rfl <| jv (ii (IntKind.wrap .i64 (i41 + 1))) (V.add rfl rfl) <| ja (ii (IntKind.wrap .i64 (i41 + 1))) rfl <| J.front 1 rfl <| J.front 1 rfl ?_
        refine J.front 2 rfl <| J.nil ?_
        obtain rfl := si h49
        exact ⟨rfl, ⟨l38, l39, IntKind.wrap .i64 (i41 + 1), ad43, cp44, ad45, cp46, rfl, rt6, rfl, rfl⟩⟩
      refine CJ.dropAt 2 rfl <| CJ.front 1 rfl <| CJ.exit ?_
      obtain rfl := si h49
      refine ⟨nofun, fun e => ?_⟩
      subst e
      exact ⟨rfl, ⟨l38, l39, ad43, cp44, ad45, cp46, rfl, rt3, rfl, rfl⟩⟩
    rintro ρ _ _ ⟨l31, l33, ad34, cp35, ad36, cp37, rfl, hf98, rfl, rfl⟩
    obtain ⟨ρ, rfl⟩ := hf98.ex
    refine PJ.wit Row.hn fun hn99 => PJ.front 1 rfl <| PJ.wit Row.hn fun hn100 => PJ.done <| cr <| jm (sl ad34 l31 cp35) rfl ?_
    refine jm (ii xd) rfl ?_
    refine J.op rfl (A.lit (K0 := Hp.nil) (ty := (.int .i64)) (xs := ([xd] : List Int)) underlying42 inf3 rfl (by decide) rfl rfl rfl ⟨_, _, rfl, rfl, rfl⟩ rfl (by decide)) ?_
    rintro _ _ _ ⟨b101, rfl, rfl, rfl⟩
    have hn102 : ([xd] : List Int) ≠ [] → ∃ g, (some ⟨b101, 0, none⟩ : Option Addr) = some ⟨g, 0, none⟩ := fun _ => ⟨b101, rfl⟩
    obtain ⟨z103, hz104, h⟩ := ob h
    refine J.front 2 rfl <| J.op rfl (A.appR (Kr := Hp.nil) underlying42 inf3 rfl rfl (by decide) (by decide) rfl rfl (Els.flat rfl) (Els.flat rfl) hz104) ?_
    rintro _ _ _ ⟨v105, rfl, rfl, rfl⟩
    refine J.wit Row.form ?_
    rintro ⟨ad106, cp107, rfl, _, _, hn108⟩
    refine jm (sl ad36 l33 cp37) rfl <| ja (sl ad106 z103 cp107) rfl <| ja (sl ad36 l33 cp37) rfl <| J.nil <| CJ.ret ?_
    obtain rfl := si h
    exact ⟨_, _, Res.two rfl rfl rfl, ⟨z103, l33, ad106, cp107, ad36, cp37, rfl, rfl, rfl⟩, hpr, fun w hs => hs⟩
theorem ref23_through_krri_ok {K : Hp} {xa : Tq8} {xd : Int} {qxb : (List Int)} {qxc : (List Int)} {Aa0 : Option Addr} {Ca0 : Nat} {adqxb : Option Addr} {cpqxb : Nat} {adqxc : Option Addr} {cpqxc : Nat} (Ga0 : Is K (.sl Yq5) [sl Aa0 xa Ca0] xa) {r : ((List Int) × (List Int))} (h : fn_ref23_through_krri xa xd qxb qxc = some r) :
    Tr Tryz.prog 40 #[sl Aa0 xa Ca0, sl adqxb qxb cpqxb, sl adqxc qxc cpqxc, ii xd] K [Row Hp.nil 3 (.int .i64) (sl adqxb qxb cpqxb) qxb, Row Hp.nil 3 (.int .i64) (sl adqxc qxc cpqxc) qxc] (fun v K' L' => (∃ (l1 : (List Int)) (l2 : (List Int)) (ad3 : Option Addr) (cp4 : Nat) (ad5 : Option Addr) (cp6 : Nat), (l1, l2) = r ∧ .tuple #[sl ad3 l1 cp4, sl ad5 l2 cp6] = v ∧ L' = [Row Hp.nil 3 (.int .i64) (sl ad3 l1 cp4) l1, Row Hp.nil 3 (.int .i64) (sl ad5 l2 cp6) l2]) ∧ K = K') := by
  obtain ⟨n, hn⟩ := lev_some h
  exact ref23_through_krri_okr n Ga0 hn
noncomputable def fn_ref23_Order_l1 (l1 : (List Int)) (i2 : Int) : (Bool × Int) → Option ((Bool × Int) ⊕ Bool) := fun ((t3, i4) : (Bool × Int)) => cond (decide (i4 < (((l1.length : Nat) : Int)))) ((cond (t3) (some (true)) ((getI l1 i4).bind fun x5 => some (decide (x5 = i2)))).bind fun t6 => some (.inl ((t6, IntKind.wrap .i64 (i4 + 1))))) (some (.inr (t3)))
noncomputable def fn_ref23_Order_l2 (xa : Int) (xb : Tq8) : ((List Int) × (List Int) × Int) → Option (((List Int) × (List Int) × Int) ⊕ (List Int)) := fun ((l1, l2, i3) : ((List Int) × (List Int) × Int)) => cond (decide (i3 < xa)) ((loop (fn_ref23_Order_l1 l2 i3) (false, 0) : Option Bool).bind fun t4 => cond (!t4) ((fn_ref23_through_krri xb i3 l1 l2).bind fun (l5, l6) => some (.inl ((l5, l6, IntKind.wrap .i64 (i3 + 1))))) (some (.inl ((l1, l2, IntKind.wrap .i64 (i3 + 1)))))) (some (.inr (l1)))
noncomputable def fn_ref23_Order (xa : Int) (xb : Tq8) : Option (List Int) :=
  (loop (fn_ref23_Order_l2 xa xb) ((([] : List Int), ([] : List Int), 0)) : Option (List Int)).bind fun l1 => some (l1)
theorem ref23_Order_ok {K : Hp} {xa : Int} {xb : Tq8} {Ab0 : Option Addr} {Cb0 : Nat} (Gb0 : Is K (.sl Yq5) [sl Ab0 xb Cb0] xb) {r : (List Int)} (h : fn_ref23_Order xa xb = some r) :
    Tr Tryz.prog 23 #[ii xa, sl Ab0 xb Cb0] K [] (fun v K' L' => (∃ (l2 : (List Int)) (ad4 : Option Addr) (cp9 : Nat), l2 = r ∧ sl ad4 l2 cp9 = v ∧ L' = [Row Hp.nil 3 (.int .i64) (sl ad4 l2 cp9) l2]) ∧ K = K') := by
 refine Tr.k <| Tr.of func23 rfl ntmps23 rfl fun E F => ?_
 unfold fn_ref23_Order at h
 refine cr <| ja (nos) rfl <| J.nil <| CJ.seq <| CJ.region ?_
 refine J.op rfl (A.lit (K0 := Hp.nil) (ty := (.int .i64)) (xs := ([] : List Int)) underlying42 inf3 rfl (by decide) rfl rfl rfl rfl rfl (by decide)) ?_
 rintro _ _ _ ⟨b10, rfl, rfl, rfl⟩
 have hn11 : ([] : List Int) ≠ [] → ∃ g, (some ⟨b10, 0, none⟩ : Option Addr) = some ⟨g, 0, none⟩ := fun _ => ⟨b10, rfl⟩
 refine J.op rfl (A.lit (K0 := Hp.nil) (ty := (.int .i64)) (xs := ([] : List Int)) underlying42 inf3 rfl (by decide) rfl rfl rfl rfl rfl (by decide)) ?_
 rintro _ _ _ ⟨b12, rfl, rfl, rfl⟩
 have hn13 : ([] : List Int) ≠ [] → ∃ g, (some ⟨b12, 0, none⟩ : Option Addr) = some ⟨g, 0, none⟩ := fun _ => ⟨b12, rfl⟩
 refine ja (.slice (some ⟨b10, 0, none⟩) (([] : List Int).length) 0) rfl <| ja (.slice (some ⟨b12, 0, none⟩) (([] : List Int).length) 0) rfl <| J.nil <| CJ.seq <| cr <| ja (ii 0) rfl ?_
 refine J.nil ?_
 obtain ⟨o14, ho15, h⟩ := ob h
 refine CJ.meetN (fun ρ K' L' => ∃ (l17 : (List Int)) (ad18 : Option Addr) (cp19 : Nat), l17 = o14 ∧ Fits [(5, sl ad18 l17 cp19)] ρ ∧ K = K' ∧ L' = Row Hp.nil 3 (.int .i64) (sl ad18 l17 cp19) l17 :: F) ?_ ?_
 · refine CJ.block <| CJ.front 1 rfl <| CJ.loop (fun s ρ K' L' => ∃ (l20 : (List Int)) (l21 : (List Int)) (i22 : Int) (ad24 : Option Addr) (cp25 : Nat) (ad26 : Option Addr) (cp27 : Nat), (l20, l21, i22) = s ∧ Fits [(0, ii xa), (1, sl Ab0 xb Cb0), (5, sl ad24 l20 cp25), (6, sl ad26 l21 cp27), (7, ii i22)] ρ ∧ K = K' ∧ L' = Row Hp.nil 3 (.int .i64) (sl ad24 l20 cp25) l20 :: Row Hp.nil 3 (.int .i64) (sl ad26 l21 cp27) l21 :: F) ho15 ⟨([] : List Int), ([] : List Int), 0, (some ⟨b10, 0, none⟩), 0, (some ⟨b12, 0, none⟩), 0, rfl, rt5, rfl, rfl⟩ ?_
   rintro s ρ _ _ r28 ⟨l20, l21, i22, ad24, cp25, ad26, cp27, rfl, hf29, rfl, rfl⟩ h30
   obtain ⟨ρ, rfl⟩ := hf29.ex
   refine CJ.wit Row.hn fun hn31 => CJ.front 1 rfl <| CJ.wit Row.hn fun hn33 => CJ.seq <| cr <| jm (ii i22) rfl ?_
   refine jm (ii xa) rfl <| jv (.bool (decide (i22 < xa))) (V.lss rfl rfl) <| J.nil <| cc rfl h30 (fun hc34 h30 => ?_) fun hc34 h30 => ?_
   · refine CJ.skip <| CJ.seq <| CJ.block <| cr <| ja (.bool false) rfl <| J.nil ?_
     refine CJ.seq <| cr <| ja (ii 0) rfl <| J.nil ?_
     obtain ⟨o35, ho36, h30⟩ := ob h30
     refine CJ.meetN (fun ρ K' L' => ∃ (t37 : Bool), t37 = o35 ∧ Fits [(0, ii xa), (1, sl Ab0 xb Cb0), (5, sl ad24 l20 cp25), (6, sl ad26 l21 cp27), (7, ii i22), (8, .bool t37)] ρ ∧ K = K' ∧ L' = Row Hp.nil 3 (.int .i64) (sl ad24 l20 cp25) l20 :: Row Hp.nil 3 (.int .i64) (sl ad26 l21 cp27) l21 :: F) ?_ ?_
     · refine CJ.block <| CJ.front 1 rfl <| CJ.loop (fun s ρ K' L' => ∃ (t38 : Bool) (i39 : Int), (t38, i39) = s ∧ Fits [(0, ii xa), (1, sl Ab0 xb Cb0), (5, sl ad24 l20 cp25), (6, sl ad26 l21 cp27), (7, ii i22), (8, .bool t38), (9, ii i39)] ρ ∧ K = K' ∧ L' = Row Hp.nil 3 (.int .i64) (sl ad24 l20 cp25) l20 :: Row Hp.nil 3 (.int .i64) (sl ad26 l21 cp27) l21 :: F) ho36 ⟨false, 0, rfl, rt7, rfl, rfl⟩ ?_
       rintro s ρ _ _ r41 ⟨t38, i39, rfl, hf43, rfl, rfl⟩ h44
       obtain ⟨ρ, rfl⟩ := hf43.ex
       refine CJ.seq <| cr <| jm (ii i39) rfl <| jm (sl ad26 l21 cp27) rfl <| jv (ii (((l21.length : Nat) : Int))) (V.len underlying42 rfl) <| jv (.bool (decide (i39 < (((l21.length : Nat) : Int))))) (V.lss rfl rfl) ?_
       refine J.nil <| cc rfl h44 (fun hc45 h44 => ?_) fun hc45 h44 => ?_
       · refine CJ.skip <| CJ.seq <| CJ.block <| CJ.region <| jm (.bool t38) rfl <| jm (.bool t38) rfl <| J.cut 7 ?_
         obtain ⟨t46, ht47, h44⟩ := ob h44
         refine jmeet [(33, .bool t46), (0, ii xa), (1, sl Ab0 xb Cb0), (5, sl ad24 l20 cp25), (6, sl ad26 l21 cp27), (7, ii i22), (9, ii i39)] ?_ ?_
         · rcases bt (t38) with hc48 | hc48
           · have ht47 := ct hc48 ht47
             refine J.skip rfl rfl rfl rfl hc48 <| J.skip rfl rfl rfl rfl hc48 <| J.skip rfl rfl rfl rfl hc48 <| J.skip rfl rfl rfl rfl hc48 <| J.skip rfl rfl rfl rfl hc48 <| J.skip rfl rfl rfl rfl hc48 <| jv (.bool true) (V.pickT rfl hc48 rfl) ?_
             refine J.nil ?_
             obtain rfl := si ht47
             exact ⟨rfl, rt7, rfl, rfl⟩
           have ht47 := cf hc48 ht47
           refine J.run rfl rfl rfl hc48 <| jm (sl ad26 l21 cp27) rfl <| J.run rfl rfl rfl hc48 <| jm (ii i39) rfl <| J.run rfl rfl rfl hc48 ?_
           obtain ⟨x49, hx50, ht47⟩ := ob ht47
           obtain ⟨p51, p52, p53⟩ := getI_some hx50
           obtain ⟨g54, e55⟩ := hn33 (fun e => by rw [e] at p52; simp at p52)
           refine jv _ (V.iad underlying42 sz3 rfl e55 rfl p51 p53) <| J.run rfl rfl rfl hc48 <| jv (ii x49) (V.ld rfl (Ld.sc sc3 (Rd.row 1 rfl e55 p52 (q := 0) (by simp [Tp.size]) (by decide) (by rintro _ rfl; rfl)))) <| J.run rfl rfl rfl hc48 <| jm (ii i22) rfl <| J.run rfl rfl rfl hc48 <| jv (.bool (decide (x49 = i22))) (V.eql rfl rfl) ?_
           refine jv (.bool (decide (x49 = i22))) (V.pickF rfl hc48 rfl) <| J.nil ?_
           obtain rfl := si ht47
           exact ⟨rfl, rt7, rfl, rfl⟩
         intro ρ
         refine ja (.bool t46) rfl <| J.nil <| CJ.region <| jm (ii i39) rfl <| jv (ii (IntKind.wrap .i64 (i39 + 1))) (V.add rfl rfl) <| ja (ii (IntKind.wrap .i64 (i39 + 1))) rfl <| J.nil ?_
         obtain rfl := si h44
         exact ⟨rfl, ⟨t46, IntKind.wrap .i64 (i39 + 1), rfl, rt7, rfl, rfl⟩⟩
       refine CJ.exit ?_
       obtain rfl := si h44
       refine ⟨nofun, fun e => ?_⟩
       subst e
       exact ⟨rfl, ⟨t38, rfl, rt6, rfl, rfl⟩⟩
     rintro ρ _ _ ⟨t37, rfl, hf56, rfl, rfl⟩
     obtain ⟨ρ, rfl⟩ := hf56.ex
     refine PJ.done <| cr <| jm (.bool t37) rfl <| jv (.bool (!t37)) (V.not rfl) <| J.nil <| cc rfl h30 (fun hc57 h30 => ?_) fun hc57 h30 => ?_
     · refine cr <| jm (sl Ab0 xb Cb0) rfl <| jm (sl ad24 l20 cp25) rfl <| jm (sl ad26 l21 cp27) rfl <| jm (ii i22) rfl ?_
       obtain ⟨r58, hr59, h30⟩ := ob h30
       refine J.op rfl (A.call (L1 := [Row Hp.nil 3 (.int .i64) (sl ad24 l20 cp25) l20, Row Hp.nil 3 (.int .i64) (sl ad26 l21 cp27) l21]) call40 rfl (ref23_through_krri_ok Gb0 hr59) rfl rfl) ?_
       rintro _ _ _ ⟨v60, _, rfl, ⟨⟨l61, l62, ad63, cp65, ad66, cp67, rfl, rfl, rfl⟩, rfl⟩, _, rfl⟩
       refine J.wit Row.hn fun hn68 => J.front 1 rfl <| J.wit Row.hn fun hn69 => jm (.tuple #[sl ad63 l61 cp65, sl ad66 l62 cp67]) rfl <| jx (sl ad63 l61 cp65) rfl rfl <| jx (sl ad66 l62 cp67) rfl rfl <| ja (sl ad63 l61 cp65) rfl ?_
       refine ja (sl ad66 l62 cp67) rfl <| J.nil <| cr <| jm (sl ad63 l61 cp65) rfl <| ja (sl ad63 l61 cp65) rfl <| J.nil ?_
       refine CJ.region <| jm (sl ad66 l62 cp67) rfl <| ja (sl ad66 l62 cp67) rfl <| J.nil <| CJ.region <| jm (ii i22) rfl <| jv (ii (IntKind.wrap .i64 (i22 + 1))) (V.add rfl rfl) ?_
       refine ja (ii (IntKind.wrap .i64 (i22 + 1))) rfl <| J.front 1 rfl <| J.nil ?_
       obtain rfl := si h30
       exact ⟨rfl, ⟨l61, l62, IntKind.wrap .i64 (i22 + 1), ad63, cp65, ad66, cp67, rfl, rt5, rfl, rfl⟩⟩
     refine CJ.skip <| CJ.region <| jm (ii i22) rfl <| jv (ii (IntKind.wrap .i64 (i22 + 1))) (V.add rfl rfl) <| ja (ii (IntKind.wrap .i64 (i22 + 1))) rfl <| J.nil ?_
     obtain rfl := si h30
     exact ⟨rfl, ⟨l20, l21, IntKind.wrap .i64 (i22 + 1), ad24, cp25, ad26, cp27, rfl, rt5, rfl, rfl⟩⟩
   refine CJ.dropAt 0 rfl <| CJ.exit ?_
   obtain rfl := si h30
   refine ⟨nofun, fun e => ?_⟩
   subst e
   exact ⟨rfl, ⟨l20, ad24, cp25, rfl, rt1, rfl, rfl⟩⟩
 rintro ρ _ _ ⟨l17, ad18, cp19, rfl, hf70, rfl, rfl⟩
 obtain ⟨ρ, rfl⟩ := hf70.ex
 refine PJ.wit Row.hn fun hn71 => PJ.done <| cr <| jm (sl ad18 l17 cp19) rfl <| ja (sl ad18 l17 cp19) rfl <| J.nil ?_
 refine CJ.ret ?_
 obtain rfl := si h
 exact ⟨_, _, Res.one rfl rfl, ⟨l17, ad18, cp19, rfl, rfl, rfl⟩, hpr, fun w hs => hs⟩

noncomputable def fn_law23_FlowOrders (xa : Tq1) : Option Bool :=
  (fn_ref20_Small (xa.1, xa.2.1, xa.2.2.1, xa.2.2.2.1, xa.2.2.2.2.1, xa.2.2.2.2.2.1, xa.2.2.2.2.2.2)).bind fun t1 => cond (!t1) ((fn_law23_awake).bind fun t2 => some (t2)) ((fn_flow_New (xa.1, xa.2.1, xa.2.2.1, xa.2.2.2.1, xa.2.2.2.2.1, xa.2.2.2.2.2.1, xa.2.2.2.2.2.2)).bind fun p3 => (fn_flow_Flow_Order p3).bind fun l4 => (fn_ref22_All (xa.1, xa.2.1, xa.2.2.1, xa.2.2.2.1, xa.2.2.2.2.1, xa.2.2.2.2.2.1, xa.2.2.2.2.2.2)).bind fun l5 => (fn_ref23_Arcs (xa.1, xa.2.1, xa.2.2.1, xa.2.2.2.1, xa.2.2.2.2.1, xa.2.2.2.2.2.1, xa.2.2.2.2.2.2)).bind fun l6 => (fn_ref23_Order (((l5.length : Nat) : Int)) l6).bind fun l7 => (fn_ref01_Same l4 l7).bind fun t9 => cond (t9) ((fn_law23_awake).bind fun t10 => some (t10)) (some (false)))
theorem law23_FlowOrders_ok {K : Hp} {xa : Tq1} {Aa2 : Option Addr} {Ca2 : Nat} {Aa3 : Option Addr} {Ca3 : Nat} {Aa4 : Option Addr} {Ca4 : Nat} {Aa5 : Option Addr} {Ca5 : Nat} {Aa6 : Option Addr} {Ca6 : Nat} (Ga2 : Is K (.sl Yq5) [sl Aa2 xa.2.2.1 Ca2] xa.2.2.1) (Ga3 : Is K Yq8 [sl Aa3 xa.2.2.2.1 Ca3] xa.2.2.2.1) (Ga4 : Is K (.sl Yq1) [sl Aa4 xa.2.2.2.2.1 Ca4] xa.2.2.2.2.1) (Ga5 : Is K Yq4 [sl Aa5 xa.2.2.2.2.2.1 Ca5] xa.2.2.2.2.2.1) (Ga6 : Is K (.sl Yq3) [sl Aa6 xa.2.2.2.2.2.2 Ca6] xa.2.2.2.2.2.2) {r : Bool} (h : fn_law23_FlowOrders xa = some r) :
    Tr Tryz.prog 4 #[.agg #[ii xa.1, ii xa.2.1, sl Aa2 xa.2.2.1 Ca2, sl Aa3 xa.2.2.2.1 Ca3, sl Aa4 xa.2.2.2.2.1 Ca4, sl Aa5 xa.2.2.2.2.2.1 Ca5, sl Aa6 xa.2.2.2.2.2.2 Ca6]] K [] (fun v K' L' => (∃ (t11 : Bool), t11 = r ∧ .bool t11 = v ∧ L' = []) ∧ K = K') := by
 refine Tr.k <| Tr.of func4 rfl ntmps4 rfl fun E F => ?_
 unfold fn_law23_FlowOrders at h
 refine cr <| jbx [ii xa.1, ii xa.2.1, sl Aa2 xa.2.2.1 Ca2, sl Aa3 xa.2.2.2.1 Ca3, sl Aa4 xa.2.2.2.2.1 Ca4, sl Aa5 xa.2.2.2.2.2.1 Ca5, sl Aa6 xa.2.2.2.2.2.2 Ca6] rfl rfl fun b12 => ja (.bool false) rfl <| J.nil <| CJ.seq <| CJ.seq ?_
 refine CJ.region <| jv (.agg #[ii xa.1, ii xa.2.1, sl Aa2 xa.2.2.1 Ca2, sl Aa3 xa.2.2.2.1 Ca3, sl Aa4 xa.2.2.2.2.1 Ca4, sl Aa5 xa.2.2.2.2.2.1 Ca5, sl Aa6 xa.2.2.2.2.2.2 Ca6]) (V.ld rfl (Ld.agg (cs := [ii xa.1, ii xa.2.1, sl Aa2 xa.2.2.1 Ca2, sl Aa3 xa.2.2.2.1 Ca3, sl Aa4 xa.2.2.2.2.1 Ca4, sl Aa5 xa.2.2.2.2.2.1 Ca5, sl Aa6 xa.2.2.2.2.2.2 Ca6]) underlying30 sz30 rfl (Rd.cls 0 0 rfl rfl))) ?_
 obtain ⟨r13, hr14, h⟩ := ob h
 refine J.op rfl (A.call (L1 := []) call6 rfl (ref20_Small_ok Ga2 Ga3 Ga4 Ga5 Ga6 hr14) rfl rfl) ?_
 rintro _ _ _ ⟨v15, _, rfl, ⟨⟨t18, rfl, rfl, rfl⟩, rfl⟩, _, rfl⟩
 refine jv (.bool (!t18)) (V.not rfl) <| J.nil <| cc rfl h (fun hc20 h => ?_) fun hc20 h => ?_
 · refine CJ.seq <| CJ.region ?_
   obtain ⟨r21, hr22, h⟩ := ob h
   refine J.op rfl (A.call (L1 := []) call7 rfl (law23_awake_ok hr22) rfl rfl) ?_
   rintro _ _ _ ⟨v24, _, rfl, ⟨⟨t25, rfl, rfl, rfl⟩, rfl⟩, _, rfl⟩
   refine ja (.bool t25) rfl <| J.nil <| CJ.ret ?_
   obtain rfl := si h
   exact ⟨_, _, Res.one rfl rfl, ⟨t25, rfl, rfl, rfl⟩, hpr, fun w hs => (Sep.dropAt 0 rfl hs)⟩
 refine CJ.skip <| cr <| jv (.agg #[ii xa.1, ii xa.2.1, sl Aa2 xa.2.2.1 Ca2, sl Aa3 xa.2.2.2.1 Ca3, sl Aa4 xa.2.2.2.2.1 Ca4, sl Aa5 xa.2.2.2.2.2.1 Ca5, sl Aa6 xa.2.2.2.2.2.2 Ca6]) (V.ld rfl (Ld.agg (cs := [ii xa.1, ii xa.2.1, sl Aa2 xa.2.2.1 Ca2, sl Aa3 xa.2.2.2.1 Ca3, sl Aa4 xa.2.2.2.2.1 Ca4, sl Aa5 xa.2.2.2.2.2.1 Ca5, sl Aa6 xa.2.2.2.2.2.2 Ca6]) underlying30 sz30 rfl (Rd.cls 0 0 rfl rfl))) ?_
 obtain ⟨r26, hr27, h⟩ := ob h
 refine J.op rfl (A.call (L1 := []) call8 rfl (flow_New_ok Ga2 Ga3 Ga4 Ga5 Ga6 hr27) rfl rfl) ?_
 rintro _ K28 _ ⟨v29, _, rfl, ⟨p31, v33, rfl, rfl, f34, rfl⟩, hK36, rfl⟩
 refine ja v33 rfl <| J.nil <| CJ.seq <| CJ.mix [Cl b12 30 [ii xa.1, ii xa.2.1, sl Aa2 xa.2.2.1 Ca2, sl Aa3 xa.2.2.2.1 Ca3, sl Aa4 xa.2.2.2.2.1 Ca4, sl Aa5 xa.2.2.2.2.2.1 Ca5, sl Aa6 xa.2.2.2.2.2.2 Ca6]] [([0, 2, 5], 1), ([], 3), ([4], 6), ([], 7), ([], 8), ([9], 10)] [11, 12] [] mixO (by decide +kernel) ⟨0, rfl, trivial⟩ rfl rfl rfl <| JM.cons <| qm v33 rfl <| qv (.agg #[ii xa.1, ii xa.2.1, sl Aa2 xa.2.2.1 Ca2, sl Aa3 xa.2.2.2.1 Ca3, sl Aa4 xa.2.2.2.2.1 Ca4, sl Aa5 xa.2.2.2.2.2.1 Ca5, sl Aa6 xa.2.2.2.2.2.2 Ca6]) (V.ld rfl (Ld.agg (cs := [ii xa.1, ii xa.2.1, sl Aa2 xa.2.2.1 Ca2, sl Aa3 xa.2.2.2.1 Ca3, sl Aa4 xa.2.2.2.2.1 Ca4, sl Aa5 xa.2.2.2.2.2.1 Ca5, sl Aa6 xa.2.2.2.2.2.2 Ca6]) underlying30 sz30 rfl (Rd.cls 0 0 rfl rfl))) ?_
 refine qv (.agg #[ii xa.1, ii xa.2.1, sl Aa2 xa.2.2.1 Ca2, sl Aa3 xa.2.2.2.1 Ca3, sl Aa4 xa.2.2.2.2.1 Ca4, sl Aa5 xa.2.2.2.2.2.1 Ca5, sl Aa6 xa.2.2.2.2.2.2 Ca6]) (V.ld rfl (Ld.agg (cs := [ii xa.1, ii xa.2.1, sl Aa2 xa.2.2.1 Ca2, sl Aa3 xa.2.2.2.1 Ca3, sl Aa4 xa.2.2.2.2.1 Ca4, sl Aa5 xa.2.2.2.2.2.1 Ca5, sl Aa6 xa.2.2.2.2.2.2 Ca6]) underlying30 sz30 rfl (Rd.cls 0 0 rfl rfl))) <| JQ.nil ?_
 obtain ⟨r37, hr38, h⟩ := ob h
 refine JA.op rfl (A.call (L1 := []) call17 rfl (flow_Flow_Order_ok f34 hr38) rfl rfl) ?_
 rintro _ _ _ ⟨v39, _, rfl, ⟨⟨l40, ad41, cp42, rfl, rfl, rfl⟩, rfl⟩, _, rfl⟩
 refine ⟨fun w hs => Hold.sub hpr ⟨1, rfl, trivial⟩ hs, ?_⟩
 refine JM.wit Row.hn fun hn43 => JM.cons <| JQ.nil ?_
 obtain ⟨r44, hr45, h⟩ := ob h
 refine JA.op rfl (A.call (L1 := []) call9 rfl (ref22_All_ok (Ga2.mono hK36) (Ga3.mono hK36) (Ga4.mono hK36) (Ga5.mono hK36) (Ga6.mono hK36) hr45) rfl rfl) ?_
 rintro _ _ _ ⟨v46, _, rfl, ⟨⟨l47, ad48, cp49, rfl, rfl, rfl⟩, rfl⟩, _, rfl⟩
 refine ⟨fun w hs => Hold.sub hpr ⟨2, rfl, trivial⟩ hs, ?_⟩
 refine JM.wit Row.hn fun hn50 => JM.cons <| qv (ii (((l47.length : Nat) : Int))) (V.len underlying35 rfl) <| JQ.nil ?_
 obtain ⟨r51, hr52, h⟩ := ob h
 refine JA.op rfl (A.call (L1 := []) call10 rfl (ref23_Arcs_ok (Ga2.mono hK36) (Ga3.mono hK36) (Ga4.mono hK36) (Ga5.mono hK36) (Ga6.mono hK36) hr52) rfl rfl) ?_
 rintro _ _ _ ⟨v53, _, rfl, ⟨⟨l54, ad55, cp56, rfl, rfl, rfl⟩, rfl⟩, _, rfl⟩
 refine ⟨fun w hs => Hold.sub hpr ⟨3, rfl, trivial⟩ hs, ?_⟩
 refine JM.wit Row.hn fun hn57 => JM.cons <| JQ.nil <| JA.persist (Hp.nil_le _) (by decide) fun K58 hK59 f60 => ?_
 obtain ⟨r61, hr62, h⟩ := ob h
 refine JA.op rfl (A.call (L1 := []) call23 rfl (ref23_Order_ok f60 hr62) rfl rfl) ?_
 rintro _ _ _ ⟨v63, _, rfl, ⟨⟨l65, ad66, cp67, rfl, rfl, rfl⟩, rfl⟩, _, rfl⟩
 refine ⟨fun w hs => Hold.sub hK59 ⟨3, rfl, trivial⟩ hs, ?_⟩
 refine JM.wit Row.hn fun hn68 => JM.cons <| JQ.nil ?_
 obtain ⟨r69, hr70, h⟩ := ob h
 refine JA.front 2 rfl <| JA.op rfl (A.call (L1 := [Row Hp.nil 3 (.int .i64) (sl ad41 l40 cp42) l40, Row Hp.nil 3 (.int .i64) (sl ad66 l65 cp67) l65]) call19 rfl (Tr.lend (Hp.nil_le _) (by decide) (fun K71 hK72 f73 => Tr.lend (Hp.nil_le _) (by decide) (fun K74 hK75 f76 => ref01_Same_ok (f73.mono hK75) f76 hr70))) rfl rfl) ?_
 rintro _ _ _ ⟨v77, _, rfl, ⟨⟨_, ⟨_, ⟨t78, rfl, rfl, rfl⟩, rfl⟩, rfl⟩, rfl⟩, _, rfl⟩
 refine ⟨fun w hs => Hold.sub hK59 ⟨3, rfl, trivial⟩ hs, ?_⟩
 refine JM.cons <| qm (.bool t78) rfl <| JQ.nil ?_
 rcases bt (t78) with hc79 | hc79
 · have h := ct hc79 h
   refine JA.run rfl rfl rfl hc79 ?_
   obtain ⟨r80, hr81, h⟩ := ob h
   refine JA.op rfl (A.call (L1 := []) call7 rfl (law23_awake_ok hr81) rfl rfl) ?_
   rintro _ _ _ ⟨v82, _, rfl, ⟨⟨t83, rfl, rfl, rfl⟩, rfl⟩, _, rfl⟩
   refine ⟨fun w hs => Hold.sub hK59 ⟨3, rfl, trivial⟩ hs, ?_⟩
   refine JM.nil <| qv (.bool t83) (V.pickT rfl hc79 rfl) <| qa (.bool t83) rfl <| JQ.nil <| J.nil <| CJ.ret ?_
   obtain rfl := si h
   exact ⟨_, _, Res.one rfl rfl, ⟨t83, rfl, rfl, rfl⟩, (hK36.trans hK59), fun w hs => (Sep.dropAt 0 rfl (Sep.dropAt 0 rfl (Sep.dropAt 0 rfl (Sep.dropAt 0 rfl hs))))⟩
 have h := cf hc79 h
 refine JA.skip rfl rfl rfl rfl hc79 <| JM.nil <| qv (.bool false) (V.pickF rfl hc79 rfl) <| qa (.bool false) rfl <| JQ.nil <| J.nil <| CJ.ret ?_
 obtain rfl := si h
 exact ⟨_, _, Res.one rfl rfl, ⟨false, rfl, rfl, rfl⟩, (hK36.trans hK59), fun w hs => (Sep.dropAt 0 rfl (Sep.dropAt 0 rfl (Sep.dropAt 0 rfl (Sep.dropAt 0 rfl hs))))⟩
end Go.Proofs.YtbennpandomacaaGreat
