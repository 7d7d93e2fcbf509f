/- What Go functions answer: generated. -/
import Derived.Test.YtbennpandomacaaGreatF3
namespace Go.Proofs.YtbennpandomacaaGreat
open Go.RowKit _root_.Go.Proofs.Tryz
set_option linter.unusedVariables false
set_option linter.unnecessarySimpa false
set_option linter.unusedSimpArgs false
set_option maxRecDepth 100000
set_option maxHeartbeats 4000000

noncomputable def fn_graph_Graph_Out (xa : Tq4) (xb : Int) : Option (List Int) :=
  (fn_graph_Graph_isNode xa xb).bind fun t48 => cond (!t48) (some ([])) ((xa : Option (Int × Tq8 × ((List Int) × (List Int)) × ((List Int) × (List Int)))).bind fun y54 => (fn_graph_index_of (y54.2.2.1.1, y54.2.2.1.2) xb).bind fun l70 => (fn_slices_Clone_int_int l70).bind fun l79 => some (l79))
theorem graph_Graph_Out_ok {K : Hp} {xa : Tq4} {xb : Int} {Wa0 : Value} (Ga0 : Is K (.ptr Yq6) [Wa0] xa) {r : (List Int)} (h : fn_graph_Graph_Out xa xb = some r) :
    Tr Tryz.prog 54 #[Wa0, ii xb] K [] (fun v K' L' => (∃ (l41 : (List Int)) (ad42 : Option Addr) (cp43 : Nat), l41 = r ∧ sl ad42 l41 cp43 = v ∧ L' = [Row Hp.nil 3 (.int .i64) (sl ad42 l41 cp43) l41]) ∧ K = K') := by
 refine Tr.k <| Tr.of func54 rfl ntmps54 rfl fun E F => ?_
 unfold fn_graph_Graph_Out at h
 refine cr <| ja (nos) rfl <| J.nil <| CJ.seq <| CJ.seq <| CJ.region ?_
 refine jm Wa0 rfl <| jm (ii xb) rfl ?_
 obtain ⟨r46, hr47, h⟩ := ob h
 refine J.op rfl (A.call (L1 := []) call55 rfl (graph_Graph_isNode_ok Ga0 hr47) rfl rfl) ?_
 rintro _ _ _ ⟨v49, _, rfl, ⟨⟨t48, rfl, rfl, rfl⟩, rfl⟩, _, rfl⟩
 refine jv (.bool (!t48)) (V.not rfl) <| J.nil <| cc rfl h (fun hc52 h => ?_) fun hc52 h => ?_
 · refine cr <| ja (nos) rfl <| J.nil <| CJ.by (fun w hs => Sep.rowNil (e := 3) (t := (.int .i64)) hs) <| CJ.ret ?_
   obtain rfl := si h
   exact ⟨_, _, Res.one rfl rfl, ⟨[], none, 0, rfl, rfl, rfl⟩, hpr, fun w hs => hs⟩
 refine CJ.skip <| cr <| jm Wa0 rfl ?_
 obtain ⟨y54, hy55, h⟩ := ob h
 obtain ⟨b56, o57, hv58, a59⟩ := Is.psome Ga0 hy55
 refine jv _ (V.nck hv58) <| jv _ (V.fad underlying97 rfl nz95 rfl) ?_
 obtain ⟨ad60, cp61, c62, f63⟩ := (((((a59).snd).snd).fst).fst).sl
 obtain ⟨ad64, cp65, c66, f67⟩ := ((((((a59).snd).snd).fst).snd).one).sl
 refine jv (.agg #[sl ad60 y54.2.2.1.1 cp61, sl ad64 y54.2.2.1.2 cp65]) (V.ld rfl (Ld.aggK (cs := [sl ad60 y54.2.2.1.1 cp61, sl ad64 y54.2.2.1.2 cp65]) underlying95 sz95 rfl ⟨c62, c66, trivial⟩ hpr)) <| jm (ii xb) rfl ?_
 obtain ⟨r68, hr69, h⟩ := ob h
 refine J.op rfl (A.call (L1 := []) call56 rfl (graph_index_of_ok f63 f67 hr69) rfl rfl) ?_
 rintro _ K75 _ ⟨v74, _, rfl, ⟨l70, ad71, cp72, rfl, rfl, f73, rfl⟩, hK76, rfl⟩
 obtain ⟨r77, hr78, h⟩ := ob h
 refine J.op rfl (A.call (L1 := []) call42 rfl (slices_Clone_int_int_ok f73 hr78) rfl rfl) ?_
 rintro _ _ _ ⟨v83, _, rfl, ⟨⟨l79, ad80, cp81, rfl, rfl, rfl⟩, rfl⟩, _, rfl⟩
 refine J.wit Row.hn fun hn82 => ja (sl ad80 l79 cp81) rfl <| J.nil <| CJ.ret ?_
 obtain rfl := si h
 exact ⟨_, _, Res.one rfl rfl, ⟨l79, ad80, cp81, rfl, rfl, rfl⟩, hK76, fun w hs => hs⟩
noncomputable def fn_graph_Graph_Next_l1 (xa : Tq4) (l1 : (List Int)) : ((List Int) × Int) → Option (((List Int) × Int) ⊕ (List Int)) := fun ((l2, i3) : ((List Int) × Int)) => cond (decide (i3 < (((l1.length : Nat) : Int)))) ((getI l2 i3).bind fun x4 => (xa : Option (Int × Tq8 × ((List Int) × (List Int)) × ((List Int) × (List Int)))).bind fun y5 => (getI y5.2.1 x4).bind fun x6 => (getI l2 i3).bind fun x7 => (some (l2.set i3.toNat x6.2)).bind fun z9 => some (.inl ((z9, IntKind.wrap .i64 (i3 + 1))))) (some (.inr (l2)))
noncomputable def fn_graph_Graph_Next (xa : Tq4) (xb : Int) : Option (List Int) :=
  (fn_graph_Graph_Out xa xb).bind fun l1 => (loop (fn_graph_Graph_Next_l1 xa l1) (l1, 0) : Option (List Int)).bind fun l2 => some (l2)
theorem graph_Graph_Next_ok {K : Hp} {xa : Tq4} {xb : Int} {Wa0 : Value} (Ga0 : Is K (.ptr Yq6) [Wa0] xa) {r : (List Int)} (h : fn_graph_Graph_Next xa xb = some r) :
    Tr Tryz.prog 35 #[Wa0, ii xb] K [] (fun v K' L' => (∃ (l2 : (List Int)) (ad4 : Option Addr) (cp6 : Nat), l2 = r ∧ .slice ad4 l2.length cp6 = v ∧ L' = [Row Hp.nil 3 (.int .i64) (.slice ad4 l2.length cp6) l2]) ∧ K = K') := by
 refine Tr.k <| Tr.of func35 rfl ntmps35 rfl fun E F => ?_
 unfold fn_graph_Graph_Next at h
 refine cr <| ja (nos) rfl <| J.nil <| cr <| jm Wa0 rfl ?_
 refine jm (ii xb) rfl ?_
 obtain ⟨r7, hr9, h⟩ := ob h
 refine J.op rfl (A.call (L1 := []) call54 rfl (graph_Graph_Out_ok Ga0 hr9) rfl rfl) ?_
 rintro _ _ _ ⟨v10, _, rfl, ⟨⟨l11, ad12, cp13, rfl, rfl, rfl⟩, rfl⟩, _, rfl⟩
 refine J.wit Row.hn fun hn14 => ja (.slice ad12 l11.length cp13) rfl <| J.nil <| CJ.seq <| cr <| jm (.slice ad12 l11.length cp13) rfl ?_
 refine jv (ii (((l11.length : Nat) : Int))) (V.len underlying42 rfl) <| jm (ii 0) rfl <| J.nil ?_
 obtain ⟨o15, ho17, h⟩ := ob h
 refine CJ.meetN (fun ρ K' L' => ∃ (l18 : (List Int)) (ad19 : Option Addr) (cp20 : Nat), l18 = o15 ∧ Fits [(5, .slice ad19 l18.length cp20)] ρ ∧ K = K' ∧ L' = Row Hp.nil 3 (.int .i64) (.slice ad19 l18.length cp20) l18 :: F) ?_ ?_
 · refine CJ.block <| CJ.loop (fun s ρ K' L' => ∃ (l21 : (List Int)) (i22 : Int) (ad23 : Option Addr) (cp24 : Nat), (l21, i22) = s ∧ Fits [(0, Wa0), (5, .slice ad23 l21.length cp24), (11, .slice ad23 l21.length cp24), (12, ii (((l11.length : Nat) : Int))), (13, ii i22)] ρ ∧ K = K' ∧ L' = Row Hp.nil 3 (.int .i64) (.slice ad23 l21.length cp24) l21 :: F) ho17 ⟨l11, 0, ad12, cp13, rfl, rt5, rfl, rfl⟩ ?_
   rintro s ρ _ _ r25 ⟨l21, i22, ad23, cp24, rfl, hf26, rfl, rfl⟩ h27
   obtain ⟨ρ, rfl⟩ := hf26.ex
   refine CJ.wit Row.hn fun hn28 => cr <| jv (.bool (decide (i22 < (((l11.length : Nat) : Int))))) (V.lss rfl rfl) <| J.nil <| CJ.seq <| cc rfl h27 (fun hc29 h27 => ?_) fun hc29 h27 => ?_
   · refine CJ.skip <| CJ.seq <| CJ.block <| cr <| jm (ii i22) rfl ?_
     obtain ⟨x30, hx31, h27⟩ := ob h27
     obtain ⟨p33, p34, p36⟩ := getI_some hx31
     obtain ⟨g37, e38⟩ := hn28 (fun e => by rw [e] at p34; simp at p34)
     refine jv _ (V.iad underlying42 sz3 rfl e38 rfl p33 p36) <| jv (ii x30) (V.ld rfl (Ld.sc sc3 (Rd.row 0 rfl e38 p34 (q := 0) (by simp [Tp.size]) (by decide) (by rintro _ rfl; rfl)))) <| ja (ii i22) rfl <| ja (ii x30) rfl <| J.nil <| CJ.region <| jm (.slice ad23 l21.length cp24) rfl ?_
     refine jm (ii i22) rfl <| jm Wa0 rfl ?_
     obtain ⟨y39, hy40, h27⟩ := ob h27
     obtain ⟨b41, o43, hv44, a45⟩ := Is.psome Ga0 hy40
     refine jv _ (V.nck hv44) <| jv _ (V.fad underlying97 rfl nz64 rfl) ?_
     obtain ⟨ad46, cp47, c48, f49⟩ := (((a45).snd).fst).sl
     refine jv (.slice ad46 y39.2.1.length cp47) (V.ld rfl (Ld.sc sc64 (Rd.k c48 hpr))) <| jm (ii x30) rfl ?_
     obtain ⟨x50, hx51, h27⟩ := ob h27
     obtain ⟨p52, p53, p55⟩ := getI_some hx51
     obtain ⟨b56, o57, e58, a59⟩ := (f49).at p53
     refine jv _ (V.iad underlying64 sz70 rfl e58 rfl p52 p55) <| jv _ (V.fad underlying70 rfl nz3 rfl) <| jv (ii x50.2) (V.ld rfl (Ld.sc sc3 (Rd.k (((a59).snd).one).int hpr))) ?_
     obtain ⟨x60, hx61, h27⟩ := ob h27
     obtain ⟨p62, p63, p65⟩ := getI_some hx61
     obtain ⟨g66, e67⟩ := hn28 (fun e => by rw [e] at p63; simp at p63)
     refine jv _ (V.iad underlying42 sz3 rfl e67 rfl p62 p65) ?_
     obtain ⟨z68, hz69, h27⟩ := ob h27
     have e71 := Option.some.inj hz69
     have hl72 : z68.length = l21.length := by rw [← e71, List.length_set]
     refine J.op rfl (A.storeR (ty := (.int .i64)) (q := 0) (y0 := x50.2) (zs := z68) sz3 rfl rfl rfl rfl e67 p63 (by simp [Tp.size]) (by decide) (by rintro _ rfl; exact rfl) e71) ?_
     rintro _ _ _ ⟨rfl, rfl, rfl⟩
     have hn73 : z68 ≠ [] → _ := fun h => hn28 (fun e => h (List.length_eq_zero_iff.1 (by rw [hl72]; exact List.length_eq_zero_iff.2 e)))
     refine J.nil <| CJ.region <| jv (ii (IntKind.wrap .i64 (i22 + 1))) (V.add rfl rfl) <| jm (ii (IntKind.wrap .i64 (i22 + 1))) rfl <| J.nil ?_
     obtain rfl := si h27
     exact ⟨rfl, ⟨z68, IntKind.wrap .i64 (i22 + 1), ad23, cp24, rfl, ⟨rfl, (by rw [hl72]; rfl), (by rw [hl72]; rfl), rfl, rfl, trivial⟩, rfl, (by rw [hl72]; first | done | rfl)⟩⟩
   refine CJ.exit ?_
   obtain rfl := si h27
   refine ⟨nofun, fun e => ?_⟩
   subst e
   exact ⟨rfl, ⟨l21, ad23, cp24, rfl, rt1, rfl, rfl⟩⟩
 rintro ρ _ _ ⟨l18, ad19, cp20, rfl, hf74, rfl, rfl⟩
 obtain ⟨ρ, rfl⟩ := hf74.ex
 refine PJ.wit Row.hn fun hn75 => PJ.done <| cr <| jm (.slice ad19 l18.length cp20) rfl <| ja (.slice ad19 l18.length cp20) rfl <| J.nil ?_
 refine CJ.ret ?_
 obtain rfl := si h
 exact ⟨_, _, Res.one rfl rfl, ⟨l18, ad19, cp20, rfl, rfl, rfl⟩, hpr, fun w hs => hs⟩

noncomputable def fn_flow_Flow_Next (xa : (Option (Tq9 × Tq4))) (xb : Int) : Option (List Int) :=
  (fn_flow_Flow_ways xa).bind fun p26 => (fn_graph_Graph_Next p26 xb).bind fun l34 => some (l34)
theorem flow_Flow_Next_ok {K : Hp} {xa : (Option (Tq9 × Tq4))} {xb : Int} {Wa0 : Value} (Ga0 : Is K (.ptr (.cons Yq9 (.one (.ptr Yq6)))) [Wa0] xa) {r : (List Int)} (h : fn_flow_Flow_Next xa xb = some r) :
    Tr Tryz.prog 13 #[Wa0, ii xb] K [] (fun v K' L' => (∃ (l19 : (List Int)) (ad20 : Option Addr) (cp21 : Nat), l19 = r ∧ sl ad20 l19 cp21 = v ∧ L' = [Row Hp.nil 3 (.int .i64) (sl ad20 l19 cp21) l19]) ∧ K = K') := by
 refine Tr.k <| Tr.of func13 rfl ntmps13 rfl fun E F => ?_
 unfold fn_flow_Flow_Next at h
 refine cr <| ja (nos) rfl <| J.nil <| cr <| jm Wa0 rfl ?_
 obtain ⟨r24, hr25, h⟩ := ob h
 refine J.op rfl (A.call (L1 := []) call34 rfl (flow_Flow_ways_ok Ga0 hr25) rfl rfl) ?_
 rintro _ K30 _ ⟨v29, _, rfl, ⟨p26, v27, rfl, rfl, f28, rfl⟩, hK31, rfl⟩
 refine jm (ii xb) rfl ?_
 obtain ⟨r32, hr33, h⟩ := ob h
 refine J.op rfl (A.call (L1 := []) call35 rfl (graph_Graph_Next_ok f28 hr33) rfl rfl) ?_
 rintro _ _ _ ⟨v38, _, rfl, ⟨⟨l34, ad35, cp36, rfl, rfl, rfl⟩, rfl⟩, _, rfl⟩
 refine J.wit Row.hn fun hn37 => ja (sl ad35 l34 cp36) rfl <| J.nil <| CJ.ret ?_
 obtain rfl := si h
 exact ⟨_, _, Res.one rfl rfl, ⟨l34, ad35, cp36, rfl, rfl, rfl⟩, hK31, fun w hs => hs⟩
noncomputable def fn_ref01_Same_l1 (xa : (List Int)) (xb : (List Int)) : Int → Option (Int ⊕ (Unit ⊕ Bool)) := fun (i1 : Int) => cond (decide (i1 < (((xa.length : Nat) : Int)))) ((getI xa i1).bind fun x2 => (getI xb i1).bind fun x3 => cond (!decide (x2 = x3)) (some (.inr ((.inr (false))))) (some (.inl (IntKind.wrap .i64 (i1 + 1))))) (some (.inr ((.inl ()))))
noncomputable def fn_ref01_Same (xa : (List Int)) (xb : (List Int)) : Option Bool :=
  cond (!decide ((((xa.length : Nat) : Int)) = (((xb.length : Nat) : Int)))) (some (false)) ((loop (fn_ref01_Same_l1 xa xb) 0 : Option (Unit ⊕ Bool)).bind fun o => match o with | .inr r => some r | .inl () => some (true))
theorem ref01_Same_ok {K : Hp} {xa : (List Int)} {xb : (List Int)} {Aa0 : Option Addr} {Ca0 : Nat} {Ab0 : Option Addr} {Cb0 : Nat} (Ga0 : Is K Yq7 [sl Aa0 xa Ca0] xa) (Gb0 : Is K Yq7 [sl Ab0 xb Cb0] xb) {r : Bool} (h : fn_ref01_Same xa xb = some r) :
    Tr Tryz.prog 19 #[sl Aa0 xa Ca0, sl Ab0 xb Cb0] K [] (fun v K' L' => (∃ (t1 : Bool), t1 = r ∧ .bool t1 = v ∧ L' = []) ∧ K = K') := by
 refine Tr.k <| Tr.of func19 rfl ntmps19 rfl fun E F => ?_
 unfold fn_ref01_Same at h
 refine cr <| ja (.bool false) rfl <| J.nil <| CJ.seq <| CJ.seq <| CJ.region ?_
 refine jm (sl Aa0 xa Ca0) rfl <| jv (ii (((xa.length : Nat) : Int))) (V.len underlying42 rfl) <| jm (sl Ab0 xb Cb0) rfl <| jv (ii (((xb.length : Nat) : Int))) (V.len underlying42 rfl) <| jv (.bool (!decide ((((xa.length : Nat) : Int)) = (((xb.length : Nat) : Int))))) (V.neq rfl rfl) <| J.nil <| cc rfl h (fun hc2 h => ?_) fun hc2 h => ?_
 · refine cr <| ja (.bool false) rfl <| J.nil <| CJ.ret ?_
   obtain rfl := si h
   exact ⟨_, _, Res.one rfl rfl, ⟨false, rfl, rfl, rfl⟩, hpr, fun w hs => hs⟩
 refine CJ.skip <| CJ.seq <| cr <| ja (ii 0) rfl <| J.nil ?_
 obtain ⟨o4, ho5, h⟩ := ob h
 refine CJ.joinN (o := o4) (fun s ρ K' L' => () = s ∧ Fits [] ρ ∧ K = K' ∧ F = L') ?_ ?_
 · refine CJ.block <| CJ.loop (fun s ρ K' L' => ∃ (i6 : Int), i6 = s ∧ Fits [(0, sl Aa0 xa Ca0), (1, sl Ab0 xb Cb0), (5, ii i6)] ρ ∧ K = K' ∧ F = L') ho5 ⟨0, rfl, rt3, rfl, rfl⟩ ?_
   rintro s ρ _ _ r7 ⟨i6, rfl, hf9, rfl, rfl⟩ h10
   obtain ⟨ρ, rfl⟩ := hf9.ex
   refine CJ.seq <| cr <| jm (ii i6) rfl <| jm (sl Aa0 xa Ca0) rfl <| jv (ii (((xa.length : Nat) : Int))) (V.len underlying42 rfl) <| jv (.bool (decide (i6 < (((xa.length : Nat) : Int))))) (V.lss rfl rfl) ?_
   refine J.nil <| cc rfl h10 (fun hc11 h10 => ?_) fun hc11 h10 => ?_
   · refine CJ.skip <| CJ.seq <| CJ.block <| CJ.seq <| CJ.mix [] [] [0, 1, 2, 3, 4, 5, 6, 7, 8] [] mixO (by decide +kernel) trivial rfl rfl rfl <| JM.nil <| qm (sl Aa0 xa Ca0) rfl ?_
     refine qm (ii i6) rfl ?_
     obtain ⟨x12, hx13, h10⟩ := ob h10
     obtain ⟨p14, p15, p17⟩ := getI_some hx13
     obtain ⟨b18, o20, e21, a22⟩ := (Ga0).at p15
     refine qv _ (V.iad underlying42 sz3 rfl e21 rfl p14 p17) <| qv (ii x12) (V.ld rfl (Ld.sc sc3 (Rd.k (a22).int hpr))) <| qm (sl Ab0 xb Cb0) rfl <| qm (ii i6) rfl ?_
     obtain ⟨x23, hx24, h10⟩ := ob h10
     obtain ⟨p25, p26, p27⟩ := getI_some hx24
     obtain ⟨b28, o29, e30, a31⟩ := (Gb0).at p26
     refine qv _ (V.iad underlying42 sz3 rfl e30 rfl p25 p27) <| qv (ii x23) (V.ld rfl (Ld.sc sc3 (Rd.k (a31).int hpr))) <| qv (.bool (!decide (x12 = x23))) (V.neq rfl rfl) <| JQ.nil <| J.nil <| cc rfl h10 (fun hc33 h10 => ?_) fun hc33 h10 => ?_
     · refine cr <| ja (.bool false) rfl <| J.nil <| CJ.ret ?_
       obtain rfl := si h10
       refine ⟨nofun, fun e => ?_⟩
       subst e
       refine .inr ⟨nofun, ?_⟩
       obtain rfl := si h
       exact ⟨_, _, Res.one rfl rfl, ⟨false, rfl, rfl, rfl⟩, hpr, fun w hs => hs⟩
     refine CJ.skip <| CJ.region <| jm (ii i6) rfl <| jv (ii (IntKind.wrap .i64 (i6 + 1))) (V.add rfl rfl) <| ja (ii (IntKind.wrap .i64 (i6 + 1))) rfl <| J.nil ?_
     obtain rfl := si h10
     exact ⟨rfl, ⟨IntKind.wrap .i64 (i6 + 1), rfl, rt3, rfl, rfl⟩⟩
   refine CJ.exit ?_
   obtain rfl := si h10
   refine ⟨nofun, fun e => ?_⟩
   subst e
   exact .inl ⟨rfl, _, rfl, ⟨rfl, trivial, rfl, rfl⟩⟩
 rintro s ρ _ _ ho34 ⟨rfl, hf35, rfl, rfl⟩
 subst ho34
 obtain ⟨ρ, rfl⟩ := hf35.ex
 refine PJ.done <| cr <| ja (.bool true) rfl <| J.nil <| CJ.ret ?_
 obtain rfl := si h
 exact ⟨_, _, Res.one rfl rfl, ⟨true, rfl, rfl, rfl⟩, hpr, fun w hs => hs⟩
noncomputable def fn_flow_Flow_Order_l1 (xa : (Option (Tq9 × Tq4))) (l1 : (List Int)) (l2 : (List Bool)) (l3 : (List Int)) (x4 : Int) : (List (List Int)) → Option ((List (List Int)) ⊕ ((List (List Int)) ⊕ (((List Int) × (List (List Int)) × (List Bool) × (List Int)) ⊕ ((List Int) × (List (List Int)) × (List Bool))))) := fun (l5 : (List (List Int))) => (getI l5 x4).bind fun x6 => cond (decide (0 < (((x6.length : Nat) : Int)))) ((getI l5 x4).bind fun x7 => (getI x7 0).bind fun x9 => (getI l5 x4).bind fun x10 => (subL x10 1 (((x10.length : Nat) : Int))).bind fun y11 => (getI l5 x4).bind fun x12 => (some (l5.set x4.toNat y11)).bind fun z13 => (getI l2 x9).bind fun x14 => cond (!x14) ((fn_flow_Flow_Next xa x9).bind fun l15 => (getI l2 x9).bind fun x17 => (some (l2.set x9.toNat true)).bind fun z18 => (getI z13 x9).bind fun x19 => (some (z13.set x9.toNat l15)).bind fun z20 => (app l3 ([x9] : List Int)).bind fun z21 => some (.inr ((.inr (.inl (l1, z20, z18, z21)))))) (some (.inl z13))) (some (.inr (.inl l5)))
noncomputable def fn_flow_Flow_Order_l2 (xa : (Option (Tq9 × Tq4))) : ((List Int) × (List (List Int)) × (List Bool) × (List Int)) → Option (((List Int) × (List (List Int)) × (List Bool) × (List Int)) ⊕ ((List Int) × (List (List Int)) × (List Bool))) := fun ((l1, l2, l3, l4) : ((List Int) × (List (List Int)) × (List Bool) × (List Int))) => cond (decide (0 < (((l4.length : Nat) : Int)))) ((getI l4 (IntKind.wrap .i64 ((((l4.length : Nat) : Int)) - 1))).bind fun x5 => (loop (fn_flow_Flow_Order_l1 xa l1 l3 l4 x5) l2 : Option ((List (List Int)) ⊕ (((List Int) × (List (List Int)) × (List Bool) × (List Int)) ⊕ ((List Int) × (List (List Int)) × (List Bool))))).bind fun o => match o with | .inr r => some r | .inl l6 => (subL l4 0 (IntKind.wrap .i64 ((((l4.length : Nat) : Int)) - 1))).bind fun y7 => (app l1 ([x5] : List Int)).bind fun z9 => some (.inl (z9, l6, l3, y7))) (some (.inr (((l1, l2, l3)))))
noncomputable def fn_flow_Flow_Order_l3 (xa : (Option (Tq9 × Tq4))) (z1 : List (List Int)) : ((List Int) × (List (List Int)) × (List Bool) × Int) → Option (((List Int) × (List (List Int)) × (List Bool) × Int) ⊕ (List Int)) := fun ((l2, l3, l4, i5) : ((List Int) × (List (List Int)) × (List Bool) × Int)) => cond (decide (i5 < (((z1.length : Nat) : Int)))) ((getI l4 i5).bind fun x6 => cond (x6) (some (.inl ((l2, l3, l4, IntKind.wrap .i64 (i5 + 1))))) ((fn_flow_Flow_Next xa i5).bind fun l7 => (getI l4 i5).bind fun x9 => (some (l4.set i5.toNat true)).bind fun z10 => (getI l3 i5).bind fun x11 => (some (l3.set i5.toNat l7)).bind fun z12 => (loop (fn_flow_Flow_Order_l2 xa) ((l2, z12, z10, ([i5] : List Int))) : Option (((List Int) × (List (List Int)) × (List Bool)))).bind fun (l13, l14, l15) => some (.inl ((l13, l14, l15, IntKind.wrap .i64 (i5 + 1)))))) (some (.inr (l2)))
noncomputable def fn_flow_Flow_Order (xa : (Option (Tq9 × Tq4))) : Option (List Int) :=
  (fn_flow_Flow_ways xa).bind fun p1 => (fn_graph_Graph_Nodes p1).bind fun i2 => (mk i2 i2 ([]) : Option (List (List Int))).bind fun z3 => (mk (((z3.length : Nat) : Int)) (((z3.length : Nat) : Int)) false : Option (List Bool)).bind fun z4 => (loop (fn_flow_Flow_Order_l3 xa z3) ([], z3, z4, 0) : Option (List Int)).bind fun l5 => some (l5)
theorem flow_Flow_Order_ok {K : Hp} {xa : (Option (Tq9 × Tq4))} {Wa0 : Value} (Ga0 : Is K (.ptr (.cons Yq9 (.one (.ptr Yq6)))) [Wa0] xa) {r : (List Int)} (h : fn_flow_Flow_Order xa = some r) :
    Tr Tryz.prog 17 #[Wa0] K [] (fun v K' L' => (∃ (l2 : (List Int)) (ad5 : Option Addr) (cp9 : Nat), l2 = r ∧ .slice ad5 l2.length cp9 = v ∧ L' = [Row Hp.nil 3 (.int .i64) (.slice ad5 l2.length cp9) l2]) ∧ K = K') := by
 refine Tr.k <| Tr.of func17 rfl ntmps17 rfl fun E F => ?_
 unfold fn_flow_Flow_Order at h
 refine cr <| ja (nos) rfl <| J.nil <| cr <| ja (nos) rfl ?_
 refine J.nil <| cr <| jm Wa0 rfl ?_
 obtain ⟨r10, hr11, h⟩ := ob h
 refine J.op rfl (A.call (L1 := []) call34 rfl (flow_Flow_ways_ok Ga0 hr11) rfl rfl) ?_
 rintro _ K12 _ ⟨v14, _, rfl, ⟨p15, v18, rfl, rfl, f19, rfl⟩, hK20, rfl⟩
 obtain ⟨r21, hr22, h⟩ := ob h
 refine J.op rfl (A.call (L1 := []) call39 rfl (graph_Graph_Nodes_ok f19 hr22) rfl rfl) ?_
 rintro _ _ _ ⟨v23, _, rfl, ⟨⟨i24, rfl, rfl, rfl⟩, rfl⟩, _, rfl⟩
 obtain ⟨z25, hz26, h⟩ := ob h
 refine J.op rfl (A.make (K0 := K12) (ty := Yq7) (x0 := []) underlying86 inf42 rfl (isNil (K := K12) (t := (.int .i64))) (by decide) (by decide) rfl rfl hz26) ?_
 rintro _ _ _ ⟨b27, rfl, rfl, rfl⟩
 have hn28 : z25 ≠ [] → ∃ g, (some ⟨b27, 0, none⟩ : Option Addr) = some ⟨g, 0, none⟩ := fun _ => ⟨b27, rfl⟩
 refine ja (.slice (some ⟨b27, 0, none⟩) z25.length i24.toNat) rfl <| J.nil <| cr <| jm (.slice (some ⟨b27, 0, none⟩) z25.length i24.toNat) rfl <| jv (ii (((z25.length : Nat) : Int))) (V.len underlying86 rfl) ?_
 obtain ⟨z29, hz30, h⟩ := ob h
 refine J.op rfl (A.make (K0 := Hp.nil) (ty := .bool) (x0 := false) underlying87 inf4 rfl rfl (by decide) (by decide) rfl rfl hz30) ?_
 rintro _ _ _ ⟨b31, rfl, rfl, rfl⟩
 have hn33 : z29 ≠ [] → ∃ g, (some ⟨b31, 0, none⟩ : Option Addr) = some ⟨g, 0, none⟩ := fun _ => ⟨b31, rfl⟩
 refine ja (.slice (some ⟨b31, 0, none⟩) z29.length (((z25.length : Nat) : Int)).toNat) rfl <| J.nil <| CJ.seq <| cr <| jm (.slice (some ⟨b27, 0, none⟩) z25.length i24.toNat) rfl <| jv (ii (((z25.length : Nat) : Int))) (V.len underlying86 rfl) ?_
 refine jm (ii 0) rfl <| J.nil ?_
 obtain ⟨o35, ho36, h⟩ := ob h
 refine CJ.meetN (fun ρ K' L' => ∃ (l37 : (List Int)) (ad38 : Option Addr) (cp40 : Nat), l37 = o35 ∧ Fits [(3, .slice ad38 l37.length cp40)] ρ ∧ Hp.le K12 K' ∧ L' = Row Hp.nil 3 (.int .i64) (.slice ad38 l37.length cp40) l37 :: F) ?_ ?_
 · refine CJ.block <| CJ.by (fun w hs => Sep.rowNil (e := 3) (t := (.int .i64)) hs) <| CJ.front 1 rfl <| CJ.front 2 rfl <| CJ.front 2 rfl <| CJ.loop (fun s ρ K' L' => ∃ (l41 : (List Int)) (l43 : (List (List Int))) (l44 : (List Bool)) (i45 : Int) (ad46 : Option Addr) (cp47 : Nat) (ad48 : Option Addr) (cp49 : Nat) (ad50 : Option Addr) (cp51 : Nat), (l41, l43, l44, i45) = s ∧ Fits [(0, Wa0), (3, .slice ad46 l41.length cp47), (4, .slice ad48 l43.length cp49), (5, .slice ad50 l44.length cp51), (18, ii (((z25.length : Nat) : Int))), (19, ii i45)] ρ ∧ Hp.le K12 K' ∧ L' = Row Hp.nil 3 (.int .i64) (.slice ad46 l41.length cp47) l41 :: Row K' 42 Yq7 (.slice ad48 l43.length cp49) l43 :: Row Hp.nil 4 .bool (.slice ad50 l44.length cp51) l44 :: F) ho36 ⟨[], z25, z29, 0, none, 0, (some ⟨b27, 0, none⟩), i24.toNat, (some ⟨b31, 0, none⟩), (((z25.length : Nat) : Int)).toNat, rfl, rt6, hpr, rfl⟩ ?_
   rintro s ρ K52 _ r53 ⟨l41, l43, l44, i45, ad46, cp47, ad48, cp49, ad50, cp51, rfl, hf54, hk55, rfl⟩ h56
   obtain ⟨ρ, rfl⟩ := hf54.ex
   refine CJ.wit Row.hn fun hn57 => CJ.front 1 rfl <| CJ.wit Row.hn fun hn58 => CJ.front 2 rfl <| CJ.wit Row.hn fun hn59 => CJ.seq <| CJ.region ?_
   refine jv (.bool (decide (i45 < (((z25.length : Nat) : Int))))) (V.lss rfl rfl) <| J.nil <| CJ.seq <| cc rfl h56 (fun hc60 h56 => ?_) fun hc60 h56 => ?_
   · refine CJ.skip <| CJ.seq <| CJ.block <| cr <| jm (ii i45) rfl <| ja (ii i45) rfl ?_
     refine J.nil <| CJ.scope <| CJ.seq <| cr <| jm (.slice ad50 l44.length cp51) rfl <| jm (ii i45) rfl ?_
     obtain ⟨x61, hx62, h56⟩ := ob h56
     obtain ⟨p63, p65, p66⟩ := getI_some hx62
     obtain ⟨g67, e68⟩ := hn59 (fun e => by rw [e] at p65; simp at p65)
     refine jv _ (V.iad underlying87 sz4 rfl e68 rfl p63 p66) <| jv (.bool x61) (V.ld rfl (Ld.sc sc4 (Rd.row 0 rfl e68 p65 (q := 0) (by simp [Tp.size]) (by decide) (by rintro _ rfl; rfl)))) <| J.nil <| cc rfl h56 (fun hc69 h56 => ?_) fun hc69 h56 => ?_
     · refine CJ.exit <| CJ.region <| jv (ii (IntKind.wrap .i64 (i45 + 1))) (V.add rfl rfl) <| jm (ii (IntKind.wrap .i64 (i45 + 1))) rfl <| J.front 1 rfl <| J.front 2 rfl <| J.nil ?_
       obtain rfl := si h56
       exact ⟨rfl, ⟨l41, l43, l44, IntKind.wrap .i64 (i45 + 1), ad46, cp47, ad48, cp49, ad50, cp51, rfl, rt6, hk55, rfl⟩⟩
     refine CJ.skip <| cr <| jm (.slice ad50 l44.length cp51) rfl <| jm (ii i45) rfl <| jm (.slice ad48 l43.length cp49) rfl <| jm (ii i45) rfl ?_
     refine jm Wa0 rfl <| jm (ii i45) rfl ?_
     obtain ⟨r70, hr71, h56⟩ := ob h56
     refine J.op rfl (A.call (L1 := []) call13 rfl (flow_Flow_Next_ok (Ga0.mono (hK20.trans hk55)) hr71) rfl rfl) ?_
     rintro _ _ _ ⟨v72, _, rfl, ⟨⟨l73, ad74, cp75, rfl, rfl, rfl⟩, rfl⟩, _, rfl⟩
     refine J.wit Row.hn fun hn76 => ?_
     obtain ⟨x77, hx78, h56⟩ := ob h56
     obtain ⟨p79, p80, p81⟩ := getI_some hx78
     obtain ⟨g82, e83⟩ := hn59 (fun e => by rw [e] at p80; simp at p80)
     refine jv _ (V.iad underlying87 sz4 rfl e83 rfl p79 p81) <| J.front 1 rfl ?_
     obtain ⟨z84, hz85, h56⟩ := ob h56
     have e88 := Option.some.inj hz85
     have hl89 : z84.length = l44.length := by rw [← e88, List.length_set]
     refine J.op rfl (A.storeR (ty := .bool) (q := 0) (y0 := true) (zs := z84) sz4 rfl rfl rfl rfl e83 p80 (by simp [Tp.size]) (by decide) (by rintro _ rfl; exact rfl) e88) ?_
     rintro _ _ _ ⟨rfl, rfl, rfl⟩
     have hn90 : z84 ≠ [] → _ := fun h => hn59 (fun e => h (List.length_eq_zero_iff.1 (by rw [hl89]; exact List.length_eq_zero_iff.2 e)))
     obtain ⟨x91, hx92, h56⟩ := ob h56
     obtain ⟨p93, p94, p95⟩ := getI_some hx92
     obtain ⟨g96, e97⟩ := hn58 (fun e => by rw [e] at p94; simp at p94)
     refine jv _ (V.iad underlying86 sz42 rfl e97 rfl p93 p95) <| J.front 2 rfl <| J.front 2 rfl <| J.persist (Hp.nil_le _) (by decide) fun K98 hK99 f100 => ?_
     obtain ⟨z101, hz102, h56⟩ := ob h56
     have e103 := Option.some.inj hz102
     have hl104 : z101.length = l43.length := by rw [← e103, List.length_set]
     refine J.op rfl (A.storeE (ty := Yq7) (Kr := K98) (y0 := l73) (zs := z101) (ds := [.slice ad74 l73.length cp75]) sz42 rfl rfl rfl rfl e97 p94 (by simp [Tp.size]) rfl f100 (Els.mono hK99) e103) ?_
     rintro _ _ _ ⟨rfl, rfl, rfl⟩
     have hn105 : z101 ≠ [] → _ := fun h => hn58 (fun e => h (List.length_eq_zero_iff.1 (by rw [hl104]; exact List.length_eq_zero_iff.2 e)))
     refine J.nil <| cr <| jm (ii i45) rfl ?_
     refine J.op rfl (A.lit (K0 := Hp.nil) (ty := (.int .i64)) (xs := ([i45] : List Int)) underlying42 inf3 rfl (by decide) rfl rfl rfl ⟨_, _, rfl, rfl, rfl⟩ rfl (by decide)) ?_
     rintro _ _ _ ⟨b106, rfl, rfl, rfl⟩
     have hn107 : ([i45] : List Int) ≠ [] → ∃ g, (some ⟨b106, 0, none⟩ : Option Addr) = some ⟨g, 0, none⟩ := fun _ => ⟨b106, rfl⟩
     refine ja (.slice (some ⟨b106, 0, none⟩) (([i45] : List Int).length) 1) rfl <| J.nil <| CJ.seq <| CJ.label ?_
     obtain ⟨o108, ho109, h56⟩ := ob h56
     refine CJ.meetN (fun ρ K' L' => ∃ (l110 : (List Int)) (l111 : (List (List Int))) (l112 : (List Bool)) (ad113 : Option Addr) (cp114 : Nat) (ad115 : Option Addr) (cp116 : Nat) (ad117 : Option Addr) (cp118 : Nat), (l110, l111, l112) = o108 ∧ Fits [(0, Wa0), (3, .slice ad113 l110.length cp114), (4, .slice ad115 l111.length cp116), (5, .slice ad117 l112.length cp118), (18, ii (((z25.length : Nat) : Int))), (19, ii i45)] ρ ∧ Hp.le K98 K' ∧ L' = Row Hp.nil 3 (.int .i64) (.slice ad113 l110.length cp114) l110 :: Row K' 42 Yq7 (.slice ad115 l111.length cp116) l111 :: Row Hp.nil 4 .bool (.slice ad117 l112.length cp118) l112 :: F) ?_ ?_
     · refine CJ.block <| CJ.front 2 rfl <| CJ.front 2 rfl <| CJ.front 3 rfl <| CJ.loop (fun s ρ K' L' => ∃ (l119 : (List Int)) (l120 : (List (List Int))) (l121 : (List Bool)) (l122 : (List Int)) (ad123 : Option Addr) (cp124 : Nat) (ad125 : Option Addr) (cp126 : Nat) (ad127 : Option Addr) (cp128 : Nat) (ad129 : Option Addr) (cp130 : Nat), (l119, l120, l121, l122) = s ∧ Fits [(0, Wa0), (3, .slice ad123 l119.length cp124), (4, .slice ad125 l120.length cp126), (5, .slice ad127 l121.length cp128), (7, .slice ad129 l122.length cp130), (18, ii (((z25.length : Nat) : Int))), (19, ii i45)] ρ ∧ Hp.le K98 K' ∧ L' = Row Hp.nil 3 (.int .i64) (.slice ad123 l119.length cp124) l119 :: Row K' 42 Yq7 (.slice ad125 l120.length cp126) l120 :: Row Hp.nil 4 .bool (.slice ad127 l121.length cp128) l121 :: Row Hp.nil 3 (.int .i64) (.slice ad129 l122.length cp130) l122 :: F) ho109 ⟨l41, z101, z84, ([i45] : List Int), ad46, cp47, ad48, cp49, ad50, cp51, (some ⟨b106, 0, none⟩), 1, rfl, ⟨rfl, rfl, (by rw [hl104]; rfl), (by rw [hl89]; rfl), rfl, rfl, rfl, trivial⟩, hpr, (by rw [hl104, hl89]; first | done | rfl)⟩ ?_
       rintro s ρ K131 _ r132 ⟨l119, l120, l121, l122, ad123, cp124, ad125, cp126, ad127, cp128, ad129, cp130, rfl, hf133, hk134, rfl⟩ h135
       obtain ⟨ρ, rfl⟩ := hf133.ex
       refine CJ.wit Row.hn fun hn136 => CJ.front 1 rfl <| CJ.wit Row.hn fun hn137 => CJ.front 2 rfl <| CJ.wit Row.hn fun hn138 => CJ.front 3 rfl <| CJ.wit Row.hn fun hn139 => ?_
       refine CJ.seq <| cr <| jm (.slice ad129 l122.length cp130) rfl <| jv (ii (((l122.length : Nat) : Int))) (V.len underlying42 rfl) <| jv (.bool (decide (0 < (((l122.length : Nat) : Int))))) (V.gtr rfl rfl) <| J.nil ?_
       refine cc rfl h135 (fun hc140 h135 => ?_) fun hc140 h135 => ?_
       · refine CJ.skip <| CJ.block <| cr <| jm (.slice ad129 l122.length cp130) rfl <| jm (.slice ad129 l122.length cp130) rfl <| jv (ii (((l122.length : Nat) : Int))) (V.len underlying42 rfl) ?_
         refine jv (ii (IntKind.wrap .i64 ((((l122.length : Nat) : Int)) - 1))) (V.sub rfl rfl) ?_
         obtain ⟨x141, hx142, h135⟩ := ob h135
         obtain ⟨p143, p144, p145⟩ := getI_some hx142
         obtain ⟨g146, e147⟩ := hn139 (fun e => by rw [e] at p144; simp at p144)
         refine jv _ (V.iad underlying42 sz3 rfl e147 rfl p143 p145) <| jv (ii x141) (V.ld rfl (Ld.sc sc3 (Rd.row 0 rfl e147 p144 (q := 0) (by simp [Tp.size]) (by decide) (by rintro _ rfl; rfl)))) <| ja (ii x141) rfl <| J.nil <| CJ.seq ?_
         obtain ⟨o148, ho149, h135⟩ := ob h135
         refine CJ.joinN (o := o148) (fun s ρ K' L' => ∃ (l150 : (List (List Int))) (ad151 : Option Addr) (cp152 : Nat), l150 = s ∧ Fits [(0, Wa0), (3, .slice ad123 l119.length cp124), (4, .slice ad151 l150.length cp152), (5, .slice ad127 l121.length cp128), (7, .slice ad129 l122.length cp130), (8, ii x141), (18, ii (((z25.length : Nat) : Int))), (19, ii i45)] ρ ∧ K131 = K' ∧ L' = Row Hp.nil 3 (.int .i64) (.slice ad123 l119.length cp124) l119 :: Row Hp.nil 4 .bool (.slice ad127 l121.length cp128) l121 :: Row Hp.nil 3 (.int .i64) (.slice ad129 l122.length cp130) l122 :: Row K131 42 Yq7 (.slice ad151 l150.length cp152) l150 :: F) ?_ ?_
         · refine CJ.block <| CJ.front 2 rfl <| CJ.front 1 rfl <| CJ.front 2 rfl <| CJ.front 3 rfl <| CJ.loop (fun s ρ K' L' => ∃ (l153 : (List (List Int))) (ad154 : Option Addr) (cp155 : Nat), l153 = s ∧ Fits [(0, Wa0), (3, .slice ad123 l119.length cp124), (4, .slice ad154 l153.length cp155), (5, .slice ad127 l121.length cp128), (7, .slice ad129 l122.length cp130), (8, ii x141), (18, ii (((z25.length : Nat) : Int))), (19, ii i45)] ρ ∧ K131 = K' ∧ L' = Row Hp.nil 3 (.int .i64) (.slice ad123 l119.length cp124) l119 :: Row Hp.nil 4 .bool (.slice ad127 l121.length cp128) l121 :: Row Hp.nil 3 (.int .i64) (.slice ad129 l122.length cp130) l122 :: Row K131 42 Yq7 (.slice ad154 l153.length cp155) l153 :: F) ho149 ⟨l120, ad125, cp126, rfl, rt8, rfl, rfl⟩ ?_
           rintro s ρ _ _ r156 ⟨l153, ad154, cp155, rfl, hf157, rfl, rfl⟩ h158
           obtain ⟨ρ, rfl⟩ := hf157.ex
           refine CJ.front 3 rfl <| CJ.wit Row.hn fun hn159 => CJ.seq <| cr <| jm (.slice ad154 l153.length cp155) rfl <| jm (ii x141) rfl ?_
           obtain ⟨x160, hx161, h158⟩ := ob h158
           obtain ⟨p162, p163, p164⟩ := getI_some hx161
           obtain ⟨g165, e166⟩ := hn159 (fun e => by rw [e] at p163; simp at p163)
           refine jv _ (V.iad underlying86 sz42 rfl e166 rfl p162 p164) <| J.openX fun cs167 hcs168 => ?_
           obtain ⟨ad169, cp170, c171, f172⟩ := (Els.atx hcs168 p163).sl
           refine jv (.slice ad169 x160.length cp170) (V.ld rfl (Ld.sc sc42 (Rd.rx 0 rfl e166 c171))) <| jv (ii (((x160.length : Nat) : Int))) (V.len underlying42 rfl) <| jv (.bool (decide (0 < (((x160.length : Nat) : Int))))) (V.gtr rfl rfl) <| J.nil <| cc rfl h158 (fun hc173 h158 => ?_) fun hc173 h158 => ?_
           · refine CJ.skip <| CJ.block <| cr <| jm (.slice ad154 l153.length cp155) rfl <| jm (ii x141) rfl ?_
             obtain ⟨x174, hx175, h158⟩ := ob h158
             obtain ⟨p176, p177, p178⟩ := getI_some hx175
             obtain ⟨g179, e180⟩ := hn159 (fun e => by rw [e] at p177; simp at p177)
             refine jv _ (V.iad underlying86 sz42 rfl e180 rfl p176 p178) ?_
             obtain ⟨ad181, cp182, c183, f184⟩ := (Els.atx hcs168 p177).sl
             refine jv (.slice ad181 x174.length cp182) (V.ld rfl (Ld.sc sc42 (Rd.rx 0 rfl e180 c183))) ?_
             obtain ⟨x185, hx186, h158⟩ := ob h158
             obtain ⟨p187, p188, p189⟩ := getI_some hx186
             obtain ⟨b190, o191, e192, a193⟩ := (f184).at p188
             refine jv _ (V.iad underlying42 sz3 rfl e192 rfl p187 p189) <| jv (ii x185) (V.ld rfl (Ld.sc sc3 (Rd.k (a193).int hpr))) <| ja (ii x185) rfl <| J.nil <| cr <| jm (.slice ad154 l153.length cp155) rfl ?_
             refine jm (ii x141) rfl <| jm (.slice ad154 l153.length cp155) rfl <| jm (ii x141) rfl ?_
             obtain ⟨x194, hx195, h158⟩ := ob h158
             obtain ⟨p196, p197, p198⟩ := getI_some hx195
             obtain ⟨g199, e200⟩ := hn159 (fun e => by rw [e] at p197; simp at p197)
             refine jv _ (V.iad underlying86 sz42 rfl e200 rfl p196 p198) ?_
             obtain ⟨ad201, cp202, c203, f204⟩ := (Els.atx hcs168 p197).sl
             refine jv (.slice ad201 x194.length cp202) (V.ld rfl (Ld.sc sc42 (Rd.rx 0 rfl e200 c203))) ?_
             obtain ⟨y205, hy206, h158⟩ := ob h158
             obtain ⟨ad207, cp208, hv209, f210⟩ := V.subI (tp := (.int .i64)) underlying42 sz3 f204 hy206
             refine jv (.slice ad207 y205.length cp208) (hv209 rfl (fun _ h => by cases h; exact ⟨_, rfl⟩) nofun nofun (fun _ => rfl)) ?_
             obtain ⟨x211, hx212, h158⟩ := ob h158
             obtain ⟨p213, p214, p215⟩ := getI_some hx212
             obtain ⟨g216, e217⟩ := hn159 (fun e => by rw [e] at p214; simp at p214)
             refine jv _ (V.iad underlying86 sz42 rfl e217 rfl p213 p215) <| J.by (fun w hs => hs.mono RowX.row) ?_
             obtain ⟨z218, hz219, h158⟩ := ob h158
             have e220 := Option.some.inj hz219
             have hl221 : z218.length = l153.length := by rw [← e220, List.length_set]
             refine J.op rfl (A.storeE (ty := Yq7) (Kr := K131) (y0 := y205) (zs := z218) (ds := [.slice ad207 y205.length cp208]) sz42 rfl rfl rfl rfl e217 p214 (by simp [Tp.size]) rfl f210 (Els.mono hpr) e220) ?_
             rintro _ _ _ ⟨rfl, rfl, rfl⟩
             have hn222 : z218 ≠ [] → _ := fun h => hn159 (fun e => h (List.length_eq_zero_iff.1 (by rw [hl221]; exact List.length_eq_zero_iff.2 e)))
             refine J.nil <| cr <| jm (.slice ad127 l121.length cp128) rfl <| jm (ii x185) rfl ?_
             obtain ⟨x223, hx224, h158⟩ := ob h158
             obtain ⟨p225, p226, p227⟩ := getI_some hx224
             obtain ⟨g228, e229⟩ := hn138 (fun e => by rw [e] at p226; simp at p226)
             refine jv _ (V.iad underlying87 sz4 rfl e229 rfl p225 p227) <| jv (.bool x223) (V.ld rfl (Ld.sc sc4 (Rd.row 2 rfl e229 p226 (q := 0) (by simp [Tp.size]) (by decide) (by rintro _ rfl; rfl)))) <| jv (.bool (!x223)) (V.not rfl) <| J.nil <| cc rfl h158 (fun hc230 h158 => ?_) fun hc230 h158 => ?_
             · refine cr <| jm (.slice ad127 l121.length cp128) rfl <| jm (ii x185) rfl <| jm (.slice ad154 l153.length cp155) rfl <| jm (ii x185) rfl <| jm Wa0 rfl ?_
               refine jm (ii x185) rfl ?_
               obtain ⟨r231, hr232, h158⟩ := ob h158
               refine J.op rfl (A.call (L1 := []) call13 rfl (flow_Flow_Next_ok (Ga0.mono (((hK20.trans hk55).trans hK99).trans hk134)) hr232) rfl rfl) ?_
               rintro _ _ _ ⟨v233, _, rfl, ⟨⟨l234, ad235, cp236, rfl, rfl, rfl⟩, rfl⟩, _, rfl⟩
               refine J.wit Row.hn fun hn237 => ?_
               obtain ⟨x238, hx239, h158⟩ := ob h158
               obtain ⟨p240, p241, p242⟩ := getI_some hx239
               obtain ⟨g243, e244⟩ := hn138 (fun e => by rw [e] at p241; simp at p241)
               refine jv _ (V.iad underlying87 sz4 rfl e244 rfl p240 p242) <| J.front 3 rfl ?_
               obtain ⟨z245, hz246, h158⟩ := ob h158
               have e247 := Option.some.inj hz246
               have hl248 : z245.length = l121.length := by rw [← e247, List.length_set]
               refine J.op rfl (A.storeR (ty := .bool) (q := 0) (y0 := true) (zs := z245) sz4 rfl rfl rfl rfl e244 p241 (by simp [Tp.size]) (by decide) (by rintro _ rfl; exact rfl) e247) ?_
               rintro _ _ _ ⟨rfl, rfl, rfl⟩
               have hn249 : z245 ≠ [] → _ := fun h => hn138 (fun e => h (List.length_eq_zero_iff.1 (by rw [hl248]; exact List.length_eq_zero_iff.2 e)))
               obtain ⟨x250, hx251, h158⟩ := ob h158
               obtain ⟨p252, p253, p254⟩ := getI_some hx251
               obtain ⟨g255, e256⟩ := hn222 (fun e => by rw [e] at p253; simp at p253)
               refine jv _ (V.iad underlying86 sz42 rfl e256 rfl p252 (by rw [← hl221]; exact p254)) <| J.front 2 rfl <| J.front 2 rfl <| J.persist (Hp.nil_le _) (by decide) fun K257 hK258 f259 => ?_
               obtain ⟨z260, hz261, h158⟩ := ob h158
               have e262 := Option.some.inj hz261
               have hl263 : z260.length = l153.length := by rw [← e262, List.length_set]; exact hl221
               refine J.op rfl (A.storeE (ty := Yq7) (Kr := K257) (y0 := l234) (zs := z260) (ds := [.slice ad235 l234.length cp236]) sz42 rfl rfl rfl rfl e256 p253 (by simp [Tp.size]) rfl f259 (Els.mono hK258) e262) ?_
               rintro _ _ _ ⟨rfl, rfl, rfl⟩
               have hn264 : z260 ≠ [] → _ := fun h => hn222 (fun e => h (List.length_eq_zero_iff.1 (by rw [hl263]; exact (hl221 ▸ List.length_eq_zero_iff.2 e))))
               refine J.nil <| cr <| jm (.slice ad129 l122.length cp130) rfl <| jm (ii x185) rfl ?_
               refine J.op rfl (A.lit (K0 := Hp.nil) (ty := (.int .i64)) (xs := ([x185] : List Int)) underlying42 inf3 rfl (by decide) rfl rfl rfl ⟨_, _, rfl, rfl, rfl⟩ rfl (by decide)) ?_
               rintro _ _ _ ⟨b265, rfl, rfl, rfl⟩
               have hn266 : ([x185] : List Int) ≠ [] → ∃ g, (some ⟨b265, 0, none⟩ : Option Addr) = some ⟨g, 0, none⟩ := fun _ => ⟨b265, rfl⟩
               obtain ⟨z267, hz268, h158⟩ := ob h158
               refine J.front 4 rfl <| J.op rfl (A.appR (Kr := Hp.nil) underlying42 inf3 rfl rfl (by decide) (by decide) rfl rfl (Els.flat rfl) (Els.flat rfl) hz268) ?_
               rintro _ _ _ ⟨v269, rfl, rfl, rfl⟩
               refine J.wit Row.form ?_
               rintro ⟨ad270, cp271, rfl, _, _, hn272⟩
               refine ja (.slice ad270 z267.length cp271) rfl <| J.nil <| CJ.front 2 rfl <| CJ.front 2 rfl <| CJ.front 3 rfl <| CJ.exit ?_
               obtain rfl := si h158
               refine ⟨nofun, fun e => ?_⟩
               subst e
               refine .inr ⟨nofun, ?_⟩
               obtain rfl := si h135
               exact ⟨rfl, ⟨l119, z260, z245, z267, ad123, cp124, ad154, cp155, ad127, cp128, ad270, cp271, rfl, ⟨rfl, rfl, (by rw [hl263]; rfl), (by rw [hl248]; rfl), rfl, rfl, rfl, trivial⟩, (hk134.trans hK258), (by rw [hl263, hl248]; first | done | rfl)⟩⟩
             refine CJ.front 3 rfl <| CJ.front 3 rfl <| CJ.front 3 rfl <| CJ.skip ?_
             obtain rfl := si h158
             exact ⟨rfl, ⟨z218, ad154, cp155, rfl, ⟨rfl, rfl, (by rw [hl221]; rfl), rfl, rfl, rfl, rfl, rfl, trivial⟩, rfl, (by rw [hl221]; first | done | rfl)⟩⟩
           refine CJ.by (fun w hs => hs.mono RowX.row) <| CJ.front 3 rfl <| CJ.front 3 rfl <| CJ.front 3 rfl <| CJ.exit ?_
           obtain rfl := si h158
           refine ⟨nofun, fun e => ?_⟩
           subst e
           exact .inl ⟨rfl, _, rfl, ⟨l153, ad154, cp155, rfl, rt8, rfl, rfl⟩⟩
         rintro s ρ _ _ ho273 ⟨l150, ad151, cp152, rfl, hf274, rfl, rfl⟩
         subst ho273
         obtain ⟨ρ, rfl⟩ := hf274.ex
         refine PJ.front 3 rfl <| PJ.wit Row.hn fun hn275 => PJ.done <| cr <| jm (.slice ad129 l122.length cp130) rfl <| jm (.slice ad129 l122.length cp130) rfl ?_
         refine jv (ii (((l122.length : Nat) : Int))) (V.len underlying42 rfl) <| jv (ii (IntKind.wrap .i64 ((((l122.length : Nat) : Int)) - 1))) (V.sub rfl rfl) <| J.front 3 rfl ?_
         obtain ⟨y276, hy277, h135⟩ := ob h135
         refine J.wit Row.two fun hd278 => J.by (fun w hs => hs.mono (Row.trunc hy277)) <| J.wit Row.hn fun hn279 => jv (.slice ad129 y276.length cp130) (V.trunc underlying42 sz3 hd278 hy277 rfl rfl) <| ja (.slice ad129 y276.length cp130) rfl <| J.nil <| CJ.region ?_
         refine jm (.slice ad123 l119.length cp124) rfl <| jm (ii x141) rfl ?_
         refine J.op rfl (A.lit (K0 := Hp.nil) (ty := (.int .i64)) (xs := ([x141] : List Int)) underlying42 inf3 rfl (by decide) rfl rfl rfl ⟨_, _, rfl, rfl, rfl⟩ rfl (by decide)) ?_
         rintro _ _ _ ⟨b280, rfl, rfl, rfl⟩
         have hn281 : ([x141] : List Int) ≠ [] → ∃ g, (some ⟨b280, 0, none⟩ : Option Addr) = some ⟨g, 0, none⟩ := fun _ => ⟨b280, rfl⟩
         obtain ⟨z282, hz283, h135⟩ := ob h135
         refine J.front 3 rfl <| J.op rfl (A.appR (Kr := Hp.nil) underlying42 inf3 rfl rfl (by decide) (by decide) rfl rfl (Els.flat rfl) (Els.flat rfl) hz283) ?_
         rintro _ _ _ ⟨v284, rfl, rfl, rfl⟩
         refine J.wit Row.form ?_
         rintro ⟨ad285, cp286, rfl, _, _, hn287⟩
         refine ja (.slice ad285 z282.length cp286) rfl <| J.front 1 rfl <| J.front 3 rfl <| J.front 3 rfl <| J.front 3 rfl <| J.nil ?_
         obtain rfl := si h135
         exact ⟨rfl, ⟨z282, l150, l121, y276, ad285, cp286, ad151, cp152, ad127, cp128, ad129, cp130, rfl, rt7, hk134, rfl⟩⟩
       refine CJ.dropAt 0 rfl <| CJ.front 1 rfl <| CJ.front 2 rfl <| CJ.exit ?_
       obtain rfl := si h135
       refine ⟨nofun, fun e => ?_⟩
       subst e
       exact ⟨rfl, ⟨l119, l120, l121, ad123, cp124, ad125, cp126, ad127, cp128, rfl, rt6, hk134, rfl⟩⟩
     rintro ρ K288 _ ⟨l110, l111, l112, ad113, cp114, ad115, cp116, ad117, cp118, rfl, hf289, hk290, rfl⟩
     obtain ⟨ρ, rfl⟩ := hf289.ex
     refine PJ.wit Row.hn fun hn291 => PJ.front 1 rfl <| PJ.wit Row.hn fun hn292 => PJ.front 2 rfl <| PJ.wit Row.hn fun hn293 => PJ.done <| CJ.region ?_
     refine jv (ii (IntKind.wrap .i64 (i45 + 1))) (V.add rfl rfl) <| jm (ii (IntKind.wrap .i64 (i45 + 1))) rfl <| J.front 1 rfl <| J.front 2 rfl <| J.nil ?_
     obtain rfl := si h56
     exact ⟨rfl, ⟨l110, l111, l112, IntKind.wrap .i64 (i45 + 1), ad113, cp114, ad115, cp116, ad117, cp118, rfl, rt6, ((hk55.trans hK99).trans hk290), rfl⟩⟩
   refine CJ.dropAt 0 rfl <| CJ.dropAt 0 rfl <| CJ.exit ?_
   obtain rfl := si h56
   refine ⟨nofun, fun e => ?_⟩
   subst e
   exact ⟨rfl, ⟨l41, ad46, cp47, rfl, rt1, hk55, rfl⟩⟩
 rintro ρ K294 _ ⟨l37, ad38, cp40, rfl, hf295, hk296, rfl⟩
 obtain ⟨ρ, rfl⟩ := hf295.ex
 refine PJ.wit Row.hn fun hn297 => PJ.done <| cr <| jm (.slice ad38 l37.length cp40) rfl <| ja (.slice ad38 l37.length cp40) rfl <| J.nil ?_
 refine CJ.ret ?_
 obtain rfl := si h
 exact ⟨_, _, Res.one rfl rfl, ⟨l37, ad38, cp40, rfl, rfl, rfl⟩, (hK20.trans hk296), fun w hs => hs⟩

noncomputable def fn_flow_Flow_Points (xa : (Option (Tq9 × Tq4))) : Option (Tq9) :=
  cond (xa.isNone) (some (none)) ((xa : Option (Tq9 × Tq4)).bind fun y15 => some (y15.1))
theorem flow_Flow_Points_ok {K : Hp} {xa : (Option (Tq9 × Tq4))} {Wa0 : Value} (Ga0 : Is K (.ptr (.cons Yq9 (.one (.ptr Yq6)))) [Wa0] xa) {r : Tq9} (h : fn_flow_Flow_Points xa = some r) :
    Tr Tryz.prog 11 #[Wa0] K [] (fun v K' L' => (∃ (p11 : Tq9) (v12 : Value), p11 = r ∧ v12 = v ∧ Is K' Yq9 [v12] p11 ∧ L' = [])) := by
 refine Tr.of func11 rfl ntmps11 rfl fun E F => ?_
 unfold fn_flow_Flow_Points at h
 refine cr <| ja (.pointer none) rfl <| J.nil <| CJ.seq <| CJ.seq <| CJ.region ?_
 refine jm Wa0 rfl <| jv (.bool xa.isNone) (V.kp_eql underlying33 Ga0 rfl rfl) <| J.nil <| cc rfl h (fun hc14 h => ?_) fun hc14 h => ?_
 · refine cr <| ja (.pointer none) rfl <| J.nil <| CJ.ret ?_
   obtain rfl := si h
   exact ⟨_, _, Res.one rfl rfl, ⟨none, .pointer none, rfl, rfl, Is.ptr_nil, rfl⟩, hpr, fun w hs => hs⟩
 refine CJ.skip <| cr <| jm Wa0 rfl ?_
 obtain ⟨y15, hy16, h⟩ := ob h
 obtain ⟨b17, o18, hv19, a20⟩ := Is.psome Ga0 hy16
 refine jv _ (V.nck hv19) <| jv _ (V.fad underlying76 rfl nz39 rfl) ?_
 obtain ⟨v21, c22, f23⟩ := ((a20).fst).ptr
 refine jv v21 (V.ld rfl (Ld.sc sc39 (Rd.k c22 hpr))) <| ja v21 rfl <| J.nil <| CJ.ret ?_
 obtain rfl := si h
 exact ⟨_, _, Res.one rfl rfl, ⟨y15.1, v21, rfl, rfl, f23, rfl⟩, hpr, fun w hs => hs⟩

noncomputable def fn_law23_awake  : Option Bool :=
  (fn_flow_New ((1, 1, [], ([[]] : List Tq3), [], [], ([(([(0, 0, 0, 0, false)] : List Tq2), (1, 0, 0, ([0] : List Int), [], []))] : List ((List Tq2) × Tq5))))).bind fun p1 => (fn_flow_Flow_Next p1 0).bind fun l2 => (fn_ref01_Same l2 ([1] : List Int)).bind fun t3 => (cond (t3) ((fn_flow_Flow_Next p1 1).bind fun l4 => (fn_ref01_Same l4 ([0] : List Int)).bind fun t5 => some (t5)) (some (false))).bind fun t6 => (cond (t6) ((fn_flow_Flow_Order p1).bind fun l7 => (fn_ref01_Same l7 ([1, 0] : List Int)).bind fun t9 => some (t9)) (some (false))).bind fun t10 => cond (t10) ((fn_flow_Flow_Points p1).bind fun p11 => (fn_point_Points_Len p11).bind fun i12 => some (decide (i12 = 2))) (some (false))
theorem law23_awake_ok {K : Hp}    {r : Bool} (h : fn_law23_awake = some r) :
    Tr Tryz.prog 7 #[] K [] (fun v K' L' => (∃ (t4 : Bool), t4 = r ∧ .bool t4 = v ∧ L' = []) ∧ K = K') := by
 refine Tr.k <| Tr.of func7 rfl ntmps7 rfl fun E F => ?_
 unfold fn_law23_awake at h
 refine cr <| ja (.bool false) rfl <| J.nil <| cr <| jv (.agg #[nos]) (V.build inf26 places26 rfl rfl) ?_
 refine J.op rfl (A.lit (K0 := K) (ty := (.one (.sl Yq1))) (xs := ([[]] : List Tq3)) underlying23 inf26 rfl (by decide) rfl rfl rfl ⟨_, _, rfl, (isNil (K := K) (t := Yq1)), rfl⟩ rfl (by decide)) ?_
 rintro _ _ _ ⟨b5, rfl, rfl, rfl⟩
 have hn6 : ([[]] : List Tq3) ≠ [] → ∃ g, (some ⟨b5, 0, none⟩ : Option Addr) = some ⟨g, 0, none⟩ := fun _ => ⟨b5, rfl⟩
 refine jv (.agg #[ii 0, ii 0, ii 0, ii 0, .bool false]) (V.build inf62 places62 rfl rfl) ?_
 refine J.op rfl (A.lit (K0 := Hp.nil) (ty := Yq2) (xs := ([(0, 0, 0, 0, false)] : List Tq2)) underlying56 inf62 rfl (by decide) rfl rfl rfl ⟨_, _, rfl, ⟨_, _, rfl, rfl, rfl, ⟨_, _, rfl, rfl, rfl, ⟨_, _, rfl, rfl, rfl, ⟨_, _, rfl, rfl, rfl, rfl⟩⟩⟩⟩, rfl⟩ rfl (by decide)) ?_
 rintro _ _ _ ⟨b9, rfl, rfl, rfl⟩
 have hn10 : ([(0, 0, 0, 0, false)] : List Tq2) ≠ [] → ∃ g, (some ⟨b9, 0, none⟩ : Option Addr) = some ⟨g, 0, none⟩ := fun _ => ⟨b9, rfl⟩
 refine J.op rfl (A.lit (K0 := Hp.nil) (ty := (.int .i64)) (xs := ([0] : List Int)) underlying42 inf3 rfl (by decide) rfl rfl rfl ⟨_, _, rfl, rfl, rfl⟩ rfl (by decide)) ?_
 rintro _ _ _ ⟨b14, rfl, rfl, rfl⟩
 have hn15 : ([0] : List Int) ≠ [] → ∃ g, (some ⟨b14, 0, none⟩ : Option Addr) = some ⟨g, 0, none⟩ := fun _ => ⟨b14, rfl⟩
 refine jv (.agg #[ii 1, ii 0, ii 0, .slice (some ⟨b14, 0, none⟩) (([0] : List Int).length) 1, nos, nos]) (V.build inf58 places58 rfl rfl) <| jv (.agg #[.slice (some ⟨b9, 0, none⟩) ((([(0, 0, 0, 0, false)] : List Tq2)).length) 1, ii 1, ii 0, ii 0, .slice (some ⟨b14, 0, none⟩) (([0] : List Int).length) 1, nos, nos]) (V.build inf60 places60 rfl rfl) <| J.front 1 rfl <| J.persist (Hp.nil_le _) (by decide) fun K18 hK20 f21 => J.persist (Hp.nil_le _) (by decide) fun K22 hK24 f25 => ?_
 refine J.op rfl (A.lit (K0 := K22) (ty := Yq3) (xs := ([(([(0, 0, 0, 0, false)] : List Tq2), (1, 0, 0, ([0] : List Int), [], []))] : List ((List Tq2) × Tq5))) underlying28 inf60 rfl (by decide) rfl rfl rfl ⟨_, _, rfl, ⟨_, _, rfl, rfl, (f21.mono hK24), ⟨_, _, rfl, rfl, rfl, ⟨_, _, rfl, rfl, rfl, ⟨_, _, rfl, rfl, rfl, ⟨_, _, rfl, rfl, f25, ⟨_, _, rfl, rfl, (isNil (K := K22) (t := (.int .i64))), (isNil (K := K22) (t := (.int .i64)))⟩⟩⟩⟩⟩⟩, rfl⟩ rfl (by decide)) ?_
 rintro _ _ _ ⟨b27, rfl, rfl, rfl⟩
 have hn29 : ([(([(0, 0, 0, 0, false)] : List Tq2), (1, 0, 0, ([0] : List Int), [], []))] : List ((List Tq2) × Tq5)) ≠ [] → ∃ g, (some ⟨b27, 0, none⟩ : Option Addr) = some ⟨g, 0, none⟩ := fun _ => ⟨b27, rfl⟩
 refine jv (.agg #[ii 1, ii 1, nos, .slice (some ⟨b5, 0, none⟩) ((([[]] : List Tq3)).length) 1, nos, nos, .slice (some ⟨b27, 0, none⟩) ((([(([(0, 0, 0, 0, false)] : List Tq2), (1, 0, 0, ([0] : List Int), [], []))] : List ((List Tq2) × Tq5))).length) 1]) (V.build inf30 places30 rfl rfl) <| J.front 1 rfl <| J.persist (hK20.trans hK24) (by decide) fun K31 hK33 f34 => J.persist hK33 (by decide) fun K35 hK36 f37 => ?_
 obtain ⟨r38, hr39, h⟩ := ob h
 refine J.op rfl (A.call (L1 := []) call8 rfl (flow_New_ok isNil (f34.mono hK36) isNil isNil f37 hr39) rfl rfl) ?_
 rintro _ K40 _ ⟨v41, _, rfl, ⟨p43, v44, rfl, rfl, f45, rfl⟩, hK46, rfl⟩
 refine ja v44 rfl <| J.nil <| cr <| jm v44 rfl ?_
 obtain ⟨r47, hr48, h⟩ := ob h
 refine J.op rfl (A.call (L1 := []) call13 rfl (flow_Flow_Next_ok f45 hr48) rfl rfl) ?_
 rintro _ _ _ ⟨v49, _, rfl, ⟨⟨l50, ad51, cp52, rfl, rfl, rfl⟩, rfl⟩, _, rfl⟩
 refine J.wit Row.hn fun hn53 => ?_
 refine J.op rfl (A.lit (K0 := Hp.nil) (ty := (.int .i64)) (xs := ([1] : List Int)) underlying42 inf3 rfl (by decide) rfl rfl rfl ⟨_, _, rfl, rfl, rfl⟩ rfl (by decide)) ?_
 rintro _ _ _ ⟨b54, rfl, rfl, rfl⟩
 have hn55 : ([1] : List Int) ≠ [] → ∃ g, (some ⟨b54, 0, none⟩ : Option Addr) = some ⟨g, 0, none⟩ := fun _ => ⟨b54, rfl⟩
 obtain ⟨r57, hr59, h⟩ := ob h
 refine J.front 1 rfl <| J.op rfl (A.call (L1 := [Row Hp.nil 3 (.int .i64) (sl ad51 l50 cp52) l50, Row Hp.nil 3 (.int .i64) (.slice (some ⟨b54, 0, none⟩) (([1] : List Int).length) 1) ([1] : List Int)]) call19 rfl (Tr.lend (Hp.nil_le _) (by decide) (fun K61 hK63 f65 => Tr.lend (Hp.nil_le _) (by decide) (fun K66 hK67 f68 => ref01_Same_ok (f65.mono hK67) f68 hr59))) rfl rfl) ?_
 rintro _ _ _ ⟨v69, _, rfl, ⟨⟨_, ⟨_, ⟨t70, rfl, rfl, rfl⟩, rfl⟩, rfl⟩, rfl⟩, _, rfl⟩
 refine jm (.bool t70) rfl <| J.cut 5 ?_
 obtain ⟨t71, ht72, h⟩ := ob h
 refine jmeet [(21, .bool t71), (1, v44)] ?_ ?_
 · rcases bt (t70) with hc73 | hc73
   · have ht72 := ct hc73 ht72
     refine J.run rfl rfl rfl hc73 <| jm v44 rfl <| J.run rfl rfl rfl hc73 ?_
     obtain ⟨r74, hr75, ht72⟩ := ob ht72
     refine J.op rfl (A.call (L1 := []) call13 rfl (flow_Flow_Next_ok f45 hr75) rfl rfl) ?_
     rintro _ _ _ ⟨v76, _, rfl, ⟨⟨l77, ad78, cp79, rfl, rfl, rfl⟩, rfl⟩, _, rfl⟩
     refine J.wit Row.hn fun hn80 => J.run rfl rfl rfl hc73 ?_
     refine J.op rfl (A.lit (K0 := Hp.nil) (ty := (.int .i64)) (xs := ([0] : List Int)) underlying42 inf3 rfl (by decide) rfl rfl rfl ⟨_, _, rfl, rfl, rfl⟩ rfl (by decide)) ?_
     rintro _ _ _ ⟨b81, rfl, rfl, rfl⟩
     have hn82 : ([0] : List Int) ≠ [] → ∃ g, (some ⟨b81, 0, none⟩ : Option Addr) = some ⟨g, 0, none⟩ := fun _ => ⟨b81, rfl⟩
     refine J.run rfl rfl rfl hc73 ?_
     obtain ⟨r83, hr84, ht72⟩ := ob ht72
     refine J.front 1 rfl <| J.op rfl (A.call (L1 := [Row Hp.nil 3 (.int .i64) (sl ad78 l77 cp79) l77, Row Hp.nil 3 (.int .i64) (.slice (some ⟨b81, 0, none⟩) (([0] : List Int).length) 1) ([0] : List Int)]) call19 rfl (Tr.lend (Hp.nil_le _) (by decide) (fun K85 hK86 f87 => Tr.lend (Hp.nil_le _) (by decide) (fun K88 hK89 f90 => ref01_Same_ok (f87.mono hK89) f90 hr84))) rfl rfl) ?_
     rintro _ _ _ ⟨v91, _, rfl, ⟨⟨_, ⟨_, ⟨t92, rfl, rfl, rfl⟩, rfl⟩, rfl⟩, rfl⟩, _, rfl⟩
     refine jv (.bool t92) (V.pickT rfl hc73 rfl) <| J.dropAt 0 rfl <| J.dropAt 0 rfl <| J.nil ?_
     obtain rfl := si ht72
     exact ⟨rfl, rt2, rfl, rfl⟩
   have ht72 := cf hc73 ht72
   refine J.skip rfl rfl rfl rfl hc73 <| J.skip rfl rfl rfl rfl hc73 <| J.skip rfl rfl rfl rfl hc73 <| J.skip rfl rfl rfl rfl hc73 <| jv (.bool false) (V.pickF rfl hc73 rfl) <| J.nil ?_
   obtain rfl := si ht72
   exact ⟨rfl, rt2, rfl, rfl⟩
 intro ρ
 refine jm (.bool t71) rfl <| J.cut 5 ?_
 obtain ⟨t93, ht94, h⟩ := ob h
 refine jmeet [(27, .bool t93), (1, v44)] ?_ ?_
 · rcases bt (t71) with hc95 | hc95
   · have ht94 := ct hc95 ht94
     refine J.run rfl rfl rfl hc95 <| jm v44 rfl <| J.run rfl rfl rfl hc95 ?_
     obtain ⟨r96, hr97, ht94⟩ := ob ht94
     refine J.op rfl (A.call (L1 := []) call17 rfl (flow_Flow_Order_ok f45 hr97) rfl rfl) ?_
     rintro _ _ _ ⟨v98, _, rfl, ⟨⟨l99, ad100, cp101, rfl, rfl, rfl⟩, rfl⟩, _, rfl⟩
     refine J.wit Row.hn fun hn102 => J.run rfl rfl rfl hc95 ?_
     refine J.op rfl (A.lit (K0 := Hp.nil) (ty := (.int .i64)) (xs := ([1, 0] : List Int)) underlying42 inf3 rfl (by decide) rfl rfl rfl ⟨_, _, rfl, rfl, ⟨_, _, rfl, rfl, rfl⟩⟩ rfl (by decide)) ?_
     rintro _ _ _ ⟨b103, rfl, rfl, rfl⟩
     have hn104 : ([1, 0] : List Int) ≠ [] → ∃ g, (some ⟨b103, 0, none⟩ : Option Addr) = some ⟨g, 0, none⟩ := fun _ => ⟨b103, rfl⟩
     refine J.run rfl rfl rfl hc95 ?_
     obtain ⟨r105, hr106, ht94⟩ := ob ht94
     refine J.front 1 rfl <| J.op rfl (A.call (L1 := [Row Hp.nil 3 (.int .i64) (sl ad100 l99 cp101) l99, Row Hp.nil 3 (.int .i64) (.slice (some ⟨b103, 0, none⟩) (([1, 0] : List Int).length) 2) ([1, 0] : List Int)]) call19 rfl (Tr.lend (Hp.nil_le _) (by decide) (fun K107 hK108 f109 => Tr.lend (Hp.nil_le _) (by decide) (fun K110 hK111 f112 => ref01_Same_ok (f109.mono hK111) f112 hr106))) rfl rfl) ?_
     rintro _ _ _ ⟨v113, _, rfl, ⟨⟨_, ⟨_, ⟨t114, rfl, rfl, rfl⟩, rfl⟩, rfl⟩, rfl⟩, _, rfl⟩
     refine jv (.bool t114) (V.pickT rfl hc95 rfl) <| J.dropAt 0 rfl <| J.dropAt 0 rfl <| J.nil ?_
     obtain rfl := si ht94
     exact ⟨rfl, rt2, rfl, rfl⟩
   have ht94 := cf hc95 ht94
   refine J.skip rfl rfl rfl rfl hc95 <| J.skip rfl rfl rfl rfl hc95 <| J.skip rfl rfl rfl rfl hc95 <| J.skip rfl rfl rfl rfl hc95 <| jv (.bool false) (V.pickF rfl hc95 rfl) <| J.nil ?_
   obtain rfl := si ht94
   exact ⟨rfl, rt2, rfl, rfl⟩
 intro ρ
 refine jm (.bool t93) rfl ?_
 rcases bt (t93) with hc115 | hc115
 · have h := ct hc115 h
   refine J.run rfl rfl rfl hc115 <| jm v44 rfl <| J.run rfl rfl rfl hc115 ?_
   obtain ⟨r116, hr117, h⟩ := ob h
   refine J.op rfl (A.call (L1 := []) call11 rfl (flow_Flow_Points_ok f45 hr117) rfl rfl) ?_
   rintro _ K118 _ ⟨v119, _, rfl, ⟨p120, v121, rfl, rfl, f122, rfl⟩, hK123, rfl⟩
   refine J.run rfl rfl rfl hc115 ?_
   obtain ⟨r124, hr125, h⟩ := ob h
   refine J.op rfl (A.call (L1 := []) call12 rfl (point_Points_Len_ok f122 hr125) rfl rfl) ?_
   rintro _ _ _ ⟨v126, _, rfl, ⟨⟨i127, rfl, rfl, rfl⟩, rfl⟩, _, rfl⟩
   refine J.run rfl rfl rfl hc115 <| jv (.bool (decide (i127 = 2))) (V.eql rfl rfl) <| jv (.bool (decide (i127 = 2))) (V.pickT rfl hc115 rfl) <| ja (.bool (decide (i127 = 2))) rfl <| J.nil <| CJ.ret ?_
   obtain rfl := si h
   exact ⟨_, _, Res.one rfl rfl, ⟨decide (i127 = 2), rfl, rfl, rfl⟩, (((((hK20.trans hK24).trans hK33).trans hK36).trans hK46).trans hK123), fun w hs => (Sep.dropAt 0 rfl (Sep.dropAt 0 rfl hs))⟩
 have h := cf hc115 h
 refine J.skip rfl rfl rfl rfl hc115 <| J.skip rfl rfl rfl rfl hc115 <| J.skip rfl rfl rfl rfl hc115 <| J.skip rfl rfl rfl rfl hc115 <| jv (.bool false) (V.pickF rfl hc115 rfl) <| ja (.bool false) rfl <| J.nil ?_
 refine CJ.ret ?_
 obtain rfl := si h
 exact ⟨_, _, Res.one rfl rfl, ⟨false, rfl, rfl, rfl⟩, ((((hK20.trans hK24).trans hK33).trans hK36).trans hK46), fun w hs => (Sep.dropAt 0 rfl (Sep.dropAt 0 rfl hs))⟩
noncomputable def fn_ref21_head_l1 (xa : Tq1) : Int → Option (Int ⊕ (Unit ⊕ Tq7)) := fun (i1 : Int) => cond (decide (i1 < (((xa.2.2.1.length : Nat) : Int)))) ((getI xa.2.2.1 i1).bind fun x2 => cond ((((decide (x2.1 < 0)) || (decide (xa.1 ≤ x2.1))) || (decide (x2.2 < 0))) || (decide (xa.1 ≤ x2.2))) (some (.inr ((.inr ((7, 1, i1, 0)))))) (some (.inl (IntKind.wrap .i64 (i1 + 1))))) (some (.inr ((.inl ()))))
noncomputable def fn_ref21_head (xa : Tq1) : Option Tq7 :=
  cond ((decide (xa.1 < 1)) || (decide (xa.2.1 < xa.1))) (some ((7, 0, 0, 0))) (cond (decide (65536 < xa.2.1)) (some ((6, 0, 0, 0))) (cond (decide (65536 < (((xa.2.2.1.length : Nat) : Int)))) (some ((6, 1, 0, 0))) ((loop (fn_ref21_head_l1 xa) 0 : Option (Unit ⊕ Tq7)).bind fun o => match o with | .inr r => some r | .inl () => some ((0, 0, 0, 0)))))
theorem ref21_head_ok {K : Hp} {xa : Tq1} {Aa2 : Option Addr} {Ca2 : Nat} {Aa3 : Option Addr} {Ca3 : Nat} {Aa4 : Option Addr} {Ca4 : Nat} {Aa5 : Option Addr} {Ca5 : Nat} {Aa6 : Option Addr} {Ca6 : Nat} (Ga2 : Is K (.sl Yq5) [sl Aa2 xa.2.2.1 Ca2] xa.2.2.1) (Ga3 : Is K Yq8 [sl Aa3 xa.2.2.2.1 Ca3] xa.2.2.2.1) (Ga4 : Is K (.sl Yq1) [sl Aa4 xa.2.2.2.2.1 Ca4] xa.2.2.2.2.1) (Ga5 : Is K Yq4 [sl Aa5 xa.2.2.2.2.2.1 Ca5] xa.2.2.2.2.2.1) (Ga6 : Is K (.sl Yq3) [sl Aa6 xa.2.2.2.2.2.2 Ca6] xa.2.2.2.2.2.2) {r : Tq7} (h : fn_ref21_head xa = some r) :
    Tr Tryz.prog 61 #[.agg #[ii xa.1, ii xa.2.1, sl Aa2 xa.2.2.1 Ca2, sl Aa3 xa.2.2.2.1 Ca3, sl Aa4 xa.2.2.2.2.1 Ca4, sl Aa5 xa.2.2.2.2.2.1 Ca5, sl Aa6 xa.2.2.2.2.2.2 Ca6]] K [] (fun v K' L' => (∃ (i7 : Int) (i9 : Int) (i10 : Int) (i11 : Int), (i7, i9, i10, i11) = r ∧ .agg #[ii i7, ii i9, ii i10, ii i11] = v ∧ L' = []) ∧ K = K') := by
 refine Tr.k <| Tr.of func61 rfl ntmps61 rfl fun E F => ?_
 unfold fn_ref21_head at h
 refine cr <| jbx [ii xa.1, ii xa.2.1, sl Aa2 xa.2.2.1 Ca2, sl Aa3 xa.2.2.2.1 Ca3, sl Aa4 xa.2.2.2.2.1 Ca4, sl Aa5 xa.2.2.2.2.2.1 Ca5, sl Aa6 xa.2.2.2.2.2.2 Ca6] rfl rfl fun b12 => jal inf101 [ii 0, ii 0, ii 0, ii 0] rfl fun b13 => J.nil <| CJ.seq <| CJ.seq ?_
 refine CJ.region <| jv _ (V.fad underlying30 rfl nz3 rfl) <| jv (ii xa.1) (V.ld rfl (Ld.sc sc3 (Rd.cl 1 rfl rfl))) <| jv (.bool (decide (xa.1 < 1))) (V.lss rfl rfl) <| jm (.bool (decide (xa.1 < 1))) rfl <| J.cut 6 <| jmeet [(14, .bool ((decide (xa.1 < 1)) || (decide (xa.2.1 < xa.1)))), (1, pt b12), (2, pt b13)] ?_ ?_
 · rcases bt (decide (xa.1 < 1)) with hc14 | hc14
   · refine J.skip rfl rfl rfl rfl hc14 <| J.skip rfl rfl rfl rfl hc14 <| J.skip rfl rfl rfl rfl hc14 <| J.skip rfl rfl rfl rfl hc14 <| J.skip rfl rfl rfl rfl hc14 <| jv (.bool true) (V.pickT rfl hc14 rfl) <| J.nil ?_
     exact ⟨rfl, ⟨(by simp only [hc14]; rfl), rfl, rfl, trivial⟩, rfl, rfl⟩
   refine J.run rfl rfl rfl hc14 <| jv _ (V.fad underlying30 rfl nz3 rfl) <| J.run rfl rfl rfl hc14 <| jv (ii xa.2.1) (V.ld rfl (Ld.sc sc3 (Rd.cl 1 rfl rfl))) <| J.run rfl rfl rfl hc14 <| jv _ (V.fad underlying30 rfl nz3 rfl) <| J.run rfl rfl rfl hc14 ?_
   refine jv (ii xa.1) (V.ld rfl (Ld.sc sc3 (Rd.cl 1 rfl rfl))) <| J.run rfl rfl rfl hc14 <| jv (.bool (decide (xa.2.1 < xa.1))) (V.lss rfl rfl) <| jv (.bool (decide (xa.2.1 < xa.1))) (V.pickF rfl hc14 rfl) <| J.nil ?_
   exact ⟨rfl, ⟨(by simp only [hc14]; rfl), rfl, rfl, trivial⟩, rfl, rfl⟩
 intro ρ
 refine J.nil <| cc rfl h (fun hc15 h => ?_) fun hc15 h => ?_
 · refine cr <| jv (.agg #[ii 7, ii 0, ii 0, ii 0]) (V.build inf101 places101 rfl rfl) <| js [ii 7, ii 0, ii 0, ii 0] sz101 rfl rfl rfl rfl rfl rfl <| J.nil <| CJ.ret ?_
   obtain rfl := si h
   exact ⟨_, _, Res.one rfl ⟨_, _, rfl, Ld.agg (cs := [ii 7, ii 0, ii 0, ii 0]) underlying101 sz101 rfl (Rd.cls 0 0 rfl rfl)⟩, ⟨7, 0, 0, 0, rfl, rfl, rfl⟩, hpr, fun w hs => (Sep.dropAt 0 rfl (Sep.dropAt 0 rfl hs))⟩
 refine CJ.skip <| CJ.seq <| cr <| jv _ (V.fad underlying30 rfl nz3 rfl) <| jv (ii xa.2.1) (V.ld rfl (Ld.sc sc3 (Rd.cl 1 rfl rfl))) <| jv (.bool (decide (65536 < xa.2.1))) (V.gtr rfl rfl) ?_
 refine J.nil <| cc rfl h (fun hc17 h => ?_) fun hc17 h => ?_
 · refine cr <| jv (.agg #[ii 6, ii 0, ii 0, ii 0]) (V.build inf101 places101 rfl rfl) <| js [ii 6, ii 0, ii 0, ii 0] sz101 rfl rfl rfl rfl rfl rfl <| J.nil <| CJ.ret ?_
   obtain rfl := si h
   exact ⟨_, _, Res.one rfl ⟨_, _, rfl, Ld.agg (cs := [ii 6, ii 0, ii 0, ii 0]) underlying101 sz101 rfl (Rd.cls 0 0 rfl rfl)⟩, ⟨6, 0, 0, 0, rfl, rfl, rfl⟩, hpr, fun w hs => (Sep.dropAt 0 rfl (Sep.dropAt 0 rfl hs))⟩
 refine CJ.skip <| CJ.seq <| cr <| jv _ (V.fad underlying30 rfl nz22 rfl) <| jv (sl Aa2 xa.2.2.1 Ca2) (V.ld rfl (Ld.sc sc22 (Rd.cl 1 rfl rfl))) <| jv (ii (((xa.2.2.1.length : Nat) : Int))) (V.len underlying22 rfl) ?_
 refine jv (.bool (decide (65536 < (((xa.2.2.1.length : Nat) : Int))))) (V.gtr rfl rfl) <| J.nil <| cc rfl h (fun hc18 h => ?_) fun hc18 h => ?_
 · refine cr <| jv (.agg #[ii 6, ii 1, ii 0, ii 0]) (V.build inf101 places101 rfl rfl) <| js [ii 6, ii 1, ii 0, ii 0] sz101 rfl rfl rfl rfl rfl rfl <| J.nil <| CJ.ret ?_
   obtain rfl := si h
   exact ⟨_, _, Res.one rfl ⟨_, _, rfl, Ld.agg (cs := [ii 6, ii 1, ii 0, ii 0]) underlying101 sz101 rfl (Rd.cls 0 0 rfl rfl)⟩, ⟨6, 1, 0, 0, rfl, rfl, rfl⟩, hpr, fun w hs => (Sep.dropAt 0 rfl (Sep.dropAt 0 rfl hs))⟩
 refine CJ.skip <| CJ.seq <| cr <| ja (ii 0) rfl <| J.nil ?_
 obtain ⟨o19, ho20, h⟩ := ob h
 refine CJ.joinN (o := o19) (fun s ρ K' L' => () = s ∧ Fits [(2, pt b13)] ρ ∧ K = K' ∧ L' = Cl b13 101 [ii 0, ii 0, ii 0, ii 0] :: F) ?_ ?_
 · refine CJ.block <| CJ.front 1 rfl <| CJ.loop (fun s ρ K' L' => ∃ (i21 : Int), i21 = s ∧ Fits [(1, pt b12), (2, pt b13), (3, ii i21)] ρ ∧ K = K' ∧ L' = Cl b12 30 [ii xa.1, ii xa.2.1, sl Aa2 xa.2.2.1 Ca2, sl Aa3 xa.2.2.2.1 Ca3, sl Aa4 xa.2.2.2.2.1 Ca4, sl Aa5 xa.2.2.2.2.2.1 Ca5, sl Aa6 xa.2.2.2.2.2.2 Ca6] :: Cl b13 101 [ii 0, ii 0, ii 0, ii 0] :: F) ho20 ⟨0, rfl, rt3, rfl, rfl⟩ ?_
   rintro s ρ _ _ r23 ⟨i21, rfl, hf24, rfl, rfl⟩ h25
   obtain ⟨ρ, rfl⟩ := hf24.ex
   refine CJ.seq <| cr <| jm (ii i21) rfl <| jv _ (V.fad underlying30 rfl nz22 rfl) <| jv (sl Aa2 xa.2.2.1 Ca2) (V.ld rfl (Ld.sc sc22 (Rd.cl 0 rfl rfl))) <| jv (ii (((xa.2.2.1.length : Nat) : Int))) (V.len underlying22 rfl) ?_
   refine jv (.bool (decide (i21 < (((xa.2.2.1.length : Nat) : Int))))) (V.lss rfl rfl) <| J.nil <| cc rfl h25 (fun hc26 h25 => ?_) fun hc26 h25 => ?_
   · refine CJ.skip <| CJ.seq <| CJ.block <| cr <| jv _ (V.fad underlying30 rfl nz22 rfl) <| jv (sl Aa2 xa.2.2.1 Ca2) (V.ld rfl (Ld.sc sc22 (Rd.cl 0 rfl rfl))) ?_
     refine jm (ii i21) rfl ?_
     obtain ⟨x27, hx28, h25⟩ := ob h25
     obtain ⟨p29, p31, p33⟩ := getI_some hx28
     obtain ⟨b34, o35, e36, a37⟩ := (Ga2).at p31
     refine jv _ (V.iad underlying22 sz126 rfl e36 rfl p29 p33) <| jv (.agg #[ii x27.1, ii x27.2]) (V.ld rfl (Ld.aggK (cs := [ii x27.1, ii x27.2]) underlying126 sz126 rfl ⟨((a37).fst).int, (((a37).snd).one).int, trivial⟩ hpr)) <| jal inf126 [ii 0, ii 0] rfl fun b38 => js [ii x27.1, ii x27.2] sz126 rfl rfl rfl rfl rfl rfl <| J.nil <| CJ.seq <| CJ.region ?_
     refine jv _ (V.fad underlying126 rfl nz3 rfl) <| jv (ii x27.1) (V.ld rfl (Ld.sc sc3 (Rd.cl 0 rfl rfl))) <| jv (.bool (decide (x27.1 < 0))) (V.lss rfl rfl) <| jm (.bool (decide (x27.1 < 0))) rfl <| J.cut 6 <| jmeet [(46, .bool ((decide (x27.1 < 0)) || (decide (xa.1 ≤ x27.1)))), (1, pt b12), (2, pt b13), (3, ii i21), (4, pt b38)] ?_ ?_
     · rcases bt (decide (x27.1 < 0)) with hc39 | hc39
       · refine J.skip rfl rfl rfl rfl hc39 <| J.skip rfl rfl rfl rfl hc39 <| J.skip rfl rfl rfl rfl hc39 <| J.skip rfl rfl rfl rfl hc39 <| J.skip rfl rfl rfl rfl hc39 <| jv (.bool true) (V.pickT rfl hc39 rfl) <| J.nil ?_
         exact ⟨rfl, ⟨(by simp only [hc39]; rfl), rfl, rfl, rfl, rfl, trivial⟩, rfl, rfl⟩
       refine J.run rfl rfl rfl hc39 <| jv _ (V.fad underlying126 rfl nz3 rfl) <| J.run rfl rfl rfl hc39 <| jv (ii x27.1) (V.ld rfl (Ld.sc sc3 (Rd.cl 0 rfl rfl))) <| J.run rfl rfl rfl hc39 <| jv _ (V.fad underlying30 rfl nz3 rfl) <| J.run rfl rfl rfl hc39 ?_
       refine jv (ii xa.1) (V.ld rfl (Ld.sc sc3 (Rd.cl 1 rfl rfl))) <| J.run rfl rfl rfl hc39 <| jv (.bool (decide (xa.1 ≤ x27.1))) (V.geq rfl rfl) <| jv (.bool (decide (xa.1 ≤ x27.1))) (V.pickF rfl hc39 rfl) <| J.nil ?_
       exact ⟨rfl, ⟨(by simp only [hc39]; rfl), rfl, rfl, rfl, rfl, trivial⟩, rfl, rfl⟩
     intro ρ
     refine jm (.bool ((decide (x27.1 < 0)) || (decide (xa.1 ≤ x27.1)))) rfl <| J.cut 4 <| jmeet [(51, .bool (((decide (x27.1 < 0)) || (decide (xa.1 ≤ x27.1))) || (decide (x27.2 < 0)))), (1, pt b12), (2, pt b13), (3, ii i21), (4, pt b38)] ?_ ?_
     · rcases bt ((decide (x27.1 < 0)) || (decide (xa.1 ≤ x27.1))) with hc40 | hc40
       · refine J.skip rfl rfl rfl rfl hc40 <| J.skip rfl rfl rfl rfl hc40 <| J.skip rfl rfl rfl rfl hc40 <| jv (.bool true) (V.pickT rfl hc40 rfl) <| J.nil ?_
         exact ⟨rfl, ⟨(by simp only [hc40]; rfl), rfl, rfl, rfl, rfl, trivial⟩, rfl, rfl⟩
       refine J.run rfl rfl rfl hc40 <| jv _ (V.fad underlying126 rfl nz3 rfl) <| J.run rfl rfl rfl hc40 <| jv (ii x27.2) (V.ld rfl (Ld.sc sc3 (Rd.cl 0 rfl rfl))) <| J.run rfl rfl rfl hc40 <| jv (.bool (decide (x27.2 < 0))) (V.lss rfl rfl) <| jv (.bool (decide (x27.2 < 0))) (V.pickF rfl hc40 rfl) ?_
       refine J.nil ?_
       exact ⟨rfl, ⟨(by simp only [hc40]; rfl), rfl, rfl, rfl, rfl, trivial⟩, rfl, rfl⟩
     intro ρ
     refine jm (.bool (((decide (x27.1 < 0)) || (decide (xa.1 ≤ x27.1))) || (decide (x27.2 < 0)))) rfl <| J.cut 6 <| jmeet [(58, .bool ((((decide (x27.1 < 0)) || (decide (xa.1 ≤ x27.1))) || (decide (x27.2 < 0))) || (decide (xa.1 ≤ x27.2)))), (1, pt b12), (2, pt b13), (3, ii i21)] ?_ ?_
     · rcases bt (((decide (x27.1 < 0)) || (decide (xa.1 ≤ x27.1))) || (decide (x27.2 < 0))) with hc41 | hc41
       · refine J.skip rfl rfl rfl rfl hc41 <| J.skip rfl rfl rfl rfl hc41 <| J.skip rfl rfl rfl rfl hc41 <| J.skip rfl rfl rfl rfl hc41 <| J.skip rfl rfl rfl rfl hc41 <| jv (.bool true) (V.pickT rfl hc41 rfl) <| J.nil ?_
         exact ⟨rfl, ⟨(by simp only [hc41]; rfl), rfl, rfl, rfl, trivial⟩, rfl, rfl⟩
       refine J.run rfl rfl rfl hc41 <| jv _ (V.fad underlying126 rfl nz3 rfl) <| J.run rfl rfl rfl hc41 <| jv (ii x27.2) (V.ld rfl (Ld.sc sc3 (Rd.cl 0 rfl rfl))) <| J.run rfl rfl rfl hc41 <| jv _ (V.fad underlying30 rfl nz3 rfl) <| J.run rfl rfl rfl hc41 ?_
       refine jv (ii xa.1) (V.ld rfl (Ld.sc sc3 (Rd.cl 1 rfl rfl))) <| J.run rfl rfl rfl hc41 <| jv (.bool (decide (xa.1 ≤ x27.2))) (V.geq rfl rfl) <| jv (.bool (decide (xa.1 ≤ x27.2))) (V.pickF rfl hc41 rfl) <| J.nil ?_
       exact ⟨rfl, ⟨(by simp only [hc41]; rfl), rfl, rfl, rfl, trivial⟩, rfl, rfl⟩
     intro ρ
     refine J.nil <| cc rfl h25 (fun hc42 h25 => ?_) fun hc42 h25 => ?_
     · refine cr <| jm (ii i21) rfl <| jv (.agg #[ii 7, ii 1, ii i21, ii 0]) (V.build inf101 places101 rfl rfl) <| J.front 2 rfl <| js [ii 7, ii 1, ii i21, ii 0] sz101 rfl rfl rfl rfl rfl rfl <| J.nil ?_
       refine CJ.ret ?_
       obtain rfl := si h25
       refine ⟨nofun, fun e => ?_⟩
       subst e
       refine .inr ⟨nofun, ?_⟩
       obtain rfl := si h
       exact ⟨_, _, Res.one rfl ⟨_, _, rfl, Ld.agg (cs := [ii 7, ii 1, ii i21, ii 0]) underlying101 sz101 rfl (Rd.cls 0 0 rfl rfl)⟩, ⟨7, 1, i21, 0, rfl, rfl, rfl⟩, hpr, fun w hs => (Sep.dropAt 0 rfl (Sep.dropAt 0 rfl (Sep.dropAt 0 rfl hs)))⟩
     refine CJ.skip <| CJ.region <| jm (ii i21) rfl <| jv (ii (IntKind.wrap .i64 (i21 + 1))) (V.add rfl rfl) <| ja (ii (IntKind.wrap .i64 (i21 + 1))) rfl <| J.dropAt 0 rfl <| J.nil ?_
     obtain rfl := si h25
     exact ⟨rfl, ⟨IntKind.wrap .i64 (i21 + 1), rfl, rt3, rfl, rfl⟩⟩
   refine CJ.dropAt 0 rfl <| CJ.exit ?_
   obtain rfl := si h25
   refine ⟨nofun, fun e => ?_⟩
   subst e
   exact .inl ⟨rfl, _, rfl, ⟨rfl, rt1, rfl, rfl⟩⟩
 rintro s ρ _ _ ho43 ⟨rfl, hf44, rfl, rfl⟩
 subst ho43
 obtain ⟨ρ, rfl⟩ := hf44.ex
 refine PJ.done <| cr <| jv (.agg #[ii 0, ii 0, ii 0, ii 0]) (V.build inf101 places101 rfl rfl) <| js [ii 0, ii 0, ii 0, ii 0] sz101 rfl rfl rfl rfl rfl rfl <| J.nil <| CJ.ret ?_
 obtain rfl := si h
 exact ⟨_, _, Res.one rfl ⟨_, _, rfl, Ld.agg (cs := [ii 0, ii 0, ii 0, ii 0]) underlying101 sz101 rfl (Rd.cls 0 0 rfl rfl)⟩, ⟨0, 0, 0, 0, rfl, rfl, rfl⟩, hpr, fun w hs => (Sep.dropAt 0 rfl hs)⟩
noncomputable def fn_ref15_Check_l1 (xa : Tq3) (xb : Int) : Int → Option (Int ⊕ (Unit ⊕ Int)) := fun (i1 : Int) => cond (decide (i1 < (((xa.length : Nat) : Int)))) ((getI xa i1).bind fun x2 => (cond (decide (x2.1 < 0)) (some (true)) ((getI xa i1).bind fun x3 => some (decide (xb ≤ x3.1)))).bind fun t4 => cond (t4) (some (.inr ((.inr (7))))) (some (.inl (IntKind.wrap .i64 (i1 + 1))))) (some (.inr ((.inl ()))))
noncomputable def fn_ref15_Check (xa : Tq3) (xb : Int) : Option Int :=
  cond (decide (16 < (((xa.length : Nat) : Int)))) (some (6)) ((loop (fn_ref15_Check_l1 xa xb) 0 : Option (Unit ⊕ Int)).bind fun o => match o with | .inr r => some r | .inl () => some (0))
theorem ref15_Check_ok {K : Hp} {xa : Tq3} {xb : Int} {Aa0 : Option Addr} {Ca0 : Nat} (Ga0 : Is K (.sl Yq1) [sl Aa0 xa Ca0] xa) {r : Int} (h : fn_ref15_Check xa xb = some r) :
    Tr Tryz.prog 83 #[.agg #[sl Aa0 xa Ca0], ii xb] K [] (fun v K' L' => (∃ (i1 : Int), i1 = r ∧ ii i1 = v ∧ L' = []) ∧ K = K') := by
 refine Tr.k <| Tr.of func83 rfl ntmps83 rfl fun E F => ?_
 unfold fn_ref15_Check at h
 refine cr <| jbx [sl Aa0 xa Ca0] rfl rfl fun b2 => ja (ii 0) rfl <| J.nil <| CJ.seq <| CJ.seq ?_
 refine CJ.region <| jv _ (V.fad underlying26 rfl nz24 rfl) <| jv (sl Aa0 xa Ca0) (V.ld rfl (Ld.sc sc24 (Rd.cl 0 rfl rfl))) <| jv (ii (((xa.length : Nat) : Int))) (V.len underlying24 rfl) <| jv (.bool (decide (16 < (((xa.length : Nat) : Int))))) (V.gtr rfl rfl) <| J.nil <| cc rfl h (fun hc5 h => ?_) fun hc5 h => ?_
 · refine cr <| ja (ii 6) rfl <| J.nil <| CJ.ret ?_
   obtain rfl := si h
   exact ⟨_, _, Res.one rfl rfl, ⟨6, rfl, rfl, rfl⟩, hpr, fun w hs => (Sep.dropAt 0 rfl hs)⟩
 refine CJ.skip <| CJ.seq <| cr <| ja (ii 0) rfl <| J.nil ?_
 obtain ⟨o6, ho7, h⟩ := ob h
 refine CJ.joinN (o := o6) (fun s ρ K' L' => () = s ∧ Fits [] ρ ∧ K = K' ∧ F = L') ?_ ?_
 · refine CJ.block <| CJ.loop (fun s ρ K' L' => ∃ (i9 : Int), i9 = s ∧ Fits [(1, ii xb), (2, pt b2), (5, ii i9)] ρ ∧ K = K' ∧ L' = Cl b2 26 [sl Aa0 xa Ca0] :: F) ho7 ⟨0, rfl, rt3, rfl, rfl⟩ ?_
   rintro s ρ _ _ r10 ⟨i9, rfl, hf11, rfl, rfl⟩ h12
   obtain ⟨ρ, rfl⟩ := hf11.ex
   refine CJ.seq <| cr <| jm (ii i9) rfl <| jv _ (V.fad underlying26 rfl nz24 rfl) <| jv (sl Aa0 xa Ca0) (V.ld rfl (Ld.sc sc24 (Rd.cl 0 rfl rfl))) <| jv (ii (((xa.length : Nat) : Int))) (V.len underlying24 rfl) ?_
   refine jv (.bool (decide (i9 < (((xa.length : Nat) : Int))))) (V.lss rfl rfl) <| J.nil <| cc rfl h12 (fun hc13 h12 => ?_) fun hc13 h12 => ?_
   · refine CJ.skip <| CJ.seq <| CJ.block <| cr <| jv _ (V.fad underlying26 rfl nz24 rfl) <| jv (sl Aa0 xa Ca0) (V.ld rfl (Ld.sc sc24 (Rd.cl 0 rfl rfl))) ?_
     refine jm (ii i9) rfl ?_
     obtain ⟨x14, hx15, h12⟩ := ob h12
     obtain ⟨p17, p18, p19⟩ := getI_some hx15
     obtain ⟨b20, o21, e22, a23⟩ := (Ga0).at p18
     refine jv _ (V.iad underlying24 sz150 rfl e22 rfl p17 p19) <| jv _ (V.fad underlying150 rfl nz3 rfl) <| jv (ii x14.1) (V.ld rfl (Ld.sc sc3 (Rd.k ((a23).fst).int hpr))) <| jv (.bool (decide (x14.1 < 0))) (V.lss rfl rfl) <| jm (.bool (decide (x14.1 < 0))) rfl <| J.cut 9 ?_
     obtain ⟨t25, ht27, h12⟩ := ob h12
     refine jmeet [(33, .bool t25), (1, ii xb), (2, pt b2), (5, ii i9)] ?_ ?_
     · rcases bt (decide (x14.1 < 0)) with hc28 | hc28
       · have ht27 := ct hc28 ht27
         refine J.skip rfl rfl rfl rfl hc28 <| J.skip rfl rfl rfl rfl hc28 <| J.skip rfl rfl rfl rfl hc28 <| J.skip rfl rfl rfl rfl hc28 <| J.skip rfl rfl rfl rfl hc28 <| J.skip rfl rfl rfl rfl hc28 <| J.skip rfl rfl rfl rfl hc28 ?_
         refine J.skip rfl rfl rfl rfl hc28 <| jv (.bool true) (V.pickT rfl hc28 rfl) <| J.nil ?_
         obtain rfl := si ht27
         exact ⟨rfl, rt4, rfl, rfl⟩
       have ht27 := cf hc28 ht27
       refine J.run rfl rfl rfl hc28 <| jv _ (V.fad underlying26 rfl nz24 rfl) <| J.run rfl rfl rfl hc28 <| jv (sl Aa0 xa Ca0) (V.ld rfl (Ld.sc sc24 (Rd.cl 0 rfl rfl))) <| J.run rfl rfl rfl hc28 <| jm (ii i9) rfl <| J.run rfl rfl rfl hc28 ?_
       obtain ⟨x29, hx30, ht27⟩ := ob ht27
       obtain ⟨p31, p33, p34⟩ := getI_some hx30
       obtain ⟨b35, o36, e37, a38⟩ := (Ga0).at p33
       refine jv _ (V.iad underlying24 sz150 rfl e37 rfl p31 p34) <| J.run rfl rfl rfl hc28 <| jv _ (V.fad underlying150 rfl nz3 rfl) <| J.run rfl rfl rfl hc28 <| jv (ii x29.1) (V.ld rfl (Ld.sc sc3 (Rd.k ((a38).fst).int hpr))) <| J.run rfl rfl rfl hc28 <| jm (ii xb) rfl ?_
       refine J.run rfl rfl rfl hc28 <| jv (.bool (decide (xb ≤ x29.1))) (V.geq rfl rfl) <| jv (.bool (decide (xb ≤ x29.1))) (V.pickF rfl hc28 rfl) <| J.nil ?_
       obtain rfl := si ht27
       exact ⟨rfl, rt4, rfl, rfl⟩
     intro ρ
     refine J.nil <| cc rfl h12 (fun hc39 h12 => ?_) fun hc39 h12 => ?_
     · refine cr <| ja (ii 7) rfl <| J.nil <| CJ.ret ?_
       obtain rfl := si h12
       refine ⟨nofun, fun e => ?_⟩
       subst e
       refine .inr ⟨nofun, ?_⟩
       obtain rfl := si h
       exact ⟨_, _, Res.one rfl rfl, ⟨7, rfl, rfl, rfl⟩, hpr, fun w hs => (Sep.dropAt 0 rfl hs)⟩
     refine CJ.skip <| CJ.region <| jm (ii i9) rfl <| jv (ii (IntKind.wrap .i64 (i9 + 1))) (V.add rfl rfl) <| ja (ii (IntKind.wrap .i64 (i9 + 1))) rfl <| J.nil ?_
     obtain rfl := si h12
     exact ⟨rfl, ⟨IntKind.wrap .i64 (i9 + 1), rfl, rt3, rfl, rfl⟩⟩
   refine CJ.dropAt 0 rfl <| CJ.exit ?_
   obtain rfl := si h12
   refine ⟨nofun, fun e => ?_⟩
   subst e
   exact .inl ⟨rfl, _, rfl, ⟨rfl, trivial, rfl, rfl⟩⟩
 rintro s ρ _ _ ho40 ⟨rfl, hf41, rfl, rfl⟩
 subst ho40
 obtain ⟨ρ, rfl⟩ := hf41.ex
 refine PJ.done <| cr <| ja (ii 0) rfl <| J.nil <| CJ.ret ?_
 obtain rfl := si h
 exact ⟨_, _, Res.one rfl rfl, ⟨0, rfl, rfl, rfl⟩, hpr, fun w hs => hs⟩
noncomputable def fn_ref15_Shape_l1 (xa : Tq3) (xb : Tq3) : Int → Option (Int ⊕ (Unit ⊕ Bool)) := fun (i1 : Int) => cond (decide (i1 < (((xa.length : Nat) : Int)))) ((getI xa i1).bind fun x2 => (getI xb i1).bind fun x3 => cond (!(x2.2 == x3.2)) (some (.inr ((.inr (false))))) (some (.inl (IntKind.wrap .i64 (i1 + 1))))) (some (.inr ((.inl ()))))
noncomputable def fn_ref15_Shape (xa : Tq3) (xb : Tq3) : Option Bool :=
  cond (!decide ((((xa.length : Nat) : Int)) = (((xb.length : Nat) : Int)))) (some (false)) ((loop (fn_ref15_Shape_l1 xa xb) 0 : Option (Unit ⊕ Bool)).bind fun o => match o with | .inr r => some r | .inl () => some (true))
theorem ref15_Shape_ok {K : Hp} {xa : Tq3} {xb : Tq3} {Aa0 : Option Addr} {Ca0 : Nat} {Ab0 : Option Addr} {Cb0 : Nat} (Ga0 : Is K (.sl Yq1) [sl Aa0 xa Ca0] xa) (Gb0 : Is K (.sl Yq1) [sl Ab0 xb Cb0] xb) {r : Bool} (h : fn_ref15_Shape xa xb = some r) :
    Tr Tryz.prog 84 #[.agg #[sl Aa0 xa Ca0], .agg #[sl Ab0 xb Cb0]] K [] (fun v K' L' => (∃ (t1 : Bool), t1 = r ∧ .bool t1 = v ∧ L' = []) ∧ K = K') := by
 refine Tr.k <| Tr.of func84 rfl ntmps84 rfl fun E F => ?_
 unfold fn_ref15_Shape at h
 refine cr <| jbx [sl Aa0 xa Ca0] rfl rfl fun b2 => jbx [sl Ab0 xb Cb0] rfl rfl fun b5 => ja (.bool false) rfl <| J.nil <| CJ.seq ?_
 refine cr <| jv _ (V.fad underlying26 rfl nz24 rfl) <| jv (sl Aa0 xa Ca0) (V.ld rfl (Ld.sc sc24 (Rd.cl 1 rfl rfl))) <| jv (ii (((xa.length : Nat) : Int))) (V.len underlying24 rfl) <| jv _ (V.fad underlying26 rfl nz24 rfl) <| jv (sl Ab0 xb Cb0) (V.ld rfl (Ld.sc sc24 (Rd.cl 0 rfl rfl))) ?_
 refine jv (ii (((xb.length : Nat) : Int))) (V.len underlying24 rfl) <| jv (.bool (!decide ((((xa.length : Nat) : Int)) = (((xb.length : Nat) : Int))))) (V.neq rfl rfl) <| J.nil <| cc rfl h (fun hc6 h => ?_) fun hc6 h => ?_
 · refine cr <| ja (.bool false) rfl <| J.nil <| CJ.ret ?_
   obtain rfl := si h
   exact ⟨_, _, Res.one rfl rfl, ⟨false, rfl, rfl, rfl⟩, hpr, fun w hs => (Sep.dropAt 0 rfl (Sep.dropAt 0 rfl hs))⟩
 refine CJ.skip <| CJ.seq <| cr <| ja (ii 0) rfl <| J.nil ?_
 obtain ⟨o7, ho9, h⟩ := ob h
 refine CJ.joinN (o := o7) (fun s ρ K' L' => () = s ∧ Fits [] ρ ∧ K = K' ∧ F = L') ?_ ?_
 · refine CJ.block <| CJ.front 1 rfl <| CJ.loop (fun s ρ K' L' => ∃ (i10 : Int), i10 = s ∧ Fits [(2, pt b2), (3, pt b5), (5, ii i10)] ρ ∧ K = K' ∧ L' = Cl b2 26 [sl Aa0 xa Ca0] :: Cl b5 26 [sl Ab0 xb Cb0] :: F) ho9 ⟨0, rfl, rt3, rfl, rfl⟩ ?_
   rintro s ρ _ _ r11 ⟨i10, rfl, hf12, rfl, rfl⟩ h13
   obtain ⟨ρ, rfl⟩ := hf12.ex
   refine CJ.seq <| cr <| jm (ii i10) rfl <| jv _ (V.fad underlying26 rfl nz24 rfl) <| jv (sl Aa0 xa Ca0) (V.ld rfl (Ld.sc sc24 (Rd.cl 0 rfl rfl))) <| jv (ii (((xa.length : Nat) : Int))) (V.len underlying24 rfl) ?_
   refine jv (.bool (decide (i10 < (((xa.length : Nat) : Int))))) (V.lss rfl rfl) <| J.nil <| cc rfl h13 (fun hc14 h13 => ?_) fun hc14 h13 => ?_
   · refine CJ.skip <| CJ.seq <| CJ.block <| CJ.seq <| CJ.mix [Cl b2 26 [sl Aa0 xa Ca0], Cl b5 26 [sl Ab0 xb Cb0]] [] [0, 1, 2, 3, 4, 5, 6, 7, 8, 9, 10, 11, 12] [] mixO (by decide +kernel) ⟨0, rfl, 0, rfl, trivial⟩ rfl rfl rfl <| JM.nil <| qv _ (V.fad underlying26 rfl nz24 rfl) ?_
     refine qv (sl Aa0 xa Ca0) (V.ld rfl (Ld.sc sc24 (Rd.cl 0 rfl rfl))) <| qm (ii i10) rfl ?_
     obtain ⟨x15, hx17, h13⟩ := ob h13
     obtain ⟨p18, p19, p20⟩ := getI_some hx17
     obtain ⟨b21, o22, e23, a25⟩ := (Ga0).at p19
     refine qv _ (V.iad underlying24 sz150 rfl e23 rfl p18 p20) <| qv _ (V.fad underlying150 rfl nz4 rfl) <| qv (.bool x15.2) (V.ld rfl (Ld.sc sc4 (Rd.k (((a25).snd).one).bool hpr))) <| qv _ (V.fad underlying26 rfl nz24 rfl) <| qv (sl Ab0 xb Cb0) (V.ld rfl (Ld.sc sc24 (Rd.cl 1 rfl rfl))) <| qm (ii i10) rfl ?_
     obtain ⟨x27, hx28, h13⟩ := ob h13
     obtain ⟨p29, p30, p31⟩ := getI_some hx28
     obtain ⟨b33, o34, e35, a36⟩ := (Gb0).at p30
     refine qv _ (V.iad underlying24 sz150 rfl e35 rfl p29 p31) <| qv _ (V.fad underlying150 rfl nz4 rfl) <| qv (.bool x27.2) (V.ld rfl (Ld.sc sc4 (Rd.k (((a36).snd).one).bool hpr))) <| qv (.bool (!(x15.2 == x27.2))) (V.neb underlying4 rfl rfl) <| JQ.nil <| J.nil <| cc rfl h13 (fun hc37 h13 => ?_) fun hc37 h13 => ?_
     · refine cr <| ja (.bool false) rfl <| J.nil <| CJ.ret ?_
       obtain rfl := si h13
       refine ⟨nofun, fun e => ?_⟩
       subst e
       refine .inr ⟨nofun, ?_⟩
       obtain rfl := si h
       exact ⟨_, _, Res.one rfl rfl, ⟨false, rfl, rfl, rfl⟩, hpr, fun w hs => (Sep.dropAt 0 rfl (Sep.dropAt 0 rfl hs))⟩
     refine CJ.skip <| CJ.region <| jm (ii i10) rfl <| jv (ii (IntKind.wrap .i64 (i10 + 1))) (V.add rfl rfl) <| ja (ii (IntKind.wrap .i64 (i10 + 1))) rfl <| J.nil ?_
     obtain rfl := si h13
     exact ⟨rfl, ⟨IntKind.wrap .i64 (i10 + 1), rfl, rt3, rfl, rfl⟩⟩
   refine CJ.dropAt 0 rfl <| CJ.dropAt 0 rfl <| CJ.exit ?_
   obtain rfl := si h13
   refine ⟨nofun, fun e => ?_⟩
   subst e
   exact .inl ⟨rfl, _, rfl, ⟨rfl, trivial, rfl, rfl⟩⟩
 rintro s ρ _ _ ho38 ⟨rfl, hf39, rfl, rfl⟩
 subst ho38
 obtain ⟨ρ, rfl⟩ := hf39.ex
 refine PJ.done <| cr <| ja (.bool true) rfl <| J.nil <| CJ.ret ?_
 obtain rfl := si h
 exact ⟨_, _, Res.one rfl rfl, ⟨true, rfl, rfl, rfl⟩, hpr, fun w hs => hs⟩
noncomputable def fn_ref17_Check_l1 (xa : Tq6) : Int → Option (Int ⊕ (Unit ⊕ Int)) := fun (i1 : Int) => cond (decide (i1 < (((xa.2.1.length : Nat) : Int)))) ((getI xa.2.1 i1).bind fun x2 => cond ((((decide (x2.1 < 0)) || (decide (xa.1 ≤ x2.1))) || (decide (x2.2 < 0))) || (decide (xa.1 ≤ x2.2))) (some (.inr ((.inr (7))))) (some (.inl (IntKind.wrap .i64 (i1 + 1))))) (some (.inr ((.inl ()))))
noncomputable def fn_ref17_Check_l2 (xa : Tq6) : Int → Option (Int ⊕ (Unit ⊕ Int)) := fun (i1 : Int) => cond (decide (i1 < (((xa.2.2.1.length : Nat) : Int)))) ((getI xa.2.2.1 i1).bind fun x2 => (fn_ref15_Check x2 xa.1).bind fun i3 => cond (!decide (i3 = 0)) (some (.inr ((.inr (i3))))) (some (.inl (IntKind.wrap .i64 (i1 + 1))))) (some (.inr ((.inl ()))))
noncomputable def fn_ref17_Check (xa : Tq6) : Option Int :=
  cond (decide (xa.1 < 0)) (some (7)) (cond (((decide (16 < xa.1)) || (decide (16 < (((xa.2.1.length : Nat) : Int))))) || (decide (16 < (((xa.2.2.1.length : Nat) : Int))))) (some (6)) ((loop (fn_ref17_Check_l1 xa) 0 : Option (Unit ⊕ Int)).bind fun o => match o with | .inr r => some r | .inl () => (loop (fn_ref17_Check_l2 xa) 0 : Option (Unit ⊕ Int)).bind fun o => match o with | .inr r => some r | .inl () => (fn_ref15_Check xa.2.2.2 xa.1).bind fun i1 => some (i1)))
theorem ref17_Check_ok {K : Hp} {xa : Tq6} {Aa1 : Option Addr} {Ca1 : Nat} {Aa2 : Option Addr} {Ca2 : Nat} {Aa3 : Option Addr} {Ca3 : Nat} (Ga1 : Is K (.sl Yq5) [sl Aa1 xa.2.1 Ca1] xa.2.1) (Ga2 : Is K Yq8 [sl Aa2 xa.2.2.1 Ca2] xa.2.2.1) (Ga3 : Is K (.sl Yq1) [sl Aa3 xa.2.2.2 Ca3] xa.2.2.2) {r : Int} (h : fn_ref17_Check xa = some r) :
    Tr Tryz.prog 85 #[.agg #[ii xa.1, sl Aa1 xa.2.1 Ca1, sl Aa2 xa.2.2.1 Ca2, sl Aa3 xa.2.2.2 Ca3]] K [] (fun v K' L' => (∃ (i4 : Int), i4 = r ∧ ii i4 = v ∧ L' = []) ∧ K = K') := by
 refine Tr.k <| Tr.of func85 rfl ntmps85 rfl fun E F => ?_
 unfold fn_ref17_Check at h
 refine cr <| jbx [ii xa.1, sl Aa1 xa.2.1 Ca1, sl Aa2 xa.2.2.1 Ca2, sl Aa3 xa.2.2.2 Ca3] rfl rfl fun b5 => ja (ii 0) rfl <| J.nil <| CJ.seq <| CJ.seq ?_
 refine CJ.region <| jv _ (V.fad underlying55 rfl nz3 rfl) <| jv (ii xa.1) (V.ld rfl (Ld.sc sc3 (Rd.cl 0 rfl rfl))) <| jv (.bool (decide (xa.1 < 0))) (V.lss rfl rfl) <| J.nil <| cc rfl h (fun hc6 h => ?_) fun hc6 h => ?_
 · refine cr <| ja (ii 7) rfl <| J.nil <| CJ.ret ?_
   obtain rfl := si h
   exact ⟨_, _, Res.one rfl rfl, ⟨7, rfl, rfl, rfl⟩, hpr, fun w hs => (Sep.dropAt 0 rfl hs)⟩
 refine CJ.skip <| CJ.seq <| cr <| jv _ (V.fad underlying55 rfl nz3 rfl) <| jv (ii xa.1) (V.ld rfl (Ld.sc sc3 (Rd.cl 0 rfl rfl))) <| jv (.bool (decide (16 < xa.1))) (V.gtr rfl rfl) ?_
 refine jm (.bool (decide (16 < xa.1))) rfl <| J.cut 5 <| jmeet [(18, .bool ((decide (16 < xa.1)) || (decide (16 < (((xa.2.1.length : Nat) : Int)))))), (1, pt b5)] ?_ ?_
 · rcases bt (decide (16 < xa.1)) with hc7 | hc7
   · refine J.skip rfl rfl rfl rfl hc7 <| J.skip rfl rfl rfl rfl hc7 <| J.skip rfl rfl rfl rfl hc7 <| J.skip rfl rfl rfl rfl hc7 <| jv (.bool true) (V.pickT rfl hc7 rfl) <| J.nil ?_
     exact ⟨rfl, ⟨(by simp only [hc7]; rfl), rfl, trivial⟩, rfl, rfl⟩
   refine J.run rfl rfl rfl hc7 <| jv _ (V.fad underlying55 rfl nz22 rfl) <| J.run rfl rfl rfl hc7 <| jv (sl Aa1 xa.2.1 Ca1) (V.ld rfl (Ld.sc sc22 (Rd.cl 0 rfl rfl))) <| J.run rfl rfl rfl hc7 <| jv (ii (((xa.2.1.length : Nat) : Int))) (V.len underlying22 rfl) <| J.run rfl rfl rfl hc7 ?_
   refine jv (.bool (decide (16 < (((xa.2.1.length : Nat) : Int))))) (V.gtr rfl rfl) <| jv (.bool (decide (16 < (((xa.2.1.length : Nat) : Int))))) (V.pickF rfl hc7 rfl) <| J.nil ?_
   exact ⟨rfl, ⟨(by simp only [hc7]; rfl), rfl, trivial⟩, rfl, rfl⟩
 intro ρ
 refine jm (.bool ((decide (16 < xa.1)) || (decide (16 < (((xa.2.1.length : Nat) : Int)))))) rfl <| J.cut 5 <| jmeet [(24, .bool (((decide (16 < xa.1)) || (decide (16 < (((xa.2.1.length : Nat) : Int))))) || (decide (16 < (((xa.2.2.1.length : Nat) : Int)))))), (1, pt b5)] ?_ ?_
 · rcases bt ((decide (16 < xa.1)) || (decide (16 < (((xa.2.1.length : Nat) : Int))))) with hc9 | hc9
   · refine J.skip rfl rfl rfl rfl hc9 <| J.skip rfl rfl rfl rfl hc9 <| J.skip rfl rfl rfl rfl hc9 <| J.skip rfl rfl rfl rfl hc9 <| jv (.bool true) (V.pickT rfl hc9 rfl) <| J.nil ?_
     exact ⟨rfl, ⟨(by simp only [hc9]; rfl), rfl, trivial⟩, rfl, rfl⟩
   refine J.run rfl rfl rfl hc9 <| jv _ (V.fad underlying55 rfl nz23 rfl) <| J.run rfl rfl rfl hc9 <| jv (sl Aa2 xa.2.2.1 Ca2) (V.ld rfl (Ld.sc sc23 (Rd.cl 0 rfl rfl))) <| J.run rfl rfl rfl hc9 <| jv (ii (((xa.2.2.1.length : Nat) : Int))) (V.len underlying23 rfl) <| J.run rfl rfl rfl hc9 ?_
   refine jv (.bool (decide (16 < (((xa.2.2.1.length : Nat) : Int))))) (V.gtr rfl rfl) <| jv (.bool (decide (16 < (((xa.2.2.1.length : Nat) : Int))))) (V.pickF rfl hc9 rfl) <| J.nil ?_
   exact ⟨rfl, ⟨(by simp only [hc9]; rfl), rfl, trivial⟩, rfl, rfl⟩
 intro ρ
 refine J.nil <| cc rfl h (fun hc10 h => ?_) fun hc10 h => ?_
 · refine cr <| ja (ii 6) rfl <| J.nil <| CJ.ret ?_
   obtain rfl := si h
   exact ⟨_, _, Res.one rfl rfl, ⟨6, rfl, rfl, rfl⟩, hpr, fun w hs => (Sep.dropAt 0 rfl hs)⟩
 refine CJ.skip <| CJ.seq <| cr <| ja (ii 0) rfl <| J.nil ?_
 obtain ⟨o11, ho12, h⟩ := ob h
 refine CJ.joinN (o := o11) (fun s ρ K' L' => () = s ∧ Fits [(1, pt b5)] ρ ∧ K = K' ∧ L' = Cl b5 55 [ii xa.1, sl Aa1 xa.2.1 Ca1, sl Aa2 xa.2.2.1 Ca2, sl Aa3 xa.2.2.2 Ca3] :: F) ?_ ?_
 · refine CJ.block <| CJ.loop (fun s ρ K' L' => ∃ (i13 : Int), i13 = s ∧ Fits [(1, pt b5), (3, ii i13)] ρ ∧ K = K' ∧ L' = Cl b5 55 [ii xa.1, sl Aa1 xa.2.1 Ca1, sl Aa2 xa.2.2.1 Ca2, sl Aa3 xa.2.2.2 Ca3] :: F) ho12 ⟨0, rfl, rt2, rfl, rfl⟩ ?_
   rintro s ρ _ _ r14 ⟨i13, rfl, hf15, rfl, rfl⟩ h17
   obtain ⟨ρ, rfl⟩ := hf15.ex
   refine CJ.seq <| cr <| jm (ii i13) rfl <| jv _ (V.fad underlying55 rfl nz22 rfl) <| jv (sl Aa1 xa.2.1 Ca1) (V.ld rfl (Ld.sc sc22 (Rd.cl 0 rfl rfl))) <| jv (ii (((xa.2.1.length : Nat) : Int))) (V.len underlying22 rfl) ?_
   refine jv (.bool (decide (i13 < (((xa.2.1.length : Nat) : Int))))) (V.lss rfl rfl) <| J.nil <| cc rfl h17 (fun hc18 h17 => ?_) fun hc18 h17 => ?_
   · refine CJ.skip <| CJ.seq <| CJ.block <| cr <| jv _ (V.fad underlying55 rfl nz22 rfl) <| jv (sl Aa1 xa.2.1 Ca1) (V.ld rfl (Ld.sc sc22 (Rd.cl 0 rfl rfl))) ?_
     refine jm (ii i13) rfl ?_
     obtain ⟨x19, hx20, h17⟩ := ob h17
     obtain ⟨p21, p24, p25⟩ := getI_some hx20
     obtain ⟨b27, o28, e29, a30⟩ := (Ga1).at p24
     refine jv _ (V.iad underlying22 sz126 rfl e29 rfl p21 p25) <| jv (.agg #[ii x19.1, ii x19.2]) (V.ld rfl (Ld.aggK (cs := [ii x19.1, ii x19.2]) underlying126 sz126 rfl ⟨((a30).fst).int, (((a30).snd).one).int, trivial⟩ hpr)) <| jal inf126 [ii 0, ii 0] rfl fun b31 => js [ii x19.1, ii x19.2] sz126 rfl rfl rfl rfl rfl rfl <| J.nil <| CJ.seq <| CJ.region ?_
     refine jv _ (V.fad underlying126 rfl nz3 rfl) <| jv (ii x19.1) (V.ld rfl (Ld.sc sc3 (Rd.cl 0 rfl rfl))) <| jv (.bool (decide (x19.1 < 0))) (V.lss rfl rfl) <| jm (.bool (decide (x19.1 < 0))) rfl <| J.cut 6 <| jmeet [(46, .bool ((decide (x19.1 < 0)) || (decide (xa.1 ≤ x19.1)))), (1, pt b5), (3, ii i13), (4, pt b31)] ?_ ?_
     · rcases bt (decide (x19.1 < 0)) with hc33 | hc33
       · refine J.skip rfl rfl rfl rfl hc33 <| J.skip rfl rfl rfl rfl hc33 <| J.skip rfl rfl rfl rfl hc33 <| J.skip rfl rfl rfl rfl hc33 <| J.skip rfl rfl rfl rfl hc33 <| jv (.bool true) (V.pickT rfl hc33 rfl) <| J.nil ?_
         exact ⟨rfl, ⟨(by simp only [hc33]; rfl), rfl, rfl, rfl, trivial⟩, rfl, rfl⟩
       refine J.run rfl rfl rfl hc33 <| jv _ (V.fad underlying126 rfl nz3 rfl) <| J.run rfl rfl rfl hc33 <| jv (ii x19.1) (V.ld rfl (Ld.sc sc3 (Rd.cl 0 rfl rfl))) <| J.run rfl rfl rfl hc33 <| jv _ (V.fad underlying55 rfl nz3 rfl) <| J.run rfl rfl rfl hc33 ?_
       refine jv (ii xa.1) (V.ld rfl (Ld.sc sc3 (Rd.cl 1 rfl rfl))) <| J.run rfl rfl rfl hc33 <| jv (.bool (decide (xa.1 ≤ x19.1))) (V.geq rfl rfl) <| jv (.bool (decide (xa.1 ≤ x19.1))) (V.pickF rfl hc33 rfl) <| J.nil ?_
       exact ⟨rfl, ⟨(by simp only [hc33]; rfl), rfl, rfl, rfl, trivial⟩, rfl, rfl⟩
     intro ρ
     refine jm (.bool ((decide (x19.1 < 0)) || (decide (xa.1 ≤ x19.1)))) rfl <| J.cut 4 <| jmeet [(51, .bool (((decide (x19.1 < 0)) || (decide (xa.1 ≤ x19.1))) || (decide (x19.2 < 0)))), (1, pt b5), (3, ii i13), (4, pt b31)] ?_ ?_
     · rcases bt ((decide (x19.1 < 0)) || (decide (xa.1 ≤ x19.1))) with hc34 | hc34
       · refine J.skip rfl rfl rfl rfl hc34 <| J.skip rfl rfl rfl rfl hc34 <| J.skip rfl rfl rfl rfl hc34 <| jv (.bool true) (V.pickT rfl hc34 rfl) <| J.nil ?_
         exact ⟨rfl, ⟨(by simp only [hc34]; rfl), rfl, rfl, rfl, trivial⟩, rfl, rfl⟩
       refine J.run rfl rfl rfl hc34 <| jv _ (V.fad underlying126 rfl nz3 rfl) <| J.run rfl rfl rfl hc34 <| jv (ii x19.2) (V.ld rfl (Ld.sc sc3 (Rd.cl 0 rfl rfl))) <| J.run rfl rfl rfl hc34 <| jv (.bool (decide (x19.2 < 0))) (V.lss rfl rfl) <| jv (.bool (decide (x19.2 < 0))) (V.pickF rfl hc34 rfl) ?_
       refine J.nil ?_
       exact ⟨rfl, ⟨(by simp only [hc34]; rfl), rfl, rfl, rfl, trivial⟩, rfl, rfl⟩
     intro ρ
     refine jm (.bool (((decide (x19.1 < 0)) || (decide (xa.1 ≤ x19.1))) || (decide (x19.2 < 0)))) rfl <| J.cut 6 <| jmeet [(58, .bool ((((decide (x19.1 < 0)) || (decide (xa.1 ≤ x19.1))) || (decide (x19.2 < 0))) || (decide (xa.1 ≤ x19.2)))), (1, pt b5), (3, ii i13)] ?_ ?_
     · rcases bt (((decide (x19.1 < 0)) || (decide (xa.1 ≤ x19.1))) || (decide (x19.2 < 0))) with hc35 | hc35
       · refine J.skip rfl rfl rfl rfl hc35 <| J.skip rfl rfl rfl rfl hc35 <| J.skip rfl rfl rfl rfl hc35 <| J.skip rfl rfl rfl rfl hc35 <| J.skip rfl rfl rfl rfl hc35 <| jv (.bool true) (V.pickT rfl hc35 rfl) <| J.nil ?_
         exact ⟨rfl, ⟨(by simp only [hc35]; rfl), rfl, rfl, trivial⟩, rfl, rfl⟩
       refine J.run rfl rfl rfl hc35 <| jv _ (V.fad underlying126 rfl nz3 rfl) <| J.run rfl rfl rfl hc35 <| jv (ii x19.2) (V.ld rfl (Ld.sc sc3 (Rd.cl 0 rfl rfl))) <| J.run rfl rfl rfl hc35 <| jv _ (V.fad underlying55 rfl nz3 rfl) <| J.run rfl rfl rfl hc35 ?_
       refine jv (ii xa.1) (V.ld rfl (Ld.sc sc3 (Rd.cl 1 rfl rfl))) <| J.run rfl rfl rfl hc35 <| jv (.bool (decide (xa.1 ≤ x19.2))) (V.geq rfl rfl) <| jv (.bool (decide (xa.1 ≤ x19.2))) (V.pickF rfl hc35 rfl) <| J.nil ?_
       exact ⟨rfl, ⟨(by simp only [hc35]; rfl), rfl, rfl, trivial⟩, rfl, rfl⟩
     intro ρ
     refine J.nil <| cc rfl h17 (fun hc36 h17 => ?_) fun hc36 h17 => ?_
     · refine cr <| ja (ii 7) rfl <| J.nil <| CJ.ret ?_
       obtain rfl := si h17
       refine ⟨nofun, fun e => ?_⟩
       subst e
       refine .inr ⟨nofun, ?_⟩
       obtain rfl := si h
       exact ⟨_, _, Res.one rfl rfl, ⟨7, rfl, rfl, rfl⟩, hpr, fun w hs => (Sep.dropAt 0 rfl (Sep.dropAt 0 rfl hs))⟩
     refine CJ.skip <| CJ.region <| jm (ii i13) rfl <| jv (ii (IntKind.wrap .i64 (i13 + 1))) (V.add rfl rfl) <| ja (ii (IntKind.wrap .i64 (i13 + 1))) rfl <| J.dropAt 0 rfl <| J.nil ?_
     obtain rfl := si h17
     exact ⟨rfl, ⟨IntKind.wrap .i64 (i13 + 1), rfl, rt2, rfl, rfl⟩⟩
   refine CJ.exit ?_
   obtain rfl := si h17
   refine ⟨nofun, fun e => ?_⟩
   subst e
   exact .inl ⟨rfl, _, rfl, ⟨rfl, rt1, rfl, rfl⟩⟩
 rintro s ρ _ _ ho37 ⟨rfl, hf38, rfl, rfl⟩
 subst ho37
 obtain ⟨ρ, rfl⟩ := hf38.ex
 refine PJ.done <| CJ.seq <| cr <| ja (ii 0) rfl <| J.nil ?_
 obtain ⟨o39, ho40, h⟩ := ob h
 refine CJ.joinN (o := o39) (fun s ρ K' L' => () = s ∧ Fits [(1, pt b5)] ρ ∧ K = K' ∧ L' = Cl b5 55 [ii xa.1, sl Aa1 xa.2.1 Ca1, sl Aa2 xa.2.2.1 Ca2, sl Aa3 xa.2.2.2 Ca3] :: F) ?_ ?_
 · refine CJ.block <| CJ.loop (fun s ρ K' L' => ∃ (i41 : Int), i41 = s ∧ Fits [(1, pt b5), (5, ii i41)] ρ ∧ K = K' ∧ L' = Cl b5 55 [ii xa.1, sl Aa1 xa.2.1 Ca1, sl Aa2 xa.2.2.1 Ca2, sl Aa3 xa.2.2.2 Ca3] :: F) ho40 ⟨0, rfl, rt2, rfl, rfl⟩ ?_
   rintro s ρ _ _ r42 ⟨i41, rfl, hf43, rfl, rfl⟩ h44
   obtain ⟨ρ, rfl⟩ := hf43.ex
   refine CJ.seq <| cr <| jm (ii i41) rfl <| jv _ (V.fad underlying55 rfl nz23 rfl) <| jv (sl Aa2 xa.2.2.1 Ca2) (V.ld rfl (Ld.sc sc23 (Rd.cl 0 rfl rfl))) <| jv (ii (((xa.2.2.1.length : Nat) : Int))) (V.len underlying23 rfl) ?_
   refine jv (.bool (decide (i41 < (((xa.2.2.1.length : Nat) : Int))))) (V.lss rfl rfl) <| J.nil <| cc rfl h44 (fun hc45 h44 => ?_) fun hc45 h44 => ?_
   · refine CJ.skip <| CJ.seq <| CJ.block <| CJ.seq <| CJ.mix [Cl b5 55 [ii xa.1, sl Aa1 xa.2.1 Ca1, sl Aa2 xa.2.2.1 Ca2, sl Aa3 xa.2.2.2 Ca3]] [([0, 1, 2, 3, 4, 5, 6], 7)] [8] [] mixO (by decide +kernel) ⟨0, rfl, trivial⟩ rfl rfl rfl <| JM.cons <| qv _ (V.fad underlying55 rfl nz23 rfl) ?_
     refine qv (sl Aa2 xa.2.2.1 Ca2) (V.ld rfl (Ld.sc sc23 (Rd.cl 0 rfl rfl))) <| qm (ii i41) rfl ?_
     obtain ⟨x46, hx47, h44⟩ := ob h44
     obtain ⟨p48, p49, p50⟩ := getI_some hx47
     obtain ⟨b51, o52, e53, a54⟩ := (Ga2).at p49
     refine qv _ (V.iad underlying23 sz26 rfl e53 rfl p48 p50) ?_
     obtain ⟨ad56, cp57, c58, f59⟩ := ((a54).one).sl
     refine qv (.agg #[sl ad56 x46 cp57]) (V.ld rfl (Ld.aggK (cs := [sl ad56 x46 cp57]) underlying26 sz26 rfl ⟨c58, trivial⟩ hpr)) <| qv _ (V.fad underlying55 rfl nz3 rfl) <| qv (ii xa.1) (V.ld rfl (Ld.sc sc3 (Rd.cl 0 rfl rfl))) <| JQ.nil ?_
     obtain ⟨r60, hr61, h44⟩ := ob h44
     refine JA.op rfl (A.call (L1 := []) call83 rfl (ref15_Check_ok f59 hr61) rfl rfl) ?_
     rintro _ _ _ ⟨v62, _, rfl, ⟨⟨i63, rfl, rfl, rfl⟩, rfl⟩, _, rfl⟩
     refine ⟨fun w hs => Hold.sub hpr ⟨0, rfl, trivial⟩ hs, ?_⟩
     refine JM.nil <| qa (ii i63) rfl <| JQ.nil <| J.nil <| cr <| jm (ii i63) rfl ?_
     refine jv (.bool (!decide (i63 = 0))) (V.neq rfl rfl) <| J.nil <| cc rfl h44 (fun hc65 h44 => ?_) fun hc65 h44 => ?_
     · refine cr <| jm (ii i63) rfl <| ja (ii i63) rfl <| J.nil <| CJ.ret ?_
       obtain rfl := si h44
       refine ⟨nofun, fun e => ?_⟩
       subst e
       refine .inr ⟨nofun, ?_⟩
       obtain rfl := si h
       exact ⟨_, _, Res.one rfl rfl, ⟨i63, rfl, rfl, rfl⟩, hpr, fun w hs => (Sep.dropAt 0 rfl hs)⟩
     refine CJ.skip <| CJ.region <| jm (ii i41) rfl <| jv (ii (IntKind.wrap .i64 (i41 + 1))) (V.add rfl rfl) <| ja (ii (IntKind.wrap .i64 (i41 + 1))) rfl <| J.nil ?_
     obtain rfl := si h44
     exact ⟨rfl, ⟨IntKind.wrap .i64 (i41 + 1), rfl, rt2, rfl, rfl⟩⟩
   refine CJ.exit ?_
   obtain rfl := si h44
   refine ⟨nofun, fun e => ?_⟩
   subst e
   exact .inl ⟨rfl, _, rfl, ⟨rfl, rt1, rfl, rfl⟩⟩
 rintro s ρ _ _ ho66 ⟨rfl, hf67, rfl, rfl⟩
 subst ho66
 obtain ⟨ρ, rfl⟩ := hf67.ex
 refine PJ.done <| cr <| jv _ (V.fad underlying55 rfl nz26 rfl) <| jv (.agg #[sl Aa3 xa.2.2.2 Ca3]) (V.ld rfl (Ld.agg (cs := [sl Aa3 xa.2.2.2 Ca3]) underlying26 sz26 rfl (Rd.cls 0 3 rfl rfl))) <| jv _ (V.fad underlying55 rfl nz3 rfl) <| jv (ii xa.1) (V.ld rfl (Ld.sc sc3 (Rd.cl 0 rfl rfl))) ?_
 obtain ⟨r68, hr69, h⟩ := ob h
 refine J.op rfl (A.call (L1 := []) call83 rfl (ref15_Check_ok Ga3 hr69) rfl rfl) ?_
 rintro _ _ _ ⟨v70, _, rfl, ⟨⟨i71, rfl, rfl, rfl⟩, rfl⟩, _, rfl⟩
 refine ja (ii i71) rfl <| J.nil <| CJ.ret ?_
 obtain rfl := si h
 exact ⟨_, _, Res.one rfl rfl, ⟨i71, rfl, rfl, rfl⟩, hpr, fun w hs => (Sep.dropAt 0 rfl hs)⟩
noncomputable def fn_ref21_types_l1 (xa : Tq1) : Int → Option (Int ⊕ (Unit ⊕ Tq7)) := fun (i1 : Int) => cond (decide (i1 < (((xa.2.2.2.1.length : Nat) : Int)))) ((getI xa.2.2.2.1 i1).bind fun x2 => (fn_ref15_Check x2 xa.2.1).bind fun i3 => cond (!decide (i3 = 0)) (some (.inr ((.inr ((i3, 2, i1, 0)))))) (some (.inl (IntKind.wrap .i64 (i1 + 1))))) (some (.inr ((.inl ()))))
noncomputable def fn_ref21_types_l2 (xa : Tq1) : Int → Option (Int ⊕ (Unit ⊕ Tq7)) := fun (i1 : Int) => cond (decide (i1 < (((xa.2.2.2.2.2.1.length : Nat) : Int)))) ((getI xa.2.2.2.2.2.1 i1).bind fun x2 => (fn_ref17_Check (x2.1, x2.2.1, x2.2.2.1, x2.2.2.2)).bind fun i3 => cond (!decide (i3 = 0)) (some (.inr ((.inr ((i3, 4, i1, 0)))))) (some (.inl (IntKind.wrap .i64 (i1 + 1))))) (some (.inr ((.inl ()))))
noncomputable def fn_ref21_types (xa : Tq1) : Option Tq7 :=
  cond (decide ((((xa.2.2.2.1.length : Nat) : Int)) = 0)) (some ((14, 2, 0, 0))) (cond (decide (65536 < (((xa.2.2.2.1.length : Nat) : Int)))) (some ((6, 2, 0, 0))) ((loop (fn_ref21_types_l1 xa) 0 : Option (Unit ⊕ Tq7)).bind fun o => match o with | .inr r => some r | .inl () => (fn_ref15_Check xa.2.2.2.2.1 xa.1).bind fun i1 => cond (!decide (i1 = 0)) (some ((i1, 3, 0, 0))) ((getI xa.2.2.2.1 0).bind fun x2 => (fn_ref15_Shape x2 xa.2.2.2.2.1).bind fun t3 => cond (!t3) (some ((8, 3, 0, 0))) (cond (decide (65536 < (((xa.2.2.2.2.2.1.length : Nat) : Int)))) (some ((6, 4, 0, 0))) ((loop (fn_ref21_types_l2 xa) 0 : Option (Unit ⊕ Tq7)).bind fun o => match o with | .inr r => some r | .inl () => some ((0, 0, 0, 0)))))))
theorem ref21_types_ok {K : Hp} {xa : Tq1} {Aa2 : Option Addr} {Ca2 : Nat} {Aa3 : Option Addr} {Ca3 : Nat} {Aa4 : Option Addr} {Ca4 : Nat} {Aa5 : Option Addr} {Ca5 : Nat} {Aa6 : Option Addr} {Ca6 : Nat} (Ga2 : Is K (.sl Yq5) [sl Aa2 xa.2.2.1 Ca2] xa.2.2.1) (Ga3 : Is K Yq8 [sl Aa3 xa.2.2.2.1 Ca3] xa.2.2.2.1) (Ga4 : Is K (.sl Yq1) [sl Aa4 xa.2.2.2.2.1 Ca4] xa.2.2.2.2.1) (Ga5 : Is K Yq4 [sl Aa5 xa.2.2.2.2.2.1 Ca5] xa.2.2.2.2.2.1) (Ga6 : Is K (.sl Yq3) [sl Aa6 xa.2.2.2.2.2.2 Ca6] xa.2.2.2.2.2.2) {r : Tq7} (h : fn_ref21_types xa = some r) :
    Tr Tryz.prog 62 #[.agg #[ii xa.1, ii xa.2.1, sl Aa2 xa.2.2.1 Ca2, sl Aa3 xa.2.2.2.1 Ca3, sl Aa4 xa.2.2.2.2.1 Ca4, sl Aa5 xa.2.2.2.2.2.1 Ca5, sl Aa6 xa.2.2.2.2.2.2 Ca6]] K [] (fun v K' L' => (∃ (i7 : Int) (i9 : Int) (i10 : Int) (i11 : Int), (i7, i9, i10, i11) = r ∧ .agg #[ii i7, ii i9, ii i10, ii i11] = v ∧ L' = []) ∧ K = K') := by
 refine Tr.k <| Tr.of func62 rfl ntmps62 rfl fun E F => ?_
 unfold fn_ref21_types at h
 refine cr <| jbx [ii xa.1, ii xa.2.1, sl Aa2 xa.2.2.1 Ca2, sl Aa3 xa.2.2.2.1 Ca3, sl Aa4 xa.2.2.2.2.1 Ca4, sl Aa5 xa.2.2.2.2.2.1 Ca5, sl Aa6 xa.2.2.2.2.2.2 Ca6] rfl rfl fun b12 => jal inf101 [ii 0, ii 0, ii 0, ii 0] rfl fun b13 => J.nil <| CJ.seq <| CJ.seq ?_
 refine CJ.region <| jv _ (V.fad underlying30 rfl nz23 rfl) <| jv (sl Aa3 xa.2.2.2.1 Ca3) (V.ld rfl (Ld.sc sc23 (Rd.cl 1 rfl rfl))) <| jv (ii (((xa.2.2.2.1.length : Nat) : Int))) (V.len underlying23 rfl) <| jv (.bool (decide ((((xa.2.2.2.1.length : Nat) : Int)) = 0))) (V.eql rfl rfl) <| J.nil <| cc rfl h (fun hc14 h => ?_) fun hc14 h => ?_
 · refine cr <| jv (.agg #[ii 14, ii 2, ii 0, ii 0]) (V.build inf101 places101 rfl rfl) <| js [ii 14, ii 2, ii 0, ii 0] sz101 rfl rfl rfl rfl rfl rfl <| J.nil <| CJ.ret ?_
   obtain rfl := si h
   exact ⟨_, _, Res.one rfl ⟨_, _, rfl, Ld.agg (cs := [ii 14, ii 2, ii 0, ii 0]) underlying101 sz101 rfl (Rd.cls 0 0 rfl rfl)⟩, ⟨14, 2, 0, 0, rfl, rfl, rfl⟩, hpr, fun w hs => (Sep.dropAt 0 rfl (Sep.dropAt 0 rfl hs))⟩
 refine CJ.skip <| CJ.seq <| cr <| jv _ (V.fad underlying30 rfl nz23 rfl) <| jv (sl Aa3 xa.2.2.2.1 Ca3) (V.ld rfl (Ld.sc sc23 (Rd.cl 1 rfl rfl))) <| jv (ii (((xa.2.2.2.1.length : Nat) : Int))) (V.len underlying23 rfl) ?_
 refine jv (.bool (decide (65536 < (((xa.2.2.2.1.length : Nat) : Int))))) (V.gtr rfl rfl) <| J.nil <| cc rfl h (fun hc15 h => ?_) fun hc15 h => ?_
 · refine cr <| jv (.agg #[ii 6, ii 2, ii 0, ii 0]) (V.build inf101 places101 rfl rfl) <| js [ii 6, ii 2, ii 0, ii 0] sz101 rfl rfl rfl rfl rfl rfl <| J.nil <| CJ.ret ?_
   obtain rfl := si h
   exact ⟨_, _, Res.one rfl ⟨_, _, rfl, Ld.agg (cs := [ii 6, ii 2, ii 0, ii 0]) underlying101 sz101 rfl (Rd.cls 0 0 rfl rfl)⟩, ⟨6, 2, 0, 0, rfl, rfl, rfl⟩, hpr, fun w hs => (Sep.dropAt 0 rfl (Sep.dropAt 0 rfl hs))⟩
 refine CJ.skip <| CJ.seq <| cr <| ja (ii 0) rfl <| J.nil ?_
 obtain ⟨o17, ho18, h⟩ := ob h
 refine CJ.joinN (o := o17) (fun s ρ K' L' => () = s ∧ Fits [(1, pt b12), (2, pt b13)] ρ ∧ K = K' ∧ L' = Cl b12 30 [ii xa.1, ii xa.2.1, sl Aa2 xa.2.2.1 Ca2, sl Aa3 xa.2.2.2.1 Ca3, sl Aa4 xa.2.2.2.2.1 Ca4, sl Aa5 xa.2.2.2.2.2.1 Ca5, sl Aa6 xa.2.2.2.2.2.2 Ca6] :: Cl b13 101 [ii 0, ii 0, ii 0, ii 0] :: F) ?_ ?_
 · refine CJ.block <| CJ.front 1 rfl <| CJ.loop (fun s ρ K' L' => ∃ (i19 : Int), i19 = s ∧ Fits [(1, pt b12), (2, pt b13), (3, ii i19)] ρ ∧ K = K' ∧ L' = Cl b12 30 [ii xa.1, ii xa.2.1, sl Aa2 xa.2.2.1 Ca2, sl Aa3 xa.2.2.2.1 Ca3, sl Aa4 xa.2.2.2.2.1 Ca4, sl Aa5 xa.2.2.2.2.2.1 Ca5, sl Aa6 xa.2.2.2.2.2.2 Ca6] :: Cl b13 101 [ii 0, ii 0, ii 0, ii 0] :: F) ho18 ⟨0, rfl, rt3, rfl, rfl⟩ ?_
   rintro s ρ _ _ r20 ⟨i19, rfl, hf21, rfl, rfl⟩ h22
   obtain ⟨ρ, rfl⟩ := hf21.ex
   refine CJ.seq <| cr <| jm (ii i19) rfl <| jv _ (V.fad underlying30 rfl nz23 rfl) <| jv (sl Aa3 xa.2.2.2.1 Ca3) (V.ld rfl (Ld.sc sc23 (Rd.cl 0 rfl rfl))) <| jv (ii (((xa.2.2.2.1.length : Nat) : Int))) (V.len underlying23 rfl) ?_
   refine jv (.bool (decide (i19 < (((xa.2.2.2.1.length : Nat) : Int))))) (V.lss rfl rfl) <| J.nil <| cc rfl h22 (fun hc24 h22 => ?_) fun hc24 h22 => ?_
   · refine CJ.skip <| CJ.seq <| CJ.block <| CJ.seq <| CJ.mix [Cl b12 30 [ii xa.1, ii xa.2.1, sl Aa2 xa.2.2.1 Ca2, sl Aa3 xa.2.2.2.1 Ca3, sl Aa4 xa.2.2.2.2.1 Ca4, sl Aa5 xa.2.2.2.2.2.1 Ca5, sl Aa6 xa.2.2.2.2.2.2 Ca6], Cl b13 101 [ii 0, ii 0, ii 0, ii 0]] [([0, 1, 2, 3, 4, 5, 6], 7)] [8] [] mixO (by decide +kernel) ⟨0, rfl, 0, rfl, trivial⟩ rfl rfl rfl <| JM.cons <| qv _ (V.fad underlying30 rfl nz23 rfl) ?_
     refine qv (sl Aa3 xa.2.2.2.1 Ca3) (V.ld rfl (Ld.sc sc23 (Rd.cl 0 rfl rfl))) <| qm (ii i19) rfl ?_
     obtain ⟨x25, hx28, h22⟩ := ob h22
     obtain ⟨p29, p31, p33⟩ := getI_some hx28
     obtain ⟨b34, o35, e36, a37⟩ := (Ga3).at p31
     refine qv _ (V.iad underlying23 sz26 rfl e36 rfl p29 p33) ?_
     obtain ⟨ad38, cp39, c40, f41⟩ := ((a37).one).sl
     refine qv (.agg #[sl ad38 x25 cp39]) (V.ld rfl (Ld.aggK (cs := [sl ad38 x25 cp39]) underlying26 sz26 rfl ⟨c40, trivial⟩ hpr)) <| qv _ (V.fad underlying30 rfl nz3 rfl) <| qv (ii xa.2.1) (V.ld rfl (Ld.sc sc3 (Rd.cl 0 rfl rfl))) <| JQ.nil ?_
     obtain ⟨r42, hr43, h22⟩ := ob h22
     refine JA.op rfl (A.call (L1 := []) call83 rfl (ref15_Check_ok f41 hr43) rfl rfl) ?_
     rintro _ _ _ ⟨v44, _, rfl, ⟨⟨i45, rfl, rfl, rfl⟩, rfl⟩, _, rfl⟩
     refine ⟨fun w hs => Hold.sub hpr ⟨0, rfl, 0, rfl, trivial⟩ hs, ?_⟩
     refine JM.nil <| qa (ii i45) rfl <| JQ.nil <| J.nil <| cr <| jm (ii i45) rfl ?_
     refine jv (.bool (!decide (i45 = 0))) (V.neq rfl rfl) <| J.nil <| cc rfl h22 (fun hc46 h22 => ?_) fun hc46 h22 => ?_
     · refine cr <| jm (ii i45) rfl <| jm (ii i19) rfl <| jv (.agg #[ii i45, ii 2, ii i19, ii 0]) (V.build inf101 places101 rfl rfl) <| J.front 1 rfl <| js [ii i45, ii 2, ii i19, ii 0] sz101 rfl rfl rfl rfl rfl rfl ?_
       refine J.nil <| CJ.ret ?_
       obtain rfl := si h22
       refine ⟨nofun, fun e => ?_⟩
       subst e
       refine .inr ⟨nofun, ?_⟩
       obtain rfl := si h
       exact ⟨_, _, Res.one rfl ⟨_, _, rfl, Ld.agg (cs := [ii i45, ii 2, ii i19, ii 0]) underlying101 sz101 rfl (Rd.cls 0 0 rfl rfl)⟩, ⟨i45, 2, i19, 0, rfl, rfl, rfl⟩, hpr, fun w hs => (Sep.dropAt 0 rfl (Sep.dropAt 0 rfl hs))⟩
     refine CJ.skip <| CJ.region <| jm (ii i19) rfl <| jv (ii (IntKind.wrap .i64 (i19 + 1))) (V.add rfl rfl) <| ja (ii (IntKind.wrap .i64 (i19 + 1))) rfl <| J.nil ?_
     obtain rfl := si h22
     exact ⟨rfl, ⟨IntKind.wrap .i64 (i19 + 1), rfl, rt3, rfl, rfl⟩⟩
   refine CJ.exit ?_
   obtain rfl := si h22
   refine ⟨nofun, fun e => ?_⟩
   subst e
   exact .inl ⟨rfl, _, rfl, ⟨rfl, rt2, rfl, rfl⟩⟩
 rintro s ρ _ _ ho47 ⟨rfl, hf48, rfl, rfl⟩
 subst ho47
 obtain ⟨ρ, rfl⟩ := hf48.ex
 refine PJ.done <| cr <| jv _ (V.fad underlying30 rfl nz26 rfl) <| jv (.agg #[sl Aa4 xa.2.2.2.2.1 Ca4]) (V.ld rfl (Ld.agg (cs := [sl Aa4 xa.2.2.2.2.1 Ca4]) underlying26 sz26 rfl (Rd.cls 0 4 rfl rfl))) <| jv _ (V.fad underlying30 rfl nz3 rfl) <| jv (ii xa.1) (V.ld rfl (Ld.sc sc3 (Rd.cl 0 rfl rfl))) ?_
 obtain ⟨r49, hr50, h⟩ := ob h
 refine J.op rfl (A.call (L1 := []) call83 rfl (ref15_Check_ok Ga4 hr50) rfl rfl) ?_
 rintro _ _ _ ⟨v51, _, rfl, ⟨⟨i52, rfl, rfl, rfl⟩, rfl⟩, _, rfl⟩
 refine ja (ii i52) rfl <| J.nil <| CJ.seq <| cr <| jm (ii i52) rfl <| jv (.bool (!decide (i52 = 0))) (V.neq rfl rfl) ?_
 refine J.nil <| cc rfl h (fun hc53 h => ?_) fun hc53 h => ?_
 · refine cr <| jm (ii i52) rfl <| jv (.agg #[ii i52, ii 3, ii 0, ii 0]) (V.build inf101 places101 rfl rfl) <| J.front 1 rfl <| js [ii i52, ii 3, ii 0, ii 0] sz101 rfl rfl rfl rfl rfl rfl <| J.nil ?_
   refine CJ.ret ?_
   obtain rfl := si h
   exact ⟨_, _, Res.one rfl ⟨_, _, rfl, Ld.agg (cs := [ii i52, ii 3, ii 0, ii 0]) underlying101 sz101 rfl (Rd.cls 0 0 rfl rfl)⟩, ⟨i52, 3, 0, 0, rfl, rfl, rfl⟩, hpr, fun w hs => (Sep.dropAt 0 rfl (Sep.dropAt 0 rfl hs))⟩
 refine CJ.skip <| CJ.seq <| CJ.seq <| CJ.mix [Cl b12 30 [ii xa.1, ii xa.2.1, sl Aa2 xa.2.2.1 Ca2, sl Aa3 xa.2.2.2.1 Ca3, sl Aa4 xa.2.2.2.2.1 Ca4, sl Aa5 xa.2.2.2.2.2.1 Ca5, sl Aa6 xa.2.2.2.2.2.2 Ca6], Cl b13 101 [ii 0, ii 0, ii 0, ii 0]] [([0, 1, 2, 3, 4, 5], 6)] [7] [] mixO (by decide +kernel) ⟨0, rfl, 0, rfl, trivial⟩ rfl rfl rfl <| JM.cons <| qv _ (V.fad underlying30 rfl nz23 rfl) <| qv (sl Aa3 xa.2.2.2.1 Ca3) (V.ld rfl (Ld.sc sc23 (Rd.cl 0 rfl rfl))) ?_
 obtain ⟨x54, hx56, h⟩ := ob h
 obtain ⟨p57, p58, p59⟩ := getI_some hx56
 obtain ⟨b60, o61, e63, a65⟩ := (Ga3).at p58
 refine qv _ (V.iad underlying23 sz26 rfl e63 rfl p57 p59) ?_
 obtain ⟨ad66, cp67, c68, f69⟩ := ((a65).one).sl
 refine qv (.agg #[sl ad66 x54 cp67]) (V.ld rfl (Ld.aggK (cs := [sl ad66 x54 cp67]) underlying26 sz26 rfl ⟨c68, trivial⟩ hpr)) <| qv _ (V.fad underlying30 rfl nz26 rfl) <| qv (.agg #[sl Aa4 xa.2.2.2.2.1 Ca4]) (V.ld rfl (Ld.agg (cs := [sl Aa4 xa.2.2.2.2.1 Ca4]) underlying26 sz26 rfl (Rd.cls 0 4 rfl rfl))) <| JQ.nil ?_
 obtain ⟨r70, hr71, h⟩ := ob h
 refine JA.op rfl (A.call (L1 := []) call84 rfl (ref15_Shape_ok f69 Ga4 hr71) rfl rfl) ?_
 rintro _ _ _ ⟨v72, _, rfl, ⟨⟨t73, rfl, rfl, rfl⟩, rfl⟩, _, rfl⟩
 refine ⟨fun w hs => Hold.sub hpr ⟨0, rfl, 0, rfl, trivial⟩ hs, ?_⟩
 refine JM.nil <| qv (.bool (!t73)) (V.not rfl) <| JQ.nil <| J.nil <| cc rfl h (fun hc74 h => ?_) fun hc74 h => ?_
 · refine cr <| jv (.agg #[ii 8, ii 3, ii 0, ii 0]) (V.build inf101 places101 rfl rfl) <| J.front 1 rfl <| js [ii 8, ii 3, ii 0, ii 0] sz101 rfl rfl rfl rfl rfl rfl <| J.nil <| CJ.ret ?_
   obtain rfl := si h
   exact ⟨_, _, Res.one rfl ⟨_, _, rfl, Ld.agg (cs := [ii 8, ii 3, ii 0, ii 0]) underlying101 sz101 rfl (Rd.cls 0 0 rfl rfl)⟩, ⟨8, 3, 0, 0, rfl, rfl, rfl⟩, hpr, fun w hs => (Sep.dropAt 0 rfl (Sep.dropAt 0 rfl hs))⟩
 refine CJ.skip <| CJ.seq <| cr <| jv _ (V.fad underlying30 rfl nz27 rfl) <| jv (sl Aa5 xa.2.2.2.2.2.1 Ca5) (V.ld rfl (Ld.sc sc27 (Rd.cl 0 rfl rfl))) <| jv (ii (((xa.2.2.2.2.2.1.length : Nat) : Int))) (V.len underlying27 rfl) ?_
 refine jv (.bool (decide (65536 < (((xa.2.2.2.2.2.1.length : Nat) : Int))))) (V.gtr rfl rfl) <| J.nil <| cc rfl h (fun hc75 h => ?_) fun hc75 h => ?_
 · refine cr <| jv (.agg #[ii 6, ii 4, ii 0, ii 0]) (V.build inf101 places101 rfl rfl) <| J.front 1 rfl <| js [ii 6, ii 4, ii 0, ii 0] sz101 rfl rfl rfl rfl rfl rfl <| J.nil <| CJ.ret ?_
   obtain rfl := si h
   exact ⟨_, _, Res.one rfl ⟨_, _, rfl, Ld.agg (cs := [ii 6, ii 4, ii 0, ii 0]) underlying101 sz101 rfl (Rd.cls 0 0 rfl rfl)⟩, ⟨6, 4, 0, 0, rfl, rfl, rfl⟩, hpr, fun w hs => (Sep.dropAt 0 rfl (Sep.dropAt 0 rfl hs))⟩
 refine CJ.skip <| CJ.seq <| cr <| ja (ii 0) rfl <| J.nil ?_
 obtain ⟨o76, ho77, h⟩ := ob h
 refine CJ.joinN (o := o76) (fun s ρ K' L' => () = s ∧ Fits [(2, pt b13)] ρ ∧ K = K' ∧ L' = Cl b13 101 [ii 0, ii 0, ii 0, ii 0] :: F) ?_ ?_
 · refine CJ.block <| CJ.loop (fun s ρ K' L' => ∃ (i78 : Int), i78 = s ∧ Fits [(1, pt b12), (2, pt b13), (6, ii i78)] ρ ∧ K = K' ∧ L' = Cl b12 30 [ii xa.1, ii xa.2.1, sl Aa2 xa.2.2.1 Ca2, sl Aa3 xa.2.2.2.1 Ca3, sl Aa4 xa.2.2.2.2.1 Ca4, sl Aa5 xa.2.2.2.2.2.1 Ca5, sl Aa6 xa.2.2.2.2.2.2 Ca6] :: Cl b13 101 [ii 0, ii 0, ii 0, ii 0] :: F) ho77 ⟨0, rfl, rt3, rfl, rfl⟩ ?_
   rintro s ρ _ _ r79 ⟨i78, rfl, hf80, rfl, rfl⟩ h81
   obtain ⟨ρ, rfl⟩ := hf80.ex
   refine CJ.seq <| cr <| jm (ii i78) rfl <| jv _ (V.fad underlying30 rfl nz27 rfl) <| jv (sl Aa5 xa.2.2.2.2.2.1 Ca5) (V.ld rfl (Ld.sc sc27 (Rd.cl 0 rfl rfl))) <| jv (ii (((xa.2.2.2.2.2.1.length : Nat) : Int))) (V.len underlying27 rfl) ?_
   refine jv (.bool (decide (i78 < (((xa.2.2.2.2.2.1.length : Nat) : Int))))) (V.lss rfl rfl) <| J.nil <| cc rfl h81 (fun hc82 h81 => ?_) fun hc82 h81 => ?_
   · refine CJ.skip <| CJ.seq <| CJ.block <| cr <| jv _ (V.fad underlying30 rfl nz27 rfl) <| jv (sl Aa5 xa.2.2.2.2.2.1 Ca5) (V.ld rfl (Ld.sc sc27 (Rd.cl 0 rfl rfl))) ?_
     refine jm (ii i78) rfl ?_
     obtain ⟨x86, hx87, h81⟩ := ob h81
     obtain ⟨p88, p89, p90⟩ := getI_some hx87
     obtain ⟨b91, o92, e93, a94⟩ := (Ga5).at p89
     refine jv _ (V.iad underlying27 sz55 rfl e93 rfl p88 p90) ?_
     obtain ⟨ad95, cp96, c97, f98⟩ := (((a94).snd).fst).sl
     obtain ⟨ad99, cp100, c101, f102⟩ := ((((a94).snd).snd).fst).sl
     obtain ⟨ad103, cp104, c105, f106⟩ := ((((((a94).snd).snd).snd).one).one).sl
     refine jv (.agg #[ii x86.1, sl ad95 x86.2.1 cp96, sl ad99 x86.2.2.1 cp100, sl ad103 x86.2.2.2 cp104]) (V.ld rfl (Ld.aggK (cs := [ii x86.1, sl ad95 x86.2.1 cp96, sl ad99 x86.2.2.1 cp100, sl ad103 x86.2.2.2 cp104]) underlying55 sz55 rfl ⟨((a94).fst).int, c97, c101, c105, trivial⟩ hpr)) ?_
     obtain ⟨r107, hr108, h81⟩ := ob h81
     refine J.op rfl (A.call (L1 := []) call85 rfl (ref17_Check_ok f98 f102 f106 hr108) rfl rfl) ?_
     rintro _ _ _ ⟨v109, _, rfl, ⟨⟨i110, rfl, rfl, rfl⟩, rfl⟩, _, rfl⟩
     refine ja (ii i110) rfl <| J.nil <| cr <| jm (ii i110) rfl <| jv (.bool (!decide (i110 = 0))) (V.neq rfl rfl) <| J.nil ?_
     refine cc rfl h81 (fun hc111 h81 => ?_) fun hc111 h81 => ?_
     · refine cr <| jm (ii i110) rfl <| jm (ii i78) rfl <| jv (.agg #[ii i110, ii 4, ii i78, ii 0]) (V.build inf101 places101 rfl rfl) <| J.front 1 rfl <| js [ii i110, ii 4, ii i78, ii 0] sz101 rfl rfl rfl rfl rfl rfl ?_
       refine J.nil <| CJ.ret ?_
       obtain rfl := si h81
       refine ⟨nofun, fun e => ?_⟩
       subst e
       refine .inr ⟨nofun, ?_⟩
       obtain rfl := si h
       exact ⟨_, _, Res.one rfl ⟨_, _, rfl, Ld.agg (cs := [ii i110, ii 4, ii i78, ii 0]) underlying101 sz101 rfl (Rd.cls 0 0 rfl rfl)⟩, ⟨i110, 4, i78, 0, rfl, rfl, rfl⟩, hpr, fun w hs => (Sep.dropAt 0 rfl (Sep.dropAt 0 rfl hs))⟩
     refine CJ.skip <| CJ.region <| jm (ii i78) rfl <| jv (ii (IntKind.wrap .i64 (i78 + 1))) (V.add rfl rfl) <| ja (ii (IntKind.wrap .i64 (i78 + 1))) rfl <| J.nil ?_
     obtain rfl := si h81
     exact ⟨rfl, ⟨IntKind.wrap .i64 (i78 + 1), rfl, rt3, rfl, rfl⟩⟩
   refine CJ.dropAt 0 rfl <| CJ.exit ?_
   obtain rfl := si h81
   refine ⟨nofun, fun e => ?_⟩
   subst e
   exact .inl ⟨rfl, _, rfl, ⟨rfl, rt1, rfl, rfl⟩⟩
 rintro s ρ _ _ ho112 ⟨rfl, hf113, rfl, rfl⟩
 subst ho112
 obtain ⟨ρ, rfl⟩ := hf113.ex
 refine PJ.done <| cr <| jv (.agg #[ii 0, ii 0, ii 0, ii 0]) (V.build inf101 places101 rfl rfl) <| js [ii 0, ii 0, ii 0, ii 0] sz101 rfl rfl rfl rfl rfl rfl <| J.nil <| CJ.ret ?_
 obtain rfl := si h
 exact ⟨_, _, Res.one rfl ⟨_, _, rfl, Ld.agg (cs := [ii 0, ii 0, ii 0, ii 0]) underlying101 sz101 rfl (Rd.cls 0 0 rfl rfl)⟩, ⟨0, 0, 0, 0, rfl, rfl, rfl⟩, hpr, fun w hs => (Sep.dropAt 0 rfl hs)⟩

noncomputable def fn_ref18_Dst (xa : Int) : Option Bool :=
  some ((((decide (xa = 1)) || (decide (xa = 2))) || (decide (xa = 3))) || (decide (xa = 5)))
theorem ref18_Dst_ok {K : Hp} {xa : Int}   {r : Bool} (h : fn_ref18_Dst xa = some r) :
    Tr Tryz.prog 103 #[ii xa] K [] (fun v K' L' => (∃ (t10 : Bool), t10 = r ∧ .bool t10 = v ∧ L' = []) ∧ K = K') := by
 refine Tr.k <| Tr.of func103 rfl ntmps103 rfl fun E F => ?_
 unfold fn_ref18_Dst at h
 refine cr <| ja (.bool false) rfl <| J.nil <| cr <| jm (ii xa) rfl ?_
 refine jv (.bool (decide (xa = 1))) (V.eql rfl rfl) <| jm (.bool (decide (xa = 1))) rfl <| J.cut 3 <| jmeet [(8, .bool ((decide (xa = 1)) || (decide (xa = 2)))), (0, ii xa)] ?_ ?_
 · rcases bt (decide (xa = 1)) with hc13 | hc13
   · refine J.skip rfl rfl rfl rfl hc13 <| J.skip rfl rfl rfl rfl hc13 <| jv (.bool true) (V.pickT rfl hc13 rfl) <| J.nil ?_
     exact ⟨rfl, ⟨(by simp only [hc13]; rfl), rfl, trivial⟩, rfl, rfl⟩
   refine J.run rfl rfl rfl hc13 <| jm (ii xa) rfl <| J.run rfl rfl rfl hc13 <| jv (.bool (decide (xa = 2))) (V.eql rfl rfl) <| jv (.bool (decide (xa = 2))) (V.pickF rfl hc13 rfl) <| J.nil ?_
   exact ⟨rfl, ⟨(by simp only [hc13]; rfl), rfl, trivial⟩, rfl, rfl⟩
 intro ρ
 refine jm (.bool ((decide (xa = 1)) || (decide (xa = 2)))) rfl <| J.cut 3 <| jmeet [(12, .bool (((decide (xa = 1)) || (decide (xa = 2))) || (decide (xa = 3)))), (0, ii xa)] ?_ ?_
 · rcases bt ((decide (xa = 1)) || (decide (xa = 2))) with hc16 | hc16
   · refine J.skip rfl rfl rfl rfl hc16 <| J.skip rfl rfl rfl rfl hc16 <| jv (.bool true) (V.pickT rfl hc16 rfl) <| J.nil ?_
     exact ⟨rfl, ⟨(by simp only [hc16]; rfl), rfl, trivial⟩, rfl, rfl⟩
   refine J.run rfl rfl rfl hc16 <| jm (ii xa) rfl <| J.run rfl rfl rfl hc16 <| jv (.bool (decide (xa = 3))) (V.eql rfl rfl) <| jv (.bool (decide (xa = 3))) (V.pickF rfl hc16 rfl) <| J.nil ?_
   exact ⟨rfl, ⟨(by simp only [hc16]; rfl), rfl, trivial⟩, rfl, rfl⟩
 intro ρ
 refine jm (.bool (((decide (xa = 1)) || (decide (xa = 2))) || (decide (xa = 3)))) rfl <| J.cut 3 <| jmeet [(16, .bool ((((decide (xa = 1)) || (decide (xa = 2))) || (decide (xa = 3))) || (decide (xa = 5))))] ?_ ?_
 · rcases bt (((decide (xa = 1)) || (decide (xa = 2))) || (decide (xa = 3))) with hc19 | hc19
   · refine J.skip rfl rfl rfl rfl hc19 <| J.skip rfl rfl rfl rfl hc19 <| jv (.bool true) (V.pickT rfl hc19 rfl) <| J.nil ?_
     exact ⟨rfl, ⟨(by simp only [hc19]; rfl), trivial⟩, rfl, rfl⟩
   refine J.run rfl rfl rfl hc19 <| jm (ii xa) rfl <| J.run rfl rfl rfl hc19 <| jv (.bool (decide (xa = 5))) (V.eql rfl rfl) <| jv (.bool (decide (xa = 5))) (V.pickF rfl hc19 rfl) <| J.nil ?_
   exact ⟨rfl, ⟨(by simp only [hc19]; rfl), trivial⟩, rfl, rfl⟩
 intro ρ
 refine ja (.bool ((((decide (xa = 1)) || (decide (xa = 2))) || (decide (xa = 3))) || (decide (xa = 5)))) rfl <| J.nil <| CJ.ret ?_
 obtain rfl := si h
 exact ⟨_, _, Res.one rfl rfl, ⟨(((decide (xa = 1)) || (decide (xa = 2))) || (decide (xa = 3))) || (decide (xa = 5)), rfl, rfl, rfl⟩, hpr, fun w hs => hs⟩

noncomputable def fn_ref18_Src (xa : Int) : Option Bool :=
  some ((decide (1 ≤ xa)) && (decide (xa ≤ 4)))
theorem ref18_Src_ok {K : Hp} {xa : Int}   {r : Bool} (h : fn_ref18_Src xa = some r) :
    Tr Tryz.prog 104 #[ii xa] K [] (fun v K' L' => (∃ (t4 : Bool), t4 = r ∧ .bool t4 = v ∧ L' = []) ∧ K = K') := by
 refine Tr.k <| Tr.of func104 rfl ntmps104 rfl fun E F => ?_
 unfold fn_ref18_Src at h
 refine cr <| ja (.bool false) rfl <| J.nil <| cr <| jm (ii xa) rfl ?_
 refine jv (.bool (decide (1 ≤ xa))) (V.geq rfl rfl) <| jm (.bool (decide (1 ≤ xa))) rfl <| J.cut 3 <| jmeet [(8, .bool ((decide (1 ≤ xa)) && (decide (xa ≤ 4))))] ?_ ?_
 · rcases bt (decide (1 ≤ xa)) with hc7 | hc7
   · refine J.run rfl rfl rfl hc7 <| jm (ii xa) rfl <| J.run rfl rfl rfl hc7 <| jv (.bool (decide (xa ≤ 4))) (V.leq rfl rfl) <| jv (.bool (decide (xa ≤ 4))) (V.pickT rfl hc7 rfl) <| J.nil ?_
     exact ⟨rfl, ⟨(by simp only [hc7]; rfl), trivial⟩, rfl, rfl⟩
   refine J.skip rfl rfl rfl rfl hc7 <| J.skip rfl rfl rfl rfl hc7 <| jv (.bool false) (V.pickF rfl hc7 rfl) <| J.nil ?_
   exact ⟨rfl, ⟨(by simp only [hc7]; rfl), trivial⟩, rfl, rfl⟩
 intro ρ
 refine ja (.bool ((decide (1 ≤ xa)) && (decide (xa ≤ 4)))) rfl <| J.nil <| CJ.ret ?_
 obtain rfl := si h
 exact ⟨_, _, Res.one rfl rfl, ⟨(decide (1 ≤ xa)) && (decide (xa ≤ 4)), rfl, rfl, rfl⟩, hpr, fun w hs => hs⟩

noncomputable def fn_ref18_Region (xa : Int) : Option Bool :=
  some ((decide (xa = 2)) || (decide (xa = 3)))
theorem ref18_Region_ok {K : Hp} {xa : Int}   {r : Bool} (h : fn_ref18_Region xa = some r) :
    Tr Tryz.prog 105 #[ii xa] K [] (fun v K' L' => (∃ (t4 : Bool), t4 = r ∧ .bool t4 = v ∧ L' = []) ∧ K = K') := by
 refine Tr.k <| Tr.of func105 rfl ntmps105 rfl fun E F => ?_
 unfold fn_ref18_Region at h
 refine cr <| ja (.bool false) rfl <| J.nil <| cr <| jm (ii xa) rfl ?_
 refine jv (.bool (decide (xa = 2))) (V.eql rfl rfl) <| jm (.bool (decide (xa = 2))) rfl <| J.cut 3 <| jmeet [(8, .bool ((decide (xa = 2)) || (decide (xa = 3))))] ?_ ?_
 · rcases bt (decide (xa = 2)) with hc7 | hc7
   · refine J.skip rfl rfl rfl rfl hc7 <| J.skip rfl rfl rfl rfl hc7 <| jv (.bool true) (V.pickT rfl hc7 rfl) <| J.nil ?_
     exact ⟨rfl, ⟨(by simp only [hc7]; rfl), trivial⟩, rfl, rfl⟩
   refine J.run rfl rfl rfl hc7 <| jm (ii xa) rfl <| J.run rfl rfl rfl hc7 <| jv (.bool (decide (xa = 3))) (V.eql rfl rfl) <| jv (.bool (decide (xa = 3))) (V.pickF rfl hc7 rfl) <| J.nil ?_
   exact ⟨rfl, ⟨(by simp only [hc7]; rfl), trivial⟩, rfl, rfl⟩
 intro ρ
 refine ja (.bool ((decide (xa = 2)) || (decide (xa = 3)))) rfl <| J.nil <| CJ.ret ?_
 obtain rfl := si h
 exact ⟨_, _, Res.one rfl rfl, ⟨(decide (xa = 2)) || (decide (xa = 3)), rfl, rfl, rfl⟩, hpr, fun w hs => hs⟩

noncomputable def fn_ref18_Form (xa : Tq2) : Option Bool :=
  (cond ((decide (0 ≤ xa.1)) && (decide (xa.1 ≤ 5))) ((fn_ref18_Dst xa.1).bind fun t1 => some (t1 || (decide (xa.2.1 = 0)))) (some (false))).bind fun t98 => (cond (t98) ((fn_ref18_Src xa.1).bind fun t2 => some (t2 || (decide (xa.2.2.1 = 0)))) (some (false))).bind fun t3 => (cond (t3) ((fn_ref18_Region xa.1).bind fun t4 => some (t4 || ((decide (xa.2.2.2.1 = 0)) && (!xa.2.2.2.2)))) (some (false))).bind fun t5 => some (t5)
theorem ref18_Form_ok {K : Hp} {xa : Tq2}   {r : Bool} (h : fn_ref18_Form xa = some r) :
    Tr Tryz.prog 102 #[.agg #[ii xa.1, ii xa.2.1, ii xa.2.2.1, ii xa.2.2.2.1, .bool xa.2.2.2.2]] K [] (fun v K' L' => (∃ (t83 : Bool), t83 = r ∧ .bool t83 = v ∧ L' = []) ∧ K = K') := by
 refine Tr.k <| Tr.of func102 rfl ntmps102 rfl fun E F => ?_
 unfold fn_ref18_Form at h
 refine cr <| jbx [ii xa.1, ii xa.2.1, ii xa.2.2.1, ii xa.2.2.2.1, .bool xa.2.2.2.2] rfl rfl fun b84 => ja (.bool false) rfl <| J.nil <| CJ.seq <| CJ.region ?_
 refine jv _ (V.fad underlying62 rfl nz3 rfl) <| jv (ii xa.1) (V.ld rfl (Ld.sc sc3 (Rd.cl 0 rfl rfl))) <| jv (.bool (decide (0 ≤ xa.1))) (V.geq rfl rfl) <| jm (.bool (decide (0 ≤ xa.1))) rfl <| J.cut 4 <| jmeet [(10, .bool ((decide (0 ≤ xa.1)) && (decide (xa.1 ≤ 5)))), (1, pt b84)] ?_ ?_
 · rcases bt (decide (0 ≤ xa.1)) with hc87 | hc87
   · refine J.run rfl rfl rfl hc87 <| jv _ (V.fad underlying62 rfl nz3 rfl) <| J.run rfl rfl rfl hc87 <| jv (ii xa.1) (V.ld rfl (Ld.sc sc3 (Rd.cl 0 rfl rfl))) <| J.run rfl rfl rfl hc87 <| jv (.bool (decide (xa.1 ≤ 5))) (V.leq rfl rfl) <| jv (.bool (decide (xa.1 ≤ 5))) (V.pickT rfl hc87 rfl) ?_
     refine J.nil ?_
     exact ⟨rfl, ⟨(by simp only [hc87]; rfl), rfl, trivial⟩, rfl, rfl⟩
   refine J.skip rfl rfl rfl rfl hc87 <| J.skip rfl rfl rfl rfl hc87 <| J.skip rfl rfl rfl rfl hc87 <| jv (.bool false) (V.pickF rfl hc87 rfl) <| J.nil ?_
   exact ⟨rfl, ⟨(by simp only [hc87]; rfl), rfl, trivial⟩, rfl, rfl⟩
 intro ρ
 refine jm (.bool ((decide (0 ≤ xa.1)) && (decide (xa.1 ≤ 5)))) rfl <| J.cut 9 ?_
 obtain ⟨t98, ht99, h⟩ := ob h
 refine jmeet [(20, .bool t98), (1, pt b84)] ?_ ?_
 · rcases bt ((decide (0 ≤ xa.1)) && (decide (xa.1 ≤ 5))) with hc5 | hc5
   · have ht99 := ct hc5 ht99
     refine J.run rfl rfl rfl hc5 <| jv _ (V.fad underlying62 rfl nz3 rfl) <| J.run rfl rfl rfl hc5 <| jv (ii xa.1) (V.ld rfl (Ld.sc sc3 (Rd.cl 0 rfl rfl))) <| J.run rfl rfl rfl hc5 ?_
     obtain ⟨r6, hr7, ht99⟩ := ob ht99
     refine J.op rfl (A.call (L1 := []) call103 rfl (ref18_Dst_ok hr7) rfl rfl) ?_
     rintro _ _ _ ⟨v9, _, rfl, ⟨⟨t10, rfl, rfl, rfl⟩, rfl⟩, _, rfl⟩
     refine J.run rfl rfl rfl hc5 <| jm (.bool t10) rfl <| J.cut 4 <| jmeet [(19, .bool (t10 || (decide (xa.2.1 = 0)))), (1, pt b84), (11, .bool ((decide (0 ≤ xa.1)) && (decide (xa.1 ≤ 5))))] ?_ ?_
     · rcases bt (t10) with hc11 | hc11
       · refine J.skip rfl rfl rfl rfl hc11 <| J.skip rfl rfl rfl rfl hc11 <| J.skip rfl rfl rfl rfl hc11 <| J.run rfl rfl rfl hc5 <| jv (.bool true) (V.pickT rfl hc11 rfl) <| J.nil ?_
         exact ⟨rfl, ⟨(by simp only [hc11]; rfl), rfl, rfl, trivial⟩, rfl, rfl⟩
       refine J.run rfl rfl rfl hc11 <| jv _ (V.fad underlying62 rfl nz3 rfl) <| J.run rfl rfl rfl hc11 <| jv (ii xa.2.1) (V.ld rfl (Ld.sc sc3 (Rd.cl 0 rfl rfl))) <| J.run rfl rfl rfl hc11 <| jv (.bool (decide (xa.2.1 = 0))) (V.eql rfl rfl) <| J.run rfl rfl rfl hc5 ?_
       refine jv (.bool (decide (xa.2.1 = 0))) (V.pickF rfl hc11 rfl) <| J.nil ?_
       exact ⟨rfl, ⟨(by simp only [hc11]; rfl), rfl, rfl, trivial⟩, rfl, rfl⟩
     intro ρ
     refine jv (.bool (t10 || (decide (xa.2.1 = 0)))) (V.pickT rfl hc5 rfl) <| J.nil ?_
     obtain rfl := si ht99
     exact ⟨rfl, rt2, rfl, rfl⟩
   have ht99 := cf hc5 ht99
   refine J.skip rfl rfl rfl rfl hc5 <| J.skip rfl rfl rfl rfl hc5 <| J.skip rfl rfl rfl rfl hc5 <| J.skip rfl rfl rfl rfl hc5 <| J.skipu rfl rfl rfl rfl <| J.skipu rfl rfl rfl rfl <| J.skipu rfl rfl rfl rfl ?_
   refine J.skip rfl rfl rfl rfl hc5 <| jv (.bool false) (V.pickF rfl hc5 rfl) <| J.nil ?_
   obtain rfl := si ht99
   exact ⟨rfl, rt2, rfl, rfl⟩
 intro ρ
 refine jm (.bool t98) rfl <| J.cut 9 ?_
 obtain ⟨t12, ht13, h⟩ := ob h
 refine jmeet [(30, .bool t12), (1, pt b84)] ?_ ?_
 · rcases bt (t98) with hc14 | hc14
   · have ht13 := ct hc14 ht13
     refine J.run rfl rfl rfl hc14 <| jv _ (V.fad underlying62 rfl nz3 rfl) <| J.run rfl rfl rfl hc14 <| jv (ii xa.1) (V.ld rfl (Ld.sc sc3 (Rd.cl 0 rfl rfl))) <| J.run rfl rfl rfl hc14 ?_
     obtain ⟨r15, hr17, ht13⟩ := ob ht13
     refine J.op rfl (A.call (L1 := []) call104 rfl (ref18_Src_ok hr17) rfl rfl) ?_
     rintro _ _ _ ⟨v18, _, rfl, ⟨⟨t19, rfl, rfl, rfl⟩, rfl⟩, _, rfl⟩
     refine J.run rfl rfl rfl hc14 <| jm (.bool t19) rfl <| J.cut 4 <| jmeet [(29, .bool (t19 || (decide (xa.2.2.1 = 0)))), (1, pt b84), (21, .bool t98)] ?_ ?_
     · rcases bt (t19) with hc20 | hc20
       · refine J.skip rfl rfl rfl rfl hc20 <| J.skip rfl rfl rfl rfl hc20 <| J.skip rfl rfl rfl rfl hc20 <| J.run rfl rfl rfl hc14 <| jv (.bool true) (V.pickT rfl hc20 rfl) <| J.nil ?_
         exact ⟨rfl, ⟨(by simp only [hc20]; rfl), rfl, rfl, trivial⟩, rfl, rfl⟩
       refine J.run rfl rfl rfl hc20 <| jv _ (V.fad underlying62 rfl nz3 rfl) <| J.run rfl rfl rfl hc20 <| jv (ii xa.2.2.1) (V.ld rfl (Ld.sc sc3 (Rd.cl 0 rfl rfl))) <| J.run rfl rfl rfl hc20 <| jv (.bool (decide (xa.2.2.1 = 0))) (V.eql rfl rfl) <| J.run rfl rfl rfl hc14 ?_
       refine jv (.bool (decide (xa.2.2.1 = 0))) (V.pickF rfl hc20 rfl) <| J.nil ?_
       exact ⟨rfl, ⟨(by simp only [hc20]; rfl), rfl, rfl, trivial⟩, rfl, rfl⟩
     intro ρ
     refine jv (.bool (t19 || (decide (xa.2.2.1 = 0)))) (V.pickT rfl hc14 rfl) <| J.nil ?_
     obtain rfl := si ht13
     exact ⟨rfl, rt2, rfl, rfl⟩
   have ht13 := cf hc14 ht13
   refine J.skip rfl rfl rfl rfl hc14 <| J.skip rfl rfl rfl rfl hc14 <| J.skip rfl rfl rfl rfl hc14 <| J.skip rfl rfl rfl rfl hc14 <| J.skipu rfl rfl rfl rfl <| J.skipu rfl rfl rfl rfl <| J.skipu rfl rfl rfl rfl ?_
   refine J.skip rfl rfl rfl rfl hc14 <| jv (.bool false) (V.pickF rfl hc14 rfl) <| J.nil ?_
   obtain rfl := si ht13
   exact ⟨rfl, rt2, rfl, rfl⟩
 intro ρ
 refine jm (.bool t12) rfl <| J.cut 14 ?_
 obtain ⟨t21, ht22, h⟩ := ob h
 refine jmeet [(45, .bool t21)] ?_ ?_
 · rcases bt (t12) with hc23 | hc23
   · have ht22 := ct hc23 ht22
     refine J.run rfl rfl rfl hc23 <| jv _ (V.fad underlying62 rfl nz3 rfl) <| J.run rfl rfl rfl hc23 <| jv (ii xa.1) (V.ld rfl (Ld.sc sc3 (Rd.cl 0 rfl rfl))) <| J.run rfl rfl rfl hc23 ?_
     obtain ⟨r24, hr25, ht22⟩ := ob ht22
     refine J.op rfl (A.call (L1 := []) call105 rfl (ref18_Region_ok hr25) rfl rfl) ?_
     rintro _ _ _ ⟨v26, _, rfl, ⟨⟨t27, rfl, rfl, rfl⟩, rfl⟩, _, rfl⟩
     refine J.run rfl rfl rfl hc23 <| jm (.bool t27) rfl <| J.cut 9 <| jmeet [(44, .bool (t27 || ((decide (xa.2.2.2.1 = 0)) && (!xa.2.2.2.2)))), (31, .bool t12)] ?_ ?_
     · rcases bt (t27) with hc28 | hc28
       · refine J.skip rfl rfl rfl rfl hc28 <| J.skip rfl rfl rfl rfl hc28 <| J.skip rfl rfl rfl rfl hc28 <| J.skip rfl rfl rfl rfl hc28 <| J.skipu rfl rfl rfl rfl <| J.skipu rfl rfl rfl rfl <| J.skipu rfl rfl rfl rfl ?_
         refine J.skip rfl rfl rfl rfl hc28 <| J.run rfl rfl rfl hc23 <| jv (.bool true) (V.pickT rfl hc28 rfl) <| J.nil ?_
         exact ⟨rfl, ⟨(by simp only [hc28]; rfl), rfl, trivial⟩, rfl, rfl⟩
       refine J.run rfl rfl rfl hc28 <| jv _ (V.fad underlying62 rfl nz3 rfl) <| J.run rfl rfl rfl hc28 <| jv (ii xa.2.2.2.1) (V.ld rfl (Ld.sc sc3 (Rd.cl 0 rfl rfl))) <| J.run rfl rfl rfl hc28 <| jv (.bool (decide (xa.2.2.2.1 = 0))) (V.eql rfl rfl) <| J.run rfl rfl rfl hc28 ?_
       refine jm (.bool (decide (xa.2.2.2.1 = 0))) rfl <| J.cut 4 <| jmeet [(43, .bool ((decide (xa.2.2.2.1 = 0)) && (!xa.2.2.2.2))), (31, .bool t12), (35, .bool t27)] ?_ ?_
       · rcases bt (decide (xa.2.2.2.1 = 0)) with hc29 | hc29
         · refine J.run rfl rfl rfl hc29 <| jv _ (V.fad underlying62 rfl nz4 rfl) <| J.run rfl rfl rfl hc29 <| jv (.bool xa.2.2.2.2) (V.ld rfl (Ld.sc sc4 (Rd.cl 0 rfl rfl))) <| J.run rfl rfl rfl hc29 <| jv (.bool (!xa.2.2.2.2)) (V.not rfl) <| J.run rfl rfl rfl hc28 ?_
           refine jv (.bool (!xa.2.2.2.2)) (V.pickT rfl hc29 rfl) <| J.nil ?_
           exact ⟨rfl, ⟨(by simp only [hc29]; rfl), rfl, rfl, trivial⟩, rfl, rfl⟩
         refine J.skip rfl rfl rfl rfl hc29 <| J.skip rfl rfl rfl rfl hc29 <| J.skip rfl rfl rfl rfl hc29 <| J.run rfl rfl rfl hc28 <| jv (.bool false) (V.pickF rfl hc29 rfl) <| J.nil ?_
         exact ⟨rfl, ⟨(by simp only [hc29]; rfl), rfl, rfl, trivial⟩, rfl, rfl⟩
       intro ρ
       refine J.run rfl rfl rfl hc23 <| jv (.bool ((decide (xa.2.2.2.1 = 0)) && (!xa.2.2.2.2))) (V.pickF rfl hc28 rfl) <| J.nil ?_
       exact ⟨rfl, ⟨(by simp only [hc28]; rfl), rfl, trivial⟩, rfl, rfl⟩
     intro ρ
     refine jv (.bool (t27 || ((decide (xa.2.2.2.1 = 0)) && (!xa.2.2.2.2)))) (V.pickT rfl hc23 rfl) <| J.nil ?_
     obtain rfl := si ht22
     exact ⟨rfl, rt1, rfl, rfl⟩
   have ht22 := cf hc23 ht22
   refine J.skip rfl rfl rfl rfl hc23 <| J.skip rfl rfl rfl rfl hc23 <| J.skip rfl rfl rfl rfl hc23 <| J.skip rfl rfl rfl rfl hc23 <| J.skipu rfl rfl rfl rfl <| J.skipu rfl rfl rfl rfl <| J.skipu rfl rfl rfl rfl ?_
   refine J.skipu rfl rfl rfl rfl <| J.skipu rfl rfl rfl rfl <| J.skipu rfl rfl rfl rfl <| J.skipu rfl rfl rfl rfl <| J.skipu rfl rfl rfl rfl <| J.skip rfl rfl rfl rfl hc23 <| jv (.bool false) (V.pickF rfl hc23 rfl) ?_
   refine J.nil ?_
   obtain rfl := si ht22
   exact ⟨rfl, rt1, rfl, rfl⟩
 intro ρ
 refine ja (.bool t21) rfl <| J.nil <| CJ.ret ?_
 obtain rfl := si h
 exact ⟨_, _, Res.one rfl rfl, ⟨t21, rfl, rfl, rfl⟩, hpr, fun w hs => (Sep.dropAt 0 rfl hs)⟩
noncomputable def fn_ref16_slots_rkkii_l1 (xb : Tq3) (xc : Tq3) (xd : Int) (xe : Int) : Tq10 → Option (Tq10 ⊕ (List Tq2)) := fun ((l1, i2) : Tq10) => cond (decide (i2 < (((xb.length : Nat) : Int)))) ((getI xb i2).bind fun x3 => (getI xc i2).bind fun x4 => (app l1 (([(x3.1, x4.1, xd, IntKind.wrap .i64 (xe + i2), false)] : List Tq2))).bind fun z5 => (getI xc i2).bind fun x6 => cond (x6.2) ((getI xc i2).bind fun x7 => (getI xb i2).bind fun x9 => (app z5 (([(x7.1, x9.1, xd, IntKind.wrap .i64 (xe + i2), true)] : List Tq2))).bind fun z10 => some (.inl ((z10, IntKind.wrap .i64 (i2 + 1))))) (some (.inl ((z5, IntKind.wrap .i64 (i2 + 1)))))) (some (.inr (l1)))
noncomputable def fn_ref16_slots_rkkii (xb : Tq3) (xc : Tq3) (xd : Int) (xe : Int) (qxa : (List Tq2)) : Option ((List Tq2)) :=
  (loop (fn_ref16_slots_rkkii_l1 xb xc xd xe) (qxa, 0) : Option ((List Tq2))).bind fun l1 => some (l1)
theorem ref16_slots_rkkii_ok {K : Hp} {xb : Tq3} {xc : Tq3} {xd : Int} {xe : Int} {qxa : (List Tq2)} {Ab0 : Option Addr} {Cb0 : Nat} {Ac0 : Option Addr} {Cc0 : Nat} {adqxa : Option Addr} {cpqxa : Nat} (Gb0 : Is K (.sl Yq1) [sl Ab0 xb Cb0] xb) (Gc0 : Is K (.sl Yq1) [sl Ac0 xc Cc0] xc) {r : (List Tq2)} (h : fn_ref16_slots_rkkii xb xc xd xe qxa = some r) :
    Tr Tryz.prog 119 #[sl adqxa qxa cpqxa, sl Ab0 xb Cb0, sl Ac0 xc Cc0, ii xd, ii xe] K [Row Hp.nil 169 Yq2 (sl adqxa qxa cpqxa) qxa] (fun v K' L' => (∃ (l2 : (List Tq2)) (ad5 : Option Addr) (cp7 : Nat), l2 = r ∧ sl ad5 l2 cp7 = v ∧ L' = [Row Hp.nil 169 Yq2 (sl ad5 l2 cp7) l2]) ∧ K = K') := by
 refine Tr.k <| Tr.of func119 rfl ntmps119 rfl fun E F => ?_
 unfold fn_ref16_slots_rkkii at h
 refine CJ.wit Row.hn fun hnqxa => cr <| ja (nos) rfl <| J.nil <| CJ.seq <| CJ.seq ?_
 refine CJ.region <| ja (ii 0) rfl <| J.nil ?_
 obtain ⟨o9, ho10, h⟩ := ob h
 refine CJ.meetN (fun ρ K' L' => ∃ (l11 : (List Tq2)) (ad12 : Option Addr) (cp13 : Nat), l11 = o9 ∧ Fits [(0, sl ad12 l11 cp13)] ρ ∧ K = K' ∧ L' = Row Hp.nil 169 Yq2 (sl ad12 l11 cp13) l11 :: F) ?_ ?_
 · refine CJ.block <| CJ.loop (fun s ρ K' L' => ∃ (l14 : (List Tq2)) (i15 : Int) (ad17 : Option Addr) (cp18 : Nat), (l14, i15) = s ∧ Fits [(0, sl ad17 l14 cp18), (1, sl Ab0 xb Cb0), (2, sl Ac0 xc Cc0), (3, ii xd), (4, ii xe), (11, ii i15)] ρ ∧ K = K' ∧ L' = Row Hp.nil 169 Yq2 (sl ad17 l14 cp18) l14 :: F) ho10 ⟨qxa, 0, adqxa, cpqxa, rfl, rt6, rfl, rfl⟩ ?_
   rintro s ρ _ _ r19 ⟨l14, i15, ad17, cp18, rfl, hf20, rfl, rfl⟩ h21
   obtain ⟨ρ, rfl⟩ := hf20.ex
   refine CJ.wit Row.hn fun hn22 => CJ.seq <| cr <| jm (ii i15) rfl <| jm (sl Ab0 xb Cb0) rfl <| jv (ii (((xb.length : Nat) : Int))) (V.len underlying24 rfl) ?_
   refine jv (.bool (decide (i15 < (((xb.length : Nat) : Int))))) (V.lss rfl rfl) <| J.nil <| cc rfl h21 (fun hc23 h21 => ?_) fun hc23 h21 => ?_
   · refine CJ.skip <| CJ.seq <| CJ.block <| CJ.seq <| CJ.mix [Row Hp.nil 169 Yq2 (sl ad17 l14 cp18) l14] [([0, 1, 2, 3, 4, 5, 6, 7, 8, 9, 10, 11, 12, 13, 14, 15], 16)] [] [17, 18] mixO (by decide +kernel) ⟨0, rfl, trivial⟩ rfl rfl rfl <| JM.cons <| qm (sl ad17 l14 cp18) rfl ?_
     refine qm (sl Ab0 xb Cb0) rfl <| qm (ii i15) rfl ?_
     obtain ⟨x25, hx26, h21⟩ := ob h21
     obtain ⟨p27, p28, p29⟩ := getI_some hx26
     obtain ⟨b30, o31, e33, a34⟩ := (Gb0).at p28
     refine qv _ (V.iad underlying24 sz150 rfl e33 rfl p27 p29) <| qv _ (V.fad underlying150 rfl nz3 rfl) <| qv (ii x25.1) (V.ld rfl (Ld.sc sc3 (Rd.k ((a34).fst).int hpr))) <| qm (sl Ac0 xc Cc0) rfl <| qm (ii i15) rfl ?_
     obtain ⟨x35, hx36, h21⟩ := ob h21
     obtain ⟨p37, p38, p39⟩ := getI_some hx36
     obtain ⟨b40, o41, e42, a43⟩ := (Gc0).at p38
     refine qv _ (V.iad underlying24 sz150 rfl e42 rfl p37 p39) <| qv _ (V.fad underlying150 rfl nz3 rfl) <| qv (ii x35.1) (V.ld rfl (Ld.sc sc3 (Rd.k ((a43).fst).int hpr))) <| qm (ii xd) rfl <| qm (ii xe) rfl <| qm (ii i15) rfl <| qv (ii (IntKind.wrap .i64 (xe + i15))) (V.add rfl rfl) ?_
     refine qv (.agg #[ii x25.1, ii x35.1, ii xd, ii (IntKind.wrap .i64 (xe + i15)), .bool false]) (V.build inf169 places169 rfl rfl) <| JQ.nil ?_
     refine JA.op rfl (A.lit (K0 := Hp.nil) (ty := Yq2) (xs := ([(x25.1, x35.1, xd, IntKind.wrap .i64 (xe + i15), false)] : List Tq2)) underlying132 inf169 rfl (by decide) rfl rfl rfl ⟨_, _, rfl, ⟨_, _, rfl, rfl, rfl, ⟨_, _, rfl, rfl, rfl, ⟨_, _, rfl, rfl, rfl, ⟨_, _, rfl, rfl, rfl, rfl⟩⟩⟩⟩, rfl⟩ rfl (by decide)) ?_
     rintro _ _ _ ⟨b44, rfl, rfl, rfl⟩
     have hn45 : ([(x25.1, x35.1, xd, IntKind.wrap .i64 (xe + i15), false)] : List Tq2) ≠ [] → ∃ g, (some ⟨b44, 0, none⟩ : Option Addr) = some ⟨g, 0, none⟩ := fun _ => ⟨b44, rfl⟩
     refine ⟨fun w hs => Hold.sub hpr ⟨1, rfl, trivial⟩ hs, ?_⟩
     refine JM.nil <| JQ.nil ?_
     obtain ⟨z46, hz47, h21⟩ := ob h21
     refine J.front 1 rfl <| J.op rfl (A.appR (Kr := Hp.nil) underlying132 inf169 rfl rfl (by decide) (by decide) rfl rfl (Els.flat rfl) (Els.flat rfl) hz47) ?_
     rintro _ _ _ ⟨v48, rfl, rfl, rfl⟩
     refine J.wit Row.form ?_
     rintro ⟨ad49, cp50, rfl, _, _, hn51⟩
     refine ja (sl ad49 z46 cp50) rfl <| J.nil <| cr <| jm (sl Ac0 xc Cc0) rfl <| jm (ii i15) rfl ?_
     obtain ⟨x52, hx53, h21⟩ := ob h21
     obtain ⟨p54, p55, p56⟩ := getI_some hx53
     obtain ⟨b57, o58, e59, a60⟩ := (Gc0).at p55
     refine jv _ (V.iad underlying24 sz150 rfl e59 rfl p54 p56) <| jv _ (V.fad underlying150 rfl nz4 rfl) <| jv (.bool x52.2) (V.ld rfl (Ld.sc sc4 (Rd.k (((a60).snd).one).bool hpr))) <| J.nil <| cc rfl h21 (fun hc61 h21 => ?_) fun hc61 h21 => ?_
     · refine CJ.mix [Row Hp.nil 169 Yq2 (sl ad49 z46 cp50) z46] [([0, 1, 2, 3, 4, 5, 6, 7, 8, 9, 10, 11, 12, 13, 14, 15], 16)] [] [17, 18] mixO (by decide +kernel) ⟨0, rfl, trivial⟩ rfl rfl rfl <| JM.cons <| qm (sl ad49 z46 cp50) rfl <| qm (sl Ac0 xc Cc0) rfl <| qm (ii i15) rfl ?_
       obtain ⟨x62, hx63, h21⟩ := ob h21
       obtain ⟨p65, p66, p67⟩ := getI_some hx63
       obtain ⟨b68, o69, e70, a71⟩ := (Gc0).at p66
       refine qv _ (V.iad underlying24 sz150 rfl e70 rfl p65 p67) <| qv _ (V.fad underlying150 rfl nz3 rfl) <| qv (ii x62.1) (V.ld rfl (Ld.sc sc3 (Rd.k ((a71).fst).int hpr))) <| qm (sl Ab0 xb Cb0) rfl <| qm (ii i15) rfl ?_
       obtain ⟨x72, hx73, h21⟩ := ob h21
       obtain ⟨p74, p75, p76⟩ := getI_some hx73
       obtain ⟨b77, o78, e79, a80⟩ := (Gb0).at p75
       refine qv _ (V.iad underlying24 sz150 rfl e79 rfl p74 p76) <| qv _ (V.fad underlying150 rfl nz3 rfl) <| qv (ii x72.1) (V.ld rfl (Ld.sc sc3 (Rd.k ((a80).fst).int hpr))) <| qm (ii xd) rfl <| qm (ii xe) rfl <| qm (ii i15) rfl <| qv (ii (IntKind.wrap .i64 (xe + i15))) (V.add rfl rfl) ?_
       refine qv (.agg #[ii x62.1, ii x72.1, ii xd, ii (IntKind.wrap .i64 (xe + i15)), .bool true]) (V.build inf169 places169 rfl rfl) <| JQ.nil ?_
       refine JA.op rfl (A.lit (K0 := Hp.nil) (ty := Yq2) (xs := ([(x62.1, x72.1, xd, IntKind.wrap .i64 (xe + i15), true)] : List Tq2)) underlying132 inf169 rfl (by decide) rfl rfl rfl ⟨_, _, rfl, ⟨_, _, rfl, rfl, rfl, ⟨_, _, rfl, rfl, rfl, ⟨_, _, rfl, rfl, rfl, ⟨_, _, rfl, rfl, rfl, rfl⟩⟩⟩⟩, rfl⟩ rfl (by decide)) ?_
       rintro _ _ _ ⟨b81, rfl, rfl, rfl⟩
       have hn82 : ([(x62.1, x72.1, xd, IntKind.wrap .i64 (xe + i15), true)] : List Tq2) ≠ [] → ∃ g, (some ⟨b81, 0, none⟩ : Option Addr) = some ⟨g, 0, none⟩ := fun _ => ⟨b81, rfl⟩
       refine ⟨fun w hs => Hold.sub hpr ⟨1, rfl, trivial⟩ hs, ?_⟩
       refine JM.nil <| JQ.nil ?_
       obtain ⟨z83, hz84, h21⟩ := ob h21
       refine J.front 1 rfl <| J.op rfl (A.appR (Kr := Hp.nil) underlying132 inf169 rfl rfl (by decide) (by decide) rfl rfl (Els.flat rfl) (Els.flat rfl) hz84) ?_
       rintro _ _ _ ⟨v85, rfl, rfl, rfl⟩
       refine J.wit Row.form ?_
       rintro ⟨ad86, cp87, rfl, _, _, hn88⟩
       refine ja (sl ad86 z83 cp87) rfl <| J.nil <| CJ.region <| jm (ii i15) rfl <| jv (ii (IntKind.wrap .i64 (i15 + 1))) (V.add rfl rfl) <| ja (ii (IntKind.wrap .i64 (i15 + 1))) rfl <| J.nil ?_
       obtain rfl := si h21
       exact ⟨rfl, ⟨z83, IntKind.wrap .i64 (i15 + 1), ad86, cp87, rfl, rt6, rfl, rfl⟩⟩
     refine CJ.skip <| CJ.region <| jm (ii i15) rfl <| jv (ii (IntKind.wrap .i64 (i15 + 1))) (V.add rfl rfl) <| ja (ii (IntKind.wrap .i64 (i15 + 1))) rfl <| J.nil ?_
     obtain rfl := si h21
     exact ⟨rfl, ⟨z46, IntKind.wrap .i64 (i15 + 1), ad49, cp50, rfl, rt6, rfl, rfl⟩⟩
   refine CJ.exit ?_
   obtain rfl := si h21
   refine ⟨nofun, fun e => ?_⟩
   subst e
   exact ⟨rfl, ⟨l14, ad17, cp18, rfl, rt1, rfl, rfl⟩⟩
 rintro ρ _ _ ⟨l11, ad12, cp13, rfl, hf89, rfl, rfl⟩
 obtain ⟨ρ, rfl⟩ := hf89.ex
 refine PJ.wit Row.hn fun hn90 => PJ.done <| cr <| jm (sl ad12 l11 cp13) rfl <| ja (sl ad12 l11 cp13) rfl <| J.nil ?_
 refine CJ.ret ?_
 obtain rfl := si h
 exact ⟨_, _, Res.one rfl rfl, ⟨l11, ad12, cp13, rfl, rfl, rfl⟩, hpr, fun w hs => hs⟩

noncomputable def fn_ref16_Flow (xa : Tq3) (xb : Tq3) (xc : Int) (xd : Int) : Option (Tq10) :=
  (fn_ref15_Shape xa xb).bind fun t34 => cond (!t34) (some (([], 8))) ((fn_ref16_slots_rkkii xa xb xc xd (([] : List Tq2))).bind fun l45 => some ((l45, 0)))
theorem ref16_Flow_ok {K : Hp} {xa : Tq3} {xb : Tq3} {xc : Int} {xd : Int} {Aa0 : Option Addr} {Ca0 : Nat} {Ab0 : Option Addr} {Cb0 : Nat} (Ga0 : Is K (.sl Yq1) [sl Aa0 xa Ca0] xa) (Gb0 : Is K (.sl Yq1) [sl Ab0 xb Cb0] xb) {r : Tq10} (h : fn_ref16_Flow xa xb xc xd = some r) :
    Tr Tryz.prog 106 #[.agg #[sl Aa0 xa Ca0], .agg #[sl Ab0 xb Cb0], ii xc, ii xd] K [] (fun v K' L' => (∃ (l24 : (List Tq2)) (i29 : Int) (ad25 : Option Addr) (cp26 : Nat), (l24, i29) = r ∧ .tuple #[sl ad25 l24 cp26, ii i29] = v ∧ L' = [Row Hp.nil 169 Yq2 (sl ad25 l24 cp26) l24]) ∧ K = K') := by
 refine Tr.k <| Tr.of func106 rfl ntmps106 rfl fun E F => ?_
 unfold fn_ref16_Flow at h
 refine cr <| jbx [sl Aa0 xa Ca0] rfl rfl fun b30 => jbx [sl Ab0 xb Cb0] rfl rfl fun b31 => ja (nos) rfl <| ja (ii 0) rfl <| J.nil ?_
 refine CJ.seq <| cr <| jv (.agg #[sl Aa0 xa Ca0]) (V.ld rfl (Ld.agg (cs := [sl Aa0 xa Ca0]) underlying26 sz26 rfl (Rd.cls 1 0 rfl rfl))) <| jv (.agg #[sl Ab0 xb Cb0]) (V.ld rfl (Ld.agg (cs := [sl Ab0 xb Cb0]) underlying26 sz26 rfl (Rd.cls 0 0 rfl rfl))) ?_
 obtain ⟨r32, hr33, h⟩ := ob h
 refine J.op rfl (A.call (L1 := []) call84 rfl (ref15_Shape_ok Ga0 Gb0 hr33) rfl rfl) ?_
 rintro _ _ _ ⟨v35, _, rfl, ⟨⟨t34, rfl, rfl, rfl⟩, rfl⟩, _, rfl⟩
 refine jv (.bool (!t34)) (V.not rfl) <| J.nil <| cc rfl h (fun hc38 h => ?_) fun hc38 h => ?_
 · refine cr <| ja (nos) rfl <| ja (ii 8) rfl <| J.nil <| CJ.by (fun w hs => Sep.rowNil (e := 169) (t := Yq2) hs) <| CJ.ret ?_
   obtain rfl := si h
   exact ⟨_, _, Res.two rfl rfl rfl, ⟨[], 8, none, 0, rfl, rfl, rfl⟩, hpr, fun w hs => (Sep.dropAt 1 rfl (Sep.dropAt 1 rfl hs))⟩
 refine CJ.skip <| CJ.seq <| CJ.region ?_
 refine J.op rfl (A.lit (K0 := Hp.nil) (ty := Yq2) (xs := ([] : List Tq2)) underlying132 inf169 rfl (by decide) rfl rfl rfl rfl rfl (by decide)) ?_
 rintro _ _ _ ⟨b40, rfl, rfl, rfl⟩
 have hn41 : ([] : List Tq2) ≠ [] → ∃ g, (some ⟨b40, 0, none⟩ : Option Addr) = some ⟨g, 0, none⟩ := fun _ => ⟨b40, rfl⟩
 refine jv _ (V.fad underlying26 rfl nz24 rfl) <| jv (sl Aa0 xa Ca0) (V.ld rfl (Ld.sc sc24 (Rd.cl 2 rfl rfl))) <| jv _ (V.fad underlying26 rfl nz24 rfl) <| jv (sl Ab0 xb Cb0) (V.ld rfl (Ld.sc sc24 (Rd.cl 1 rfl rfl))) <| jm (ii xc) rfl <| jm (ii xd) rfl ?_
 obtain ⟨r43, hr44, h⟩ := ob h
 refine J.op rfl (A.call (L1 := [Row Hp.nil 169 Yq2 (.slice (some ⟨b40, 0, none⟩) ((([] : List Tq2)).length) 0) (([] : List Tq2))]) call119 rfl (ref16_slots_rkkii_ok Ga0 Gb0 hr44) rfl rfl) ?_
 rintro _ _ _ ⟨v49, _, rfl, ⟨⟨l45, ad46, cp47, rfl, rfl, rfl⟩, rfl⟩, _, rfl⟩
 refine J.wit Row.hn fun hn48 => ja (sl ad46 l45 cp47) rfl <| ja (ii 0) rfl <| J.nil <| CJ.ret ?_
 obtain rfl := si h
 exact ⟨_, _, Res.two rfl rfl rfl, ⟨l45, 0, ad46, cp47, rfl, rfl, rfl⟩, hpr, fun w hs => (Sep.dropAt 1 rfl (Sep.dropAt 1 rfl hs))⟩
noncomputable def fn_ref15_Ref_l1 (xa : Tq3) (xc : Bool) : (Tq3 × Int) → Option ((Tq3 × Int) ⊕ Tq3) := fun ((l1, i2) : (Tq3 × Int)) => cond (decide (i2 < (((xa.length : Nat) : Int)))) ((getI xa i2).bind fun x3 => (getI xa i2).bind fun x4 => cond (x4.2) ((app l1 (([(x3.1, true)] : List (Int × Bool)))).bind fun z5 => some (.inl ((z5, IntKind.wrap .i64 (i2 + 1))))) ((app l1 (([(x3.1, xc)] : List (Int × Bool)))).bind fun z6 => some (.inl ((z6, IntKind.wrap .i64 (i2 + 1)))))) (some (.inr (l1)))
noncomputable def fn_ref15_Ref (xa : Tq3) (xb : Int) (xc : Bool) : Option (Tq3) :=
  (loop (fn_ref15_Ref_l1 xa xc) ((([(xb, false)] : List (Int × Bool)), 0)) : Option (Tq3)).bind fun l1 => some (l1)
theorem ref15_Ref_ok {K : Hp} {xa : Tq3} {xb : Int} {xc : Bool} {Aa0 : Option Addr} {Ca0 : Nat} (Ga0 : Is K (.sl Yq1) [sl Aa0 xa Ca0] xa) {r : Tq3} (h : fn_ref15_Ref xa xb xc = some r) :
    Tr Tryz.prog 120 #[.agg #[sl Aa0 xa Ca0], ii xb, .bool xc] K [] (fun v K' L' => (∃ (l1 : Tq3) (ad6 : Option Addr) (cp7 : Nat), l1 = r ∧ .agg #[sl ad6 l1 cp7] = v ∧ L' = [Row Hp.nil 150 Yq1 (sl ad6 l1 cp7) l1]) ∧ K = K') := by
 refine Tr.k <| Tr.of func120 rfl ntmps120 rfl fun E F => ?_
 unfold fn_ref15_Ref at h
 refine cr <| jbx [sl Aa0 xa Ca0] rfl rfl fun b9 => jal inf26 [nos] rfl fun b10 => J.nil <| CJ.seq <| CJ.region ?_
 refine jm (ii xb) rfl <| jv (.agg #[ii xb, .bool false]) (V.build inf150 places150 rfl rfl) ?_
 refine J.op rfl (A.lit (K0 := Hp.nil) (ty := Yq1) (xs := ([(xb, false)] : List (Int × Bool))) underlying24 inf150 rfl (by decide) rfl rfl rfl ⟨_, _, rfl, ⟨_, _, rfl, rfl, rfl, rfl⟩, rfl⟩ rfl (by decide)) ?_
 rintro _ _ _ ⟨b11, rfl, rfl, rfl⟩
 have hn12 : ([(xb, false)] : List (Int × Bool)) ≠ [] → ∃ g, (some ⟨b11, 0, none⟩ : Option Addr) = some ⟨g, 0, none⟩ := fun _ => ⟨b11, rfl⟩
 refine ja (.slice (some ⟨b11, 0, none⟩) ((([(xb, false)] : List (Int × Bool))).length) 1) rfl <| J.nil <| CJ.seq <| cr <| ja (ii 0) rfl <| J.nil ?_
 obtain ⟨o13, ho14, h⟩ := ob h
 refine CJ.meetN (fun ρ K' L' => ∃ (l15 : Tq3) (ad17 : Option Addr) (cp18 : Nat), l15 = o13 ∧ Fits [(6, pt b10), (7, sl ad17 l15 cp18)] ρ ∧ K = K' ∧ L' = Cl b10 26 [nos] :: Row Hp.nil 150 Yq1 (sl ad17 l15 cp18) l15 :: F) ?_ ?_
 · refine CJ.block <| CJ.front 1 rfl <| CJ.front 2 rfl <| CJ.loop (fun s ρ K' L' => ∃ (l19 : Tq3) (i20 : Int) (ad21 : Option Addr) (cp22 : Nat), (l19, i20) = s ∧ Fits [(2, .bool xc), (3, pt b9), (6, pt b10), (7, sl ad21 l19 cp22), (8, ii i20)] ρ ∧ K = K' ∧ L' = Cl b9 26 [sl Aa0 xa Ca0] :: Cl b10 26 [nos] :: Row Hp.nil 150 Yq1 (sl ad21 l19 cp22) l19 :: F) ho14 ⟨([(xb, false)] : List (Int × Bool)), 0, (some ⟨b11, 0, none⟩), 1, rfl, rt5, rfl, rfl⟩ ?_
   rintro s ρ _ _ r23 ⟨l19, i20, ad21, cp22, rfl, hf25, rfl, rfl⟩ h27
   obtain ⟨ρ, rfl⟩ := hf25.ex
   refine CJ.front 2 rfl <| CJ.wit Row.hn fun hn28 => CJ.seq <| cr <| jm (ii i20) rfl <| jv _ (V.fad underlying26 rfl nz24 rfl) ?_
   refine jv (sl Aa0 xa Ca0) (V.ld rfl (Ld.sc sc24 (Rd.cl 1 rfl rfl))) <| jv (ii (((xa.length : Nat) : Int))) (V.len underlying24 rfl) <| jv (.bool (decide (i20 < (((xa.length : Nat) : Int))))) (V.lss rfl rfl) <| J.nil <| cc rfl h27 (fun hc29 h27 => ?_) fun hc29 h27 => ?_
   · refine CJ.skip <| CJ.seq <| CJ.block <| CJ.mix [Row Hp.nil 150 Yq1 (sl ad21 l19 cp22) l19, Cl b9 26 [sl Aa0 xa Ca0], Cl b10 26 [nos]] [([0, 1, 2, 3, 4, 5, 6, 7, 8, 9, 10, 11, 12, 13, 14, 15, 16], 17)] [] [18, 19] mixO (by decide +kernel) ⟨0, rfl, 0, rfl, 0, rfl, trivial⟩ rfl rfl rfl <| JM.cons <| qm (sl ad21 l19 cp22) rfl <| qv _ (V.fad underlying26 rfl nz24 rfl) ?_
     refine qv (sl Aa0 xa Ca0) (V.ld rfl (Ld.sc sc24 (Rd.cl 1 rfl rfl))) <| qm (ii i20) rfl ?_
     obtain ⟨x30, hx31, h27⟩ := ob h27
     obtain ⟨p33, p34, p35⟩ := getI_some hx31
     obtain ⟨b36, o37, e38, a39⟩ := (Ga0).at p34
     refine qv _ (V.iad underlying24 sz150 rfl e38 rfl p33 p35) <| qv _ (V.fad underlying150 rfl nz3 rfl) <| qv (ii x30.1) (V.ld rfl (Ld.sc sc3 (Rd.k ((a39).fst).int hpr))) <| qv _ (V.fad underlying26 rfl nz24 rfl) <| qv (sl Aa0 xa Ca0) (V.ld rfl (Ld.sc sc24 (Rd.cl 1 rfl rfl))) <| qm (ii i20) rfl ?_
     obtain ⟨x40, hx41, h27⟩ := ob h27
     obtain ⟨p42, p43, p44⟩ := getI_some hx41
     obtain ⟨b45, o46, e47, a48⟩ := (Ga0).at p43
     refine qv _ (V.iad underlying24 sz150 rfl e47 rfl p42 p44) <| qv _ (V.fad underlying150 rfl nz4 rfl) <| qv (.bool x40.2) (V.ld rfl (Ld.sc sc4 (Rd.k (((a48).snd).one).bool hpr))) <| qm (.bool x40.2) rfl ?_
     rcases bt (x40.2) with hc49 | hc49
     · have h27 := ct hc49 h27
       refine JQ.skip rfl rfl rfl rfl hc49 <| qv (.bool true) (V.pickT rfl hc49 rfl) <| qv (.agg #[ii x30.1, .bool true]) (V.build inf150 places150 rfl rfl) <| JQ.nil ?_
       refine JA.op rfl (A.lit (K0 := Hp.nil) (ty := Yq1) (xs := ([(x30.1, true)] : List (Int × Bool))) underlying24 inf150 rfl (by decide) rfl rfl rfl ⟨_, _, rfl, ⟨_, _, rfl, rfl, rfl, rfl⟩, rfl⟩ rfl (by decide)) ?_
       rintro _ _ _ ⟨b50, rfl, rfl, rfl⟩
       have hn51 : ([(x30.1, true)] : List (Int × Bool)) ≠ [] → ∃ g, (some ⟨b50, 0, none⟩ : Option Addr) = some ⟨g, 0, none⟩ := fun _ => ⟨b50, rfl⟩
       refine ⟨fun w hs => Hold.sub hpr ⟨1, rfl, 1, rfl, 1, rfl, trivial⟩ hs, ?_⟩
       refine JM.nil <| JQ.nil ?_
       obtain ⟨z52, hz53, h27⟩ := ob h27
       refine J.front 1 rfl <| J.op rfl (A.appR (Kr := Hp.nil) underlying24 inf150 rfl rfl (by decide) (by decide) rfl rfl (Els.flat rfl) (Els.flat rfl) hz53) ?_
       rintro _ _ _ ⟨v54, rfl, rfl, rfl⟩
       refine J.wit Row.form ?_
       rintro ⟨ad55, cp56, rfl, _, _, hn57⟩
       refine ja (sl ad55 z52 cp56) rfl <| J.nil <| CJ.region <| jm (ii i20) rfl <| jv (ii (IntKind.wrap .i64 (i20 + 1))) (V.add rfl rfl) <| ja (ii (IntKind.wrap .i64 (i20 + 1))) rfl <| J.front 2 rfl ?_
       refine J.front 2 rfl <| J.nil ?_
       obtain rfl := si h27
       exact ⟨rfl, ⟨z52, IntKind.wrap .i64 (i20 + 1), ad55, cp56, rfl, rt5, rfl, rfl⟩⟩
     have h27 := cf hc49 h27
     refine JQ.run rfl rfl rfl hc49 <| qm (.bool xc) rfl <| qv (.bool xc) (V.pickF rfl hc49 rfl) <| qv (.agg #[ii x30.1, .bool xc]) (V.build inf150 places150 rfl rfl) <| JQ.nil ?_
     refine JA.op rfl (A.lit (K0 := Hp.nil) (ty := Yq1) (xs := ([(x30.1, xc)] : List (Int × Bool))) underlying24 inf150 rfl (by decide) rfl rfl rfl ⟨_, _, rfl, ⟨_, _, rfl, rfl, rfl, rfl⟩, rfl⟩ rfl (by decide)) ?_
     rintro _ _ _ ⟨b58, rfl, rfl, rfl⟩
     have hn59 : ([(x30.1, xc)] : List (Int × Bool)) ≠ [] → ∃ g, (some ⟨b58, 0, none⟩ : Option Addr) = some ⟨g, 0, none⟩ := fun _ => ⟨b58, rfl⟩
     refine ⟨fun w hs => Hold.sub hpr ⟨1, rfl, 1, rfl, 1, rfl, trivial⟩ hs, ?_⟩
     refine JM.nil <| JQ.nil ?_
     obtain ⟨z60, hz61, h27⟩ := ob h27
     refine J.front 1 rfl <| J.op rfl (A.appR (Kr := Hp.nil) underlying24 inf150 rfl rfl (by decide) (by decide) rfl rfl (Els.flat rfl) (Els.flat rfl) hz61) ?_
     rintro _ _ _ ⟨v62, rfl, rfl, rfl⟩
     refine J.wit Row.form ?_
     rintro ⟨ad63, cp65, rfl, _, _, hn66⟩
     refine ja (sl ad63 z60 cp65) rfl <| J.nil <| CJ.region <| jm (ii i20) rfl <| jv (ii (IntKind.wrap .i64 (i20 + 1))) (V.add rfl rfl) <| ja (ii (IntKind.wrap .i64 (i20 + 1))) rfl <| J.front 2 rfl ?_
     refine J.front 2 rfl <| J.nil ?_
     obtain rfl := si h27
     exact ⟨rfl, ⟨z60, IntKind.wrap .i64 (i20 + 1), ad63, cp65, rfl, rt5, rfl, rfl⟩⟩
   refine CJ.dropAt 1 rfl <| CJ.front 1 rfl <| CJ.exit ?_
   obtain rfl := si h27
   refine ⟨nofun, fun e => ?_⟩
   subst e
   exact ⟨rfl, ⟨l19, ad21, cp22, rfl, rt2, rfl, rfl⟩⟩
 rintro ρ _ _ ⟨l15, ad17, cp18, rfl, hf67, rfl, rfl⟩
 obtain ⟨ρ, rfl⟩ := hf67.ex
 refine PJ.front 1 rfl <| PJ.wit Row.hn fun hn68 => PJ.done <| cr <| jm (sl ad17 l15 cp18) rfl <| jv (.agg #[sl ad17 l15 cp18]) (V.build inf26 places26 rfl rfl) ?_
 refine J.front 1 rfl <| js [sl ad17 l15 cp18] sz26 rfl rfl rfl rfl rfl rfl <| J.nil <| CJ.ret ?_
 obtain rfl := si h
 exact ⟨_, _, Res.one rfl ⟨_, _, rfl, Ld.agg (cs := [sl ad17 l15 cp18]) underlying26 sz26 rfl (Rd.cls 0 0 rfl rfl)⟩, ⟨l15, ad17, cp18, rfl, rfl, rfl⟩, hpr, fun w hs => (Sep.dropAt 0 rfl hs)⟩

noncomputable def fn_ref16_Loan (xa : Tq3) (xb : Tq3) (xc : Int) (xd : Bool) : Option (Tq10) :=
  (fn_ref15_Ref xa xc xd).bind fun l1 => (fn_ref15_Shape l1 xb).bind fun t2 => cond (!t2) (some (([], 8))) ((getI xb 0).bind fun x3 => (subL xb 1 (((xb.length : Nat) : Int))).bind fun y4 => (fn_ref16_slots_rkkii xa y4 1 1 (([(xc, x3.1, 2, 0, false)] : List Tq2))).bind fun l5 => some ((l5, 0)))
theorem ref16_Loan_ok {K : Hp} {xa : Tq3} {xb : Tq3} {xc : Int} {xd : Bool} {Aa0 : Option Addr} {Ca0 : Nat} {Ab0 : Option Addr} {Cb0 : Nat} (Ga0 : Is K (.sl Yq1) [sl Aa0 xa Ca0] xa) (Gb0 : Is K (.sl Yq1) [sl Ab0 xb Cb0] xb) {r : Tq10} (h : fn_ref16_Loan xa xb xc xd = some r) :
    Tr Tryz.prog 107 #[.agg #[sl Aa0 xa Ca0], .agg #[sl Ab0 xb Cb0], ii xc, .bool xd] K [] (fun v K' L' => (∃ (l88 : (List Tq2)) (i93 : Int) (ad89 : Option Addr) (cp90 : Nat), (l88, i93) = r ∧ .tuple #[sl ad89 l88 cp90, ii i93] = v ∧ L' = [Row Hp.nil 169 Yq2 (sl ad89 l88 cp90) l88]) ∧ K = K') := by
 refine Tr.k <| Tr.of func107 rfl ntmps107 rfl fun E F => ?_
 unfold fn_ref16_Loan at h
 refine cr <| jbx [sl Aa0 xa Ca0] rfl rfl fun b94 => jbx [sl Ab0 xb Cb0] rfl rfl fun b95 => ja (nos) rfl <| ja (ii 0) rfl <| J.nil ?_
 refine CJ.seq <| CJ.seq <| CJ.mix [Cl b95 26 [sl Ab0 xb Cb0], Cl b94 26 [sl Aa0 xa Ca0]] [([0, 1, 2, 4], 3), ([], 5)] [6] [] mixO (by decide +kernel) ⟨0, rfl, 0, rfl, trivial⟩ rfl rfl rfl <| JM.cons <| qv (.agg #[sl Aa0 xa Ca0]) (V.ld rfl (Ld.agg (cs := [sl Aa0 xa Ca0]) underlying26 sz26 rfl (Rd.cls 1 0 rfl rfl))) <| qm (ii xc) rfl <| qm (.bool xd) rfl ?_
 refine qv (.agg #[sl Ab0 xb Cb0]) (V.ld rfl (Ld.agg (cs := [sl Ab0 xb Cb0]) underlying26 sz26 rfl (Rd.cls 0 0 rfl rfl))) <| JQ.nil ?_
 obtain ⟨r2, hr4, h⟩ := ob h
 refine JA.op rfl (A.call (L1 := []) call120 rfl (ref15_Ref_ok Ga0 hr4) rfl rfl) ?_
 rintro _ _ _ ⟨v5, _, rfl, ⟨⟨l6, ad7, cp9, rfl, rfl, rfl⟩, rfl⟩, _, rfl⟩
 refine ⟨fun w hs => Hold.sub hpr ⟨1, rfl, 1, rfl, trivial⟩ hs, ?_⟩
 refine JM.wit Row.hn fun hn10 => JM.cons <| JQ.nil ?_
 obtain ⟨r11, hr12, h⟩ := ob h
 refine JA.op rfl (A.call (L1 := [Row Hp.nil 150 Yq1 (sl ad7 l6 cp9) l6]) call84 rfl (Tr.lend (Hp.nil_le _) (by decide) (fun K13 hK14 f15 => ref15_Shape_ok f15 (Gb0.mono hK14) hr12)) rfl rfl) ?_
 rintro _ _ _ ⟨v17, _, rfl, ⟨⟨_, ⟨t18, rfl, rfl, rfl⟩, rfl⟩, rfl⟩, _, rfl⟩
 refine ⟨fun w hs => Hold.sub hpr ⟨1, rfl, 1, rfl, trivial⟩ hs, ?_⟩
 refine JM.nil <| qv (.bool (!t18)) (V.not rfl) <| JQ.nil <| J.nil <| cc rfl h (fun hc19 h => ?_) fun hc19 h => ?_
 · refine cr <| ja (nos) rfl <| ja (ii 8) rfl <| J.nil <| CJ.by (fun w hs => Sep.rowNil (e := 169) (t := Yq2) hs) <| CJ.ret ?_
   obtain rfl := si h
   exact ⟨_, _, Res.two rfl rfl rfl, ⟨[], 8, none, 0, rfl, rfl, rfl⟩, hpr, fun w hs => (Sep.dropAt 1 rfl (Sep.dropAt 1 rfl (Sep.dropAt 1 rfl hs)))⟩
 refine CJ.skip <| cr <| jm (ii xc) rfl <| jv _ (V.fad underlying26 rfl nz24 rfl) <| jv (sl Ab0 xb Cb0) (V.ld rfl (Ld.sc sc24 (Rd.cl 1 rfl rfl))) ?_
 obtain ⟨x20, hx21, h⟩ := ob h
 obtain ⟨p22, p23, p25⟩ := getI_some hx21
 obtain ⟨b27, o28, e29, a30⟩ := (Gb0).at p23
 refine jv _ (V.iad underlying24 sz150 rfl e29 rfl p22 p25) <| jv _ (V.fad underlying150 rfl nz3 rfl) <| jv (ii x20.1) (V.ld rfl (Ld.sc sc3 (Rd.k ((a30).fst).int hpr))) <| jv (.agg #[ii xc, ii x20.1, ii 2, ii 0, .bool false]) (V.build inf169 places169 rfl rfl) ?_
 refine J.op rfl (A.lit (K0 := Hp.nil) (ty := Yq2) (xs := ([(xc, x20.1, 2, 0, false)] : List Tq2)) underlying132 inf169 rfl (by decide) rfl rfl rfl ⟨_, _, rfl, ⟨_, _, rfl, rfl, rfl, ⟨_, _, rfl, rfl, rfl, ⟨_, _, rfl, rfl, rfl, ⟨_, _, rfl, rfl, rfl, rfl⟩⟩⟩⟩, rfl⟩ rfl (by decide)) ?_
 rintro _ _ _ ⟨b31, rfl, rfl, rfl⟩
 have hn33 : ([(xc, x20.1, 2, 0, false)] : List Tq2) ≠ [] → ∃ g, (some ⟨b31, 0, none⟩ : Option Addr) = some ⟨g, 0, none⟩ := fun _ => ⟨b31, rfl⟩
 refine ja (.slice (some ⟨b31, 0, none⟩) ((([(xc, x20.1, 2, 0, false)] : List Tq2)).length) 1) rfl <| J.nil <| CJ.seq <| CJ.mix [Row Hp.nil 150 Yq1 (sl ad7 l6 cp9) l6, Cl b95 26 [sl Ab0 xb Cb0], Cl b94 26 [sl Aa0 xa Ca0]] [([0, 1, 2, 3, 4, 5], 6)] [7, 8] [] mixO (by decide +kernel) ⟨1, rfl, 1, rfl, 1, rfl, trivial⟩ rfl rfl rfl <| JM.cons <| qm (.slice (some ⟨b31, 0, none⟩) ((([(xc, x20.1, 2, 0, false)] : List Tq2)).length) 1) rfl <| qv _ (V.fad underlying26 rfl nz24 rfl) ?_
 refine qv (sl Aa0 xa Ca0) (V.ld rfl (Ld.sc sc24 (Rd.cl 2 rfl rfl))) <| qv _ (V.fad underlying26 rfl nz24 rfl) <| qv (sl Ab0 xb Cb0) (V.ld rfl (Ld.sc sc24 (Rd.cl 1 rfl rfl))) ?_
 obtain ⟨y34, hy35, h⟩ := ob h
 obtain ⟨ad36, cp37, hv38, f39⟩ := V.subI (tp := Yq1) underlying24 sz150 Gb0 hy35
 refine qv (sl ad36 y34 cp37) (hv38 rfl (fun _ h => by cases h; exact ⟨_, rfl⟩) nofun nofun (fun _ => rfl)) <| JQ.nil ?_
 obtain ⟨r40, hr41, h⟩ := ob h
 refine JA.op rfl (A.call (L1 := [Row Hp.nil 169 Yq2 (.slice (some ⟨b31, 0, none⟩) ((([(xc, x20.1, 2, 0, false)] : List Tq2)).length) 1) (([(xc, x20.1, 2, 0, false)] : List Tq2))]) call119 rfl (ref16_slots_rkkii_ok Ga0 f39 hr41) rfl rfl) ?_
 rintro _ _ _ ⟨v42, _, rfl, ⟨⟨l43, ad44, cp45, rfl, rfl, rfl⟩, rfl⟩, _, rfl⟩
 refine ⟨fun w hs => Hold.sub hpr ⟨1, rfl, 1, rfl, 1, rfl, trivial⟩ hs, ?_⟩
 refine JM.wit Row.hn fun hn46 => JM.nil <| qa (sl ad44 l43 cp45) rfl <| qa (ii 0) rfl <| JQ.nil <| J.nil <| CJ.ret ?_
 obtain rfl := si h
 exact ⟨_, _, Res.two rfl rfl rfl, ⟨l43, 0, ad44, cp45, rfl, rfl, rfl⟩, hpr, fun w hs => (Sep.dropAt 1 rfl (Sep.dropAt 1 rfl (Sep.dropAt 1 rfl hs)))⟩
noncomputable def fn_ref16_Again_l1 (xa : Tq3) (xd : Bool) : Int → Option (Int ⊕ (Unit ⊕ Tq10)) := fun (i1 : Int) => cond (decide (i1 < (((xa.length : Nat) : Int)))) ((cond (xd) ((getI xa i1).bind fun x2 => some (!x2.2)) (some (false))).bind fun t3 => cond (t3) (some (.inr ((.inr (([], 8)))))) (some (.inl (IntKind.wrap .i64 (i1 + 1))))) (some (.inr ((.inl ()))))
noncomputable def fn_ref16_Again (xa : Tq3) (xb : Tq3) (xc : Int) (xd : Bool) : Option (Tq10) :=
  (cond (decide ((((xa.length : Nat) : Int)) = 0)) (some (true)) ((fn_ref15_Shape xa xb).bind fun t1 => some (!t1))).bind fun t2 => (cond (t2) (some (true)) ((getI xa 0).bind fun x3 => some (x3.2))).bind fun t4 => cond (t4) (some (([], 8))) ((loop (fn_ref16_Again_l1 xa xd) 1 : Option (Unit ⊕ Tq10)).bind fun o => match o with | .inr r => some r | .inl () => (getI xa 0).bind fun x5 => (getI xb 0).bind fun x6 => (subL xa 1 (((xa.length : Nat) : Int))).bind fun y7 => (subL xb 1 (((xb.length : Nat) : Int))).bind fun y9 => (fn_ref16_slots_rkkii y7 y9 1 1 (([(x5.1, xc, 3, 0, false), (xc, x6.1, 2, 0, false)] : List Tq2))).bind fun l10 => some ((l10, 0)))
theorem ref16_Again_ok {K : Hp} {xa : Tq3} {xb : Tq3} {xc : Int} {xd : Bool} {Aa0 : Option Addr} {Ca0 : Nat} {Ab0 : Option Addr} {Cb0 : Nat} (Ga0 : Is K (.sl Yq1) [sl Aa0 xa Ca0] xa) (Gb0 : Is K (.sl Yq1) [sl Ab0 xb Cb0] xb) {r : Tq10} (h : fn_ref16_Again xa xb xc xd = some r) :
    Tr Tryz.prog 108 #[.agg #[sl Aa0 xa Ca0], .agg #[sl Ab0 xb Cb0], ii xc, .bool xd] K [] (fun v K' L' => (∃ (l2 : (List Tq2)) (i7 : Int) (ad9 : Option Addr) (cp10 : Nat), (l2, i7) = r ∧ .tuple #[sl ad9 l2 cp10, ii i7] = v ∧ L' = [Row Hp.nil 169 Yq2 (sl ad9 l2 cp10) l2]) ∧ K = K') := by
 refine Tr.k <| Tr.of func108 rfl ntmps108 rfl fun E F => ?_
 unfold fn_ref16_Again at h
 refine cr <| jbx [sl Aa0 xa Ca0] rfl rfl fun b11 => jbx [sl Ab0 xb Cb0] rfl rfl fun b12 => ja (nos) rfl <| ja (ii 0) rfl <| J.nil ?_
 refine CJ.seq <| cr <| jv _ (V.fad underlying26 rfl nz24 rfl) <| jv (sl Aa0 xa Ca0) (V.ld rfl (Ld.sc sc24 (Rd.cl 1 rfl rfl))) <| jv (ii (((xa.length : Nat) : Int))) (V.len underlying24 rfl) <| jv (.bool (decide ((((xa.length : Nat) : Int)) = 0))) (V.eql rfl rfl) ?_
 refine jm (.bool (decide ((((xa.length : Nat) : Int)) = 0))) rfl <| J.cut 5 ?_
 obtain ⟨t13, ht14, h⟩ := ob h
 refine jmeet [(21, .bool t13), (2, ii xc), (3, .bool xd), (4, pt b11), (5, pt b12)] ?_ ?_
 · rcases bt (decide ((((xa.length : Nat) : Int)) = 0)) with hc15 | hc15
   · have ht14 := ct hc15 ht14
     refine J.skip rfl rfl rfl rfl hc15 <| J.skip rfl rfl rfl rfl hc15 <| J.skip rfl rfl rfl rfl hc15 <| J.skip rfl rfl rfl rfl hc15 <| jv (.bool true) (V.pickT rfl hc15 rfl) <| J.nil ?_
     obtain rfl := si ht14
     exact ⟨rfl, rt5, rfl, rfl⟩
   have ht14 := cf hc15 ht14
   refine J.run rfl rfl rfl hc15 <| jv (.agg #[sl Aa0 xa Ca0]) (V.ld rfl (Ld.agg (cs := [sl Aa0 xa Ca0]) underlying26 sz26 rfl (Rd.cls 1 0 rfl rfl))) <| J.run rfl rfl rfl hc15 <| jv (.agg #[sl Ab0 xb Cb0]) (V.ld rfl (Ld.agg (cs := [sl Ab0 xb Cb0]) underlying26 sz26 rfl (Rd.cls 0 0 rfl rfl))) <| J.run rfl rfl rfl hc15 ?_
   obtain ⟨r17, hr18, ht14⟩ := ob ht14
   refine J.op rfl (A.call (L1 := []) call84 rfl (ref15_Shape_ok Ga0 Gb0 hr18) rfl rfl) ?_
   rintro _ _ _ ⟨v19, _, rfl, ⟨⟨t20, rfl, rfl, rfl⟩, rfl⟩, _, rfl⟩
   refine J.run rfl rfl rfl hc15 <| jv (.bool (!t20)) (V.not rfl) <| jv (.bool (!t20)) (V.pickF rfl hc15 rfl) <| J.nil ?_
   obtain rfl := si ht14
   exact ⟨rfl, rt5, rfl, rfl⟩
 intro ρ
 refine jm (.bool t13) rfl <| J.cut 6 ?_
 obtain ⟨t21, ht22, h⟩ := ob h
 refine jmeet [(28, .bool t21), (2, ii xc), (3, .bool xd), (4, pt b11), (5, pt b12)] ?_ ?_
 · rcases bt (t13) with hc23 | hc23
   · have ht22 := ct hc23 ht22
     refine J.skip rfl rfl rfl rfl hc23 <| J.skip rfl rfl rfl rfl hc23 <| J.skip rfl rfl rfl rfl hc23 <| J.skip rfl rfl rfl rfl hc23 <| J.skip rfl rfl rfl rfl hc23 <| jv (.bool true) (V.pickT rfl hc23 rfl) <| J.nil ?_
     obtain rfl := si ht22
     exact ⟨rfl, rt5, rfl, rfl⟩
   have ht22 := cf hc23 ht22
   refine J.run rfl rfl rfl hc23 <| jv _ (V.fad underlying26 rfl nz24 rfl) <| J.run rfl rfl rfl hc23 <| jv (sl Aa0 xa Ca0) (V.ld rfl (Ld.sc sc24 (Rd.cl 1 rfl rfl))) <| J.run rfl rfl rfl hc23 ?_
   obtain ⟨x25, hx27, ht22⟩ := ob ht22
   obtain ⟨p28, p29, p30⟩ := getI_some hx27
   obtain ⟨b31, o33, e34, a35⟩ := (Ga0).at p29
   refine jv _ (V.iad underlying24 sz150 rfl e34 rfl p28 p30) <| J.run rfl rfl rfl hc23 <| jv _ (V.fad underlying150 rfl nz4 rfl) <| J.run rfl rfl rfl hc23 <| jv (.bool x25.2) (V.ld rfl (Ld.sc sc4 (Rd.k (((a35).snd).one).bool hpr))) <| jv (.bool x25.2) (V.pickF rfl hc23 rfl) <| J.nil ?_
   obtain rfl := si ht22
   exact ⟨rfl, rt5, rfl, rfl⟩
 intro ρ
 refine J.nil <| cc rfl h (fun hc36 h => ?_) fun hc36 h => ?_
 · refine cr <| ja (nos) rfl <| ja (ii 8) rfl <| J.nil <| CJ.by (fun w hs => Sep.rowNil (e := 169) (t := Yq2) hs) <| CJ.ret ?_
   obtain rfl := si h
   exact ⟨_, _, Res.two rfl rfl rfl, ⟨[], 8, none, 0, rfl, rfl, rfl⟩, hpr, fun w hs => (Sep.dropAt 1 rfl (Sep.dropAt 1 rfl hs))⟩
 refine CJ.skip <| CJ.seq <| cr <| ja (ii 1) rfl <| J.nil ?_
 obtain ⟨o37, ho38, h⟩ := ob h
 refine CJ.joinN (o := o37) (fun s ρ K' L' => () = s ∧ Fits [(2, ii xc), (4, pt b11), (5, pt b12)] ρ ∧ K = K' ∧ L' = Cl b11 26 [sl Aa0 xa Ca0] :: Cl b12 26 [sl Ab0 xb Cb0] :: F) ?_ ?_
 · refine CJ.block <| CJ.front 1 rfl <| CJ.loop (fun s ρ K' L' => ∃ (i39 : Int), i39 = s ∧ Fits [(2, ii xc), (3, .bool xd), (4, pt b11), (5, pt b12), (10, ii i39)] ρ ∧ K = K' ∧ L' = Cl b11 26 [sl Aa0 xa Ca0] :: Cl b12 26 [sl Ab0 xb Cb0] :: F) ho38 ⟨1, rfl, rt5, rfl, rfl⟩ ?_
   rintro s ρ _ _ r40 ⟨i39, rfl, hf41, rfl, rfl⟩ h42
   obtain ⟨ρ, rfl⟩ := hf41.ex
   refine CJ.seq <| cr <| jm (ii i39) rfl <| jv _ (V.fad underlying26 rfl nz24 rfl) <| jv (sl Aa0 xa Ca0) (V.ld rfl (Ld.sc sc24 (Rd.cl 0 rfl rfl))) <| jv (ii (((xa.length : Nat) : Int))) (V.len underlying24 rfl) ?_
   refine jv (.bool (decide (i39 < (((xa.length : Nat) : Int))))) (V.lss rfl rfl) <| J.nil <| cc rfl h42 (fun hc43 h42 => ?_) fun hc43 h42 => ?_
   · refine CJ.skip <| CJ.seq <| CJ.block <| cr <| jm (.bool xd) rfl <| jm (.bool xd) rfl ?_
     refine J.cut 8 ?_
     obtain ⟨t44, ht45, h42⟩ := ob h42
     refine jmeet [(45, .bool t44), (2, ii xc), (3, .bool xd), (4, pt b11), (5, pt b12), (10, ii i39)] ?_ ?_
     · rcases bt (xd) with hc46 | hc46
       · have ht45 := ct hc46 ht45
         refine J.run rfl rfl rfl hc46 <| jv _ (V.fad underlying26 rfl nz24 rfl) <| J.run rfl rfl rfl hc46 <| jv (sl Aa0 xa Ca0) (V.ld rfl (Ld.sc sc24 (Rd.cl 0 rfl rfl))) <| J.run rfl rfl rfl hc46 <| jm (ii i39) rfl <| J.run rfl rfl rfl hc46 ?_
         obtain ⟨x47, hx48, ht45⟩ := ob ht45
         obtain ⟨p49, p50, p51⟩ := getI_some hx48
         obtain ⟨b52, o53, e54, a55⟩ := (Ga0).at p50
         refine jv _ (V.iad underlying24 sz150 rfl e54 rfl p49 p51) <| J.run rfl rfl rfl hc46 <| jv _ (V.fad underlying150 rfl nz4 rfl) <| J.run rfl rfl rfl hc46 <| jv (.bool x47.2) (V.ld rfl (Ld.sc sc4 (Rd.k (((a55).snd).one).bool hpr))) <| J.run rfl rfl rfl hc46 <| jv (.bool (!x47.2)) (V.not rfl) ?_
         refine jv (.bool (!x47.2)) (V.pickT rfl hc46 rfl) <| J.nil ?_
         obtain rfl := si ht45
         exact ⟨rfl, rt6, rfl, rfl⟩
       have ht45 := cf hc46 ht45
       refine J.skip rfl rfl rfl rfl hc46 <| J.skip rfl rfl rfl rfl hc46 <| J.skip rfl rfl rfl rfl hc46 <| J.skip rfl rfl rfl rfl hc46 <| J.skip rfl rfl rfl rfl hc46 <| J.skip rfl rfl rfl rfl hc46 <| J.skip rfl rfl rfl rfl hc46 ?_
       refine jv (.bool false) (V.pickF rfl hc46 rfl) <| J.nil ?_
       obtain rfl := si ht45
       exact ⟨rfl, rt6, rfl, rfl⟩
     intro ρ
     refine J.nil <| cc rfl h42 (fun hc56 h42 => ?_) fun hc56 h42 => ?_
     · refine cr <| ja (nos) rfl <| ja (ii 8) rfl <| J.nil <| CJ.by (fun w hs => Sep.rowNil (e := 169) (t := Yq2) hs) <| CJ.ret ?_
       obtain rfl := si h42
       refine ⟨nofun, fun e => ?_⟩
       subst e
       refine .inr ⟨nofun, ?_⟩
       obtain rfl := si h
       exact ⟨_, _, Res.two rfl rfl rfl, ⟨[], 8, none, 0, rfl, rfl, rfl⟩, hpr, fun w hs => (Sep.dropAt 1 rfl (Sep.dropAt 1 rfl hs))⟩
     refine CJ.skip <| CJ.region <| jm (ii i39) rfl <| jv (ii (IntKind.wrap .i64 (i39 + 1))) (V.add rfl rfl) <| ja (ii (IntKind.wrap .i64 (i39 + 1))) rfl <| J.nil ?_
     obtain rfl := si h42
     exact ⟨rfl, ⟨IntKind.wrap .i64 (i39 + 1), rfl, rt5, rfl, rfl⟩⟩
   refine CJ.exit ?_
   obtain rfl := si h42
   refine ⟨nofun, fun e => ?_⟩
   subst e
   exact .inl ⟨rfl, _, rfl, ⟨rfl, rt3, rfl, rfl⟩⟩
 rintro s ρ _ _ ho57 ⟨rfl, hf58, rfl, rfl⟩
 subst ho57
 obtain ⟨ρ, rfl⟩ := hf58.ex
 refine PJ.done <| CJ.seq <| CJ.mix [Cl b11 26 [sl Aa0 xa Ca0], Cl b12 26 [sl Ab0 xb Cb0]] [([0, 1, 2, 3, 4, 5, 6, 7, 8, 9, 10, 11, 12, 13], 14)] [15] [] mixO (by decide +kernel) ⟨0, rfl, 0, rfl, trivial⟩ rfl rfl rfl <| JM.cons <| qv _ (V.fad underlying26 rfl nz24 rfl) <| qv (sl Aa0 xa Ca0) (V.ld rfl (Ld.sc sc24 (Rd.cl 0 rfl rfl))) ?_
 obtain ⟨x59, hx60, h⟩ := ob h
 obtain ⟨p61, p62, p63⟩ := getI_some hx60
 obtain ⟨b65, o66, e67, a68⟩ := (Ga0).at p62
 refine qv _ (V.iad underlying24 sz150 rfl e67 rfl p61 p63) <| qv _ (V.fad underlying150 rfl nz3 rfl) <| qv (ii x59.1) (V.ld rfl (Ld.sc sc3 (Rd.k ((a68).fst).int hpr))) <| qm (ii xc) rfl <| qv (.agg #[ii x59.1, ii xc, ii 3, ii 0, .bool false]) (V.build inf169 places169 rfl rfl) <| qm (ii xc) rfl <| qv _ (V.fad underlying26 rfl nz24 rfl) ?_
 refine qv (sl Ab0 xb Cb0) (V.ld rfl (Ld.sc sc24 (Rd.cl 1 rfl rfl))) ?_
 obtain ⟨x69, hx70, h⟩ := ob h
 obtain ⟨p71, p72, p73⟩ := getI_some hx70
 obtain ⟨b74, o75, e76, a77⟩ := (Gb0).at p72
 refine qv _ (V.iad underlying24 sz150 rfl e76 rfl p71 p73) <| qv _ (V.fad underlying150 rfl nz3 rfl) <| qv (ii x69.1) (V.ld rfl (Ld.sc sc3 (Rd.k ((a77).fst).int hpr))) <| qv (.agg #[ii xc, ii x69.1, ii 2, ii 0, .bool false]) (V.build inf169 places169 rfl rfl) <| JQ.nil ?_
 refine JA.op rfl (A.lit (K0 := Hp.nil) (ty := Yq2) (xs := ([(x59.1, xc, 3, 0, false), (xc, x69.1, 2, 0, false)] : List Tq2)) underlying132 inf169 rfl (by decide) rfl rfl rfl ⟨_, _, rfl, ⟨_, _, rfl, rfl, rfl, ⟨_, _, rfl, rfl, rfl, ⟨_, _, rfl, rfl, rfl, ⟨_, _, rfl, rfl, rfl, rfl⟩⟩⟩⟩, ⟨_, _, rfl, ⟨_, _, rfl, rfl, rfl, ⟨_, _, rfl, rfl, rfl, ⟨_, _, rfl, rfl, rfl, ⟨_, _, rfl, rfl, rfl, rfl⟩⟩⟩⟩, rfl⟩⟩ rfl (by decide)) ?_
 rintro _ _ _ ⟨b78, rfl, rfl, rfl⟩
 have hn79 : ([(x59.1, xc, 3, 0, false), (xc, x69.1, 2, 0, false)] : List Tq2) ≠ [] → ∃ g, (some ⟨b78, 0, none⟩ : Option Addr) = some ⟨g, 0, none⟩ := fun _ => ⟨b78, rfl⟩
 refine ⟨fun w hs => Hold.sub hpr ⟨1, rfl, 1, rfl, trivial⟩ hs, ?_⟩
 refine JM.nil <| qa (.slice (some ⟨b78, 0, none⟩) ((([(x59.1, xc, 3, 0, false), (xc, x69.1, 2, 0, false)] : List Tq2)).length) 2) rfl <| JQ.nil <| J.nil <| CJ.seq <| CJ.mix [Cl b11 26 [sl Aa0 xa Ca0], Cl b12 26 [sl Ab0 xb Cb0]] [([0, 1, 2, 3, 4, 5, 6], 7)] [8, 9] [] mixO (by decide +kernel) ⟨1, rfl, 1, rfl, trivial⟩ rfl rfl rfl <| JM.cons ?_
 refine qm (.slice (some ⟨b78, 0, none⟩) ((([(x59.1, xc, 3, 0, false), (xc, x69.1, 2, 0, false)] : List Tq2)).length) 2) rfl <| qv _ (V.fad underlying26 rfl nz24 rfl) <| qv (sl Aa0 xa Ca0) (V.ld rfl (Ld.sc sc24 (Rd.cl 0 rfl rfl))) ?_
 obtain ⟨y80, hy81, h⟩ := ob h
 obtain ⟨ad82, cp83, hv85, f86⟩ := V.subI (tp := Yq1) underlying24 sz150 Ga0 hy81
 refine qv (sl ad82 y80 cp83) (hv85 rfl (fun _ h => by cases h; exact ⟨_, rfl⟩) nofun nofun (fun _ => rfl)) <| qv _ (V.fad underlying26 rfl nz24 rfl) <| qv (sl Ab0 xb Cb0) (V.ld rfl (Ld.sc sc24 (Rd.cl 1 rfl rfl))) ?_
 obtain ⟨y87, hy88, h⟩ := ob h
 obtain ⟨ad89, cp90, hv91, f92⟩ := V.subI (tp := Yq1) underlying24 sz150 Gb0 hy88
 refine qv (sl ad89 y87 cp90) (hv91 rfl (fun _ h => by cases h; exact ⟨_, rfl⟩) nofun nofun (fun _ => rfl)) <| JQ.nil ?_
 obtain ⟨r93, hr94, h⟩ := ob h
 refine JA.op rfl (A.call (L1 := [Row Hp.nil 169 Yq2 (.slice (some ⟨b78, 0, none⟩) ((([(x59.1, xc, 3, 0, false), (xc, x69.1, 2, 0, false)] : List Tq2)).length) 2) (([(x59.1, xc, 3, 0, false), (xc, x69.1, 2, 0, false)] : List Tq2))]) call119 rfl (ref16_slots_rkkii_ok f86 f92 hr94) rfl rfl) ?_
 rintro _ _ _ ⟨v95, _, rfl, ⟨⟨l96, ad97, cp98, rfl, rfl, rfl⟩, rfl⟩, _, rfl⟩
 refine ⟨fun w hs => Hold.sub hpr ⟨1, rfl, 1, rfl, trivial⟩ hs, ?_⟩
 refine JM.wit Row.hn fun hn99 => JM.nil <| qa (sl ad97 l96 cp98) rfl <| qa (ii 0) rfl <| JQ.nil <| J.nil <| CJ.ret ?_
 obtain rfl := si h
 exact ⟨_, _, Res.two rfl rfl rfl, ⟨l96, 0, ad97, cp98, rfl, rfl, rfl⟩, hpr, fun w hs => (Sep.dropAt 1 rfl (Sep.dropAt 1 rfl hs))⟩
end Go.Proofs.YtbennpandomacaaGreat
