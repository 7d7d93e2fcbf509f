/- What Go functions answer: generated. -/
import Derived.Test.YtbaaamdljojknaaF1
namespace Go.Proofs.Ytbaaamdljojknaa
open Go.RowKit
set_option linter.unusedVariables false
set_option linter.unnecessarySimpa false
set_option linter.unusedSimpArgs false
set_option maxRecDepth 20000

noncomputable def fn_ref19_Form (xa : (Int × Int × Int × (List Int) × (List Int) × (List Int))) : Option Int :=
  cond ((decide (xa.1 < 1)) || (decide (4 < xa.1))) (some (3)) (cond (((((decide (xa.1 = 1)) || (decide (xa.1 = 4))) && (!decide ((((xa.2.2.2.1.length : Nat) : Int)) = 1))) || ((decide (xa.1 = 2)) && (decide ((((xa.2.2.2.1.length : Nat) : Int)) = 0)))) || ((decide (xa.1 = 3)) && (!decide ((((xa.2.2.2.1.length : Nat) : Int)) = 0)))) (some (3)) (cond ((!decide (xa.1 = 4)) && (((!decide (xa.2.1 = 0)) || (!decide (xa.2.2.1 = 0))) || (!decide ((((xa.2.2.2.2.2.length : Nat) : Int)) = 0)))) (some (3)) (cond (((decide (xa.1 = 1)) || (decide (xa.1 = 3))) && (!decide ((((xa.2.2.2.2.1.length : Nat) : Int)) = 0))) (some (3)) (cond (((decide (16 < (((xa.2.2.2.1.length : Nat) : Int)))) || (decide (16 < (((xa.2.2.2.2.1.length : Nat) : Int))))) || (decide (16 < (((xa.2.2.2.2.2.length : Nat) : Int))))) (some (6)) (some (0))))))
noncomputable def fn_ref19_within_l1 (xa : (List Int)) (xb : Int) : Int → Option (Int ⊕ (Unit ⊕ Bool)) := fun (i361 : Int) => cond (decide (i361 < (((xa.length : Nat) : Int)))) ((getI xa i361).bind fun x401 => (cond (decide (x401 < 0)) (some (true)) ((getI xa i361).bind fun x423 => some (decide (xb ≤ x423)))).bind fun t420 => cond (t420) (some (.inr ((.inr (false))))) (some (.inl (IntKind.wrap .i64 (i361 + 1))))) (some (.inr ((.inl ()))))
noncomputable def fn_ref19_within (xa : (List Int)) (xb : Int) : Option Bool :=
  (loop (fn_ref19_within_l1 xa xb) 0 : Option (Unit ⊕ Bool)).bind fun o => match o with | .inr r => some r | .inl () => some (true)
noncomputable def fn_ref15_Subst_l1 (xa : (List (Int × Bool))) (xb : (List Int)) : ((List (Int × Bool)) × Int) → Option (((List (Int × Bool)) × Int) ⊕ ((List (Int × Bool)) ⊕ ((List (Int × Bool)) × Int))) := fun ((l726, i731) : ((List (Int × Bool)) × Int)) => cond (decide (i731 < (((xa.length : Nat) : Int)))) ((getI xa i731).bind fun x805 => cond ((decide (x805.1 < 0)) || (decide ((((xb.length : Nat) : Int)) ≤ x805.1))) (some (.inr ((.inr (([], 7)))))) ((getI xb x805.1).bind fun x840 => (getI xa i731).bind fun x849 => (app l726 (([(x840, x849.2)] : List (Int × Bool)))).bind fun z861 => some (.inl ((z861, IntKind.wrap .i64 (i731 + 1)))))) (some (.inr (.inl l726)))
noncomputable def fn_ref15_Subst (xa : (List (Int × Bool))) (xb : (List Int)) : Option (((List (Int × Bool)) × Int)) :=
  (loop (fn_ref15_Subst_l1 xa xb) ((([] : List (Int × Bool)), 0)) : Option ((List (Int × Bool)) ⊕ ((List (Int × Bool)) × Int))).bind fun o => match o with | .inr r => some r | .inl l651 => some ((l651, 0))
noncomputable def fn_ref17_Call_l1 (xa : (Int × (List (Int × Int)) × (List (List (Int × Bool))) × (List (Int × Bool)))) (xb : (List Int)) : ((List (Int × Int × Int × Int × Bool)) × Int) → Option (((List (Int × Int × Int × Int × Bool)) × Int) ⊕ (List (Int × Int × Int × Int × Bool))) := fun ((l1593, i1598) : ((List (Int × Int × Int × Int × Bool)) × Int)) => cond (decide (i1598 < (((xa.2.1.length : Nat) : Int)))) ((getI xa.2.1 i1598).bind fun x1734 => (getI xb x1734.1).bind fun x1743 => (getI xa.2.1 i1598).bind fun x1752 => (getI xb x1752.2).bind fun x1761 => (app l1593 (([(x1743, x1761, 4, i1598, false)] : List (Int × Int × Int × Int × Bool)))).bind fun z1773 => some (.inl ((z1773, IntKind.wrap .i64 (i1598 + 1))))) (some (.inr (l1593)))
noncomputable def fn_ref17_Call_l2 (xa : (Int × (List (Int × Int)) × (List (List (Int × Bool))) × (List (Int × Bool)))) (xb : (List Int)) (xc : (List (List (Int × Bool)))) : ((List (Int × Int × Int × Int × Bool)) × Int) → Option (((List (Int × Int × Int × Int × Bool)) × Int) ⊕ ((List (Int × Int × Int × Int × Bool)) ⊕ ((List (Int × Int × Int × Int × Bool)) × Int))) := fun ((l2168, i2173) : ((List (Int × Int × Int × Int × Bool)) × Int)) => cond (decide (i2173 < (((xa.2.2.1.length : Nat) : Int)))) ((getI xa.2.2.1 i2173).bind fun x2273 => (fn_ref15_Subst x2273 xb).bind fun (l2288, i2289) => (getI xc i2173).bind fun x2325 => (fn_ref16_Flow x2325 l2288 5 (IntKind.wrap .i64 (16 * i2173))).bind fun (l2343, i2344) => cond (!decide (i2344 = 0)) (some (.inr ((.inr (([], i2344)))))) ((app l2168 l2343).bind fun z2354 => some (.inl ((z2354, IntKind.wrap .i64 (i2173 + 1)))))) (some (.inr (.inl l2168)))
noncomputable def fn_ref17_Call (xa : (Int × (List (Int × Int)) × (List (List (Int × Bool))) × (List (Int × Bool)))) (xb : (List Int)) (xc : (List (List (Int × Bool)))) (xd : (List (Int × Bool))) : Option (((List (Int × Int × Int × Int × Bool)) × Int)) :=
  (fn_ref17_Check (xa.1, xa.2.1, xa.2.2.1, xa.2.2.2)).bind fun i1204 => cond (!decide (i1204 = 0)) (some (([], i1204))) (cond ((!decide ((((xb.length : Nat) : Int)) = xa.1)) || (!decide ((((xc.length : Nat) : Int)) = (((xa.2.2.1.length : Nat) : Int))))) (some (([], 2))) ((loop (fn_ref17_Call_l1 xa xb) ((([] : List (Int × Int × Int × Int × Bool)), 0)) : Option ((List (Int × Int × Int × Int × Bool)))).bind fun l1495 => (loop (fn_ref17_Call_l2 xa xb xc) (l1495, 0) : Option ((List (Int × Int × Int × Int × Bool)) ⊕ ((List (Int × Int × Int × Int × Bool)) × Int))).bind fun o => match o with | .inr r => some r | .inl l2067 => (fn_ref15_Subst xa.2.2.2 xb).bind fun (l2365, i2366) => (fn_ref16_Flow l2365 xd 6 0).bind fun (l2380, i2381) => cond (!decide (i2381 = 0)) (some (([], i2381))) ((app l2067 l2380).bind fun z2391 => some ((z2391, 0)))))
noncomputable def fn_ref19_Needs_l1 (xa : (Int × Int × Int × (List Int) × (List Int) × (List Int))) (xb : (Int × Int × (List (List (Int × Bool))) × (List (Int × Bool)) × (List (Int × (List (Int × Int)) × (List (List (Int × Bool))) × (List (Int × Bool)))))) : ((List (List (Int × Bool))) × Int) → Option (((List (List (Int × Bool))) × Int) ⊕ (List (List (Int × Bool)))) := fun ((l1145, i1150) : ((List (List (Int × Bool))) × Int)) => cond (decide (i1150 < (((xa.2.2.2.2.1.length : Nat) : Int)))) ((getI xa.2.2.2.2.1 i1150).bind fun x1244 => (getI xb.2.2.1 x1244).bind fun x1253 => (app l1145 (([x1253] : List (List (Int × Bool))))).bind fun z1269 => some (.inl ((z1269, IntKind.wrap .i64 (i1150 + 1))))) (some (.inr (l1145)))
noncomputable def fn_ref19_Needs (xa : (Int × Int × Int × (List Int) × (List Int) × (List Int))) (xb : (Int × Int × (List (List (Int × Bool))) × (List (Int × Bool)) × (List (Int × (List (Int × Int)) × (List (List (Int × Bool))) × (List (Int × Bool)))))) : Option (((List (Int × Int × Int × Int × Bool)) × Int)) :=
  (fn_ref19_Form (xa.1, xa.2.1, xa.2.2.1, xa.2.2.2.1, xa.2.2.2.2.1, xa.2.2.2.2.2)).bind fun i692 => cond (!decide (i692 = 0)) (some (([], i692))) ((fn_ref19_within xa.2.2.2.1 xb.1).bind fun t700 => (cond (!t700) (some (true)) ((fn_ref19_within xa.2.2.2.2.1 (((xb.2.2.1.length : Nat) : Int))).bind fun t716 => some (!t716))).bind fun t711 => (cond (t711) (some (true)) ((fn_ref19_within xa.2.2.2.2.2 xb.2.1).bind fun t732 => some (!t732))).bind fun t727 => cond (t727) (some (([], 7))) ((cond (decide (xa.1 = 4)) ((fn_ref19_within ([xa.2.2.1] : List Int) (((xb.2.2.1.length : Nat) : Int))).bind fun t790 => (cond (!t790) (some (true)) ((fn_ref19_within ([xa.2.1] : List Int) (((xb.2.2.2.2.length : Nat) : Int))).bind fun t818 => some (!t818))).bind fun t807 => some (t807)) (some (false))).bind fun t779 => cond (t779) (some (([], 7))) (cond ((decide (xa.1 = 3)) && (decide ((((xb.2.2.1.length : Nat) : Int)) = 0))) (some (([], 14))) (cond (decide (xa.1 = 3)) ((getI xb.2.2.1 0).bind fun x854 => (fn_ref16_Flow x854 xb.2.2.2.1 7 0).bind fun (l869, i870) => some ((l869, i870))) (cond (decide (xa.1 = 4)) ((loop (fn_ref19_Needs_l1 xa xb) ((([] : List (List (Int × Bool))), 0)) : Option ((List (List (Int × Bool))))).bind fun l1075 => (getI xb.2.2.2.2 xa.2.1).bind fun x1325 => (getI xb.2.2.1 xa.2.2.1).bind fun x1346 => (fn_ref17_Call (x1325.1, x1325.2.1, x1325.2.2.1, x1325.2.2.2) xa.2.2.2.2.2 l1075 x1346).bind fun (l1364, i1365) => some ((l1364, i1365))) (some (([], 0))))))))
noncomputable def fn_tick_Counter_Add_zii (xb : Int) (xc : Int) : Option Unit :=
  some (())
set_option maxRecDepth 100000 in
set_option maxHeartbeats 4000000 in
theorem tick_Counter_Add_zii_ok {K : Hp} {xb : Int} {xc : Int}   {r : Unit} (h : fn_tick_Counter_Add_zii xb xc = some r) :
    Tr Try.prog 19 #[.pointer none, ii xb, ii xc] K [] (fun v K' L' => (() = r ∧ .tuple #[] = v ∧ L' = []) ∧ K = K') := by
 refine Tr.k <| Tr.of Try.func19 rfl Try.ntmps19 rfl fun E F => ?_
 unfold fn_tick_Counter_Add_zii at h
 refine cr <| jm (.pointer none) rfl <| jv (.bool false) (Val.eq (V.pn_neq Try.underlying41 rfl rfl) rfl) <| jm (.bool false) rfl <| J.skip rfl rfl rfl rfl rfl <| J.skip rfl rfl rfl rfl rfl ?_
 refine jv (.bool false) (V.pickF rfl rfl rfl) <| jm (.bool false) rfl <| J.skip rfl rfl rfl rfl rfl <| J.skip rfl rfl rfl rfl rfl <| jv (.bool false) (V.pickF rfl rfl rfl) <| J.nil <| CJ.condK (b := false) rfl rfl ?_
 refine CJ.skip ?_
 obtain rfl := si h
 exact ⟨_, _, Res.zero rfl, ⟨rfl, rfl, rfl⟩, (Hp.le_refl _), fun w hs => hs⟩

noncomputable def fn_valid_head_az (xa : (Int × Int × (List (Int × Int)) × (List (List (Int × Bool))) × (List (Int × Bool)) × (List (Int × (List (Int × Int)) × (List (List (Int × Bool))) × (List (Int × Bool)))) × (List ((List (Int × Int × Int × Int × Bool)) × (Int × Int × Int × (List Int) × (List Int) × (List Int)))))) : Option (Int × Int × Int × Int) :=
  cond ((decide (xa.1 < 1)) || (decide (xa.2.1 < xa.1))) (some ((7, 0, 0, 0))) (cond (decide (65536 < xa.2.1)) (some ((6, 0, 0, 0))) (some ((0, 0, 0, 0))))
set_option maxRecDepth 100000 in
set_option maxHeartbeats 4000000 in
theorem valid_head_az_ok {K : Hp} {xa : (Int × Int × (List (Int × Int)) × (List (List (Int × Bool))) × (List (Int × Bool)) × (List (Int × (List (Int × Int)) × (List (List (Int × Bool))) × (List (Int × Bool)))) × (List ((List (Int × Int × Int × Int × Bool)) × (Int × Int × Int × (List Int) × (List Int) × (List Int)))))} {adxa_2 : Option Addr} {cpxa_2 : Nat} {adxa_3 : Option Addr} {cpxa_3 : Nat} {adxa_4 : Option Addr} {cpxa_4 : Nat} {adxa_5 : Option Addr} {cpxa_5 : Nat} {adxa_6 : Option Addr} {cpxa_6 : Nat} (fxa_2 : Is K (.sl (.cons (.int .i64) (.one (.int .i64)))) [.slice adxa_2 xa.2.2.1.length cpxa_2] xa.2.2.1) (fxa_3 : Is K (.sl (.one (.sl (.cons (.int .i64) (.one .bool))))) [.slice adxa_3 xa.2.2.2.1.length cpxa_3] xa.2.2.2.1) (fxa_4 : Is K (.sl (.cons (.int .i64) (.one .bool))) [.slice adxa_4 xa.2.2.2.2.1.length cpxa_4] xa.2.2.2.2.1) (fxa_5 : Is K (.sl (.cons (.int .i64) (.cons (.sl (.cons (.int .i64) (.one (.int .i64)))) (.cons (.sl (.one (.sl (.cons (.int .i64) (.one .bool))))) (.one (.one (.sl (.cons (.int .i64) (.one .bool))))))))) [.slice adxa_5 xa.2.2.2.2.2.1.length cpxa_5] xa.2.2.2.2.2.1) (fxa_6 : Is K (.sl (.cons (.sl (.cons (.int .i64) (.cons (.int .i64) (.cons (.int .i64) (.cons (.int .i64) (.one .bool)))))) (.one (.cons (.int .i64) (.cons (.int .i64) (.cons (.int .i64) (.cons (.sl (.int .i64)) (.cons (.sl (.int .i64)) (.one (.sl (.int .i64))))))))))) [.slice adxa_6 xa.2.2.2.2.2.2.length cpxa_6] xa.2.2.2.2.2.2) {r : (Int × Int × Int × Int)} (h : fn_valid_head_az xa = some r) :
    Tr Try.prog 20 #[.agg #[ii xa.1, ii xa.2.1, .slice adxa_2 xa.2.2.1.length cpxa_2, .slice adxa_3 xa.2.2.2.1.length cpxa_3, .slice adxa_4 xa.2.2.2.2.1.length cpxa_4, .slice adxa_5 xa.2.2.2.2.2.1.length cpxa_5, .slice adxa_6 xa.2.2.2.2.2.2.length cpxa_6], .pointer none] K [] (fun v K' L' => (∃ (i9 : Int) (i10 : Int) (i11 : Int) (i12 : Int), (i9, i10, i11, i12) = r ∧ .agg #[ii i9, ii i10, ii i11, ii i12] = v ∧ L' = []) ∧ K = K') := by
 refine Tr.k <| Tr.of Try.func20 rfl Try.ntmps20 rfl fun E F => ?_
 unfold fn_valid_head_az at h
 refine cr <| jbx [ii xa.1, ii xa.2.1, .slice adxa_2 xa.2.2.1.length cpxa_2, .slice adxa_3 xa.2.2.2.1.length cpxa_3, .slice adxa_4 xa.2.2.2.2.1.length cpxa_4, .slice adxa_5 xa.2.2.2.2.2.1.length cpxa_5, .slice adxa_6 xa.2.2.2.2.2.2.length cpxa_6] rfl rfl fun b13 => jal inf39 [ii 0, ii 0, ii 0, ii 0] rfl fun b14 => J.nil <| CJ.seq <| CJ.region ?_
 refine jv (.agg #[ii 0, ii 0, ii 0, ii 0]) (V.build inf39 places39 rfl rfl) <| jal inf39 [ii 0, ii 0, ii 0, ii 0] rfl fun b15 => js [ii 0, ii 0, ii 0, ii 0] sz39 rfl rfl rfl rfl rfl rfl <| J.nil <| CJ.seq <| CJ.block <| CJ.seq ?_
 refine CJ.region <| jv _ (V.fad Try.underlying30 rfl nz3 rfl) <| jv (ii xa.1) (V.ld rfl (Ld.sc sc3 (Rd.cl 2 rfl rfl))) <| jv (.bool (decide (xa.1 < 1))) (V.lss rfl rfl) <| jm (.bool (decide (xa.1 < 1))) rfl <| J.cut 6 <| jmeet [(17, .bool ((decide (xa.1 < 1)) || (decide (xa.2.1 < xa.1)))), (2, .pointer (some ⟨b13, 0, none⟩)), (4, .pointer (some ⟨b14, 0, none⟩)), (5, .pointer (some ⟨b15, 0, none⟩))] ?_ ?_
 · rcases bt (decide (xa.1 < 1)) with hc18 | hc18
   · refine J.skip rfl rfl rfl rfl hc18 <| J.skip rfl rfl rfl rfl hc18 <| J.skip rfl rfl rfl rfl hc18 <| J.skip rfl rfl rfl rfl hc18 <| J.skip rfl rfl rfl rfl hc18 <| jv (.bool true) (V.pickT rfl hc18 rfl) <| J.nil ?_
     exact ⟨rfl, ⟨(by simp only [hc18]; rfl), rfl, rfl, rfl, trivial⟩, rfl, rfl⟩
   refine J.run rfl rfl rfl hc18 <| jv _ (V.fad Try.underlying30 rfl nz3 rfl) <| J.run rfl rfl rfl hc18 <| jv (ii xa.2.1) (V.ld rfl (Ld.sc sc3 (Rd.cl 2 rfl rfl))) <| J.run rfl rfl rfl hc18 <| jv _ (V.fad Try.underlying30 rfl nz3 rfl) <| J.run rfl rfl rfl hc18 ?_
   refine jv (ii xa.1) (V.ld rfl (Ld.sc sc3 (Rd.cl 2 rfl rfl))) <| J.run rfl rfl rfl hc18 <| jv (.bool (decide (xa.2.1 < xa.1))) (V.lss rfl rfl) <| jv (.bool (decide (xa.2.1 < xa.1))) (V.pickF rfl hc18 rfl) <| J.nil ?_
   exact ⟨rfl, ⟨(by simp only [hc18]; rfl), rfl, rfl, rfl, trivial⟩, rfl, rfl⟩
 intro ρ
 refine ja (.bool ((decide (xa.1 < 1)) || (decide (xa.2.1 < xa.1)))) rfl <| J.nil <| cc rfl h (fun hc19 h => ?_) fun hc19 h => ?_
 · refine CJ.region <| jv _ (V.fad Try.underlying39 rfl nz31 rfl) <| js1 [ii 7, ii 0, ii 0, ii 0] sz31 rfl rfl rfl rfl rfl rfl <| J.nil <| cr <| jv (.agg #[ii 7, ii 0, ii 0, ii 0]) (V.ld rfl (Ld.agg (cs := [ii 7, ii 0, ii 0, ii 0]) Try.underlying39 sz39 rfl (Rd.cls 0 0 rfl rfl))) ?_
   refine J.front 1 rfl <| js [ii 7, ii 0, ii 0, ii 0] sz39 rfl rfl rfl rfl rfl rfl <| J.nil <| CJ.ret ?_
   obtain rfl := si h
   exact ⟨_, _, Res.one rfl ⟨_, _, rfl, Ld.agg (cs := [ii 7, ii 0, ii 0, ii 0]) Try.underlying39 sz39 rfl (Rd.cls 0 0 rfl rfl)⟩, ⟨7, 0, 0, 0, rfl, rfl, rfl⟩, (Hp.le_refl _), fun w hs => (Sep.dropAt 0 rfl (Sep.dropAt 0 rfl (Sep.dropAt 0 rfl hs)))⟩
 refine cr <| jv _ (V.fad Try.underlying30 rfl nz3 rfl) <| jv (ii xa.2.1) (V.ld rfl (Ld.sc sc3 (Rd.cl 2 rfl rfl))) <| jv (.bool (decide (65536 < xa.2.1))) (V.gtr rfl rfl) <| ja (.bool (decide (65536 < xa.2.1))) rfl <| J.nil ?_
 refine cc rfl h (fun hc20 h => ?_) fun hc20 h => ?_
 · refine CJ.region <| jv _ (V.fad Try.underlying39 rfl nz31 rfl) <| js1 [ii 6, ii 0, ii 0, ii 0] sz31 rfl rfl rfl rfl rfl rfl <| J.nil <| cr <| jv (.agg #[ii 6, ii 0, ii 0, ii 0]) (V.ld rfl (Ld.agg (cs := [ii 6, ii 0, ii 0, ii 0]) Try.underlying39 sz39 rfl (Rd.cls 0 0 rfl rfl))) ?_
   refine J.front 1 rfl <| js [ii 6, ii 0, ii 0, ii 0] sz39 rfl rfl rfl rfl rfl rfl <| J.nil <| CJ.ret ?_
   obtain rfl := si h
   exact ⟨_, _, Res.one rfl ⟨_, _, rfl, Ld.agg (cs := [ii 6, ii 0, ii 0, ii 0]) Try.underlying39 sz39 rfl (Rd.cls 0 0 rfl rfl)⟩, ⟨6, 0, 0, 0, rfl, rfl, rfl⟩, (Hp.le_refl _), fun w hs => (Sep.dropAt 0 rfl (Sep.dropAt 0 rfl (Sep.dropAt 0 rfl hs)))⟩
 refine CJ.skip <| cr <| jv (.agg #[ii 0, ii 0, ii 0, ii 0]) (V.ld rfl (Ld.agg (cs := [ii 0, ii 0, ii 0, ii 0]) Try.underlying39 sz39 rfl (Rd.cls 0 0 rfl rfl))) <| J.front 1 rfl <| js [ii 0, ii 0, ii 0, ii 0] sz39 rfl rfl rfl rfl rfl rfl <| J.nil ?_
 refine CJ.ret ?_
 obtain rfl := si h
 exact ⟨_, _, Res.one rfl ⟨_, _, rfl, Ld.agg (cs := [ii 0, ii 0, ii 0, ii 0]) Try.underlying39 sz39 rfl (Rd.cls 0 0 rfl rfl)⟩, ⟨0, 0, 0, 0, rfl, rfl, rfl⟩, (Hp.le_refl _), fun w hs => (Sep.dropAt 0 rfl (Sep.dropAt 0 rfl (Sep.dropAt 0 rfl hs)))⟩

noncomputable def fn_valid_bounds_1_ip0_iikkkkk (xa : Int) (qa0 : Int) (qa1 : Int) (qa2 : (List (Int × Int))) (qa3 : (List (List (Int × Bool)))) (qa4 : (List (Int × Bool))) (qa5 : (List (Int × (List (Int × Int)) × (List (List (Int × Bool))) × (List (Int × Bool))))) (qa6 : (List ((List (Int × Int × Int × Int × Bool)) × (Int × Int × Int × (List Int) × (List Int) × (List Int))))) : Option Bool :=
  some ((decide (0 ≤ xa)) && (decide (xa < qa0)))
set_option maxRecDepth 100000 in
set_option maxHeartbeats 4000000 in
theorem valid_bounds_1_ip0_iikkkkk_ok {K : Hp} {xa : Int} {qa0 : Int} {qa1 : Int} {qa2 : (List (Int × Int))} {qa3 : (List (List (Int × Bool)))} {qa4 : (List (Int × Bool))} {qa5 : (List (Int × (List (Int × Int)) × (List (List (Int × Bool))) × (List (Int × Bool))))} {qa6 : (List ((List (Int × Int × Int × Int × Bool)) × (Int × Int × Int × (List Int) × (List Int) × (List Int))))} {pba : Nat} {adqa2 : Option Addr} {cpqa2 : Nat} {adqa3 : Option Addr} {cpqa3 : Nat} {adqa4 : Option Addr} {cpqa4 : Nat} {adqa5 : Option Addr} {cpqa5 : Nat} {adqa6 : Option Addr} {cpqa6 : Nat} (fqa2 : Is K (.sl (.cons (.int .i64) (.one (.int .i64)))) [.slice adqa2 qa2.length cpqa2] qa2) (fqa3 : Is K (.sl (.one (.sl (.cons (.int .i64) (.one .bool))))) [.slice adqa3 qa3.length cpqa3] qa3) (fqa4 : Is K (.sl (.cons (.int .i64) (.one .bool))) [.slice adqa4 qa4.length cpqa4] qa4) (fqa5 : Is K (.sl (.cons (.int .i64) (.cons (.sl (.cons (.int .i64) (.one (.int .i64)))) (.cons (.sl (.one (.sl (.cons (.int .i64) (.one .bool))))) (.one (.one (.sl (.cons (.int .i64) (.one .bool))))))))) [.slice adqa5 qa5.length cpqa5] qa5) (fqa6 : Is K (.sl (.cons (.sl (.cons (.int .i64) (.cons (.int .i64) (.cons (.int .i64) (.cons (.int .i64) (.one .bool)))))) (.one (.cons (.int .i64) (.cons (.int .i64) (.cons (.int .i64) (.cons (.sl (.int .i64)) (.cons (.sl (.int .i64)) (.one (.sl (.int .i64))))))))))) [.slice adqa6 qa6.length cpqa6] qa6) {r : Bool} (h : fn_valid_bounds_1_ip0_iikkkkk xa qa0 qa1 qa2 qa3 qa4 qa5 qa6 = some r) :
    Tr Try.prog 32 #[ii xa, .pointer (some ⟨pba, 0, none⟩)] K [Cl pba 30 [ii qa0, ii qa1, .slice adqa2 qa2.length cpqa2, .slice adqa3 qa3.length cpqa3, .slice adqa4 qa4.length cpqa4, .slice adqa5 qa5.length cpqa5, .slice adqa6 qa6.length cpqa6]] (fun v K' L' => (∃ (t4 : Bool), t4 = r ∧ .bool t4 = v ∧ L' = [Cl pba 30 [ii qa0, ii qa1, .slice adqa2 qa2.length cpqa2, .slice adqa3 qa3.length cpqa3, .slice adqa4 qa4.length cpqa4, .slice adqa5 qa5.length cpqa5, .slice adqa6 qa6.length cpqa6]]) ∧ K = K') := by
 refine Tr.k <| Tr.of Try.func32 rfl Try.ntmps32 rfl fun E F => ?_
 unfold fn_valid_bounds_1_ip0_iikkkkk at h
 refine cr <| ja (.bool false) rfl <| J.nil <| cr <| jm (ii xa) rfl ?_
 refine jv (.bool (decide (0 ≤ xa))) (V.geq rfl rfl) <| jm (.bool (decide (0 ≤ xa))) rfl <| J.cut 5 <| jmeet [(11, .bool ((decide (0 ≤ xa)) && (decide (xa < qa0))))] ?_ ?_
 · rcases bt (decide (0 ≤ xa)) with hc7 | hc7
   · refine J.run rfl rfl rfl hc7 <| jm (ii xa) rfl <| J.run rfl rfl rfl hc7 <| jv _ (V.fad Try.underlying30 rfl nz3 rfl) <| J.run rfl rfl rfl hc7 <| jv (ii qa0) (V.ld rfl (Ld.sc sc3 (Rd.cl 0 rfl rfl))) <| J.run rfl rfl rfl hc7 ?_
     refine jv (.bool (decide (xa < qa0))) (V.lss rfl rfl) <| jv (.bool (decide (xa < qa0))) (V.pickT rfl hc7 rfl) <| J.nil ?_
     exact ⟨rfl, ⟨(by simp only [hc7]; rfl), trivial⟩, rfl, rfl⟩
   refine J.skip rfl rfl rfl rfl hc7 <| J.skip rfl rfl rfl rfl hc7 <| J.skip rfl rfl rfl rfl hc7 <| J.skip rfl rfl rfl rfl hc7 <| jv (.bool false) (V.pickF rfl hc7 rfl) <| J.nil ?_
   exact ⟨rfl, ⟨(by simp only [hc7]; rfl), trivial⟩, rfl, rfl⟩
 intro ρ
 refine ja (.bool ((decide (0 ≤ xa)) && (decide (xa < qa0)))) rfl <| J.nil <| CJ.ret ?_
 obtain rfl := si h
 exact ⟨_, _, Res.one rfl rfl, ⟨(decide (0 ≤ xa)) && (decide (xa < qa0)), rfl, rfl, rfl⟩, (Hp.le_refl _), fun w hs => hs⟩
noncomputable def fn_valid_bounds_az_l1 (xa : (Int × Int × (List (Int × Int)) × (List (List (Int × Bool))) × (List (Int × Bool)) × (List (Int × (List (Int × Int)) × (List (List (Int × Bool))) × (List (Int × Bool)))) × (List ((List (Int × Int × Int × Int × Bool)) × (Int × Int × Int × (List Int) × (List Int) × (List Int)))))) : Int → Option (Int ⊕ (Unit ⊕ (Int × Int × Int × Int))) := fun (i430 : Int) => cond (decide (i430 < (((xa.2.2.1.length : Nat) : Int)))) ((getI xa.2.2.1 i430).bind fun x476 => (fn_tick_Counter_Add_zii 1 1).bind fun _ => (fn_valid_bounds_1_ip0_iikkkkk x476.1 xa.1 xa.2.1 xa.2.2.1 xa.2.2.2.1 xa.2.2.2.2.1 xa.2.2.2.2.2.1 xa.2.2.2.2.2.2).bind fun t493 => (cond (!t493) (some (true)) ((fn_valid_bounds_1_ip0_iikkkkk x476.2 xa.1 xa.2.1 xa.2.2.1 xa.2.2.2.1 xa.2.2.2.2.1 xa.2.2.2.2.2.1 xa.2.2.2.2.2.2).bind fun t509 => some (!t509))).bind fun t504 => cond (t504) (some (.inr ((.inr ((7, 1, i430, 0)))))) (some (.inl (IntKind.wrap .i64 (i430 + 1))))) (some (.inr ((.inl ()))))
noncomputable def fn_valid_bounds_az (xa : (Int × Int × (List (Int × Int)) × (List (List (Int × Bool))) × (List (Int × Bool)) × (List (Int × (List (Int × Int)) × (List (List (Int × Bool))) × (List (Int × Bool)))) × (List ((List (Int × Int × Int × Int × Bool)) × (Int × Int × Int × (List Int) × (List Int) × (List Int)))))) : Option (Int × Int × Int × Int) :=
  cond (decide (65536 < (((xa.2.2.1.length : Nat) : Int)))) (some ((6, 1, 0, 0))) ((loop (fn_valid_bounds_az_l1 xa) 0 : Option (Unit ⊕ (Int × Int × Int × Int))).bind fun o => match o with | .inr r => some r | .inl () => some ((0, 0, 0, 0)))
set_option maxRecDepth 100000 in
set_option maxHeartbeats 4000000 in
theorem valid_bounds_az_ok {K : Hp} {xa : (Int × Int × (List (Int × Int)) × (List (List (Int × Bool))) × (List (Int × Bool)) × (List (Int × (List (Int × Int)) × (List (List (Int × Bool))) × (List (Int × Bool)))) × (List ((List (Int × Int × Int × Int × Bool)) × (Int × Int × Int × (List Int) × (List Int) × (List Int)))))} {adxa_2 : Option Addr} {cpxa_2 : Nat} {adxa_3 : Option Addr} {cpxa_3 : Nat} {adxa_4 : Option Addr} {cpxa_4 : Nat} {adxa_5 : Option Addr} {cpxa_5 : Nat} {adxa_6 : Option Addr} {cpxa_6 : Nat} (fxa_2 : Is K (.sl (.cons (.int .i64) (.one (.int .i64)))) [.slice adxa_2 xa.2.2.1.length cpxa_2] xa.2.2.1) (fxa_3 : Is K (.sl (.one (.sl (.cons (.int .i64) (.one .bool))))) [.slice adxa_3 xa.2.2.2.1.length cpxa_3] xa.2.2.2.1) (fxa_4 : Is K (.sl (.cons (.int .i64) (.one .bool))) [.slice adxa_4 xa.2.2.2.2.1.length cpxa_4] xa.2.2.2.2.1) (fxa_5 : Is K (.sl (.cons (.int .i64) (.cons (.sl (.cons (.int .i64) (.one (.int .i64)))) (.cons (.sl (.one (.sl (.cons (.int .i64) (.one .bool))))) (.one (.one (.sl (.cons (.int .i64) (.one .bool))))))))) [.slice adxa_5 xa.2.2.2.2.2.1.length cpxa_5] xa.2.2.2.2.2.1) (fxa_6 : Is K (.sl (.cons (.sl (.cons (.int .i64) (.cons (.int .i64) (.cons (.int .i64) (.cons (.int .i64) (.one .bool)))))) (.one (.cons (.int .i64) (.cons (.int .i64) (.cons (.int .i64) (.cons (.sl (.int .i64)) (.cons (.sl (.int .i64)) (.one (.sl (.int .i64))))))))))) [.slice adxa_6 xa.2.2.2.2.2.2.length cpxa_6] xa.2.2.2.2.2.2) {r : (Int × Int × Int × Int)} (h : fn_valid_bounds_az xa = some r) :
    Tr Try.prog 21 #[.agg #[ii xa.1, ii xa.2.1, .slice adxa_2 xa.2.2.1.length cpxa_2, .slice adxa_3 xa.2.2.2.1.length cpxa_3, .slice adxa_4 xa.2.2.2.2.1.length cpxa_4, .slice adxa_5 xa.2.2.2.2.2.1.length cpxa_5, .slice adxa_6 xa.2.2.2.2.2.2.length cpxa_6], .pointer none] K [] (fun v K' L' => (∃ (i257 : Int) (i258 : Int) (i259 : Int) (i260 : Int), (i257, i258, i259, i260) = r ∧ .agg #[ii i257, ii i258, ii i259, ii i260] = v ∧ L' = []) ∧ K = K') := by
 refine Tr.k <| Tr.of Try.func21 rfl Try.ntmps21 rfl fun E F => ?_
 unfold fn_valid_bounds_az at h
 refine cr <| jbx [ii xa.1, ii xa.2.1, .slice adxa_2 xa.2.2.1.length cpxa_2, .slice adxa_3 xa.2.2.2.1.length cpxa_3, .slice adxa_4 xa.2.2.2.2.1.length cpxa_4, .slice adxa_5 xa.2.2.2.2.2.1.length cpxa_5, .slice adxa_6 xa.2.2.2.2.2.2.length cpxa_6] rfl rfl fun b261 => jal inf39 [ii 0, ii 0, ii 0, ii 0] rfl fun b262 => J.nil <| CJ.seq <| CJ.seq ?_
 refine CJ.region <| jv _ (V.fad Try.underlying30 rfl nz22 rfl) <| jv (.slice adxa_2 xa.2.2.1.length cpxa_2) (V.ld rfl (Ld.sc sc22 (Rd.cl 1 rfl rfl))) <| jv (ii (((xa.2.2.1.length : Nat) : Int))) (V.len Try.underlying22 rfl) <| jv (.bool (decide (65536 < (((xa.2.2.1.length : Nat) : Int))))) (V.gtr rfl rfl) <| J.nil <| cc rfl h (fun hc263 h => ?_) fun hc263 h => ?_
 · refine cr <| jv (.agg #[ii 6, ii 1, ii 0, ii 0]) (V.build inf39 places39 rfl rfl) <| js [ii 6, ii 1, ii 0, ii 0] sz39 rfl rfl rfl rfl rfl rfl <| J.nil <| CJ.ret ?_
   obtain rfl := si h
   exact ⟨_, _, Res.one rfl ⟨_, _, rfl, Ld.agg (cs := [ii 6, ii 1, ii 0, ii 0]) Try.underlying39 sz39 rfl (Rd.cls 0 0 rfl rfl)⟩, ⟨6, 1, 0, 0, rfl, rfl, rfl⟩, (Hp.le_refl _), fun w hs => (Sep.dropAt 0 rfl (Sep.dropAt 0 rfl hs))⟩
 refine CJ.skip <| cr <| jv (.func (.func 32) #[] #[.pointer (some ⟨b261, 0, none⟩)]) (V.mkf rfl) <| ja (.func (.func 32) #[] #[.pointer (some ⟨b261, 0, none⟩)]) rfl <| J.nil <| CJ.seq ?_
 refine cr <| jv _ (V.fad Try.underlying30 rfl nz22 rfl) <| jv (.slice adxa_2 xa.2.2.1.length cpxa_2) (V.ld rfl (Ld.sc sc22 (Rd.cl 1 rfl rfl))) <| jv (ii (((xa.2.2.1.length : Nat) : Int))) (V.len Try.underlying22 rfl) <| jm (ii 0) rfl <| J.nil ?_
 obtain ⟨o388, ho389, h⟩ := ob h
 refine CJ.joinN (o := o388) (fun s ρ K' L' => () = s ∧ Fits [(4, .pointer (some ⟨b262, 0, none⟩))] ρ ∧ K = K' ∧ L' = Cl b262 39 [ii 0, ii 0, ii 0, ii 0] :: F) ?_ ?_
 · refine CJ.block <| CJ.loop (fun s ρ K' L' => ∃ (i430 : Int), i430 = s ∧ Fits [(1, .pointer none), (4, .pointer (some ⟨b262, 0, none⟩)), (5, .func (.func 32) #[] #[.pointer (some ⟨b261, 0, none⟩)]), (15, .slice adxa_2 xa.2.2.1.length cpxa_2), (16, ii (((xa.2.2.1.length : Nat) : Int))), (17, ii i430)] ρ ∧ K = K' ∧ L' = Cl b262 39 [ii 0, ii 0, ii 0, ii 0] :: Cl b261 30 [ii xa.1, ii xa.2.1, .slice adxa_2 xa.2.2.1.length cpxa_2, .slice adxa_3 xa.2.2.2.1.length cpxa_3, .slice adxa_4 xa.2.2.2.2.1.length cpxa_4, .slice adxa_5 xa.2.2.2.2.2.1.length cpxa_5, .slice adxa_6 xa.2.2.2.2.2.2.length cpxa_6] :: F) ho389 ⟨0, rfl, ⟨rfl, rfl, rfl, rfl, rfl, rfl, trivial⟩, rfl, rfl⟩ ?_
   rintro s ρ _ _ r474 ⟨i430, rfl, hf472, rfl, rfl⟩ h471
   obtain ⟨ρ, rfl⟩ := hf472.ex
   refine cr <| jv (.bool (decide (i430 < (((xa.2.2.1.length : Nat) : Int))))) (V.lss rfl rfl) <| J.nil <| CJ.seq <| cc rfl h471 (fun hc475 h471 => ?_) fun hc475 h471 => ?_
   · refine CJ.skip <| CJ.seq <| CJ.block <| cr <| jm (ii i430) rfl ?_
     obtain ⟨x476, hx477, h471⟩ := ob h471
     obtain ⟨p478, p479, p480⟩ := getI_some hx477
     obtain ⟨b481, o482, e483, a484⟩ := (fxa_2).at p479
     refine jv _ (V.iad Try.underlying22 sz50 rfl e483 rfl p478 p480) <| jv (.agg #[ii x476.1, ii x476.2]) (V.ld rfl (Ld.aggK (cs := [ii x476.1, ii x476.2]) Try.underlying50 sz50 rfl ⟨((a484).fst).int, (((a484).snd).one).int, trivial⟩ (Hp.le_refl _))) <| jal inf50 [ii 0, ii 0] rfl fun b485 => ja (ii i430) rfl <| js [ii x476.1, ii x476.2] sz50 rfl rfl rfl rfl rfl rfl <| J.nil <| CJ.seq ?_
     refine CJ.region <| jm (.pointer none) rfl ?_
     obtain ⟨r486, hr487, h471⟩ := ob h471
     refine J.op rfl (A.call (L1 := []) Try.call19 rfl (tick_Counter_Add_zii_ok hr487) rfl rfl) ?_
     rintro _ _ _ ⟨v488, _, rfl, ⟨⟨rfl, rfl, rfl⟩, rfl⟩, _, rfl⟩
     refine J.nil <| cr <| jm (.func (.func 32) #[] #[.pointer (some ⟨b261, 0, none⟩)]) rfl <| jv _ (V.fad Try.underlying50 rfl nz3 rfl) <| jv (ii x476.1) (V.ld rfl (Ld.sc sc3 (Rd.cl 0 rfl rfl))) ?_
     obtain ⟨r491, hr492, h471⟩ := ob h471
     refine J.front 2 rfl <| J.op rfl (A.call (L1 := [Cl b261 30 [ii xa.1, ii xa.2.1, .slice adxa_2 xa.2.2.1.length cpxa_2, .slice adxa_3 xa.2.2.2.1.length cpxa_3, .slice adxa_4 xa.2.2.2.2.1.length cpxa_4, .slice adxa_5 xa.2.2.2.2.2.1.length cpxa_5, .slice adxa_6 xa.2.2.2.2.2.2.length cpxa_6]]) Try.call32 rfl (valid_bounds_1_ip0_iikkkkk_ok fxa_2 fxa_3 fxa_4 fxa_5 fxa_6 hr492) rfl rfl) ?_
     rintro _ _ _ ⟨v494, _, rfl, ⟨⟨t493, rfl, rfl, rfl⟩, rfl⟩, _, rfl⟩
     refine jv (.bool (!t493)) (V.not rfl) <| jm (.bool (!t493)) rfl <| J.cut 6 ?_
     obtain ⟨t504, ht505, h471⟩ := ob h471
     refine jmeet [(35, .bool t504), (1, .pointer none), (4, .pointer (some ⟨b262, 0, none⟩)), (5, .func (.func 32) #[] #[.pointer (some ⟨b261, 0, none⟩)]), (6, ii i430), (15, .slice adxa_2 xa.2.2.1.length cpxa_2), (16, ii (((xa.2.2.1.length : Nat) : Int))), (17, ii i430)] ?_ ?_
     · rcases bt (!t493) with hc506 | hc506
       · have ht505 := ct hc506 ht505
         refine J.skip rfl rfl rfl rfl hc506 <| J.skip rfl rfl rfl rfl hc506 <| J.skip rfl rfl rfl rfl hc506 <| J.skip rfl rfl rfl rfl hc506 <| J.skip rfl rfl rfl rfl hc506 <| jv (.bool true) (V.pickT rfl hc506 rfl) <| J.nil ?_
         obtain rfl := si ht505
         exact ⟨rfl, ⟨rfl, rfl, rfl, rfl, rfl, rfl, rfl, rfl, trivial⟩, rfl, rfl⟩
       have ht505 := cf hc506 ht505
       refine J.run rfl rfl rfl hc506 <| jm (.func (.func 32) #[] #[.pointer (some ⟨b261, 0, none⟩)]) rfl <| J.run rfl rfl rfl hc506 <| jv _ (V.fad Try.underlying50 rfl nz3 rfl) <| J.run rfl rfl rfl hc506 <| jv (ii x476.2) (V.ld rfl (Ld.sc sc3 (Rd.cl 1 rfl rfl))) <| J.run rfl rfl rfl hc506 ?_
       obtain ⟨r507, hr508, ht505⟩ := ob ht505
       refine J.op rfl (A.call (L1 := [Cl b261 30 [ii xa.1, ii xa.2.1, .slice adxa_2 xa.2.2.1.length cpxa_2, .slice adxa_3 xa.2.2.2.1.length cpxa_3, .slice adxa_4 xa.2.2.2.2.1.length cpxa_4, .slice adxa_5 xa.2.2.2.2.2.1.length cpxa_5, .slice adxa_6 xa.2.2.2.2.2.2.length cpxa_6]]) Try.call32 rfl (valid_bounds_1_ip0_iikkkkk_ok fxa_2 fxa_3 fxa_4 fxa_5 fxa_6 hr508) rfl rfl) ?_
       rintro _ _ _ ⟨v510, _, rfl, ⟨⟨t509, rfl, rfl, rfl⟩, rfl⟩, _, rfl⟩
       refine J.run rfl rfl rfl hc506 <| jv (.bool (!t509)) (V.not rfl) <| jv (.bool (!t509)) (V.pickF rfl hc506 rfl) <| J.nil ?_
       obtain rfl := si ht505
       exact ⟨rfl, ⟨rfl, rfl, rfl, rfl, rfl, rfl, rfl, rfl, trivial⟩, rfl, rfl⟩
     intro ρ
     refine J.nil <| cc rfl h471 (fun hc513 h471 => ?_) fun hc513 h471 => ?_
     · refine cr <| jm (ii i430) rfl <| jv (.agg #[ii 7, ii 1, ii i430, ii 0]) (V.build inf39 places39 rfl rfl) <| J.front 2 rfl <| js [ii 7, ii 1, ii i430, ii 0] sz39 rfl rfl rfl rfl rfl rfl <| J.nil ?_
       refine CJ.ret ?_
       obtain rfl := si h471
       refine ⟨nofun, fun e => ?_⟩
       subst e
       refine .inr ⟨nofun, ?_⟩
       obtain rfl := si h
       exact ⟨_, _, Res.one rfl ⟨_, _, rfl, Ld.agg (cs := [ii 7, ii 1, ii i430, ii 0]) Try.underlying39 sz39 rfl (Rd.cls 0 0 rfl rfl)⟩, ⟨7, 1, i430, 0, rfl, rfl, rfl⟩, (Hp.le_refl _), fun w hs => (Sep.dropAt 0 rfl (Sep.dropAt 0 rfl (Sep.dropAt 0 rfl hs)))⟩
     refine CJ.skip <| CJ.region <| jv (ii (IntKind.wrap .i64 (i430 + 1))) (V.add rfl rfl) <| jm (ii (IntKind.wrap .i64 (i430 + 1))) rfl <| J.dropAt 1 rfl <| J.front 1 rfl <| J.nil ?_
     obtain rfl := si h471
     exact ⟨rfl, ⟨IntKind.wrap .i64 (i430 + 1), rfl, ⟨rfl, rfl, rfl, rfl, rfl, rfl, trivial⟩, rfl, rfl⟩⟩
   refine CJ.dropAt 1 rfl <| CJ.exit ?_
   obtain rfl := si h471
   refine ⟨nofun, fun e => ?_⟩
   subst e
   exact .inl ⟨rfl, _, rfl, ⟨rfl, ⟨rfl, trivial⟩, rfl, rfl⟩⟩
 rintro s ρ _ _ ho514 ⟨rfl, hf515, rfl, rfl⟩
 subst ho514
 obtain ⟨ρ, rfl⟩ := hf515.ex
 refine PJ.done <| cr <| jv (.agg #[ii 0, ii 0, ii 0, ii 0]) (V.build inf39 places39 rfl rfl) <| js [ii 0, ii 0, ii 0, ii 0] sz39 rfl rfl rfl rfl rfl rfl <| J.nil <| CJ.ret ?_
 obtain rfl := si h
 exact ⟨_, _, Res.one rfl ⟨_, _, rfl, Ld.agg (cs := [ii 0, ii 0, ii 0, ii 0]) Try.underlying39 sz39 rfl (Rd.cls 0 0 rfl rfl)⟩, ⟨0, 0, 0, 0, rfl, rfl, rfl⟩, (Hp.le_refl _), fun w hs => (Sep.dropAt 0 rfl hs)⟩

noncomputable def fn_row_within_1_ap0_i (xa : (Int × Bool)) (qa0 : Int) : Option Bool :=
  some ((decide (xa.1 < 0)) || (decide (qa0 ≤ xa.1)))
set_option maxRecDepth 100000 in
set_option maxHeartbeats 4000000 in
theorem row_within_1_ap0_i_ok {K : Hp} {xa : (Int × Bool)} {qa0 : Int} {pba : Nat}  {r : Bool} (h : fn_row_within_1_ap0_i xa qa0 = some r) :
    Tr Try.prog 60 #[.agg #[ii xa.1, .bool xa.2], .pointer (some ⟨pba, 0, none⟩)] K [Cl pba 3 [ii qa0]] (fun v K' L' => (∃ (t5 : Bool), t5 = r ∧ .bool t5 = v ∧ L' = [Cl pba 3 [ii qa0]]) ∧ K = K') := by
 refine Tr.k <| Tr.of Try.func60 rfl Try.ntmps60 rfl fun E F => ?_
 unfold fn_row_within_1_ap0_i at h
 refine cr <| jbx [ii xa.1, .bool xa.2] rfl rfl fun b6 => ja (.bool false) rfl <| J.nil <| CJ.seq <| CJ.region ?_
 refine jv _ (V.fad Try.underlying86 rfl nz3 rfl) <| jv (ii xa.1) (V.ld rfl (Ld.sc sc3 (Rd.cl 0 rfl rfl))) <| jv (.bool (decide (xa.1 < 0))) (V.lss rfl rfl) <| jm (.bool (decide (xa.1 < 0))) rfl <| J.cut 5 <| jmeet [(12, .bool ((decide (xa.1 < 0)) || (decide (qa0 ≤ xa.1))))] ?_ ?_
 · rcases bt (decide (xa.1 < 0)) with hc9 | hc9
   · refine J.skip rfl rfl rfl rfl hc9 <| J.skip rfl rfl rfl rfl hc9 <| J.skip rfl rfl rfl rfl hc9 <| J.skip rfl rfl rfl rfl hc9 <| jv (.bool true) (V.pickT rfl hc9 rfl) <| J.nil ?_
     exact ⟨rfl, ⟨(by simp only [hc9]; rfl), trivial⟩, rfl, rfl⟩
   refine J.run rfl rfl rfl hc9 <| jv _ (V.fad Try.underlying86 rfl nz3 rfl) <| J.run rfl rfl rfl hc9 <| jv (ii xa.1) (V.ld rfl (Ld.sc sc3 (Rd.cl 0 rfl rfl))) <| J.run rfl rfl rfl hc9 <| jv (ii qa0) (V.ld rfl (Ld.sc sc3 (Rd.cl 1 rfl rfl))) <| J.run rfl rfl rfl hc9 ?_
   refine jv (.bool (decide (qa0 ≤ xa.1))) (V.geq rfl rfl) <| jv (.bool (decide (qa0 ≤ xa.1))) (V.pickF rfl hc9 rfl) <| J.nil ?_
   exact ⟨rfl, ⟨(by simp only [hc9]; rfl), trivial⟩, rfl, rfl⟩
 intro ρ
 refine ja (.bool ((decide (xa.1 < 0)) || (decide (qa0 ≤ xa.1)))) rfl <| J.nil <| CJ.ret ?_
 obtain rfl := si h
 exact ⟨_, _, Res.one rfl rfl, ⟨(decide (xa.1 < 0)) || (decide (qa0 ≤ xa.1)), rfl, rfl, rfl⟩, (Hp.le_refl _), fun w hs => (Sep.dropAt 0 rfl hs)⟩
noncomputable def fn_slices_IndexFunc_api_Slot_api_Slot_k_row_within_1_p0_i_l1 (xa : (List (Int × Bool))) (qa0 : Int) : Int → Option (Int ⊕ (Unit ⊕ Int)) := fun (i201 : Int) => cond (decide (i201 < (((xa.length : Nat) : Int)))) ((getI xa i201).bind fun x225 => (fn_row_within_1_ap0_i (x225.1, x225.2) qa0).bind fun t236 => cond (t236) (some (.inr ((.inr (i201))))) (some (.inl (IntKind.wrap .i64 (i201 + 1))))) (some (.inr ((.inl ()))))
noncomputable def fn_slices_IndexFunc_api_Slot_api_Slot_k_row_within_1_p0_i (xa : (List (Int × Bool))) (qa0 : Int) : Option Int :=
  (loop (fn_slices_IndexFunc_api_Slot_api_Slot_k_row_within_1_p0_i_l1 xa qa0) 0 : Option (Unit ⊕ Int)).bind fun o => match o with | .inr r => some r | .inl () => some ((-1))
set_option maxRecDepth 100000 in
set_option maxHeartbeats 4000000 in
theorem slices_IndexFunc_api_Slot_api_Slot_k_row_within_1_p0_i_ok {K : Hp} {xa : (List (Int × Bool))} {qa0 : Int} {pba : Nat} {adxa_0 : Option Addr} {cpxa_0 : Nat} (fxa_0 : Is K (.sl (.cons (.int .i64) (.one .bool))) [.slice adxa_0 xa.length cpxa_0] xa) {r : Int} (h : fn_slices_IndexFunc_api_Slot_api_Slot_k_row_within_1_p0_i xa qa0 = some r) :
    Tr Try.prog 72 #[.slice adxa_0 xa.length cpxa_0, .func (.func 60) #[] #[.pointer (some ⟨pba, 0, none⟩)]] K [Cl pba 3 [ii qa0]] (fun v K' L' => (∃ (i122 : Int), i122 = r ∧ ii i122 = v ∧ L' = [Cl pba 3 [ii qa0]]) ∧ K = K') := by
 refine Tr.k <| Tr.of Try.func72 rfl Try.ntmps72 rfl fun E F => ?_
 unfold fn_slices_IndexFunc_api_Slot_api_Slot_k_row_within_1_p0_i at h
 refine cr <| ja (ii 0) rfl <| J.nil <| CJ.seq <| CJ.seq <| CJ.region ?_
 refine jm (.slice adxa_0 xa.length cpxa_0) rfl <| jv (ii (((xa.length : Nat) : Int))) (V.len Try.underlying24 rfl) <| jm (ii 0) rfl <| J.nil ?_
 obtain ⟨o181, ho182, h⟩ := ob h
 refine CJ.joinN (o := o181) (fun s ρ K' L' => () = s ∧ Fits [] ρ ∧ K = K' ∧ L' = Cl pba 3 [ii qa0] :: F) ?_ ?_
 · refine CJ.block <| CJ.loop (fun s ρ K' L' => ∃ (i201 : Int), i201 = s ∧ Fits [(0, .slice adxa_0 xa.length cpxa_0), (1, .func (.func 60) #[] #[.pointer (some ⟨pba, 0, none⟩)]), (7, ii (((xa.length : Nat) : Int))), (8, ii i201)] ρ ∧ K = K' ∧ L' = Cl pba 3 [ii qa0] :: F) ho182 ⟨0, rfl, ⟨rfl, rfl, rfl, rfl, trivial⟩, rfl, rfl⟩ ?_
   rintro s ρ _ _ r223 ⟨i201, rfl, hf221, rfl, rfl⟩ h220
   obtain ⟨ρ, rfl⟩ := hf221.ex
   refine cr <| jv (.bool (decide (i201 < (((xa.length : Nat) : Int))))) (V.lss rfl rfl) <| J.nil <| CJ.seq <| cc rfl h220 (fun hc224 h220 => ?_) fun hc224 h220 => ?_
   · refine CJ.skip <| CJ.seq <| CJ.block <| cr <| jm (ii i201) rfl <| ja (ii i201) rfl ?_
     refine J.nil <| cr <| jm (.func (.func 60) #[] #[.pointer (some ⟨pba, 0, none⟩)]) rfl <| jm (.slice adxa_0 xa.length cpxa_0) rfl <| jm (ii i201) rfl ?_
     obtain ⟨x225, hx226, h220⟩ := ob h220
     obtain ⟨p227, p228, p229⟩ := getI_some hx226
     obtain ⟨b230, o231, e232, a233⟩ := (fxa_0).at p228
     refine jv _ (V.iad Try.underlying24 sz86 rfl e232 rfl p227 p229) <| jv (.agg #[ii x225.1, .bool x225.2]) (V.ld rfl (Ld.aggK (cs := [ii x225.1, .bool x225.2]) Try.underlying86 sz86 rfl ⟨((a233).fst).int, (((a233).snd).one).bool, trivial⟩ (Hp.le_refl _))) ?_
     obtain ⟨r234, hr235, h220⟩ := ob h220
     refine J.op rfl (A.call (L1 := [Cl pba 3 [ii qa0]]) Try.call60 rfl (row_within_1_ap0_i_ok hr235) rfl rfl) ?_
     rintro _ _ _ ⟨v237, _, rfl, ⟨⟨t236, rfl, rfl, rfl⟩, rfl⟩, _, rfl⟩
     refine J.nil <| cc rfl h220 (fun hc240 h220 => ?_) fun hc240 h220 => ?_
     · refine cr <| jm (ii i201) rfl <| ja (ii i201) rfl <| J.nil <| CJ.ret ?_
       obtain rfl := si h220
       refine ⟨nofun, fun e => ?_⟩
       subst e
       refine .inr ⟨nofun, ?_⟩
       obtain rfl := si h
       exact ⟨_, _, Res.one rfl rfl, ⟨i201, rfl, rfl, rfl⟩, (Hp.le_refl _), fun w hs => hs⟩
     refine CJ.skip <| CJ.region <| jv (ii (IntKind.wrap .i64 (i201 + 1))) (V.add rfl rfl) <| jm (ii (IntKind.wrap .i64 (i201 + 1))) rfl <| J.nil ?_
     obtain rfl := si h220
     exact ⟨rfl, ⟨IntKind.wrap .i64 (i201 + 1), rfl, ⟨rfl, rfl, rfl, rfl, trivial⟩, rfl, rfl⟩⟩
   refine CJ.exit ?_
   obtain rfl := si h220
   refine ⟨nofun, fun e => ?_⟩
   subst e
   exact .inl ⟨rfl, _, rfl, ⟨rfl, trivial, rfl, rfl⟩⟩
 rintro s ρ _ _ ho241 ⟨rfl, hf242, rfl, rfl⟩
 subst ho241
 obtain ⟨ρ, rfl⟩ := hf242.ex
 refine PJ.done <| cr <| ja (ii (-1)) rfl <| J.nil <| CJ.ret ?_
 obtain rfl := si h
 exact ⟨_, _, Res.one rfl rfl, ⟨(-1), rfl, rfl, rfl⟩, (Hp.le_refl _), fun w hs => hs⟩

noncomputable def fn_slices_ContainsFunc_api_Slot_api_Slot_k_row_within_1_p0_i (xa : (List (Int × Bool))) (qa0 : Int) : Option Bool :=
  (fn_slices_IndexFunc_api_Slot_api_Slot_k_row_within_1_p0_i xa qa0).bind fun i10 => some (decide (0 ≤ i10))
set_option maxRecDepth 100000 in
set_option maxHeartbeats 4000000 in
theorem slices_ContainsFunc_api_Slot_api_Slot_k_row_within_1_p0_i_ok {K : Hp} {xa : (List (Int × Bool))} {qa0 : Int} {pba : Nat} {adxa_0 : Option Addr} {cpxa_0 : Nat} (fxa_0 : Is K (.sl (.cons (.int .i64) (.one .bool))) [.slice adxa_0 xa.length cpxa_0] xa) {r : Bool} (h : fn_slices_ContainsFunc_api_Slot_api_Slot_k_row_within_1_p0_i xa qa0 = some r) :
    Tr Try.prog 59 #[.slice adxa_0 xa.length cpxa_0, .func (.func 60) #[] #[.pointer (some ⟨pba, 0, none⟩)]] K [Cl pba 3 [ii qa0]] (fun v K' L' => (∃ (t7 : Bool), t7 = r ∧ .bool t7 = v ∧ L' = [Cl pba 3 [ii qa0]]) ∧ K = K') := by
 refine Tr.k <| Tr.of Try.func59 rfl Try.ntmps59 rfl fun E F => ?_
 unfold fn_slices_ContainsFunc_api_Slot_api_Slot_k_row_within_1_p0_i at h
 refine cr <| ja (.bool false) rfl <| J.nil <| cr <| jm (.slice adxa_0 xa.length cpxa_0) rfl ?_
 refine jm (.func (.func 60) #[] #[.pointer (some ⟨pba, 0, none⟩)]) rfl ?_
 obtain ⟨r8, hr9, h⟩ := ob h
 refine J.op rfl (A.call (L1 := [Cl pba 3 [ii qa0]]) Try.call72 rfl (slices_IndexFunc_api_Slot_api_Slot_k_row_within_1_p0_i_ok fxa_0 hr9) rfl rfl) ?_
 rintro _ _ _ ⟨v11, _, rfl, ⟨⟨i10, rfl, rfl, rfl⟩, rfl⟩, _, rfl⟩
 refine jv (.bool (decide (0 ≤ i10))) (V.geq rfl rfl) <| ja (.bool (decide (0 ≤ i10))) rfl <| J.nil <| CJ.ret ?_
 obtain rfl := si h
 exact ⟨_, _, Res.one rfl rfl, ⟨decide (0 ≤ i10), rfl, rfl, rfl⟩, (Hp.le_refl _), fun w hs => hs⟩

noncomputable def fn_row_within (xa : (List (Int × Bool))) (xb : Int) : Option Bool :=
  (fn_slices_ContainsFunc_api_Slot_api_Slot_k_row_within_1_p0_i xa xb).bind fun t14 => some (!t14)
set_option maxRecDepth 100000 in
set_option maxHeartbeats 4000000 in
theorem row_within_ok {K : Hp} {xa : (List (Int × Bool))} {xb : Int} {adxa_0 : Option Addr} {cpxa_0 : Nat} (fxa_0 : Is K (.sl (.cons (.int .i64) (.one .bool))) [.slice adxa_0 xa.length cpxa_0] xa) {r : Bool} (h : fn_row_within xa xb = some r) :
    Tr Try.prog 43 #[.agg #[.slice adxa_0 xa.length cpxa_0], ii xb] K [] (fun v K' L' => (∃ (t9 : Bool), t9 = r ∧ .bool t9 = v ∧ L' = []) ∧ K = K') := by
 refine Tr.k <| Tr.of Try.func43 rfl Try.ntmps43 rfl fun E F => ?_
 unfold fn_row_within at h
 refine cr <| jbx [.slice adxa_0 xa.length cpxa_0] rfl rfl fun b10 => jbx [ii xb] rfl rfl fun b11 => ja (.bool false) rfl <| J.nil <| CJ.seq ?_
 refine CJ.region <| jv _ (V.fad Try.underlying26 rfl nz24 rfl) <| jv (.slice adxa_0 xa.length cpxa_0) (V.ld rfl (Ld.sc sc24 (Rd.cl 1 rfl rfl))) <| jv (.func (.func 60) #[] #[.pointer (some ⟨b11, 0, none⟩)]) (V.mkf rfl) ?_
 obtain ⟨r12, hr13, h⟩ := ob h
 refine J.op rfl (A.call (L1 := [Cl b11 3 [ii xb]]) Try.call59 rfl (slices_ContainsFunc_api_Slot_api_Slot_k_row_within_1_p0_i_ok fxa_0 hr13) rfl rfl) ?_
 rintro _ _ _ ⟨v15, _, rfl, ⟨⟨t14, rfl, rfl, rfl⟩, rfl⟩, _, rfl⟩
 refine jv (.bool (!t14)) (V.not rfl) <| ja (.bool (!t14)) rfl <| J.nil <| CJ.ret ?_
 obtain rfl := si h
 exact ⟨_, _, Res.one rfl rfl, ⟨!t14, rfl, rfl, rfl⟩, (Hp.le_refl _), fun w hs => (Sep.dropAt 0 rfl (Sep.dropAt 0 rfl hs))⟩

noncomputable def fn_row_Check (xa : (List (Int × Bool))) (xb : Int) : Option Int :=
  cond (decide (16 < (((xa.length : Nat) : Int)))) (some (6)) ((fn_row_within xa xb).bind fun t15 => cond (!t15) (some (7)) (some (0)))
set_option maxRecDepth 100000 in
set_option maxHeartbeats 4000000 in
theorem row_Check_ok {K : Hp} {xa : (List (Int × Bool))} {xb : Int} {adxa_0 : Option Addr} {cpxa_0 : Nat} (fxa_0 : Is K (.sl (.cons (.int .i64) (.one .bool))) [.slice adxa_0 xa.length cpxa_0] xa) {r : Int} (h : fn_row_Check xa xb = some r) :
    Tr Try.prog 33 #[.agg #[.slice adxa_0 xa.length cpxa_0], ii xb] K [] (fun v K' L' => (∃ (i10 : Int), i10 = r ∧ ii i10 = v ∧ L' = []) ∧ K = K') := by
 refine Tr.k <| Tr.of Try.func33 rfl Try.ntmps33 rfl fun E F => ?_
 unfold fn_row_Check at h
 refine cr <| jbx [.slice adxa_0 xa.length cpxa_0] rfl rfl fun b11 => ja (ii 0) rfl <| J.nil <| CJ.seq <| CJ.seq ?_
 refine CJ.region <| jv _ (V.fad Try.underlying26 rfl nz24 rfl) <| jv (.slice adxa_0 xa.length cpxa_0) (V.ld rfl (Ld.sc sc24 (Rd.cl 0 rfl rfl))) <| jv (ii (((xa.length : Nat) : Int))) (V.len Try.underlying24 rfl) <| jv (.bool (decide (16 < (((xa.length : Nat) : Int))))) (V.gtr rfl rfl) <| J.nil <| cc rfl h (fun hc12 h => ?_) fun hc12 h => ?_
 · refine cr <| ja (ii 6) rfl <| J.nil <| CJ.ret ?_
   obtain rfl := si h
   exact ⟨_, _, Res.one rfl rfl, ⟨6, rfl, rfl, rfl⟩, (Hp.le_refl _), fun w hs => (Sep.dropAt 0 rfl hs)⟩
 refine CJ.skip <| CJ.seq <| cr <| jv (.agg #[.slice adxa_0 xa.length cpxa_0]) (V.ld rfl (Ld.agg (cs := [.slice adxa_0 xa.length cpxa_0]) Try.underlying26 sz26 rfl (Rd.cls 0 0 rfl rfl))) <| jm (ii xb) rfl ?_
 obtain ⟨r13, hr14, h⟩ := ob h
 refine J.op rfl (A.call (L1 := []) Try.call43 rfl (row_within_ok fxa_0 hr14) rfl rfl) ?_
 rintro _ _ _ ⟨v16, _, rfl, ⟨⟨t15, rfl, rfl, rfl⟩, rfl⟩, _, rfl⟩
 refine jv (.bool (!t15)) (V.not rfl) <| J.nil <| cc rfl h (fun hc19 h => ?_) fun hc19 h => ?_
 · refine cr <| ja (ii 7) rfl <| J.nil <| CJ.ret ?_
   obtain rfl := si h
   exact ⟨_, _, Res.one rfl rfl, ⟨7, rfl, rfl, rfl⟩, (Hp.le_refl _), fun w hs => (Sep.dropAt 0 rfl hs)⟩
 refine CJ.skip <| cr <| ja (ii 0) rfl <| J.nil <| CJ.ret ?_
 obtain rfl := si h
 exact ⟨_, _, Res.one rfl rfl, ⟨0, rfl, rfl, rfl⟩, (Hp.le_refl _), fun w hs => (Sep.dropAt 0 rfl hs)⟩
noncomputable def fn_valid_locals_az_l1 (xa : (Int × Int × (List (Int × Int)) × (List (List (Int × Bool))) × (List (Int × Bool)) × (List (Int × (List (Int × Int)) × (List (List (Int × Bool))) × (List (Int × Bool)))) × (List ((List (Int × Int × Int × Int × Bool)) × (Int × Int × Int × (List Int) × (List Int) × (List Int)))))) : Int → Option (Int ⊕ (Unit ⊕ (Int × Int × Int × Int))) := fun (i313 : Int) => cond (decide (i313 < (((xa.2.2.2.1.length : Nat) : Int)))) ((getI xa.2.2.2.1 i313).bind fun x347 => (fn_tick_Counter_Add_zii 1 1).bind fun _ => (fn_row_Check x347 xa.2.1).bind fun i368 => cond (!decide (i368 = 0)) (some (.inr ((.inr ((i368, 2, i313, 0)))))) (some (.inl (IntKind.wrap .i64 (i313 + 1))))) (some (.inr ((.inl ()))))
noncomputable def fn_valid_locals_az (xa : (Int × Int × (List (Int × Int)) × (List (List (Int × Bool))) × (List (Int × Bool)) × (List (Int × (List (Int × Int)) × (List (List (Int × Bool))) × (List (Int × Bool)))) × (List ((List (Int × Int × Int × Int × Bool)) × (Int × Int × Int × (List Int) × (List Int) × (List Int)))))) : Option (Int × Int × Int × Int) :=
  cond (decide ((((xa.2.2.2.1.length : Nat) : Int)) = 0)) (some ((14, 2, 0, 0))) (cond (decide (65536 < (((xa.2.2.2.1.length : Nat) : Int)))) (some ((6, 2, 0, 0))) ((loop (fn_valid_locals_az_l1 xa) 0 : Option (Unit ⊕ (Int × Int × Int × Int))).bind fun o => match o with | .inr r => some r | .inl () => some ((0, 0, 0, 0))))
set_option maxRecDepth 100000 in
set_option maxHeartbeats 4000000 in
theorem valid_locals_az_ok {K : Hp} {xa : (Int × Int × (List (Int × Int)) × (List (List (Int × Bool))) × (List (Int × Bool)) × (List (Int × (List (Int × Int)) × (List (List (Int × Bool))) × (List (Int × Bool)))) × (List ((List (Int × Int × Int × Int × Bool)) × (Int × Int × Int × (List Int) × (List Int) × (List Int)))))} {adxa_2 : Option Addr} {cpxa_2 : Nat} {adxa_3 : Option Addr} {cpxa_3 : Nat} {adxa_4 : Option Addr} {cpxa_4 : Nat} {adxa_5 : Option Addr} {cpxa_5 : Nat} {adxa_6 : Option Addr} {cpxa_6 : Nat} (fxa_2 : Is K (.sl (.cons (.int .i64) (.one (.int .i64)))) [.slice adxa_2 xa.2.2.1.length cpxa_2] xa.2.2.1) (fxa_3 : Is K (.sl (.one (.sl (.cons (.int .i64) (.one .bool))))) [.slice adxa_3 xa.2.2.2.1.length cpxa_3] xa.2.2.2.1) (fxa_4 : Is K (.sl (.cons (.int .i64) (.one .bool))) [.slice adxa_4 xa.2.2.2.2.1.length cpxa_4] xa.2.2.2.2.1) (fxa_5 : Is K (.sl (.cons (.int .i64) (.cons (.sl (.cons (.int .i64) (.one (.int .i64)))) (.cons (.sl (.one (.sl (.cons (.int .i64) (.one .bool))))) (.one (.one (.sl (.cons (.int .i64) (.one .bool))))))))) [.slice adxa_5 xa.2.2.2.2.2.1.length cpxa_5] xa.2.2.2.2.2.1) (fxa_6 : Is K (.sl (.cons (.sl (.cons (.int .i64) (.cons (.int .i64) (.cons (.int .i64) (.cons (.int .i64) (.one .bool)))))) (.one (.cons (.int .i64) (.cons (.int .i64) (.cons (.int .i64) (.cons (.sl (.int .i64)) (.cons (.sl (.int .i64)) (.one (.sl (.int .i64))))))))))) [.slice adxa_6 xa.2.2.2.2.2.2.length cpxa_6] xa.2.2.2.2.2.2) {r : (Int × Int × Int × Int)} (h : fn_valid_locals_az xa = some r) :
    Tr Try.prog 22 #[.agg #[ii xa.1, ii xa.2.1, .slice adxa_2 xa.2.2.1.length cpxa_2, .slice adxa_3 xa.2.2.2.1.length cpxa_3, .slice adxa_4 xa.2.2.2.2.1.length cpxa_4, .slice adxa_5 xa.2.2.2.2.2.1.length cpxa_5, .slice adxa_6 xa.2.2.2.2.2.2.length cpxa_6], .pointer none] K [] (fun v K' L' => (∃ (i187 : Int) (i188 : Int) (i189 : Int) (i190 : Int), (i187, i188, i189, i190) = r ∧ .agg #[ii i187, ii i188, ii i189, ii i190] = v ∧ L' = []) ∧ K = K') := by
 refine Tr.k <| Tr.of Try.func22 rfl Try.ntmps22 rfl fun E F => ?_
 unfold fn_valid_locals_az at h
 refine cr <| jbx [ii xa.1, ii xa.2.1, .slice adxa_2 xa.2.2.1.length cpxa_2, .slice adxa_3 xa.2.2.2.1.length cpxa_3, .slice adxa_4 xa.2.2.2.2.1.length cpxa_4, .slice adxa_5 xa.2.2.2.2.2.1.length cpxa_5, .slice adxa_6 xa.2.2.2.2.2.2.length cpxa_6] rfl rfl fun b191 => jal inf39 [ii 0, ii 0, ii 0, ii 0] rfl fun b192 => J.nil <| CJ.seq <| CJ.seq ?_
 refine CJ.region <| jv _ (V.fad Try.underlying30 rfl nz23 rfl) <| jv (.slice adxa_3 xa.2.2.2.1.length cpxa_3) (V.ld rfl (Ld.sc sc23 (Rd.cl 1 rfl rfl))) <| jv (ii (((xa.2.2.2.1.length : Nat) : Int))) (V.len Try.underlying23 rfl) <| jv (.bool (decide ((((xa.2.2.2.1.length : Nat) : Int)) = 0))) (V.eql rfl rfl) <| J.nil <| cc rfl h (fun hc193 h => ?_) fun hc193 h => ?_
 · refine cr <| jv (.agg #[ii 14, ii 2, ii 0, ii 0]) (V.build inf39 places39 rfl rfl) <| js [ii 14, ii 2, ii 0, ii 0] sz39 rfl rfl rfl rfl rfl rfl <| J.nil <| CJ.ret ?_
   obtain rfl := si h
   exact ⟨_, _, Res.one rfl ⟨_, _, rfl, Ld.agg (cs := [ii 14, ii 2, ii 0, ii 0]) Try.underlying39 sz39 rfl (Rd.cls 0 0 rfl rfl)⟩, ⟨14, 2, 0, 0, rfl, rfl, rfl⟩, (Hp.le_refl _), fun w hs => (Sep.dropAt 0 rfl (Sep.dropAt 0 rfl hs))⟩
 refine CJ.skip <| CJ.seq <| cr <| jv _ (V.fad Try.underlying30 rfl nz23 rfl) <| jv (.slice adxa_3 xa.2.2.2.1.length cpxa_3) (V.ld rfl (Ld.sc sc23 (Rd.cl 1 rfl rfl))) <| jv (ii (((xa.2.2.2.1.length : Nat) : Int))) (V.len Try.underlying23 rfl) ?_
 refine jv (.bool (decide (65536 < (((xa.2.2.2.1.length : Nat) : Int))))) (V.gtr rfl rfl) <| J.nil <| cc rfl h (fun hc194 h => ?_) fun hc194 h => ?_
 · refine cr <| jv (.agg #[ii 6, ii 2, ii 0, ii 0]) (V.build inf39 places39 rfl rfl) <| js [ii 6, ii 2, ii 0, ii 0] sz39 rfl rfl rfl rfl rfl rfl <| J.nil <| CJ.ret ?_
   obtain rfl := si h
   exact ⟨_, _, Res.one rfl ⟨_, _, rfl, Ld.agg (cs := [ii 6, ii 2, ii 0, ii 0]) Try.underlying39 sz39 rfl (Rd.cls 0 0 rfl rfl)⟩, ⟨6, 2, 0, 0, rfl, rfl, rfl⟩, (Hp.le_refl _), fun w hs => (Sep.dropAt 0 rfl (Sep.dropAt 0 rfl hs))⟩
 refine CJ.skip <| CJ.seq <| cr <| jv _ (V.fad Try.underlying30 rfl nz23 rfl) <| jv (.slice adxa_3 xa.2.2.2.1.length cpxa_3) (V.ld rfl (Ld.sc sc23 (Rd.cl 1 rfl rfl))) <| jv (ii (((xa.2.2.2.1.length : Nat) : Int))) (V.len Try.underlying23 rfl) ?_
 refine jm (ii 0) rfl <| J.nil ?_
 obtain ⟨o283, ho284, h⟩ := ob h
 refine CJ.joinN (o := o283) (fun s ρ K' L' => () = s ∧ Fits [(4, .pointer (some ⟨b192, 0, none⟩))] ρ ∧ K = K' ∧ L' = Cl b192 39 [ii 0, ii 0, ii 0, ii 0] :: F) ?_ ?_
 · refine CJ.block <| CJ.front 1 rfl <| CJ.loop (fun s ρ K' L' => ∃ (i313 : Int), i313 = s ∧ Fits [(1, .pointer none), (2, .pointer (some ⟨b191, 0, none⟩)), (4, .pointer (some ⟨b192, 0, none⟩)), (19, .slice adxa_3 xa.2.2.2.1.length cpxa_3), (20, ii (((xa.2.2.2.1.length : Nat) : Int))), (21, ii i313)] ρ ∧ K = K' ∧ L' = Cl b191 30 [ii xa.1, ii xa.2.1, .slice adxa_2 xa.2.2.1.length cpxa_2, .slice adxa_3 xa.2.2.2.1.length cpxa_3, .slice adxa_4 xa.2.2.2.2.1.length cpxa_4, .slice adxa_5 xa.2.2.2.2.2.1.length cpxa_5, .slice adxa_6 xa.2.2.2.2.2.2.length cpxa_6] :: Cl b192 39 [ii 0, ii 0, ii 0, ii 0] :: F) ho284 ⟨0, rfl, ⟨rfl, rfl, rfl, rfl, rfl, rfl, trivial⟩, rfl, rfl⟩ ?_
   rintro s ρ _ _ r345 ⟨i313, rfl, hf343, rfl, rfl⟩ h342
   obtain ⟨ρ, rfl⟩ := hf343.ex
   refine cr <| jv (.bool (decide (i313 < (((xa.2.2.2.1.length : Nat) : Int))))) (V.lss rfl rfl) <| J.nil <| CJ.seq <| cc rfl h342 (fun hc346 h342 => ?_) fun hc346 h342 => ?_
   · refine CJ.skip <| CJ.seq <| CJ.block <| cr <| jm (ii i313) rfl ?_
     obtain ⟨x347, hx348, h342⟩ := ob h342
     obtain ⟨p349, p350, p351⟩ := getI_some hx348
     obtain ⟨b352, o353, e354, a355⟩ := (fxa_3).at p350
     refine jv _ (V.iad Try.underlying23 sz26 rfl e354 rfl p349 p351) ?_
     obtain ⟨ad356, cp357, c358, f359⟩ := ((a355).one).sl
     refine jv (.agg #[.slice ad356 x347.length cp357]) (V.ld rfl (Ld.aggK (cs := [.slice ad356 x347.length cp357]) Try.underlying26 sz26 rfl ⟨c358, trivial⟩ (Hp.le_refl _))) <| jal inf26 [nos] rfl fun b360 => ja (ii i313) rfl <| js [.slice ad356 x347.length cp357] sz26 rfl rfl rfl rfl rfl rfl <| J.nil <| CJ.seq <| CJ.region ?_
     refine jm (.pointer none) rfl ?_
     obtain ⟨r361, hr362, h342⟩ := ob h342
     refine J.op rfl (A.call (L1 := []) Try.call19 rfl (tick_Counter_Add_zii_ok hr362) rfl rfl) ?_
     rintro _ _ _ ⟨v363, _, rfl, ⟨⟨rfl, rfl, rfl⟩, rfl⟩, _, rfl⟩
     refine J.nil <| cr <| jv (.agg #[.slice ad356 x347.length cp357]) (V.ld rfl (Ld.agg (cs := [.slice ad356 x347.length cp357]) Try.underlying26 sz26 rfl (Rd.cls 0 0 rfl rfl))) <| jv _ (V.fad Try.underlying30 rfl nz3 rfl) <| jv (ii xa.2.1) (V.ld rfl (Ld.sc sc3 (Rd.cl 1 rfl rfl))) ?_
     obtain ⟨r366, hr367, h342⟩ := ob h342
     refine J.op rfl (A.call (L1 := []) Try.call33 rfl (row_Check_ok f359 hr367) rfl rfl) ?_
     rintro _ _ _ ⟨v369, _, rfl, ⟨⟨i368, rfl, rfl, rfl⟩, rfl⟩, _, rfl⟩
     refine ja (ii i368) rfl <| J.nil <| cr <| jm (ii i368) rfl <| jv (.bool (!decide (i368 = 0))) (V.neq rfl rfl) <| J.nil ?_
     refine cc rfl h342 (fun hc372 h342 => ?_) fun hc372 h342 => ?_
     · refine cr <| jm (ii i368) rfl <| jm (ii i313) rfl <| jv (.agg #[ii i368, ii 2, ii i313, ii 0]) (V.build inf39 places39 rfl rfl) <| J.front 2 rfl <| js [ii i368, ii 2, ii i313, ii 0] sz39 rfl rfl rfl rfl rfl rfl ?_
       refine J.nil <| CJ.ret ?_
       obtain rfl := si h342
       refine ⟨nofun, fun e => ?_⟩
       subst e
       refine .inr ⟨nofun, ?_⟩
       obtain rfl := si h
       exact ⟨_, _, Res.one rfl ⟨_, _, rfl, Ld.agg (cs := [ii i368, ii 2, ii i313, ii 0]) Try.underlying39 sz39 rfl (Rd.cls 0 0 rfl rfl)⟩, ⟨i368, 2, i313, 0, rfl, rfl, rfl⟩, (Hp.le_refl _), fun w hs => (Sep.dropAt 0 rfl (Sep.dropAt 0 rfl (Sep.dropAt 0 rfl hs)))⟩
     refine CJ.skip <| CJ.region <| jv (ii (IntKind.wrap .i64 (i313 + 1))) (V.add rfl rfl) <| jm (ii (IntKind.wrap .i64 (i313 + 1))) rfl <| J.dropAt 0 rfl <| J.nil ?_
     obtain rfl := si h342
     exact ⟨rfl, ⟨IntKind.wrap .i64 (i313 + 1), rfl, ⟨rfl, rfl, rfl, rfl, rfl, rfl, trivial⟩, rfl, rfl⟩⟩
   refine CJ.dropAt 0 rfl <| CJ.exit ?_
   obtain rfl := si h342
   refine ⟨nofun, fun e => ?_⟩
   subst e
   exact .inl ⟨rfl, _, rfl, ⟨rfl, ⟨rfl, trivial⟩, rfl, rfl⟩⟩
 rintro s ρ _ _ ho373 ⟨rfl, hf374, rfl, rfl⟩
 subst ho373
 obtain ⟨ρ, rfl⟩ := hf374.ex
 refine PJ.done <| cr <| jv (.agg #[ii 0, ii 0, ii 0, ii 0]) (V.build inf39 places39 rfl rfl) <| js [ii 0, ii 0, ii 0, ii 0] sz39 rfl rfl rfl rfl rfl rfl <| J.nil <| CJ.ret ?_
 obtain rfl := si h
 exact ⟨_, _, Res.one rfl ⟨_, _, rfl, Ld.agg (cs := [ii 0, ii 0, ii 0, ii 0]) Try.underlying39 sz39 rfl (Rd.cls 0 0 rfl rfl)⟩, ⟨0, 0, 0, 0, rfl, rfl, rfl⟩, (Hp.le_refl _), fun w hs => (Sep.dropAt 0 rfl hs)⟩

noncomputable def fn_row_Shape_1 (xa : (Int × Bool)) (xb : (Int × Bool)) : Option Bool :=
  some (xa.2 == xb.2)
set_option maxRecDepth 100000 in
set_option maxHeartbeats 4000000 in
theorem row_Shape_1_ok {K : Hp} {xa : (Int × Bool)} {xb : (Int × Bool)}   {r : Bool} (h : fn_row_Shape_1 xa xb = some r) :
    Tr Try.prog 45 #[.agg #[ii xa.1, .bool xa.2], .agg #[ii xb.1, .bool xb.2]] K [] (fun v K' L' => (∃ (t3 : Bool), t3 = r ∧ .bool t3 = v ∧ L' = []) ∧ K = K') := by
 refine Tr.k <| Tr.of Try.func45 rfl Try.ntmps45 rfl fun E F => ?_
 unfold fn_row_Shape_1 at h
 refine cr <| jbx [ii xa.1, .bool xa.2] rfl rfl fun b4 => jbx [ii xb.1, .bool xb.2] rfl rfl fun b5 => ja (.bool false) rfl <| J.nil <| CJ.seq ?_
 refine CJ.region <| jv _ (V.fad Try.underlying86 rfl nz4 rfl) <| jv (.bool xa.2) (V.ld rfl (Ld.sc sc4 (Rd.cl 1 rfl rfl))) <| jv _ (V.fad Try.underlying86 rfl nz4 rfl) <| jv (.bool xb.2) (V.ld rfl (Ld.sc sc4 (Rd.cl 0 rfl rfl))) <| jv (.bool (xa.2 == xb.2)) (V.eqb Try.underlying4 rfl rfl) <| ja (.bool (xa.2 == xb.2)) rfl ?_
 refine J.nil <| CJ.ret ?_
 obtain rfl := si h
 exact ⟨_, _, Res.one rfl rfl, ⟨xa.2 == xb.2, rfl, rfl, rfl⟩, (Hp.le_refl _), fun w hs => (Sep.dropAt 0 rfl (Sep.dropAt 0 rfl hs))⟩
noncomputable def fn_slices_EqualFunc_api_Slot_api_Slot_api_Slot_api_Slot_kk_row_Shape_1_l1 (xa : (List (Int × Bool))) (xb : (List (Int × Bool))) : Int → Option (Int ⊕ (Unit ⊕ Bool)) := fun (i313 : Int) => cond (decide (i313 < (((xa.length : Nat) : Int)))) ((getI xa i313).bind fun x348 => (getI xb i313).bind fun x358 => (fn_row_Shape_1 (x348.1, x348.2) (x358.1, x358.2)).bind fun t370 => cond (!t370) (some (.inr ((.inr (false))))) (some (.inl (IntKind.wrap .i64 (i313 + 1))))) (some (.inr ((.inl ()))))
noncomputable def fn_slices_EqualFunc_api_Slot_api_Slot_api_Slot_api_Slot_kk_row_Shape_1 (xa : (List (Int × Bool))) (xb : (List (Int × Bool))) : Option Bool :=
  cond (!decide ((((xa.length : Nat) : Int)) = (((xb.length : Nat) : Int)))) (some (false)) ((loop (fn_slices_EqualFunc_api_Slot_api_Slot_api_Slot_api_Slot_kk_row_Shape_1_l1 xa xb) 0 : Option (Unit ⊕ Bool)).bind fun o => match o with | .inr r => some r | .inl () => some (true))
set_option maxRecDepth 100000 in
set_option maxHeartbeats 4000000 in
theorem slices_EqualFunc_api_Slot_api_Slot_api_Slot_api_Slot_kk_row_Shape_1_ok {K : Hp} {xa : (List (Int × Bool))} {xb : (List (Int × Bool))} {adxa_0 : Option Addr} {cpxa_0 : Nat} {adxb_0 : Option Addr} {cpxb_0 : Nat} (fxa_0 : Is K (.sl (.cons (.int .i64) (.one .bool))) [.slice adxa_0 xa.length cpxa_0] xa) (fxb_0 : Is K (.sl (.cons (.int .i64) (.one .bool))) [.slice adxb_0 xb.length cpxb_0] xb) {r : Bool} (h : fn_slices_EqualFunc_api_Slot_api_Slot_api_Slot_api_Slot_kk_row_Shape_1 xa xb = some r) :
    Tr Try.prog 44 #[.slice adxa_0 xa.length cpxa_0, .slice adxb_0 xb.length cpxb_0, .func (.func 45) #[] #[]] K [] (fun v K' L' => (∃ (t189 : Bool), t189 = r ∧ .bool t189 = v ∧ L' = []) ∧ K = K') := by
 refine Tr.k <| Tr.of Try.func44 rfl Try.ntmps44 rfl fun E F => ?_
 unfold fn_slices_EqualFunc_api_Slot_api_Slot_api_Slot_api_Slot_kk_row_Shape_1 at h
 refine cr <| ja (.bool false) rfl <| J.nil <| CJ.seq <| CJ.seq <| CJ.region ?_
 refine jm (.slice adxa_0 xa.length cpxa_0) rfl <| jv (ii (((xa.length : Nat) : Int))) (V.len Try.underlying24 rfl) <| jm (.slice adxb_0 xb.length cpxb_0) rfl <| jv (ii (((xb.length : Nat) : Int))) (V.len Try.underlying24 rfl) <| jv (.bool (!decide ((((xa.length : Nat) : Int)) = (((xb.length : Nat) : Int))))) (V.neq rfl rfl) <| J.nil <| cc rfl h (fun hc190 h => ?_) fun hc190 h => ?_
 · refine cr <| ja (.bool false) rfl <| J.nil <| CJ.ret ?_
   obtain rfl := si h
   exact ⟨_, _, Res.one rfl rfl, ⟨false, rfl, rfl, rfl⟩, (Hp.le_refl _), fun w hs => hs⟩
 refine CJ.skip <| CJ.seq <| cr <| jm (.slice adxa_0 xa.length cpxa_0) rfl <| jv (ii (((xa.length : Nat) : Int))) (V.len Try.underlying24 rfl) <| jm (ii 0) rfl ?_
 refine J.nil ?_
 obtain ⟨o282, ho283, h⟩ := ob h
 refine CJ.joinN (o := o282) (fun s ρ K' L' => () = s ∧ Fits [] ρ ∧ K = K' ∧ F = L') ?_ ?_
 · refine CJ.block <| CJ.loop (fun s ρ K' L' => ∃ (i313 : Int), i313 = s ∧ Fits [(1, .slice adxb_0 xb.length cpxb_0), (2, .func (.func 45) #[] #[]), (15, .slice adxa_0 xa.length cpxa_0), (16, ii (((xa.length : Nat) : Int))), (17, ii i313)] ρ ∧ K = K' ∧ F = L') ho283 ⟨0, rfl, ⟨rfl, rfl, rfl, rfl, rfl, trivial⟩, rfl, rfl⟩ ?_
   rintro s ρ _ _ r346 ⟨i313, rfl, hf344, rfl, rfl⟩ h343
   obtain ⟨ρ, rfl⟩ := hf344.ex
   refine cr <| jv (.bool (decide (i313 < (((xa.length : Nat) : Int))))) (V.lss rfl rfl) <| J.nil <| CJ.seq <| cc rfl h343 (fun hc347 h343 => ?_) fun hc347 h343 => ?_
   · refine CJ.skip <| CJ.seq <| CJ.block <| cr <| jm (ii i313) rfl ?_
     obtain ⟨x348, hx349, h343⟩ := ob h343
     obtain ⟨p350, p351, p352⟩ := getI_some hx349
     obtain ⟨b353, o354, e355, a356⟩ := (fxa_0).at p351
     refine jv _ (V.iad Try.underlying24 sz86 rfl e355 rfl p350 p352) <| jv (.agg #[ii x348.1, .bool x348.2]) (V.ld rfl (Ld.aggK (cs := [ii x348.1, .bool x348.2]) Try.underlying86 sz86 rfl ⟨((a356).fst).int, (((a356).snd).one).bool, trivial⟩ (Hp.le_refl _))) <| jal inf86 [ii 0, .bool false] rfl fun b357 => ja (ii i313) rfl <| js [ii x348.1, .bool x348.2] sz86 rfl rfl rfl rfl rfl rfl <| J.nil <| CJ.seq ?_
     refine CJ.region <| jm (.slice adxb_0 xb.length cpxb_0) rfl <| jm (ii i313) rfl ?_
     obtain ⟨x358, hx359, h343⟩ := ob h343
     obtain ⟨p360, p361, p362⟩ := getI_some hx359
     obtain ⟨b363, o364, e365, a366⟩ := (fxb_0).at p361
     refine jv _ (V.iad Try.underlying24 sz86 rfl e365 rfl p360 p362) <| jv (.agg #[ii x358.1, .bool x358.2]) (V.ld rfl (Ld.aggK (cs := [ii x358.1, .bool x358.2]) Try.underlying86 sz86 rfl ⟨((a366).fst).int, (((a366).snd).one).bool, trivial⟩ (Hp.le_refl _))) <| jal inf86 [ii 0, .bool false] rfl fun b367 => js [ii x358.1, .bool x358.2] sz86 rfl rfl rfl rfl rfl rfl <| J.nil <| CJ.seq <| CJ.region ?_
     refine jm (.func (.func 45) #[] #[]) rfl <| jv (.agg #[ii x348.1, .bool x348.2]) (V.ld rfl (Ld.agg (cs := [ii x348.1, .bool x348.2]) Try.underlying86 sz86 rfl (Rd.cls 1 0 rfl rfl))) <| jv (.agg #[ii x358.1, .bool x358.2]) (V.ld rfl (Ld.agg (cs := [ii x358.1, .bool x358.2]) Try.underlying86 sz86 rfl (Rd.cls 0 0 rfl rfl))) ?_
     obtain ⟨r368, hr369, h343⟩ := ob h343
     refine J.op rfl (A.call (L1 := []) Try.call45 rfl (row_Shape_1_ok hr369) rfl rfl) ?_
     rintro _ _ _ ⟨v371, _, rfl, ⟨⟨t370, rfl, rfl, rfl⟩, rfl⟩, _, rfl⟩
     refine jv (.bool (!t370)) (V.not rfl) <| J.nil <| cc rfl h343 (fun hc374 h343 => ?_) fun hc374 h343 => ?_
     · refine cr <| ja (.bool false) rfl <| J.nil <| CJ.ret ?_
       obtain rfl := si h343
       refine ⟨nofun, fun e => ?_⟩
       subst e
       refine .inr ⟨nofun, ?_⟩
       obtain rfl := si h
       exact ⟨_, _, Res.one rfl rfl, ⟨false, rfl, rfl, rfl⟩, (Hp.le_refl _), fun w hs => (Sep.dropAt 0 rfl (Sep.dropAt 0 rfl hs))⟩
     refine CJ.skip <| CJ.region <| jv (ii (IntKind.wrap .i64 (i313 + 1))) (V.add rfl rfl) <| jm (ii (IntKind.wrap .i64 (i313 + 1))) rfl <| J.dropAt 0 rfl <| J.dropAt 0 rfl <| J.nil ?_
     obtain rfl := si h343
     exact ⟨rfl, ⟨IntKind.wrap .i64 (i313 + 1), rfl, ⟨rfl, rfl, rfl, rfl, rfl, trivial⟩, rfl, rfl⟩⟩
   refine CJ.exit ?_
   obtain rfl := si h343
   refine ⟨nofun, fun e => ?_⟩
   subst e
   exact .inl ⟨rfl, _, rfl, ⟨rfl, trivial, rfl, rfl⟩⟩
 rintro s ρ _ _ ho375 ⟨rfl, hf376, rfl, rfl⟩
 subst ho375
 obtain ⟨ρ, rfl⟩ := hf376.ex
 refine PJ.done <| cr <| ja (.bool true) rfl <| J.nil <| CJ.ret ?_
 obtain rfl := si h
 exact ⟨_, _, Res.one rfl rfl, ⟨true, rfl, rfl, rfl⟩, (Hp.le_refl _), fun w hs => hs⟩

noncomputable def fn_row_Shape (xa : (List (Int × Bool))) (xb : (List (Int × Bool))) : Option Bool :=
  (fn_slices_EqualFunc_api_Slot_api_Slot_api_Slot_api_Slot_kk_row_Shape_1 xa xb).bind fun t14 => some (t14)
set_option maxRecDepth 100000 in
set_option maxHeartbeats 4000000 in
theorem row_Shape_ok {K : Hp} {xa : (List (Int × Bool))} {xb : (List (Int × Bool))} {adxa_0 : Option Addr} {cpxa_0 : Nat} {adxb_0 : Option Addr} {cpxb_0 : Nat} (fxa_0 : Is K (.sl (.cons (.int .i64) (.one .bool))) [.slice adxa_0 xa.length cpxa_0] xa) (fxb_0 : Is K (.sl (.cons (.int .i64) (.one .bool))) [.slice adxb_0 xb.length cpxb_0] xb) {r : Bool} (h : fn_row_Shape xa xb = some r) :
    Tr Try.prog 34 #[.agg #[.slice adxa_0 xa.length cpxa_0], .agg #[.slice adxb_0 xb.length cpxb_0]] K [] (fun v K' L' => (∃ (t9 : Bool), t9 = r ∧ .bool t9 = v ∧ L' = []) ∧ K = K') := by
 refine Tr.k <| Tr.of Try.func34 rfl Try.ntmps34 rfl fun E F => ?_
 unfold fn_row_Shape at h
 refine cr <| jbx [.slice adxa_0 xa.length cpxa_0] rfl rfl fun b10 => jbx [.slice adxb_0 xb.length cpxb_0] rfl rfl fun b11 => ja (.bool false) rfl <| J.nil <| CJ.seq ?_
 refine CJ.region <| jv _ (V.fad Try.underlying26 rfl nz24 rfl) <| jv (.slice adxa_0 xa.length cpxa_0) (V.ld rfl (Ld.sc sc24 (Rd.cl 1 rfl rfl))) <| jv _ (V.fad Try.underlying26 rfl nz24 rfl) <| jv (.slice adxb_0 xb.length cpxb_0) (V.ld rfl (Ld.sc sc24 (Rd.cl 0 rfl rfl))) ?_
 obtain ⟨r12, hr13, h⟩ := ob h
 refine J.op rfl (A.call (L1 := []) Try.call44 rfl (slices_EqualFunc_api_Slot_api_Slot_api_Slot_api_Slot_kk_row_Shape_1_ok fxa_0 fxb_0 hr13) rfl rfl) ?_
 rintro _ _ _ ⟨v15, _, rfl, ⟨⟨t14, rfl, rfl, rfl⟩, rfl⟩, _, rfl⟩
 refine ja (.bool t14) rfl <| J.nil <| CJ.ret ?_
 obtain rfl := si h
 exact ⟨_, _, Res.one rfl rfl, ⟨t14, rfl, rfl, rfl⟩, (Hp.le_refl _), fun w hs => (Sep.dropAt 0 rfl (Sep.dropAt 0 rfl hs))⟩
end Go.Proofs.Ytbaaamdljojknaa
