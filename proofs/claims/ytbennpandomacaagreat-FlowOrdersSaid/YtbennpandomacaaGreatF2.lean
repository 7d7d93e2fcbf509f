/- What Go functions answer: generated. -/
import Derived.Test.YtbennpandomacaaGreatF1
namespace Go.Proofs.YtbennpandomacaaGreat
open Go.RowKit _root_.Go.Proofs.Tryz
set_option linter.unusedVariables false
set_option linter.unnecessarySimpa false
set_option linter.unusedSimpArgs false
set_option maxRecDepth 100000
set_option maxHeartbeats 4000000
noncomputable def fn_slices_IndexFunc_api_Slot_api_Slot_k_relate_mayBorrowAgain_1_l1 (xa : Tq3) : Int → Option (Int ⊕ (Unit ⊕ Int)) := fun (i1 : Int) => cond (decide (i1 < (((xa.length : Nat) : Int)))) ((getI xa i1).bind fun x2 => (fn_relate_mayBorrowAgain_1 (x2.1, x2.2)).bind fun t3 => cond (t3) (some (.inr ((.inr (i1))))) (some (.inl (IntKind.wrap .i64 (i1 + 1))))) (some (.inr ((.inl ()))))
noncomputable def fn_slices_IndexFunc_api_Slot_api_Slot_k_relate_mayBorrowAgain_1 (xa : Tq3) : Option Int :=
  (loop (fn_slices_IndexFunc_api_Slot_api_Slot_k_relate_mayBorrowAgain_1_l1 xa) 0 : Option (Unit ⊕ Int)).bind fun o => match o with | .inr r => some r | .inl () => some ((-1))
theorem slices_IndexFunc_api_Slot_api_Slot_k_relate_mayBorrowAgain_1_ok {K : Hp} {xa : Tq3} {Aa0 : Option Addr} {Ca0 : Nat} (Ga0 : Is K (.sl Yq1) [sl Aa0 xa Ca0] xa) {r : Int} (h : fn_slices_IndexFunc_api_Slot_api_Slot_k_relate_mayBorrowAgain_1 xa = some r) :
    Tr Tryz.prog 132 #[sl Aa0 xa Ca0, .func (.func 143) #[] #[]] K [] (fun v K' L' => (∃ (i2 : Int), i2 = r ∧ ii i2 = v ∧ L' = []) ∧ K = K') := by
 refine Tr.k <| Tr.of func132 rfl ntmps132 rfl fun E F => ?_
 unfold fn_slices_IndexFunc_api_Slot_api_Slot_k_relate_mayBorrowAgain_1 at h
 refine cr <| ja (ii 0) rfl <| J.nil <| CJ.seq <| CJ.seq <| CJ.region ?_
 refine jm (sl Aa0 xa Ca0) rfl <| jv (ii (((xa.length : Nat) : Int))) (V.len underlying24 rfl) <| jm (ii 0) rfl <| J.nil ?_
 obtain ⟨o3, ho5, h⟩ := ob h
 refine CJ.joinN (o := o3) (fun s ρ K' L' => () = s ∧ Fits [] ρ ∧ K = K' ∧ F = L') ?_ ?_
 · refine CJ.block <| CJ.loop (fun s ρ K' L' => ∃ (i6 : Int), i6 = s ∧ Fits [(0, sl Aa0 xa Ca0), (1, .func (.func 143) #[] #[]), (7, ii (((xa.length : Nat) : Int))), (8, ii i6)] ρ ∧ K = K' ∧ F = L') ho5 ⟨0, rfl, rt4, rfl, rfl⟩ ?_
   rintro s ρ _ _ r7 ⟨i6, rfl, hf9, rfl, rfl⟩ h10
   obtain ⟨ρ, rfl⟩ := hf9.ex
   refine cr <| jv (.bool (decide (i6 < (((xa.length : Nat) : Int))))) (V.lss rfl rfl) <| J.nil <| CJ.seq <| cc rfl h10 (fun hc11 h10 => ?_) fun hc11 h10 => ?_
   · refine CJ.skip <| CJ.seq <| CJ.block <| cr <| jm (ii i6) rfl <| ja (ii i6) rfl ?_
     refine J.nil <| cr <| jm (.func (.func 143) #[] #[]) rfl <| jm (sl Aa0 xa Ca0) rfl <| jm (ii i6) rfl ?_
     obtain ⟨x12, hx13, h10⟩ := ob h10
     obtain ⟨p14, p15, p17⟩ := getI_some hx13
     obtain ⟨b18, o19, e20, a21⟩ := (Ga0).at p15
     refine jv _ (V.iad underlying24 sz150 rfl e20 rfl p14 p17) <| jv (.agg #[ii x12.1, .bool x12.2]) (V.ld rfl (Ld.aggK (cs := [ii x12.1, .bool x12.2]) underlying150 sz150 rfl ⟨((a21).fst).int, (((a21).snd).one).bool, trivial⟩ hpr)) ?_
     obtain ⟨r22, hr23, h10⟩ := ob h10
     refine J.op rfl (A.call (L1 := []) call143 rfl (relate_mayBorrowAgain_1_ok hr23) rfl rfl) ?_
     rintro _ _ _ ⟨v25, _, rfl, ⟨⟨t26, rfl, rfl, rfl⟩, rfl⟩, _, rfl⟩
     refine J.nil <| cc rfl h10 (fun hc27 h10 => ?_) fun hc27 h10 => ?_
     · refine cr <| jm (ii i6) rfl <| ja (ii i6) rfl <| J.nil <| CJ.ret ?_
       obtain rfl := si h10
       refine ⟨nofun, fun e => ?_⟩
       subst e
       refine .inr ⟨nofun, ?_⟩
       obtain rfl := si h
       exact ⟨_, _, Res.one rfl rfl, ⟨i6, rfl, rfl, rfl⟩, hpr, fun w hs => hs⟩
     refine CJ.skip <| CJ.region <| jv (ii (IntKind.wrap .i64 (i6 + 1))) (V.add rfl rfl) <| jm (ii (IntKind.wrap .i64 (i6 + 1))) rfl <| J.nil ?_
     obtain rfl := si h10
     exact ⟨rfl, ⟨IntKind.wrap .i64 (i6 + 1), rfl, rt4, rfl, rfl⟩⟩
   refine CJ.exit ?_
   obtain rfl := si h10
   refine ⟨nofun, fun e => ?_⟩
   subst e
   exact .inl ⟨rfl, _, rfl, ⟨rfl, trivial, rfl, rfl⟩⟩
 rintro s ρ _ _ ho28 ⟨rfl, hf29, rfl, rfl⟩
 subst ho28
 obtain ⟨ρ, rfl⟩ := hf29.ex
 refine PJ.done <| cr <| ja (ii (-1)) rfl <| J.nil <| CJ.ret ?_
 obtain rfl := si h
 exact ⟨_, _, Res.one rfl rfl, ⟨(-1), rfl, rfl, rfl⟩, hpr, fun w hs => hs⟩

noncomputable def fn_slices_ContainsFunc_api_Slot_api_Slot_k_relate_mayBorrowAgain_1 (xa : Tq3) : Option Bool :=
  (fn_slices_IndexFunc_api_Slot_api_Slot_k_relate_mayBorrowAgain_1 xa).bind fun i10 => some (decide (0 ≤ i10))
theorem slices_ContainsFunc_api_Slot_api_Slot_k_relate_mayBorrowAgain_1_ok {K : Hp} {xa : Tq3} {Aa0 : Option Addr} {Ca0 : Nat} (Ga0 : Is K (.sl Yq1) [sl Aa0 xa Ca0] xa) {r : Bool} (h : fn_slices_ContainsFunc_api_Slot_api_Slot_k_relate_mayBorrowAgain_1 xa = some r) :
    Tr Tryz.prog 122 #[sl Aa0 xa Ca0, .func (.func 143) #[] #[]] K [] (fun v K' L' => (∃ (t7 : Bool), t7 = r ∧ .bool t7 = v ∧ L' = []) ∧ K = K') := by
 refine Tr.k <| Tr.of func122 rfl ntmps122 rfl fun E F => ?_
 unfold fn_slices_ContainsFunc_api_Slot_api_Slot_k_relate_mayBorrowAgain_1 at h
 refine cr <| ja (.bool false) rfl <| J.nil <| cr <| jm (sl Aa0 xa Ca0) rfl ?_
 refine jm (.func (.func 143) #[] #[]) rfl ?_
 obtain ⟨r8, hr9, h⟩ := ob h
 refine J.op rfl (A.call (L1 := []) call132 rfl (slices_IndexFunc_api_Slot_api_Slot_k_relate_mayBorrowAgain_1_ok Ga0 hr9) rfl rfl) ?_
 rintro _ _ _ ⟨v11, _, rfl, ⟨⟨i10, rfl, rfl, rfl⟩, rfl⟩, _, rfl⟩
 refine jv (.bool (decide (0 ≤ i10))) (V.geq rfl rfl) <| ja (.bool (decide (0 ≤ i10))) rfl <| J.nil <| CJ.ret ?_
 obtain rfl := si h
 exact ⟨_, _, Res.one rfl rfl, ⟨decide (0 ≤ i10), rfl, rfl, rfl⟩, hpr, fun w hs => hs⟩

noncomputable def fn_relate_mayBorrowAgain (xa : Tq3) (xb : Tq3) (xc : Bool) : Option Bool :=
  (cond (decide ((((xa.length : Nat) : Int)) = 0)) (some (true)) ((getI xa 0).bind fun x73 => some (x73.2))).bind fun t70 => (cond (t70) (some (true)) ((fn_row_Shape xa xb).bind fun t94 => some (!t94))).bind fun t89 => cond (t89) (some (false)) ((subL xa 1 (((xa.length : Nat) : Int))).bind fun y99 => (fn_slices_ContainsFunc_api_Slot_api_Slot_k_relate_mayBorrowAgain_1 y99).bind fun t1 => some ((!xc) || (!t1)))
theorem relate_mayBorrowAgain_ok {K : Hp} {xa : Tq3} {xb : Tq3} {xc : Bool} {Aa0 : Option Addr} {Ca0 : Nat} {Ab0 : Option Addr} {Cb0 : Nat} (Ga0 : Is K (.sl Yq1) [sl Aa0 xa Ca0] xa) (Gb0 : Is K (.sl Yq1) [sl Ab0 xb Cb0] xb) {r : Bool} (h : fn_relate_mayBorrowAgain xa xb xc = some r) :
    Tr Tryz.prog 137 #[.agg #[sl Aa0 xa Ca0], .agg #[sl Ab0 xb Cb0], .bool xc] K [] (fun v K' L' => (∃ (t57 : Bool), t57 = r ∧ .bool t57 = v ∧ L' = []) ∧ K = K') := by
 refine Tr.k <| Tr.of func137 rfl ntmps137 rfl fun E F => ?_
 unfold fn_relate_mayBorrowAgain at h
 refine cr <| jbx [sl Aa0 xa Ca0] rfl rfl fun b58 => jbx [sl Ab0 xb Cb0] rfl rfl fun b59 => ja (.bool false) rfl <| J.nil <| CJ.seq ?_
 refine cr <| jv _ (V.fad underlying26 rfl nz24 rfl) <| jv (sl Aa0 xa Ca0) (V.ld rfl (Ld.sc sc24 (Rd.cl 1 rfl rfl))) <| jv (ii (((xa.length : Nat) : Int))) (V.len underlying24 rfl) <| jv (.bool (decide ((((xa.length : Nat) : Int)) = 0))) (V.eql rfl rfl) <| jm (.bool (decide ((((xa.length : Nat) : Int)) = 0))) rfl ?_
 refine J.cut 6 ?_
 obtain ⟨t70, ht71, h⟩ := ob h
 refine jmeet [(18, .bool t70), (2, .bool xc), (3, pt b58), (4, pt b59)] ?_ ?_
 · rcases bt (decide ((((xa.length : Nat) : Int)) = 0)) with hc72 | hc72
   · have ht71 := ct hc72 ht71
     refine J.skip rfl rfl rfl rfl hc72 <| J.skip rfl rfl rfl rfl hc72 <| J.skip rfl rfl rfl rfl hc72 <| J.skip rfl rfl rfl rfl hc72 <| J.skip rfl rfl rfl rfl hc72 <| jv (.bool true) (V.pickT rfl hc72 rfl) <| J.nil ?_
     obtain rfl := si ht71
     exact ⟨rfl, rt4, rfl, rfl⟩
   have ht71 := cf hc72 ht71
   refine J.run rfl rfl rfl hc72 <| jv _ (V.fad underlying26 rfl nz24 rfl) <| J.run rfl rfl rfl hc72 <| jv (sl Aa0 xa Ca0) (V.ld rfl (Ld.sc sc24 (Rd.cl 1 rfl rfl))) <| J.run rfl rfl rfl hc72 ?_
   obtain ⟨x73, hx74, ht71⟩ := ob ht71
   obtain ⟨p75, p76, p77⟩ := getI_some hx74
   obtain ⟨b78, o79, e80, a81⟩ := (Ga0).at p76
   refine jv _ (V.iad underlying24 sz150 rfl e80 rfl p75 p77) <| J.run rfl rfl rfl hc72 <| jv _ (V.fad underlying150 rfl nz4 rfl) <| J.run rfl rfl rfl hc72 <| jv (.bool x73.2) (V.ld rfl (Ld.sc sc4 (Rd.k (((a81).snd).one).bool hpr))) <| jv (.bool x73.2) (V.pickF rfl hc72 rfl) <| J.nil ?_
   obtain rfl := si ht71
   exact ⟨rfl, rt4, rfl, rfl⟩
 intro ρ
 refine jm (.bool t70) rfl <| J.cut 5 ?_
 obtain ⟨t89, ht90, h⟩ := ob h
 refine jmeet [(24, .bool t89), (2, .bool xc), (3, pt b58)] ?_ ?_
 · rcases bt (t70) with hc91 | hc91
   · have ht90 := ct hc91 ht90
     refine J.skip rfl rfl rfl rfl hc91 <| J.skip rfl rfl rfl rfl hc91 <| J.skip rfl rfl rfl rfl hc91 <| J.skip rfl rfl rfl rfl hc91 <| jv (.bool true) (V.pickT rfl hc91 rfl) <| J.nil ?_
     obtain rfl := si ht90
     exact ⟨rfl, rt3, rfl, rfl⟩
   have ht90 := cf hc91 ht90
   refine J.run rfl rfl rfl hc91 <| jv (.agg #[sl Aa0 xa Ca0]) (V.ld rfl (Ld.agg (cs := [sl Aa0 xa Ca0]) underlying26 sz26 rfl (Rd.cls 1 0 rfl rfl))) <| J.run rfl rfl rfl hc91 <| jv (.agg #[sl Ab0 xb Cb0]) (V.ld rfl (Ld.agg (cs := [sl Ab0 xb Cb0]) underlying26 sz26 rfl (Rd.cls 0 0 rfl rfl))) <| J.run rfl rfl rfl hc91 ?_
   obtain ⟨r92, hr93, ht90⟩ := ob ht90
   refine J.op rfl (A.call (L1 := []) call92 rfl (row_Shape_ok Ga0 Gb0 hr93) rfl rfl) ?_
   rintro _ _ _ ⟨v95, _, rfl, ⟨⟨t94, rfl, rfl, rfl⟩, rfl⟩, _, rfl⟩
   refine J.run rfl rfl rfl hc91 <| jv (.bool (!t94)) (V.not rfl) <| jv (.bool (!t94)) (V.pickF rfl hc91 rfl) <| J.nil ?_
   obtain rfl := si ht90
   exact ⟨rfl, rt3, rfl, rfl⟩
 intro ρ
 refine J.nil <| cc rfl h (fun hc98 h => ?_) fun hc98 h => ?_
 · refine cr <| ja (.bool false) rfl <| J.nil <| CJ.ret ?_
   obtain rfl := si h
   exact ⟨_, _, Res.one rfl rfl, ⟨false, rfl, rfl, rfl⟩, hpr, fun w hs => (Sep.dropAt 0 rfl (Sep.dropAt 0 rfl hs))⟩
 refine CJ.skip <| cr <| jv _ (V.fad underlying26 rfl nz24 rfl) <| jv (sl Aa0 xa Ca0) (V.ld rfl (Ld.sc sc24 (Rd.cl 1 rfl rfl))) ?_
 obtain ⟨y99, hy2, h⟩ := ob h
 obtain ⟨ad5, cp6, hv7, f9⟩ := V.subI (tp := Yq1) underlying24 sz150 Ga0 hy2
 refine jv (sl ad5 y99 cp6) (hv7 rfl (fun _ h => by cases h; exact ⟨_, rfl⟩) nofun nofun (fun _ => rfl)) ?_
 obtain ⟨r10, hr11, h⟩ := ob h
 refine J.op rfl (A.call (L1 := []) call122 rfl (slices_ContainsFunc_api_Slot_api_Slot_k_relate_mayBorrowAgain_1_ok f9 hr11) rfl rfl) ?_
 rintro _ _ _ ⟨v12, _, rfl, ⟨⟨t13, rfl, rfl, rfl⟩, rfl⟩, _, rfl⟩
 refine ja (.bool t13) rfl <| J.nil <| cr <| jm (.bool xc) rfl <| jv (.bool (!xc)) (V.not rfl) <| jm (.bool (!xc)) rfl ?_
 refine J.cut 3 <| jmeet [(34, .bool ((!xc) || (!t13)))] ?_ ?_
 · rcases bt (!xc) with hc14 | hc14
   · refine J.skip rfl rfl rfl rfl hc14 <| J.skip rfl rfl rfl rfl hc14 <| jv (.bool true) (V.pickT rfl hc14 rfl) <| J.nil ?_
     exact ⟨rfl, ⟨(by simp only [hc14]; rfl), trivial⟩, rfl, rfl⟩
   refine J.run rfl rfl rfl hc14 <| jm (.bool t13) rfl <| J.run rfl rfl rfl hc14 <| jv (.bool (!t13)) (V.not rfl) <| jv (.bool (!t13)) (V.pickF rfl hc14 rfl) <| J.nil ?_
   exact ⟨rfl, ⟨(by simp only [hc14]; rfl), trivial⟩, rfl, rfl⟩
 intro ρ
 refine ja (.bool ((!xc) || (!t13))) rfl <| J.nil <| CJ.ret ?_
 obtain rfl := si h
 exact ⟨_, _, Res.one rfl rfl, ⟨(!xc) || (!t13), rfl, rfl, rfl⟩, hpr, fun w hs => (Sep.dropAt 0 rfl (Sep.dropAt 0 rfl hs))⟩

noncomputable def fn_relate_Again (xa : Tq3) (xb : Tq3) (xc : Int) (xd : Bool) : Option (Tq10) :=
  (fn_relate_mayBorrowAgain xa xb xd).bind fun t1 => cond (!t1) (some (([], 8))) ((getI xa 0).bind fun x2 => (getI xb 0).bind fun x3 => (subL xa 1 (((xa.length : Nat) : Int))).bind fun y4 => (subL xb 1 (((xb.length : Nat) : Int))).bind fun y5 => (fn_relate_related y4 y5 1 1).bind fun l6 => (app (([(x2.1, xc, 3, 0, false), (xc, x3.1, 2, 0, false)] : List Tq2)) l6).bind fun z7 => some ((z7, 0)))
theorem relate_Again_ok {K : Hp} {xa : Tq3} {xb : Tq3} {xc : Int} {xd : Bool} {Aa0 : Option Addr} {Ca0 : Nat} {Ab0 : Option Addr} {Cb0 : Nat} (Ga0 : Is K (.sl Yq1) [sl Aa0 xa Ca0] xa) (Gb0 : Is K (.sl Yq1) [sl Ab0 xb Cb0] xb) {r : Tq10} (h : fn_relate_Again xa xb xc xd = some r) :
    Tr Tryz.prog 128 #[.agg #[sl Aa0 xa Ca0], .agg #[sl Ab0 xb Cb0], ii xc, .bool xd] K [] (fun v K' L' => (∃ (l2 : (List Tq2)) (i4 : Int) (ad5 : Option Addr) (cp6 : Nat), (l2, i4) = r ∧ .tuple #[sl ad5 l2 cp6, ii i4] = v ∧ L' = [Row Hp.nil 187 Yq2 (sl ad5 l2 cp6) l2]) ∧ K = K') := by
 refine Tr.k <| Tr.of func128 rfl ntmps128 rfl fun E F => ?_
 unfold fn_relate_Again at h
 refine cr <| jbx [sl Aa0 xa Ca0] rfl rfl fun b7 => jbx [sl Ab0 xb Cb0] rfl rfl fun b9 => ja (nos) rfl <| ja (ii 0) rfl <| J.nil ?_
 refine CJ.seq <| cr <| jv (.agg #[sl Aa0 xa Ca0]) (V.ld rfl (Ld.agg (cs := [sl Aa0 xa Ca0]) underlying26 sz26 rfl (Rd.cls 1 0 rfl rfl))) <| jv (.agg #[sl Ab0 xb Cb0]) (V.ld rfl (Ld.agg (cs := [sl Ab0 xb Cb0]) underlying26 sz26 rfl (Rd.cls 0 0 rfl rfl))) <| jm (.bool xd) rfl ?_
 obtain ⟨r10, hr11, h⟩ := ob h
 refine J.op rfl (A.call (L1 := []) call137 rfl (relate_mayBorrowAgain_ok Ga0 Gb0 hr11) rfl rfl) ?_
 rintro _ _ _ ⟨v12, _, rfl, ⟨⟨t13, rfl, rfl, rfl⟩, rfl⟩, _, rfl⟩
 refine jv (.bool (!t13)) (V.not rfl) <| J.nil <| cc rfl h (fun hc14 h => ?_) fun hc14 h => ?_
 · refine cr <| ja (nos) rfl <| ja (ii 8) rfl <| J.nil <| CJ.by (fun w hs => Sep.rowNil (e := 187) (t := Yq2) hs) <| CJ.ret ?_
   obtain rfl := si h
   exact ⟨_, _, Res.two rfl rfl rfl, ⟨[], 8, none, 0, rfl, rfl, rfl⟩, hpr, fun w hs => (Sep.dropAt 1 rfl (Sep.dropAt 1 rfl hs))⟩
 refine CJ.skip <| CJ.seq <| CJ.mix [Cl b9 26 [sl Ab0 xb Cb0], Cl b7 26 [sl Aa0 xa Ca0]] [([0, 1, 2, 3, 4, 5, 6, 7, 8, 9, 10, 11, 12, 13], 14)] [15] [] mixO (by decide +kernel) ⟨0, rfl, 0, rfl, trivial⟩ rfl rfl rfl <| JM.cons <| qv _ (V.fad underlying26 rfl nz24 rfl) <| qv (sl Aa0 xa Ca0) (V.ld rfl (Ld.sc sc24 (Rd.cl 1 rfl rfl))) ?_
 obtain ⟨x15, hx17, h⟩ := ob h
 obtain ⟨p18, p19, p20⟩ := getI_some hx17
 obtain ⟨b21, o22, e23, a25⟩ := (Ga0).at p19
 refine qv _ (V.iad underlying24 sz150 rfl e23 rfl p18 p20) <| qv _ (V.fad underlying150 rfl nz3 rfl) <| qv (ii x15.1) (V.ld rfl (Ld.sc sc3 (Rd.k ((a25).fst).int hpr))) <| qm (ii xc) rfl <| qv (.agg #[ii x15.1, ii xc, ii 3, ii 0, .bool false]) (V.build inf187 places187 rfl rfl) <| qm (ii xc) rfl <| qv _ (V.fad underlying26 rfl nz24 rfl) ?_
 refine qv (sl Ab0 xb Cb0) (V.ld rfl (Ld.sc sc24 (Rd.cl 0 rfl rfl))) ?_
 obtain ⟨x27, hx28, h⟩ := ob h
 obtain ⟨p29, p30, p31⟩ := getI_some hx28
 obtain ⟨b33, o34, e35, a36⟩ := (Gb0).at p30
 refine qv _ (V.iad underlying24 sz150 rfl e35 rfl p29 p31) <| qv _ (V.fad underlying150 rfl nz3 rfl) <| qv (ii x27.1) (V.ld rfl (Ld.sc sc3 (Rd.k ((a36).fst).int hpr))) <| qv (.agg #[ii xc, ii x27.1, ii 2, ii 0, .bool false]) (V.build inf187 places187 rfl rfl) <| JQ.nil ?_
 refine JA.op rfl (A.lit (K0 := Hp.nil) (ty := Yq2) (xs := ([(x15.1, xc, 3, 0, false), (xc, x27.1, 2, 0, false)] : List Tq2)) underlying159 inf187 rfl (by decide) rfl rfl rfl ⟨_, _, rfl, ⟨_, _, rfl, rfl, rfl, ⟨_, _, rfl, rfl, rfl, ⟨_, _, rfl, rfl, rfl, ⟨_, _, rfl, rfl, rfl, rfl⟩⟩⟩⟩, ⟨_, _, rfl, ⟨_, _, rfl, rfl, rfl, ⟨_, _, rfl, rfl, rfl, ⟨_, _, rfl, rfl, rfl, ⟨_, _, rfl, rfl, rfl, rfl⟩⟩⟩⟩, rfl⟩⟩ rfl (by decide)) ?_
 rintro _ _ _ ⟨b37, rfl, rfl, rfl⟩
 have hn38 : ([(x15.1, xc, 3, 0, false), (xc, x27.1, 2, 0, false)] : List Tq2) ≠ [] → ∃ g, (some ⟨b37, 0, none⟩ : Option Addr) = some ⟨g, 0, none⟩ := fun _ => ⟨b37, rfl⟩
 refine ⟨fun w hs => Hold.sub hpr ⟨1, rfl, 1, rfl, trivial⟩ hs, ?_⟩
 refine JM.nil <| qa (.slice (some ⟨b37, 0, none⟩) ((([(x15.1, xc, 3, 0, false), (xc, x27.1, 2, 0, false)] : List Tq2)).length) 2) rfl <| JQ.nil <| J.nil <| CJ.seq <| CJ.mix [Row Hp.nil 187 Yq2 (.slice (some ⟨b37, 0, none⟩) ((([(x15.1, xc, 3, 0, false), (xc, x27.1, 2, 0, false)] : List Tq2)).length) 2) (([(x15.1, xc, 3, 0, false), (xc, x27.1, 2, 0, false)] : List Tq2)), Cl b9 26 [sl Ab0 xb Cb0], Cl b7 26 [sl Aa0 xa Ca0]] [([0, 1, 2, 3, 4, 5, 6], 7)] [] [8, 9, 10] mixO (by decide +kernel) ⟨0, rfl, 0, rfl, 0, rfl, trivial⟩ rfl rfl rfl <| JM.cons ?_
 refine qm (.slice (some ⟨b37, 0, none⟩) ((([(x15.1, xc, 3, 0, false), (xc, x27.1, 2, 0, false)] : List Tq2)).length) 2) rfl <| qv _ (V.fad underlying26 rfl nz24 rfl) <| qv (sl Aa0 xa Ca0) (V.ld rfl (Ld.sc sc24 (Rd.cl 2 rfl rfl))) ?_
 obtain ⟨y39, hy40, h⟩ := ob h
 obtain ⟨ad41, cp42, hv43, f44⟩ := V.subI (tp := Yq1) underlying24 sz150 Ga0 hy40
 refine qv (sl ad41 y39 cp42) (hv43 rfl (fun _ h => by cases h; exact ⟨_, rfl⟩) nofun nofun (fun _ => rfl)) <| qv _ (V.fad underlying26 rfl nz24 rfl) <| qv (sl Ab0 xb Cb0) (V.ld rfl (Ld.sc sc24 (Rd.cl 1 rfl rfl))) ?_
 obtain ⟨y45, hy46, h⟩ := ob h
 obtain ⟨ad47, cp48, hv49, f50⟩ := V.subI (tp := Yq1) underlying24 sz150 Gb0 hy46
 refine qv (sl ad47 y45 cp48) (hv49 rfl (fun _ h => by cases h; exact ⟨_, rfl⟩) nofun nofun (fun _ => rfl)) <| JQ.nil ?_
 obtain ⟨r51, hr52, h⟩ := ob h
 refine JA.op rfl (A.call (L1 := []) call135 rfl (relate_related_ok f44 f50 hr52) rfl rfl) ?_
 rintro _ _ _ ⟨v53, _, rfl, ⟨⟨l54, ad55, cp56, rfl, rfl, rfl⟩, rfl⟩, _, rfl⟩
 refine ⟨fun w hs => Hold.sub hpr ⟨1, rfl, 1, rfl, 1, rfl, trivial⟩ hs, ?_⟩
 refine JM.wit Row.hn fun hn57 => JM.nil <| JQ.nil ?_
 obtain ⟨z58, hz59, h⟩ := ob h
 refine J.front 1 rfl <| J.op rfl (A.appR (Kr := Hp.nil) underlying159 inf187 rfl rfl (by decide) (by decide) rfl rfl (Els.flat rfl) (Els.flat rfl) hz59) ?_
 rintro _ _ _ ⟨v60, rfl, rfl, rfl⟩
 refine J.wit Row.form ?_
 rintro ⟨ad61, cp62, rfl, _, _, hn63⟩
 refine ja (sl ad61 z58 cp62) rfl <| ja (ii 0) rfl <| J.nil <| CJ.ret ?_
 obtain rfl := si h
 exact ⟨_, _, Res.two rfl rfl rfl, ⟨z58, 0, ad61, cp62, rfl, rfl, rfl⟩, hpr, fun w hs => (Sep.dropAt 1 rfl (Sep.dropAt 1 rfl hs))⟩

noncomputable def fn_stmt_Needs (xa : Tq2) (xb : (List Tq3)) (xc : Int) : Option (Tq10) :=
  (fn_stmt_form (xa.1, xa.2.1, xa.2.2.1, xa.2.2.2.1, xa.2.2.2.2)).bind fun (t1, t2, t3, i4) => cond (!decide (i4 = 0)) (some (([], i4))) ((cond (t1) ((fn_stmt_Needs_1_ip0_k xa.2.1 xb).bind fun t5 => some (!t5)) (some (false))).bind fun t6 => (cond (t6) (some (true)) ((cond (t2) ((fn_stmt_Needs_1_ip0_k xa.2.2.1 xb).bind fun t7 => some (!t7)) (some (false))).bind fun t9 => some (t9))).bind fun t10 => cond (t10 || (t3 && ((decide (xa.2.2.2.1 < 0)) || (decide (xc ≤ xa.2.2.2.1))))) (some (([], 7))) (cond (decide (xa.1 = 1)) ((getI xb xa.2.2.1).bind fun x11 => (getI xb xa.2.1).bind fun x12 => (fn_relate_Flow x11 x12 1 0).bind fun (l13, i14) => some ((l13, i14))) (cond (decide (xa.1 = 2)) ((getI xb xa.2.2.1).bind fun x15 => (getI xb xa.2.1).bind fun x17 => (fn_relate_Loan x15 x17 xa.2.2.2.1 xa.2.2.2.2).bind fun (l18, i19) => some ((l18, i19))) (cond (decide (xa.1 = 3)) ((getI xb xa.2.2.1).bind fun x20 => (getI xb xa.2.1).bind fun x21 => (fn_relate_Again x20 x21 xa.2.2.2.1 xa.2.2.2.2).bind fun (l22, i23) => some ((l22, i23))) (some (([], 0)))))))
theorem stmt_Needs_ok {K : Hp} {xa : Tq2} {xb : (List Tq3)} {xc : Int} {Ab0 : Option Addr} {Cb0 : Nat} (Gb0 : Is K Yq8 [sl Ab0 xb Cb0] xb) {r : Tq10} (h : fn_stmt_Needs xa xb xc = some r) :
    Tr Tryz.prog 116 #[.agg #[ii xa.1, ii xa.2.1, ii xa.2.2.1, ii xa.2.2.2.1, .bool xa.2.2.2.2], sl Ab0 xb Cb0, ii xc] K [] (fun v K' L' => (∃ (l2 : (List Tq2)) (i7 : Int) (ad9 : Option Addr) (cp10 : Nat), (l2, i7) = r ∧ .tuple #[sl ad9 l2 cp10, ii i7] = v ∧ L' = [Row Hp.nil 187 Yq2 (sl ad9 l2 cp10) l2]) ∧ K = K') := by
 refine Tr.k <| Tr.of func116 rfl ntmps116 rfl fun E F => ?_
 unfold fn_stmt_Needs at h
 refine cr <| jbx [ii xa.1, ii xa.2.1, ii xa.2.2.1, ii xa.2.2.2.1, .bool xa.2.2.2.2] rfl rfl fun b11 => jbx [sl Ab0 xb Cb0] rfl rfl fun b12 => ja (nos) rfl <| ja (ii 0) rfl <| J.nil ?_
 refine cr <| jv (.agg #[ii xa.1, ii xa.2.1, ii xa.2.2.1, ii xa.2.2.2.1, .bool xa.2.2.2.2]) (V.ld rfl (Ld.agg (cs := [ii xa.1, ii xa.2.1, ii xa.2.2.1, ii xa.2.2.2.1, .bool xa.2.2.2.2]) underlying62 sz62 rfl (Rd.cls 1 0 rfl rfl))) ?_
 obtain ⟨r13, hr14, h⟩ := ob h
 refine J.op rfl (A.call (L1 := []) call124 rfl (stmt_form_ok hr14) rfl rfl) ?_
 rintro _ _ _ ⟨v15, _, rfl, ⟨⟨t17, t18, t19, i20, rfl, rfl, rfl⟩, rfl⟩, _, rfl⟩
 refine jm (.tuple #[.agg #[.bool t17, .bool t18, .bool t19], ii i20]) rfl <| jx (.agg #[.bool t17, .bool t18, .bool t19]) rfl rfl <| jx (ii i20) rfl rfl <| jal inf175 [.bool false, .bool false, .bool false] rfl fun b21 => js [.bool t17, .bool t18, .bool t19] sz175 rfl rfl rfl rfl rfl rfl <| ja (ii i20) rfl <| J.nil ?_
 refine CJ.seq <| cr <| jm (ii i20) rfl <| jv (.bool (!decide (i20 = 0))) (V.neq rfl rfl) <| J.nil <| cc rfl h (fun hc22 h => ?_) fun hc22 h => ?_
 · refine cr <| jm (ii i20) rfl <| ja (nos) rfl <| ja (ii i20) rfl <| J.nil <| CJ.by (fun w hs => Sep.rowNil (e := 187) (t := Yq2) hs) ?_
   refine CJ.ret ?_
   obtain rfl := si h
   exact ⟨_, _, Res.two rfl rfl rfl, ⟨[], i20, none, 0, rfl, rfl, rfl⟩, hpr, fun w hs => (Sep.dropAt 1 rfl (Sep.dropAt 1 rfl (Sep.dropAt 1 rfl hs)))⟩
 refine CJ.skip <| cr <| jv (.func (.func 125) #[] #[pt b12]) (V.mkf rfl) <| ja (.func (.func 125) #[] #[pt b12]) rfl <| J.nil <| CJ.seq ?_
 refine cr <| jv _ (V.fad underlying175 rfl nz4 rfl) <| jv (.bool t17) (V.ld rfl (Ld.sc sc4 (Rd.cl 0 rfl rfl))) <| jm (.bool t17) rfl <| J.cut 6 ?_
 obtain ⟨t24, ht25, h⟩ := ob h
 refine jmeet [(28, .bool t24), (2, ii xc), (3, pt b11), (4, pt b12), (8, pt b21), (10, .func (.func 125) #[] #[pt b12])] ?_ ?_
 · rcases bt (t17) with hc27 | hc27
   · have ht25 := ct hc27 ht25
     refine J.run rfl rfl rfl hc27 <| jm (.func (.func 125) #[] #[pt b12]) rfl <| J.run rfl rfl rfl hc27 <| jv _ (V.fad underlying62 rfl nz3 rfl) <| J.run rfl rfl rfl hc27 <| jv (ii xa.2.1) (V.ld rfl (Ld.sc sc3 (Rd.cl 2 rfl rfl))) <| J.run rfl rfl rfl hc27 ?_
     obtain ⟨r28, hr29, ht25⟩ := ob ht25
     refine J.front 1 rfl <| J.op rfl (A.call (L1 := [Cl b12 23 [sl Ab0 xb Cb0]]) call125 rfl (stmt_Needs_1_ip0_k_ok Gb0 hr29) rfl rfl) ?_
     rintro _ _ _ ⟨v30, _, rfl, ⟨⟨t31, rfl, rfl, rfl⟩, rfl⟩, _, rfl⟩
     refine J.run rfl rfl rfl hc27 <| jv (.bool (!t31)) (V.not rfl) <| jv (.bool (!t31)) (V.pickT rfl hc27 rfl) <| J.front 2 rfl <| J.front 1 rfl <| J.front 2 rfl <| J.nil ?_
     obtain rfl := si ht25
     exact ⟨rfl, rt6, rfl, rfl⟩
   have ht25 := cf hc27 ht25
   refine J.skip rfl rfl rfl rfl hc27 <| J.skip rfl rfl rfl rfl hc27 <| J.skip rfl rfl rfl rfl hc27 <| J.skip rfl rfl rfl rfl hc27 <| J.skip rfl rfl rfl rfl hc27 <| jv (.bool false) (V.pickF rfl hc27 rfl) <| J.nil ?_
   obtain rfl := si ht25
   exact ⟨rfl, rt6, rfl, rfl⟩
 intro ρ
 refine jm (.bool t24) rfl <| J.cut 10 ?_
 obtain ⟨t33, ht34, h⟩ := ob h
 refine jmeet [(39, .bool t33), (2, ii xc), (3, pt b11), (4, pt b12), (8, pt b21)] ?_ ?_
 · rcases bt (t24) with hc35 | hc35
   · have ht34 := ct hc35 ht34
     refine J.skip rfl rfl rfl rfl hc35 <| J.skip rfl rfl rfl rfl hc35 <| J.skip rfl rfl rfl rfl hc35 <| J.skipu rfl rfl rfl rfl <| J.skipu rfl rfl rfl rfl <| J.skipu rfl rfl rfl rfl <| J.skipu rfl rfl rfl rfl ?_
     refine J.skipu rfl rfl rfl rfl <| J.skip rfl rfl rfl rfl hc35 <| jv (.bool true) (V.pickT rfl hc35 rfl) <| J.nil ?_
     obtain rfl := si ht34
     exact ⟨rfl, rt5, rfl, rfl⟩
   have ht34 := cf hc35 ht34
   refine J.run rfl rfl rfl hc35 <| jv _ (V.fad underlying175 rfl nz4 rfl) <| J.run rfl rfl rfl hc35 <| jv (.bool t18) (V.ld rfl (Ld.sc sc4 (Rd.cl 0 rfl rfl))) <| J.run rfl rfl rfl hc35 <| jm (.bool t18) rfl <| J.cut 6 ?_
   obtain ⟨t36, ht37, ht34⟩ := ob ht34
   refine jmeet [(38, .bool t36), (2, ii xc), (3, pt b11), (4, pt b12), (8, pt b21), (29, .bool t24)] ?_ ?_
   · rcases bt (t18) with hc38 | hc38
     · have ht37 := ct hc38 ht37
       refine J.run rfl rfl rfl hc38 <| jm (.func (.func 125) #[] #[pt b12]) rfl <| J.run rfl rfl rfl hc38 <| jv _ (V.fad underlying62 rfl nz3 rfl) <| J.run rfl rfl rfl hc38 <| jv (ii xa.2.2.1) (V.ld rfl (Ld.sc sc3 (Rd.cl 2 rfl rfl))) <| J.run rfl rfl rfl hc38 ?_
       obtain ⟨r39, hr40, ht37⟩ := ob ht37
       refine J.front 1 rfl <| J.op rfl (A.call (L1 := [Cl b12 23 [sl Ab0 xb Cb0]]) call125 rfl (stmt_Needs_1_ip0_k_ok Gb0 hr40) rfl rfl) ?_
       rintro _ _ _ ⟨v41, _, rfl, ⟨⟨t42, rfl, rfl, rfl⟩, rfl⟩, _, rfl⟩
       refine J.run rfl rfl rfl hc38 <| jv (.bool (!t42)) (V.not rfl) <| J.run rfl rfl rfl hc35 <| jv (.bool (!t42)) (V.pickT rfl hc38 rfl) <| J.front 2 rfl <| J.front 1 rfl <| J.front 2 rfl ?_
       refine J.nil ?_
       obtain rfl := si ht37
       exact ⟨rfl, rt6, rfl, rfl⟩
     have ht37 := cf hc38 ht37
     refine J.skip rfl rfl rfl rfl hc38 <| J.skip rfl rfl rfl rfl hc38 <| J.skip rfl rfl rfl rfl hc38 <| J.skip rfl rfl rfl rfl hc38 <| J.skip rfl rfl rfl rfl hc38 <| J.run rfl rfl rfl hc35 <| jv (.bool false) (V.pickF rfl hc38 rfl) ?_
     refine J.nil ?_
     obtain rfl := si ht37
     exact ⟨rfl, rt6, rfl, rfl⟩
   intro ρ
   refine jv (.bool t36) (V.pickF rfl hc35 rfl) <| J.nil ?_
   obtain rfl := si ht34
   exact ⟨rfl, rt5, rfl, rfl⟩
 intro ρ
 refine jm (.bool t33) rfl <| J.cut 14 <| jmeet [(54, .bool (t33 || (t19 && ((decide (xa.2.2.2.1 < 0)) || (decide (xc ≤ xa.2.2.2.1)))))), (3, pt b11), (4, pt b12)] ?_ ?_
 · rcases bt (t33) with hc43 | hc43
   · refine J.skip rfl rfl rfl rfl hc43 <| J.skip rfl rfl rfl rfl hc43 <| J.skip rfl rfl rfl rfl hc43 <| J.skipu rfl rfl rfl rfl <| J.skipu rfl rfl rfl rfl <| J.skipu rfl rfl rfl rfl <| J.skipu rfl rfl rfl rfl ?_
     refine J.skipu rfl rfl rfl rfl <| J.skipu rfl rfl rfl rfl <| J.skipu rfl rfl rfl rfl <| J.skipu rfl rfl rfl rfl <| J.skipu rfl rfl rfl rfl <| J.skip rfl rfl rfl rfl hc43 <| jv (.bool true) (V.pickT rfl hc43 rfl) ?_
     refine J.nil ?_
     exact ⟨rfl, ⟨(by simp only [hc43]; rfl), rfl, rfl, trivial⟩, rfl, rfl⟩
   refine J.run rfl rfl rfl hc43 <| jv _ (V.fad underlying175 rfl nz4 rfl) <| J.run rfl rfl rfl hc43 <| jv (.bool t19) (V.ld rfl (Ld.sc sc4 (Rd.cl 0 rfl rfl))) <| J.run rfl rfl rfl hc43 <| jm (.bool t19) rfl <| J.cut 10 ?_
   refine jmeet [(53, .bool (t19 && ((decide (xa.2.2.2.1 < 0)) || (decide (xc ≤ xa.2.2.2.1))))), (3, pt b11), (4, pt b12), (40, .bool t33)] ?_ ?_
   · rcases bt (t19) with hc44 | hc44
     · refine J.run rfl rfl rfl hc44 <| jv _ (V.fad underlying62 rfl nz3 rfl) <| J.run rfl rfl rfl hc44 <| jv (ii xa.2.2.2.1) (V.ld rfl (Ld.sc sc3 (Rd.cl 2 rfl rfl))) <| J.run rfl rfl rfl hc44 <| jv (.bool (decide (xa.2.2.2.1 < 0))) (V.lss rfl rfl) <| J.run rfl rfl rfl hc44 ?_
       refine jm (.bool (decide (xa.2.2.2.1 < 0))) rfl <| J.cut 5 <| jmeet [(52, .bool ((decide (xa.2.2.2.1 < 0)) || (decide (xc ≤ xa.2.2.2.1)))), (3, pt b11), (4, pt b12), (40, .bool t33), (43, .bool t19)] ?_ ?_
       · rcases bt (decide (xa.2.2.2.1 < 0)) with hc45 | hc45
         · refine J.skip rfl rfl rfl rfl hc45 <| J.skip rfl rfl rfl rfl hc45 <| J.skip rfl rfl rfl rfl hc45 <| J.skip rfl rfl rfl rfl hc45 <| J.run rfl rfl rfl hc44 <| jv (.bool true) (V.pickT rfl hc45 rfl) <| J.nil ?_
           exact ⟨rfl, ⟨(by simp only [hc45]; rfl), rfl, rfl, rfl, rfl, trivial⟩, rfl, rfl⟩
         refine J.run rfl rfl rfl hc45 <| jv _ (V.fad underlying62 rfl nz3 rfl) <| J.run rfl rfl rfl hc45 <| jv (ii xa.2.2.2.1) (V.ld rfl (Ld.sc sc3 (Rd.cl 2 rfl rfl))) <| J.run rfl rfl rfl hc45 <| jm (ii xc) rfl <| J.run rfl rfl rfl hc45 ?_
         refine jv (.bool (decide (xc ≤ xa.2.2.2.1))) (V.geq rfl rfl) <| J.run rfl rfl rfl hc44 <| jv (.bool (decide (xc ≤ xa.2.2.2.1))) (V.pickF rfl hc45 rfl) <| J.nil ?_
         exact ⟨rfl, ⟨(by simp only [hc45]; rfl), rfl, rfl, rfl, rfl, trivial⟩, rfl, rfl⟩
       intro ρ
       refine J.run rfl rfl rfl hc43 <| jv (.bool ((decide (xa.2.2.2.1 < 0)) || (decide (xc ≤ xa.2.2.2.1)))) (V.pickT rfl hc44 rfl) <| J.nil ?_
       exact ⟨rfl, ⟨(by simp only [hc44]; rfl), rfl, rfl, rfl, trivial⟩, rfl, rfl⟩
     refine J.skip rfl rfl rfl rfl hc44 <| J.skip rfl rfl rfl rfl hc44 <| J.skip rfl rfl rfl rfl hc44 <| J.skip rfl rfl rfl rfl hc44 <| J.skipu rfl rfl rfl rfl <| J.skipu rfl rfl rfl rfl <| J.skipu rfl rfl rfl rfl ?_
     refine J.skipu rfl rfl rfl rfl <| J.skip rfl rfl rfl rfl hc44 <| J.run rfl rfl rfl hc43 <| jv (.bool false) (V.pickF rfl hc44 rfl) <| J.nil ?_
     exact ⟨rfl, ⟨(by simp only [hc44]; rfl), rfl, rfl, rfl, trivial⟩, rfl, rfl⟩
   intro ρ
   refine jv (.bool (t19 && ((decide (xa.2.2.2.1 < 0)) || (decide (xc ≤ xa.2.2.2.1))))) (V.pickF rfl hc43 rfl) <| J.nil ?_
   exact ⟨rfl, ⟨(by simp only [hc43]; rfl), rfl, rfl, trivial⟩, rfl, rfl⟩
 intro ρ
 refine J.nil <| cc rfl h (fun hc46 h => ?_) fun hc46 h => ?_
 · refine cr <| ja (nos) rfl <| ja (ii 7) rfl <| J.nil <| CJ.by (fun w hs => Sep.rowNil (e := 187) (t := Yq2) hs) <| CJ.ret ?_
   obtain rfl := si h
   exact ⟨_, _, Res.two rfl rfl rfl, ⟨[], 7, none, 0, rfl, rfl, rfl⟩, hpr, fun w hs => (Sep.dropAt 1 rfl (Sep.dropAt 1 rfl (Sep.dropAt 1 rfl hs)))⟩
 refine CJ.skip <| CJ.seq <| cr <| jv _ (V.fad underlying62 rfl nz3 rfl) <| jv (ii xa.1) (V.ld rfl (Ld.sc sc3 (Rd.cl 2 rfl rfl))) <| J.nil ?_
 refine CJ.block <| cr <| jv (.bool (decide (xa.1 = 1))) (V.eql rfl rfl) <| ja (.bool (decide (xa.1 = 1))) rfl <| J.nil <| cc rfl h (fun hc47 h => ?_) fun hc47 h => ?_
 · refine CJ.seq <| CJ.mix [Cl b21 175 [.bool t17, .bool t18, .bool t19], Cl b12 23 [sl Ab0 xb Cb0], Cl b11 62 [ii xa.1, ii xa.2.1, ii xa.2.2.1, ii xa.2.2.2.1, .bool xa.2.2.2.2]] [([0, 1, 2, 3, 4, 5, 6, 7, 8, 9], 10)] [11, 12, 13, 14] [] mixO (by decide +kernel) ⟨0, rfl, 0, rfl, 0, rfl, trivial⟩ rfl rfl rfl <| JM.cons <| qv (sl Ab0 xb Cb0) (V.ld rfl (Ld.sc sc23 (Rd.cl 1 rfl rfl))) <| qv _ (V.fad underlying62 rfl nz3 rfl) <| qv (ii xa.2.2.1) (V.ld rfl (Ld.sc sc3 (Rd.cl 2 rfl rfl))) ?_
   obtain ⟨x48, hx49, h⟩ := ob h
   obtain ⟨p50, p51, p52⟩ := getI_some hx49
   obtain ⟨b53, o54, e55, a56⟩ := (Gb0).at p51
   refine qv _ (V.iad underlying23 sz26 rfl e55 rfl p50 p52) ?_
   obtain ⟨ad57, cp58, c59, f60⟩ := ((a56).one).sl
   refine qv (.agg #[sl ad57 x48 cp58]) (V.ld rfl (Ld.aggK (cs := [sl ad57 x48 cp58]) underlying26 sz26 rfl ⟨c59, trivial⟩ hpr)) <| qv (sl Ab0 xb Cb0) (V.ld rfl (Ld.sc sc23 (Rd.cl 1 rfl rfl))) <| qv _ (V.fad underlying62 rfl nz3 rfl) <| qv (ii xa.2.1) (V.ld rfl (Ld.sc sc3 (Rd.cl 2 rfl rfl))) ?_
   obtain ⟨x61, hx63, h⟩ := ob h
   obtain ⟨p65, p66, p67⟩ := getI_some hx63
   obtain ⟨b68, o69, e70, a71⟩ := (Gb0).at p66
   refine qv _ (V.iad underlying23 sz26 rfl e70 rfl p65 p67) ?_
   obtain ⟨ad72, cp73, c74, f75⟩ := ((a71).one).sl
   refine qv (.agg #[sl ad72 x61 cp73]) (V.ld rfl (Ld.aggK (cs := [sl ad72 x61 cp73]) underlying26 sz26 rfl ⟨c74, trivial⟩ hpr)) <| JQ.nil ?_
   obtain ⟨r76, hr77, h⟩ := ob h
   refine JA.op rfl (A.call (L1 := []) call126 rfl (relate_Flow_ok f60 f75 hr77) rfl rfl) ?_
   rintro _ _ _ ⟨v78, _, rfl, ⟨⟨l79, i80, ad81, cp82, rfl, rfl, rfl⟩, rfl⟩, _, rfl⟩
   refine ⟨fun w hs => Hold.sub hpr ⟨1, rfl, 1, rfl, 1, rfl, trivial⟩ hs, ?_⟩
   refine JM.wit Row.hn fun hn83 => JM.nil <| qv (sl ad81 l79 cp82) (V.ext rfl rfl) <| qv (ii i80) (V.ext rfl rfl) <| qa (sl ad81 l79 cp82) rfl <| qa (ii i80) rfl <| JQ.nil ?_
   refine J.nil <| CJ.ret ?_
   obtain rfl := si h
   exact ⟨_, _, Res.two rfl rfl rfl, ⟨l79, i80, ad81, cp82, rfl, rfl, rfl⟩, hpr, fun w hs => (Sep.dropAt 1 rfl (Sep.dropAt 1 rfl (Sep.dropAt 1 rfl hs)))⟩
 refine cr <| jv (.bool (decide (xa.1 = 2))) (V.eql rfl rfl) <| ja (.bool (decide (xa.1 = 2))) rfl <| J.nil <| cc rfl h (fun hc84 h => ?_) fun hc84 h => ?_
 · refine CJ.seq <| CJ.mix [Cl b21 175 [.bool t17, .bool t18, .bool t19], Cl b12 23 [sl Ab0 xb Cb0], Cl b11 62 [ii xa.1, ii xa.2.1, ii xa.2.2.1, ii xa.2.2.2.1, .bool xa.2.2.2.2]] [([0, 1, 2, 3, 4, 5, 6, 7, 8, 9, 10, 11, 12, 13], 14)] [15, 16, 17, 18] [] mixO (by decide +kernel) ⟨0, rfl, 0, rfl, 0, rfl, trivial⟩ rfl rfl rfl <| JM.cons <| qv (sl Ab0 xb Cb0) (V.ld rfl (Ld.sc sc23 (Rd.cl 1 rfl rfl))) <| qv _ (V.fad underlying62 rfl nz3 rfl) <| qv (ii xa.2.2.1) (V.ld rfl (Ld.sc sc3 (Rd.cl 2 rfl rfl))) ?_
   obtain ⟨x85, hx86, h⟩ := ob h
   obtain ⟨p87, p88, p89⟩ := getI_some hx86
   obtain ⟨b90, o91, e92, a93⟩ := (Gb0).at p88
   refine qv _ (V.iad underlying23 sz26 rfl e92 rfl p87 p89) ?_
   obtain ⟨ad94, cp95, c96, f97⟩ := ((a93).one).sl
   refine qv (.agg #[sl ad94 x85 cp95]) (V.ld rfl (Ld.aggK (cs := [sl ad94 x85 cp95]) underlying26 sz26 rfl ⟨c96, trivial⟩ hpr)) <| qv (sl Ab0 xb Cb0) (V.ld rfl (Ld.sc sc23 (Rd.cl 1 rfl rfl))) <| qv _ (V.fad underlying62 rfl nz3 rfl) <| qv (ii xa.2.1) (V.ld rfl (Ld.sc sc3 (Rd.cl 2 rfl rfl))) ?_
   obtain ⟨x98, hx99, h⟩ := ob h
   obtain ⟨p100, p101, p102⟩ := getI_some hx99
   obtain ⟨b103, o104, e105, a106⟩ := (Gb0).at p101
   refine qv _ (V.iad underlying23 sz26 rfl e105 rfl p100 p102) ?_
   obtain ⟨ad107, cp108, c109, f110⟩ := ((a106).one).sl
   refine qv (.agg #[sl ad107 x98 cp108]) (V.ld rfl (Ld.aggK (cs := [sl ad107 x98 cp108]) underlying26 sz26 rfl ⟨c109, trivial⟩ hpr)) <| qv _ (V.fad underlying62 rfl nz3 rfl) <| qv (ii xa.2.2.2.1) (V.ld rfl (Ld.sc sc3 (Rd.cl 2 rfl rfl))) <| qv _ (V.fad underlying62 rfl nz4 rfl) <| qv (.bool xa.2.2.2.2) (V.ld rfl (Ld.sc sc4 (Rd.cl 2 rfl rfl))) <| JQ.nil ?_
   obtain ⟨r111, hr112, h⟩ := ob h
   refine JA.op rfl (A.call (L1 := []) call127 rfl (relate_Loan_ok f97 f110 hr112) rfl rfl) ?_
   rintro _ _ _ ⟨v113, _, rfl, ⟨⟨l114, i115, ad116, cp117, rfl, rfl, rfl⟩, rfl⟩, _, rfl⟩
   refine ⟨fun w hs => Hold.sub hpr ⟨1, rfl, 1, rfl, 1, rfl, trivial⟩ hs, ?_⟩
   refine JM.wit Row.hn fun hn118 => JM.nil <| qv (sl ad116 l114 cp117) (V.ext rfl rfl) <| qv (ii i115) (V.ext rfl rfl) <| qa (sl ad116 l114 cp117) rfl <| qa (ii i115) rfl <| JQ.nil ?_
   refine J.nil <| CJ.ret ?_
   obtain rfl := si h
   exact ⟨_, _, Res.two rfl rfl rfl, ⟨l114, i115, ad116, cp117, rfl, rfl, rfl⟩, hpr, fun w hs => (Sep.dropAt 1 rfl (Sep.dropAt 1 rfl (Sep.dropAt 1 rfl hs)))⟩
 refine cr <| jv (.bool (decide (xa.1 = 3))) (V.eql rfl rfl) <| ja (.bool (decide (xa.1 = 3))) rfl <| J.nil <| cc rfl h (fun hc119 h => ?_) fun hc119 h => ?_
 · refine CJ.seq <| CJ.mix [Cl b21 175 [.bool t17, .bool t18, .bool t19], Cl b12 23 [sl Ab0 xb Cb0], Cl b11 62 [ii xa.1, ii xa.2.1, ii xa.2.2.1, ii xa.2.2.2.1, .bool xa.2.2.2.2]] [([0, 1, 2, 3, 4, 5, 6, 7, 8, 9, 10, 11, 12, 13], 14)] [15, 16, 17, 18] [] mixO (by decide +kernel) ⟨0, rfl, 0, rfl, 0, rfl, trivial⟩ rfl rfl rfl <| JM.cons <| qv (sl Ab0 xb Cb0) (V.ld rfl (Ld.sc sc23 (Rd.cl 1 rfl rfl))) <| qv _ (V.fad underlying62 rfl nz3 rfl) <| qv (ii xa.2.2.1) (V.ld rfl (Ld.sc sc3 (Rd.cl 2 rfl rfl))) ?_
   obtain ⟨x120, hx121, h⟩ := ob h
   obtain ⟨p122, p123, p124⟩ := getI_some hx121
   obtain ⟨b125, o126, e127, a128⟩ := (Gb0).at p123
   refine qv _ (V.iad underlying23 sz26 rfl e127 rfl p122 p124) ?_
   obtain ⟨ad129, cp130, c131, f132⟩ := ((a128).one).sl
   refine qv (.agg #[sl ad129 x120 cp130]) (V.ld rfl (Ld.aggK (cs := [sl ad129 x120 cp130]) underlying26 sz26 rfl ⟨c131, trivial⟩ hpr)) <| qv (sl Ab0 xb Cb0) (V.ld rfl (Ld.sc sc23 (Rd.cl 1 rfl rfl))) <| qv _ (V.fad underlying62 rfl nz3 rfl) <| qv (ii xa.2.1) (V.ld rfl (Ld.sc sc3 (Rd.cl 2 rfl rfl))) ?_
   obtain ⟨x133, hx134, h⟩ := ob h
   obtain ⟨p135, p136, p137⟩ := getI_some hx134
   obtain ⟨b138, o139, e140, a141⟩ := (Gb0).at p136
   refine qv _ (V.iad underlying23 sz26 rfl e140 rfl p135 p137) ?_
   obtain ⟨ad142, cp143, c144, f145⟩ := ((a141).one).sl
   refine qv (.agg #[sl ad142 x133 cp143]) (V.ld rfl (Ld.aggK (cs := [sl ad142 x133 cp143]) underlying26 sz26 rfl ⟨c144, trivial⟩ hpr)) <| qv _ (V.fad underlying62 rfl nz3 rfl) <| qv (ii xa.2.2.2.1) (V.ld rfl (Ld.sc sc3 (Rd.cl 2 rfl rfl))) <| qv _ (V.fad underlying62 rfl nz4 rfl) <| qv (.bool xa.2.2.2.2) (V.ld rfl (Ld.sc sc4 (Rd.cl 2 rfl rfl))) <| JQ.nil ?_
   obtain ⟨r146, hr147, h⟩ := ob h
   refine JA.op rfl (A.call (L1 := []) call128 rfl (relate_Again_ok f132 f145 hr147) rfl rfl) ?_
   rintro _ _ _ ⟨v148, _, rfl, ⟨⟨l149, i150, ad151, cp152, rfl, rfl, rfl⟩, rfl⟩, _, rfl⟩
   refine ⟨fun w hs => Hold.sub hpr ⟨1, rfl, 1, rfl, 1, rfl, trivial⟩ hs, ?_⟩
   refine JM.wit Row.hn fun hn153 => JM.nil <| qv (sl ad151 l149 cp152) (V.ext rfl rfl) <| qv (ii i150) (V.ext rfl rfl) <| qa (sl ad151 l149 cp152) rfl <| qa (ii i150) rfl <| JQ.nil ?_
   refine J.nil <| CJ.ret ?_
   obtain rfl := si h
   exact ⟨_, _, Res.two rfl rfl rfl, ⟨l149, i150, ad151, cp152, rfl, rfl, rfl⟩, hpr, fun w hs => (Sep.dropAt 1 rfl (Sep.dropAt 1 rfl (Sep.dropAt 1 rfl hs)))⟩
 refine CJ.skip <| cr <| ja (nos) rfl <| ja (ii 0) rfl <| J.nil <| CJ.by (fun w hs => Sep.rowNil (e := 187) (t := Yq2) hs) ?_
 refine CJ.ret ?_
 obtain rfl := si h
 exact ⟨_, _, Res.two rfl rfl rfl, ⟨[], 0, none, 0, rfl, rfl, rfl⟩, hpr, fun w hs => (Sep.dropAt 1 rfl (Sep.dropAt 1 rfl (Sep.dropAt 1 rfl hs)))⟩

noncomputable def fn_stmt_Check (xa : Tq2) (xb : (List Tq3)) (xc : Int) : Option Int :=
  (fn_stmt_Needs (xa.1, xa.2.1, xa.2.2.1, xa.2.2.2.1, xa.2.2.2.2) xb xc).bind fun (l17, i18) => some (i18)
theorem stmt_Check_ok {K : Hp} {xa : Tq2} {xb : (List Tq3)} {xc : Int} {Ab0 : Option Addr} {Cb0 : Nat} (Gb0 : Is K Yq8 [sl Ab0 xb Cb0] xb) {r : Int} (h : fn_stmt_Check xa xb xc = some r) :
    Tr Tryz.prog 94 #[.agg #[ii xa.1, ii xa.2.1, ii xa.2.2.1, ii xa.2.2.2.1, .bool xa.2.2.2.2], sl Ab0 xb Cb0, ii xc] K [] (fun v K' L' => (∃ (i13 : Int), i13 = r ∧ ii i13 = v ∧ L' = []) ∧ K = K') := by
 refine Tr.k <| Tr.of func94 rfl ntmps94 rfl fun E F => ?_
 unfold fn_stmt_Check at h
 refine cr <| jbx [ii xa.1, ii xa.2.1, ii xa.2.2.1, ii xa.2.2.2.1, .bool xa.2.2.2.2] rfl rfl fun b14 => ja (ii 0) rfl <| J.nil <| CJ.seq <| CJ.region ?_
 refine jv (.agg #[ii xa.1, ii xa.2.1, ii xa.2.2.1, ii xa.2.2.2.1, .bool xa.2.2.2.2]) (V.ld rfl (Ld.agg (cs := [ii xa.1, ii xa.2.1, ii xa.2.2.1, ii xa.2.2.2.1, .bool xa.2.2.2.2]) underlying62 sz62 rfl (Rd.cls 0 0 rfl rfl))) <| jm (sl Ab0 xb Cb0) rfl <| jm (ii xc) rfl ?_
 obtain ⟨r15, hr16, h⟩ := ob h
 refine J.op rfl (A.call (L1 := []) call116 rfl (stmt_Needs_ok Gb0 hr16) rfl rfl) ?_
 rintro _ _ _ ⟨v22, _, rfl, ⟨⟨l17, i18, ad19, cp20, rfl, rfl, rfl⟩, rfl⟩, _, rfl⟩
 refine J.wit Row.hn fun hn21 => jm (.tuple #[sl ad19 l17 cp20, ii i18]) rfl <| jx (sl ad19 l17 cp20) rfl rfl <| jx (ii i18) rfl rfl <| ja (sl ad19 l17 cp20) rfl <| ja (ii i18) rfl <| J.nil ?_
 refine cr <| jm (ii i18) rfl <| ja (ii i18) rfl <| J.nil <| CJ.ret ?_
 obtain rfl := si h
 exact ⟨_, _, Res.one rfl rfl, ⟨i18, rfl, rfl, rfl⟩, hpr, fun w hs => (Sep.dropAt 0 rfl (Sep.dropAt 0 rfl hs))⟩

noncomputable def fn_term_calls (xa : Tq5) : Option Bool :=
  some (((!decide (xa.2.1 = 0)) || (!decide (xa.2.2.1 = 0))) || (decide (0 < (((xa.2.2.2.2.2.length : Nat) : Int)))))
theorem term_calls_ok {K : Hp} {xa : Tq5} {Aa3 : Option Addr} {Ca3 : Nat} {Aa4 : Option Addr} {Ca4 : Nat} {Aa5 : Option Addr} {Ca5 : Nat} (Ga3 : Is K Yq7 [sl Aa3 xa.2.2.2.1 Ca3] xa.2.2.2.1) (Ga4 : Is K Yq7 [sl Aa4 xa.2.2.2.2.1 Ca4] xa.2.2.2.2.1) (Ga5 : Is K Yq7 [sl Aa5 xa.2.2.2.2.2 Ca5] xa.2.2.2.2.2) {r : Bool} (h : fn_term_calls xa = some r) :
    Tr Tryz.prog 138 #[.agg #[ii xa.1, ii xa.2.1, ii xa.2.2.1, sl Aa3 xa.2.2.2.1 Ca3, sl Aa4 xa.2.2.2.2.1 Ca4, sl Aa5 xa.2.2.2.2.2 Ca5]] K [] (fun v K' L' => (∃ (t8 : Bool), t8 = r ∧ .bool t8 = v ∧ L' = []) ∧ K = K') := by
 refine Tr.k <| Tr.of func138 rfl ntmps138 rfl fun E F => ?_
 unfold fn_term_calls at h
 refine cr <| jbx [ii xa.1, ii xa.2.1, ii xa.2.2.1, sl Aa3 xa.2.2.2.1 Ca3, sl Aa4 xa.2.2.2.2.1 Ca4, sl Aa5 xa.2.2.2.2.2 Ca5] rfl rfl fun b9 => ja (.bool false) rfl <| J.nil <| CJ.seq <| CJ.region ?_
 refine jv _ (V.fad underlying58 rfl nz3 rfl) <| jv (ii xa.2.1) (V.ld rfl (Ld.sc sc3 (Rd.cl 0 rfl rfl))) <| jv (.bool (!decide (xa.2.1 = 0))) (V.neq rfl rfl) <| jm (.bool (!decide (xa.2.1 = 0))) rfl <| J.cut 4 <| jmeet [(10, .bool ((!decide (xa.2.1 = 0)) || (!decide (xa.2.2.1 = 0)))), (1, pt b9)] ?_ ?_
 · rcases bt (!decide (xa.2.1 = 0)) with hc12 | hc12
   · refine J.skip rfl rfl rfl rfl hc12 <| J.skip rfl rfl rfl rfl hc12 <| J.skip rfl rfl rfl rfl hc12 <| jv (.bool true) (V.pickT rfl hc12 rfl) <| J.nil ?_
     exact ⟨rfl, ⟨(by simp only [hc12]; rfl), rfl, trivial⟩, rfl, rfl⟩
   refine J.run rfl rfl rfl hc12 <| jv _ (V.fad underlying58 rfl nz3 rfl) <| J.run rfl rfl rfl hc12 <| jv (ii xa.2.2.1) (V.ld rfl (Ld.sc sc3 (Rd.cl 0 rfl rfl))) <| J.run rfl rfl rfl hc12 <| jv (.bool (!decide (xa.2.2.1 = 0))) (V.neq rfl rfl) <| jv (.bool (!decide (xa.2.2.1 = 0))) (V.pickF rfl hc12 rfl) ?_
   refine J.nil ?_
   exact ⟨rfl, ⟨(by simp only [hc12]; rfl), rfl, trivial⟩, rfl, rfl⟩
 intro ρ
 refine jm (.bool ((!decide (xa.2.1 = 0)) || (!decide (xa.2.2.1 = 0)))) rfl <| J.cut 5 <| jmeet [(16, .bool (((!decide (xa.2.1 = 0)) || (!decide (xa.2.2.1 = 0))) || (decide (0 < (((xa.2.2.2.2.2.length : Nat) : Int))))))] ?_ ?_
 · rcases bt ((!decide (xa.2.1 = 0)) || (!decide (xa.2.2.1 = 0))) with hc15 | hc15
   · refine J.skip rfl rfl rfl rfl hc15 <| J.skip rfl rfl rfl rfl hc15 <| J.skip rfl rfl rfl rfl hc15 <| J.skip rfl rfl rfl rfl hc15 <| jv (.bool true) (V.pickT rfl hc15 rfl) <| J.nil ?_
     exact ⟨rfl, ⟨(by simp only [hc15]; rfl), trivial⟩, rfl, rfl⟩
   refine J.run rfl rfl rfl hc15 <| jv _ (V.fad underlying58 rfl nz42 rfl) <| J.run rfl rfl rfl hc15 <| jv (sl Aa5 xa.2.2.2.2.2 Ca5) (V.ld rfl (Ld.sc sc42 (Rd.cl 0 rfl rfl))) <| J.run rfl rfl rfl hc15 <| jv (ii (((xa.2.2.2.2.2.length : Nat) : Int))) (V.len underlying42 rfl) <| J.run rfl rfl rfl hc15 ?_
   refine jv (.bool (decide (0 < (((xa.2.2.2.2.2.length : Nat) : Int))))) (V.gtr rfl rfl) <| jv (.bool (decide (0 < (((xa.2.2.2.2.2.length : Nat) : Int))))) (V.pickF rfl hc15 rfl) <| J.nil ?_
   exact ⟨rfl, ⟨(by simp only [hc15]; rfl), trivial⟩, rfl, rfl⟩
 intro ρ
 refine ja (.bool (((!decide (xa.2.1 = 0)) || (!decide (xa.2.2.1 = 0))) || (decide (0 < (((xa.2.2.2.2.2.length : Nat) : Int)))))) rfl <| J.nil <| CJ.ret ?_
 obtain rfl := si h
 exact ⟨_, _, Res.one rfl rfl, ⟨((!decide (xa.2.1 = 0)) || (!decide (xa.2.2.1 = 0))) || (decide (0 < (((xa.2.2.2.2.2.length : Nat) : Int)))), rfl, rfl, rfl⟩, hpr, fun w hs => (Sep.dropAt 0 rfl hs)⟩

noncomputable def fn_term_form (xa : Tq5) : Option Int :=
  (cond (decide (xa.1 = 1)) ((cond ((decide ((((xa.2.2.2.1.length : Nat) : Int)) = 1)) && (decide ((((xa.2.2.2.2.1.length : Nat) : Int)) = 0))) ((fn_term_calls (xa.1, xa.2.1, xa.2.2.1, xa.2.2.2.1, xa.2.2.2.2.1, xa.2.2.2.2.2)).bind fun t1 => some (!t1)) (some (false))).bind fun t2 => some (t2)) (cond (decide (xa.1 = 2)) ((cond (decide (0 < (((xa.2.2.2.1.length : Nat) : Int)))) ((fn_term_calls (xa.1, xa.2.1, xa.2.2.1, xa.2.2.2.1, xa.2.2.2.2.1, xa.2.2.2.2.2)).bind fun t3 => some (!t3)) (some (false))).bind fun t4 => some (t4)) (cond (decide (xa.1 = 3)) ((cond ((decide ((((xa.2.2.2.1.length : Nat) : Int)) = 0)) && (decide ((((xa.2.2.2.2.1.length : Nat) : Int)) = 0))) ((fn_term_calls (xa.1, xa.2.1, xa.2.2.1, xa.2.2.2.1, xa.2.2.2.2.1, xa.2.2.2.2.2)).bind fun t5 => some (!t5)) (some (false))).bind fun t6 => some (t6)) (cond (decide (xa.1 = 4)) (some (decide ((((xa.2.2.2.1.length : Nat) : Int)) = 1))) (some (false))))) : Option Bool).bind fun t7 => cond (!t7) (some (3)) (cond (((decide (16 < (((xa.2.2.2.1.length : Nat) : Int)))) || (decide (16 < (((xa.2.2.2.2.1.length : Nat) : Int))))) || (decide (16 < (((xa.2.2.2.2.2.length : Nat) : Int))))) (some (6)) (some (0)))
theorem term_form_ok {K : Hp} {xa : Tq5} {Aa3 : Option Addr} {Ca3 : Nat} {Aa4 : Option Addr} {Ca4 : Nat} {Aa5 : Option Addr} {Ca5 : Nat} (Ga3 : Is K Yq7 [sl Aa3 xa.2.2.2.1 Ca3] xa.2.2.2.1) (Ga4 : Is K Yq7 [sl Aa4 xa.2.2.2.2.1 Ca4] xa.2.2.2.2.1) (Ga5 : Is K Yq7 [sl Aa5 xa.2.2.2.2.2 Ca5] xa.2.2.2.2.2) {r : Int} (h : fn_term_form xa = some r) :
    Tr Tryz.prog 129 #[.agg #[ii xa.1, ii xa.2.1, ii xa.2.2.1, sl Aa3 xa.2.2.2.1 Ca3, sl Aa4 xa.2.2.2.2.1 Ca4, sl Aa5 xa.2.2.2.2.2 Ca5]] K [] (fun v K' L' => (∃ (i6 : Int), i6 = r ∧ ii i6 = v ∧ L' = []) ∧ K = K') := by
 refine Tr.k <| Tr.of func129 rfl ntmps129 rfl fun E F => ?_
 unfold fn_term_form at h
 refine cr <| jbx [ii xa.1, ii xa.2.1, ii xa.2.2.1, sl Aa3 xa.2.2.2.1 Ca3, sl Aa4 xa.2.2.2.2.1 Ca4, sl Aa5 xa.2.2.2.2.2 Ca5] rfl rfl fun b7 => ja (ii 0) rfl <| J.nil <| CJ.seq <| CJ.region ?_
 refine ja (.bool false) rfl <| J.nil <| CJ.seq ?_
 obtain ⟨o9, ho10, h⟩ := ob h
 refine CJ.meetN (fun ρ K' L' => ∃ (t11 : Bool), t11 = o9 ∧ Fits [(1, pt b7), (3, .bool t11)] ρ ∧ K = K' ∧ L' = Cl b7 58 [ii xa.1, ii xa.2.1, ii xa.2.2.1, sl Aa3 xa.2.2.2.1 Ca3, sl Aa4 xa.2.2.2.2.1 Ca4, sl Aa5 xa.2.2.2.2.2 Ca5] :: F) ?_ ?_
 · refine cr <| jv _ (V.fad underlying58 rfl nz3 rfl) <| jv (ii xa.1) (V.ld rfl (Ld.sc sc3 (Rd.cl 0 rfl rfl))) <| J.nil <| CJ.block <| CJ.seq ?_
   refine CJ.region <| jv (.bool (decide (xa.1 = 1))) (V.eql rfl rfl) <| ja (.bool (decide (xa.1 = 1))) rfl <| J.nil <| cc rfl ho10 (fun hc12 ho10 => ?_) fun hc12 ho10 => ?_
   · refine CJ.region <| jv _ (V.fad underlying58 rfl nz42 rfl) <| jv (sl Aa3 xa.2.2.2.1 Ca3) (V.ld rfl (Ld.sc sc42 (Rd.cl 0 rfl rfl))) <| jv (ii (((xa.2.2.2.1.length : Nat) : Int))) (V.len underlying42 rfl) <| jv (.bool (decide ((((xa.2.2.2.1.length : Nat) : Int)) = 1))) (V.eql rfl rfl) <| jm (.bool (decide ((((xa.2.2.2.1.length : Nat) : Int)) = 1))) rfl <| J.cut 5 ?_
     refine jmeet [(17, .bool ((decide ((((xa.2.2.2.1.length : Nat) : Int)) = 1)) && (decide ((((xa.2.2.2.2.1.length : Nat) : Int)) = 0)))), (1, pt b7)] ?_ ?_
     · rcases bt (decide ((((xa.2.2.2.1.length : Nat) : Int)) = 1)) with hc13 | hc13
       · refine J.run rfl rfl rfl hc13 <| jv _ (V.fad underlying58 rfl nz42 rfl) <| J.run rfl rfl rfl hc13 <| jv (sl Aa4 xa.2.2.2.2.1 Ca4) (V.ld rfl (Ld.sc sc42 (Rd.cl 0 rfl rfl))) <| J.run rfl rfl rfl hc13 <| jv (ii (((xa.2.2.2.2.1.length : Nat) : Int))) (V.len underlying42 rfl) <| J.run rfl rfl rfl hc13 ?_
         refine jv (.bool (decide ((((xa.2.2.2.2.1.length : Nat) : Int)) = 0))) (V.eql rfl rfl) <| jv (.bool (decide ((((xa.2.2.2.2.1.length : Nat) : Int)) = 0))) (V.pickT rfl hc13 rfl) <| J.nil ?_
         exact ⟨rfl, ⟨(by simp only [hc13]; rfl), rfl, trivial⟩, rfl, rfl⟩
       refine J.skip rfl rfl rfl rfl hc13 <| J.skip rfl rfl rfl rfl hc13 <| J.skip rfl rfl rfl rfl hc13 <| J.skip rfl rfl rfl rfl hc13 <| jv (.bool false) (V.pickF rfl hc13 rfl) <| J.nil ?_
       exact ⟨rfl, ⟨(by simp only [hc13]; rfl), rfl, trivial⟩, rfl, rfl⟩
     intro ρ
     refine jm (.bool ((decide ((((xa.2.2.2.1.length : Nat) : Int)) = 1)) && (decide ((((xa.2.2.2.2.1.length : Nat) : Int)) = 0)))) rfl <| J.cut 4 ?_
     obtain ⟨t14, ht15, ho10⟩ := ob ho10
     refine jmeet [(22, .bool t14), (1, pt b7)] ?_ ?_
     · rcases bt ((decide ((((xa.2.2.2.1.length : Nat) : Int)) = 1)) && (decide ((((xa.2.2.2.2.1.length : Nat) : Int)) = 0))) with hc17 | hc17
       · have ht15 := ct hc17 ht15
         refine J.run rfl rfl rfl hc17 <| jv (.agg #[ii xa.1, ii xa.2.1, ii xa.2.2.1, sl Aa3 xa.2.2.2.1 Ca3, sl Aa4 xa.2.2.2.2.1 Ca4, sl Aa5 xa.2.2.2.2.2 Ca5]) (V.ld rfl (Ld.agg (cs := [ii xa.1, ii xa.2.1, ii xa.2.2.1, sl Aa3 xa.2.2.2.1 Ca3, sl Aa4 xa.2.2.2.2.1 Ca4, sl Aa5 xa.2.2.2.2.2 Ca5]) underlying58 sz58 rfl (Rd.cls 0 0 rfl rfl))) <| J.run rfl rfl rfl hc17 ?_
         obtain ⟨r18, hr19, ht15⟩ := ob ht15
         refine J.op rfl (A.call (L1 := []) call138 rfl (term_calls_ok Ga3 Ga4 Ga5 hr19) rfl rfl) ?_
         rintro _ _ _ ⟨v20, _, rfl, ⟨⟨t21, rfl, rfl, rfl⟩, rfl⟩, _, rfl⟩
         refine J.run rfl rfl rfl hc17 <| jv (.bool (!t21)) (V.not rfl) <| jv (.bool (!t21)) (V.pickT rfl hc17 rfl) <| J.nil ?_
         obtain rfl := si ht15
         exact ⟨rfl, rt2, rfl, rfl⟩
       have ht15 := cf hc17 ht15
       refine J.skip rfl rfl rfl rfl hc17 <| J.skip rfl rfl rfl rfl hc17 <| J.skip rfl rfl rfl rfl hc17 <| jv (.bool false) (V.pickF rfl hc17 rfl) <| J.nil ?_
       obtain rfl := si ht15
       exact ⟨rfl, rt2, rfl, rfl⟩
     intro ρ
     refine ja (.bool t14) rfl <| J.nil ?_
     obtain rfl := si ho10
     exact ⟨rfl, ⟨t14, rfl, rt2, rfl, rfl⟩⟩
   refine cr <| jv (.bool (decide (xa.1 = 2))) (V.eql rfl rfl) <| ja (.bool (decide (xa.1 = 2))) rfl <| J.nil <| cc rfl ho10 (fun hc22 ho10 => ?_) fun hc22 ho10 => ?_
   · refine CJ.region <| jv _ (V.fad underlying58 rfl nz42 rfl) <| jv (sl Aa3 xa.2.2.2.1 Ca3) (V.ld rfl (Ld.sc sc42 (Rd.cl 0 rfl rfl))) <| jv (ii (((xa.2.2.2.1.length : Nat) : Int))) (V.len underlying42 rfl) <| jv (.bool (decide (0 < (((xa.2.2.2.1.length : Nat) : Int))))) (V.gtr rfl rfl) <| jm (.bool (decide (0 < (((xa.2.2.2.1.length : Nat) : Int))))) rfl <| J.cut 4 ?_
     obtain ⟨t23, ht24, ho10⟩ := ob ho10
     refine jmeet [(33, .bool t23), (1, pt b7)] ?_ ?_
     · rcases bt (decide (0 < (((xa.2.2.2.1.length : Nat) : Int)))) with hc25 | hc25
       · have ht24 := ct hc25 ht24
         refine J.run rfl rfl rfl hc25 <| jv (.agg #[ii xa.1, ii xa.2.1, ii xa.2.2.1, sl Aa3 xa.2.2.2.1 Ca3, sl Aa4 xa.2.2.2.2.1 Ca4, sl Aa5 xa.2.2.2.2.2 Ca5]) (V.ld rfl (Ld.agg (cs := [ii xa.1, ii xa.2.1, ii xa.2.2.1, sl Aa3 xa.2.2.2.1 Ca3, sl Aa4 xa.2.2.2.2.1 Ca4, sl Aa5 xa.2.2.2.2.2 Ca5]) underlying58 sz58 rfl (Rd.cls 0 0 rfl rfl))) <| J.run rfl rfl rfl hc25 ?_
         obtain ⟨r26, hr27, ht24⟩ := ob ht24
         refine J.op rfl (A.call (L1 := []) call138 rfl (term_calls_ok Ga3 Ga4 Ga5 hr27) rfl rfl) ?_
         rintro _ _ _ ⟨v28, _, rfl, ⟨⟨t29, rfl, rfl, rfl⟩, rfl⟩, _, rfl⟩
         refine J.run rfl rfl rfl hc25 <| jv (.bool (!t29)) (V.not rfl) <| jv (.bool (!t29)) (V.pickT rfl hc25 rfl) <| J.nil ?_
         obtain rfl := si ht24
         exact ⟨rfl, rt2, rfl, rfl⟩
       have ht24 := cf hc25 ht24
       refine J.skip rfl rfl rfl rfl hc25 <| J.skip rfl rfl rfl rfl hc25 <| J.skip rfl rfl rfl rfl hc25 <| jv (.bool false) (V.pickF rfl hc25 rfl) <| J.nil ?_
       obtain rfl := si ht24
       exact ⟨rfl, rt2, rfl, rfl⟩
     intro ρ
     refine ja (.bool t23) rfl <| J.nil ?_
     obtain rfl := si ho10
     exact ⟨rfl, ⟨t23, rfl, rt2, rfl, rfl⟩⟩
   refine cr <| jv (.bool (decide (xa.1 = 3))) (V.eql rfl rfl) <| ja (.bool (decide (xa.1 = 3))) rfl <| J.nil <| cc rfl ho10 (fun hc30 ho10 => ?_) fun hc30 ho10 => ?_
   · refine CJ.region <| jv _ (V.fad underlying58 rfl nz42 rfl) <| jv (sl Aa3 xa.2.2.2.1 Ca3) (V.ld rfl (Ld.sc sc42 (Rd.cl 0 rfl rfl))) <| jv (ii (((xa.2.2.2.1.length : Nat) : Int))) (V.len underlying42 rfl) <| jv (.bool (decide ((((xa.2.2.2.1.length : Nat) : Int)) = 0))) (V.eql rfl rfl) <| jm (.bool (decide ((((xa.2.2.2.1.length : Nat) : Int)) = 0))) rfl <| J.cut 5 ?_
     refine jmeet [(45, .bool ((decide ((((xa.2.2.2.1.length : Nat) : Int)) = 0)) && (decide ((((xa.2.2.2.2.1.length : Nat) : Int)) = 0)))), (1, pt b7)] ?_ ?_
     · rcases bt (decide ((((xa.2.2.2.1.length : Nat) : Int)) = 0)) with hc31 | hc31
       · refine J.run rfl rfl rfl hc31 <| jv _ (V.fad underlying58 rfl nz42 rfl) <| J.run rfl rfl rfl hc31 <| jv (sl Aa4 xa.2.2.2.2.1 Ca4) (V.ld rfl (Ld.sc sc42 (Rd.cl 0 rfl rfl))) <| J.run rfl rfl rfl hc31 <| jv (ii (((xa.2.2.2.2.1.length : Nat) : Int))) (V.len underlying42 rfl) <| J.run rfl rfl rfl hc31 ?_
         refine jv (.bool (decide ((((xa.2.2.2.2.1.length : Nat) : Int)) = 0))) (V.eql rfl rfl) <| jv (.bool (decide ((((xa.2.2.2.2.1.length : Nat) : Int)) = 0))) (V.pickT rfl hc31 rfl) <| J.nil ?_
         exact ⟨rfl, ⟨(by simp only [hc31]; rfl), rfl, trivial⟩, rfl, rfl⟩
       refine J.skip rfl rfl rfl rfl hc31 <| J.skip rfl rfl rfl rfl hc31 <| J.skip rfl rfl rfl rfl hc31 <| J.skip rfl rfl rfl rfl hc31 <| jv (.bool false) (V.pickF rfl hc31 rfl) <| J.nil ?_
       exact ⟨rfl, ⟨(by simp only [hc31]; rfl), rfl, trivial⟩, rfl, rfl⟩
     intro ρ
     refine jm (.bool ((decide ((((xa.2.2.2.1.length : Nat) : Int)) = 0)) && (decide ((((xa.2.2.2.2.1.length : Nat) : Int)) = 0)))) rfl <| J.cut 4 ?_
     obtain ⟨t33, ht34, ho10⟩ := ob ho10
     refine jmeet [(50, .bool t33), (1, pt b7)] ?_ ?_
     · rcases bt ((decide ((((xa.2.2.2.1.length : Nat) : Int)) = 0)) && (decide ((((xa.2.2.2.2.1.length : Nat) : Int)) = 0))) with hc35 | hc35
       · have ht34 := ct hc35 ht34
         refine J.run rfl rfl rfl hc35 <| jv (.agg #[ii xa.1, ii xa.2.1, ii xa.2.2.1, sl Aa3 xa.2.2.2.1 Ca3, sl Aa4 xa.2.2.2.2.1 Ca4, sl Aa5 xa.2.2.2.2.2 Ca5]) (V.ld rfl (Ld.agg (cs := [ii xa.1, ii xa.2.1, ii xa.2.2.1, sl Aa3 xa.2.2.2.1 Ca3, sl Aa4 xa.2.2.2.2.1 Ca4, sl Aa5 xa.2.2.2.2.2 Ca5]) underlying58 sz58 rfl (Rd.cls 0 0 rfl rfl))) <| J.run rfl rfl rfl hc35 ?_
         obtain ⟨r36, hr37, ht34⟩ := ob ht34
         refine J.op rfl (A.call (L1 := []) call138 rfl (term_calls_ok Ga3 Ga4 Ga5 hr37) rfl rfl) ?_
         rintro _ _ _ ⟨v38, _, rfl, ⟨⟨t39, rfl, rfl, rfl⟩, rfl⟩, _, rfl⟩
         refine J.run rfl rfl rfl hc35 <| jv (.bool (!t39)) (V.not rfl) <| jv (.bool (!t39)) (V.pickT rfl hc35 rfl) <| J.nil ?_
         obtain rfl := si ht34
         exact ⟨rfl, rt2, rfl, rfl⟩
       have ht34 := cf hc35 ht34
       refine J.skip rfl rfl rfl rfl hc35 <| J.skip rfl rfl rfl rfl hc35 <| J.skip rfl rfl rfl rfl hc35 <| jv (.bool false) (V.pickF rfl hc35 rfl) <| J.nil ?_
       obtain rfl := si ht34
       exact ⟨rfl, rt2, rfl, rfl⟩
     intro ρ
     refine ja (.bool t33) rfl <| J.nil ?_
     obtain rfl := si ho10
     exact ⟨rfl, ⟨t33, rfl, rt2, rfl, rfl⟩⟩
   refine cr <| jv (.bool (decide (xa.1 = 4))) (V.eql rfl rfl) <| ja (.bool (decide (xa.1 = 4))) rfl <| J.nil <| cc rfl ho10 (fun hc40 ho10 => ?_) fun hc40 ho10 => ?_
   · refine CJ.region <| jv _ (V.fad underlying58 rfl nz42 rfl) <| jv (sl Aa3 xa.2.2.2.1 Ca3) (V.ld rfl (Ld.sc sc42 (Rd.cl 0 rfl rfl))) <| jv (ii (((xa.2.2.2.1.length : Nat) : Int))) (V.len underlying42 rfl) <| jv (.bool (decide ((((xa.2.2.2.1.length : Nat) : Int)) = 1))) (V.eql rfl rfl) <| ja (.bool (decide ((((xa.2.2.2.1.length : Nat) : Int)) = 1))) rfl <| J.nil ?_
     obtain rfl := si ho10
     exact ⟨rfl, ⟨decide ((((xa.2.2.2.1.length : Nat) : Int)) = 1), rfl, rt2, rfl, rfl⟩⟩
   refine CJ.skip ?_
   obtain rfl := si ho10
   exact ⟨rfl, ⟨false, rfl, rt2, rfl, rfl⟩⟩
 rintro ρ _ _ ⟨t11, rfl, hf41, rfl, rfl⟩
 obtain ⟨ρ, rfl⟩ := hf41.ex
 refine PJ.done <| CJ.seq <| cr <| jm (.bool t11) rfl <| jv (.bool (!t11)) (V.not rfl) <| J.nil ?_
 refine cc rfl h (fun hc43 h => ?_) fun hc43 h => ?_
 · refine cr <| ja (ii 3) rfl <| J.nil <| CJ.ret ?_
   obtain rfl := si h
   exact ⟨_, _, Res.one rfl rfl, ⟨3, rfl, rfl, rfl⟩, hpr, fun w hs => (Sep.dropAt 0 rfl hs)⟩
 refine CJ.skip <| CJ.seq <| cr <| jv _ (V.fad underlying58 rfl nz42 rfl) <| jv (sl Aa3 xa.2.2.2.1 Ca3) (V.ld rfl (Ld.sc sc42 (Rd.cl 0 rfl rfl))) <| jv (ii (((xa.2.2.2.1.length : Nat) : Int))) (V.len underlying42 rfl) ?_
 refine jv (.bool (decide (16 < (((xa.2.2.2.1.length : Nat) : Int))))) (V.gtr rfl rfl) <| jm (.bool (decide (16 < (((xa.2.2.2.1.length : Nat) : Int))))) rfl <| J.cut 5 <| jmeet [(68, .bool ((decide (16 < (((xa.2.2.2.1.length : Nat) : Int)))) || (decide (16 < (((xa.2.2.2.2.1.length : Nat) : Int)))))), (1, pt b7)] ?_ ?_
 · rcases bt (decide (16 < (((xa.2.2.2.1.length : Nat) : Int)))) with hc44 | hc44
   · refine J.skip rfl rfl rfl rfl hc44 <| J.skip rfl rfl rfl rfl hc44 <| J.skip rfl rfl rfl rfl hc44 <| J.skip rfl rfl rfl rfl hc44 <| jv (.bool true) (V.pickT rfl hc44 rfl) <| J.nil ?_
     exact ⟨rfl, ⟨(by simp only [hc44]; rfl), rfl, trivial⟩, rfl, rfl⟩
   refine J.run rfl rfl rfl hc44 <| jv _ (V.fad underlying58 rfl nz42 rfl) <| J.run rfl rfl rfl hc44 <| jv (sl Aa4 xa.2.2.2.2.1 Ca4) (V.ld rfl (Ld.sc sc42 (Rd.cl 0 rfl rfl))) <| J.run rfl rfl rfl hc44 <| jv (ii (((xa.2.2.2.2.1.length : Nat) : Int))) (V.len underlying42 rfl) <| J.run rfl rfl rfl hc44 ?_
   refine jv (.bool (decide (16 < (((xa.2.2.2.2.1.length : Nat) : Int))))) (V.gtr rfl rfl) <| jv (.bool (decide (16 < (((xa.2.2.2.2.1.length : Nat) : Int))))) (V.pickF rfl hc44 rfl) <| J.nil ?_
   exact ⟨rfl, ⟨(by simp only [hc44]; rfl), rfl, trivial⟩, rfl, rfl⟩
 intro ρ
 refine jm (.bool ((decide (16 < (((xa.2.2.2.1.length : Nat) : Int)))) || (decide (16 < (((xa.2.2.2.2.1.length : Nat) : Int)))))) rfl <| J.cut 5 <| jmeet [(74, .bool (((decide (16 < (((xa.2.2.2.1.length : Nat) : Int)))) || (decide (16 < (((xa.2.2.2.2.1.length : Nat) : Int))))) || (decide (16 < (((xa.2.2.2.2.2.length : Nat) : Int))))))] ?_ ?_
 · rcases bt ((decide (16 < (((xa.2.2.2.1.length : Nat) : Int)))) || (decide (16 < (((xa.2.2.2.2.1.length : Nat) : Int))))) with hc45 | hc45
   · refine J.skip rfl rfl rfl rfl hc45 <| J.skip rfl rfl rfl rfl hc45 <| J.skip rfl rfl rfl rfl hc45 <| J.skip rfl rfl rfl rfl hc45 <| jv (.bool true) (V.pickT rfl hc45 rfl) <| J.nil ?_
     exact ⟨rfl, ⟨(by simp only [hc45]; rfl), trivial⟩, rfl, rfl⟩
   refine J.run rfl rfl rfl hc45 <| jv _ (V.fad underlying58 rfl nz42 rfl) <| J.run rfl rfl rfl hc45 <| jv (sl Aa5 xa.2.2.2.2.2 Ca5) (V.ld rfl (Ld.sc sc42 (Rd.cl 0 rfl rfl))) <| J.run rfl rfl rfl hc45 <| jv (ii (((xa.2.2.2.2.2.length : Nat) : Int))) (V.len underlying42 rfl) <| J.run rfl rfl rfl hc45 ?_
   refine jv (.bool (decide (16 < (((xa.2.2.2.2.2.length : Nat) : Int))))) (V.gtr rfl rfl) <| jv (.bool (decide (16 < (((xa.2.2.2.2.2.length : Nat) : Int))))) (V.pickF rfl hc45 rfl) <| J.nil ?_
   exact ⟨rfl, ⟨(by simp only [hc45]; rfl), trivial⟩, rfl, rfl⟩
 intro ρ
 refine J.nil <| cc rfl h (fun hc46 h => ?_) fun hc46 h => ?_
 · refine cr <| ja (ii 6) rfl <| J.nil <| CJ.ret ?_
   obtain rfl := si h
   exact ⟨_, _, Res.one rfl rfl, ⟨6, rfl, rfl, rfl⟩, hpr, fun w hs => (Sep.dropAt 0 rfl hs)⟩
 refine CJ.skip <| cr <| ja (ii 0) rfl <| J.nil <| CJ.ret ?_
 obtain rfl := si h
 exact ⟨_, _, Res.one rfl rfl, ⟨0, rfl, rfl, rfl⟩, hpr, fun w hs => (Sep.dropAt 0 rfl hs)⟩

noncomputable def fn_term_beyond (xa : Int) : Option Unit :=
  some (())
theorem term_beyond_ok {K : Hp} {xa : Int}   {r : Unit} (h : fn_term_beyond xa = some r) :
    Tr Tryz.prog 139 #[ii xa] K [] (fun v K' L' => (∃ (b2 : Nat), () = r ∧ .func (.func 144) #[] #[pt b2] = v ∧ L' = [Cl b2 3 [ii xa]]) ∧ K = K') := by
 refine Tr.k <| Tr.of func139 rfl ntmps139 rfl fun E F => ?_
 unfold fn_term_beyond at h
 refine cr <| jbx [ii xa] rfl rfl fun b3 => ja .nilFunc rfl <| J.nil <| CJ.seq <| CJ.region ?_
 refine jv (.func (.func 144) #[] #[pt b3]) (V.mkf rfl) <| ja (.func (.func 144) #[] #[pt b3]) rfl <| J.nil <| CJ.ret ?_
 obtain rfl := si h
 exact ⟨_, _, Res.one rfl rfl, ⟨b3, rfl, rfl, rfl⟩, hpr, fun w hs => hs⟩

noncomputable def fn_term_beyond_1_ip0_i (xa : Int) (qa0 : Int) : Option Bool :=
  some ((decide (xa < 0)) || (decide (qa0 ≤ xa)))
theorem term_beyond_1_ip0_i_ok {K : Hp} {xa : Int} {qa0 : Int} {pba : Nat}  {r : Bool} (h : fn_term_beyond_1_ip0_i xa qa0 = some r) :
    Tr Tryz.prog 144 #[ii xa, pt pba] K [Cl pba 3 [ii qa0]] (fun v K' L' => (∃ (t4 : Bool), t4 = r ∧ .bool t4 = v ∧ L' = [Cl pba 3 [ii qa0]]) ∧ K = K') := by
 refine Tr.k <| Tr.of func144 rfl ntmps144 rfl fun E F => ?_
 unfold fn_term_beyond_1_ip0_i at h
 refine cr <| ja (.bool false) rfl <| J.nil <| cr <| jm (ii xa) rfl ?_
 refine jv (.bool (decide (xa < 0))) (V.lss rfl rfl) <| jm (.bool (decide (xa < 0))) rfl <| J.cut 4 <| jmeet [(10, .bool ((decide (xa < 0)) || (decide (qa0 ≤ xa))))] ?_ ?_
 · rcases bt (decide (xa < 0)) with hc7 | hc7
   · refine J.skip rfl rfl rfl rfl hc7 <| J.skip rfl rfl rfl rfl hc7 <| J.skip rfl rfl rfl rfl hc7 <| jv (.bool true) (V.pickT rfl hc7 rfl) <| J.nil ?_
     exact ⟨rfl, ⟨(by simp only [hc7]; rfl), trivial⟩, rfl, rfl⟩
   refine J.run rfl rfl rfl hc7 <| jm (ii xa) rfl <| J.run rfl rfl rfl hc7 <| jv (ii qa0) (V.ld rfl (Ld.sc sc3 (Rd.cl 0 rfl rfl))) <| J.run rfl rfl rfl hc7 <| jv (.bool (decide (qa0 ≤ xa))) (V.geq rfl rfl) <| jv (.bool (decide (qa0 ≤ xa))) (V.pickF rfl hc7 rfl) ?_
   refine J.nil ?_
   exact ⟨rfl, ⟨(by simp only [hc7]; rfl), trivial⟩, rfl, rfl⟩
 intro ρ
 refine ja (.bool ((decide (xa < 0)) || (decide (qa0 ≤ xa)))) rfl <| J.nil <| CJ.ret ?_
 obtain rfl := si h
 exact ⟨_, _, Res.one rfl rfl, ⟨(decide (xa < 0)) || (decide (qa0 ≤ xa)), rfl, rfl, rfl⟩, hpr, fun w hs => hs⟩
noncomputable def fn_slices_IndexFunc_int_int_k_term_beyond_1_p0_i_l1 (xa : (List Int)) (qa0 : Int) : Int → Option (Int ⊕ (Unit ⊕ Int)) := fun (i1 : Int) => cond (decide (i1 < (((xa.length : Nat) : Int)))) ((getI xa i1).bind fun x2 => (fn_term_beyond_1_ip0_i x2 qa0).bind fun t3 => cond (t3) (some (.inr ((.inr (i1))))) (some (.inl (IntKind.wrap .i64 (i1 + 1))))) (some (.inr ((.inl ()))))
noncomputable def fn_slices_IndexFunc_int_int_k_term_beyond_1_p0_i (xa : (List Int)) (qa0 : Int) : Option Int :=
  (loop (fn_slices_IndexFunc_int_int_k_term_beyond_1_p0_i_l1 xa qa0) 0 : Option (Unit ⊕ Int)).bind fun o => match o with | .inr r => some r | .inl () => some ((-1))
theorem slices_IndexFunc_int_int_k_term_beyond_1_p0_i_ok {K : Hp} {xa : (List Int)} {qa0 : Int} {pba : Nat} {Aa0 : Option Addr} {Ca0 : Nat} (Ga0 : Is K Yq7 [sl Aa0 xa Ca0] xa) {r : Int} (h : fn_slices_IndexFunc_int_int_k_term_beyond_1_p0_i xa qa0 = some r) :
    Tr Tryz.prog 145 #[sl Aa0 xa Ca0, .func (.func 144) #[] #[pt pba]] K [Cl pba 3 [ii qa0]] (fun v K' L' => (∃ (i2 : Int), i2 = r ∧ ii i2 = v ∧ L' = [Cl pba 3 [ii qa0]]) ∧ K = K') := by
 refine Tr.k <| Tr.of func145 rfl ntmps145 rfl fun E F => ?_
 unfold fn_slices_IndexFunc_int_int_k_term_beyond_1_p0_i at h
 refine cr <| ja (ii 0) rfl <| J.nil <| CJ.seq <| CJ.seq <| CJ.region ?_
 refine jm (sl Aa0 xa Ca0) rfl <| jv (ii (((xa.length : Nat) : Int))) (V.len underlying42 rfl) <| jm (ii 0) rfl <| J.nil ?_
 obtain ⟨o5, ho6, h⟩ := ob h
 refine CJ.joinN (o := o5) (fun s ρ K' L' => () = s ∧ Fits [] ρ ∧ K = K' ∧ L' = Cl pba 3 [ii qa0] :: F) ?_ ?_
 · refine CJ.block <| CJ.loop (fun s ρ K' L' => ∃ (i7 : Int), i7 = s ∧ Fits [(0, sl Aa0 xa Ca0), (1, .func (.func 144) #[] #[pt pba]), (7, ii (((xa.length : Nat) : Int))), (8, ii i7)] ρ ∧ K = K' ∧ L' = Cl pba 3 [ii qa0] :: F) ho6 ⟨0, rfl, rt4, rfl, rfl⟩ ?_
   rintro s ρ _ _ r9 ⟨i7, rfl, hf10, rfl, rfl⟩ h11
   obtain ⟨ρ, rfl⟩ := hf10.ex
   refine cr <| jv (.bool (decide (i7 < (((xa.length : Nat) : Int))))) (V.lss rfl rfl) <| J.nil <| CJ.seq <| cc rfl h11 (fun hc12 h11 => ?_) fun hc12 h11 => ?_
   · refine CJ.skip <| CJ.seq <| CJ.block <| cr <| jm (ii i7) rfl <| ja (ii i7) rfl ?_
     refine J.nil <| cr <| jm (.func (.func 144) #[] #[pt pba]) rfl <| jm (sl Aa0 xa Ca0) rfl <| jm (ii i7) rfl ?_
     obtain ⟨x13, hx14, h11⟩ := ob h11
     obtain ⟨p15, p17, p18⟩ := getI_some hx14
     obtain ⟨b19, o20, e21, a22⟩ := (Ga0).at p17
     refine jv _ (V.iad underlying42 sz3 rfl e21 rfl p15 p18) <| jv (ii x13) (V.ld rfl (Ld.sc sc3 (Rd.k (a22).int hpr))) ?_
     obtain ⟨r23, hr24, h11⟩ := ob h11
     refine J.op rfl (A.call (L1 := [Cl pba 3 [ii qa0]]) call144 rfl (term_beyond_1_ip0_i_ok hr24) rfl rfl) ?_
     rintro _ _ _ ⟨v25, _, rfl, ⟨⟨t26, rfl, rfl, rfl⟩, rfl⟩, _, rfl⟩
     refine J.nil <| cc rfl h11 (fun hc27 h11 => ?_) fun hc27 h11 => ?_
     · refine cr <| jm (ii i7) rfl <| ja (ii i7) rfl <| J.nil <| CJ.ret ?_
       obtain rfl := si h11
       refine ⟨nofun, fun e => ?_⟩
       subst e
       refine .inr ⟨nofun, ?_⟩
       obtain rfl := si h
       exact ⟨_, _, Res.one rfl rfl, ⟨i7, rfl, rfl, rfl⟩, hpr, fun w hs => hs⟩
     refine CJ.skip <| CJ.region <| jv (ii (IntKind.wrap .i64 (i7 + 1))) (V.add rfl rfl) <| jm (ii (IntKind.wrap .i64 (i7 + 1))) rfl <| J.nil ?_
     obtain rfl := si h11
     exact ⟨rfl, ⟨IntKind.wrap .i64 (i7 + 1), rfl, rt4, rfl, rfl⟩⟩
   refine CJ.exit ?_
   obtain rfl := si h11
   refine ⟨nofun, fun e => ?_⟩
   subst e
   exact .inl ⟨rfl, _, rfl, ⟨rfl, trivial, rfl, rfl⟩⟩
 rintro s ρ _ _ ho28 ⟨rfl, hf29, rfl, rfl⟩
 subst ho28
 obtain ⟨ρ, rfl⟩ := hf29.ex
 refine PJ.done <| cr <| ja (ii (-1)) rfl <| J.nil <| CJ.ret ?_
 obtain rfl := si h
 exact ⟨_, _, Res.one rfl rfl, ⟨(-1), rfl, rfl, rfl⟩, hpr, fun w hs => hs⟩

noncomputable def fn_slices_ContainsFunc_int_int_k_term_beyond_1_p0_i (xa : (List Int)) (qa0 : Int) : Option Bool :=
  (fn_slices_IndexFunc_int_int_k_term_beyond_1_p0_i xa qa0).bind fun i10 => some (decide (0 ≤ i10))
theorem slices_ContainsFunc_int_int_k_term_beyond_1_p0_i_ok {K : Hp} {xa : (List Int)} {qa0 : Int} {pba : Nat} {Aa0 : Option Addr} {Ca0 : Nat} (Ga0 : Is K Yq7 [sl Aa0 xa Ca0] xa) {r : Bool} (h : fn_slices_ContainsFunc_int_int_k_term_beyond_1_p0_i xa qa0 = some r) :
    Tr Tryz.prog 140 #[sl Aa0 xa Ca0, .func (.func 144) #[] #[pt pba]] K [Cl pba 3 [ii qa0]] (fun v K' L' => (∃ (t7 : Bool), t7 = r ∧ .bool t7 = v ∧ L' = [Cl pba 3 [ii qa0]]) ∧ K = K') := by
 refine Tr.k <| Tr.of func140 rfl ntmps140 rfl fun E F => ?_
 unfold fn_slices_ContainsFunc_int_int_k_term_beyond_1_p0_i at h
 refine cr <| ja (.bool false) rfl <| J.nil <| cr <| jm (sl Aa0 xa Ca0) rfl ?_
 refine jm (.func (.func 144) #[] #[pt pba]) rfl ?_
 obtain ⟨r8, hr9, h⟩ := ob h
 refine J.op rfl (A.call (L1 := [Cl pba 3 [ii qa0]]) call145 rfl (slices_IndexFunc_int_int_k_term_beyond_1_p0_i_ok Ga0 hr9) rfl rfl) ?_
 rintro _ _ _ ⟨v11, _, rfl, ⟨⟨i10, rfl, rfl, rfl⟩, rfl⟩, _, rfl⟩
 refine jv (.bool (decide (0 ≤ i10))) (V.geq rfl rfl) <| ja (.bool (decide (0 ≤ i10))) rfl <| J.nil <| CJ.ret ?_
 obtain rfl := si h
 exact ⟨_, _, Res.one rfl rfl, ⟨decide (0 ≤ i10), rfl, rfl, rfl⟩, hpr, fun w hs => hs⟩

noncomputable def fn_term_within (xa : Tq5) (xb : (Int × Int × (List Tq3) × Tq3 × (List Tq6))) : Option Bool :=
  (fn_term_beyond (((xb.2.2.1.length : Nat) : Int))).bind fun _ => (fn_term_beyond xb.1).bind fun _ => (fn_slices_ContainsFunc_int_int_k_term_beyond_1_p0_i xa.2.2.2.1 xb.1).bind fun t1 => cond (t1) (some (false)) ((fn_slices_ContainsFunc_int_int_k_term_beyond_1_p0_i xa.2.2.2.2.1 ((((xb.2.2.1.length : Nat) : Int)))).bind fun t2 => cond (t2) (some (false)) ((fn_term_beyond xb.2.1).bind fun _ => (fn_slices_ContainsFunc_int_int_k_term_beyond_1_p0_i xa.2.2.2.2.2 xb.2.1).bind fun t3 => cond (t3) (some (false)) (cond (!decide (xa.1 = 4)) (some (true)) ((fn_term_beyond_1_ip0_i xa.2.2.1 (((((xb.2.2.1.length : Nat) : Int))))).bind fun t4 => cond (!t4) ((fn_term_beyond (((xb.2.2.2.2.length : Nat) : Int))).bind fun _ => (fn_term_beyond_1_ip0_i xa.2.1 ((((xb.2.2.2.2.length : Nat) : Int)))).bind fun t5 => some (!t5)) (some (false))))))
theorem term_within_ok {K : Hp} {xa : Tq5} {xb : (Int × Int × (List Tq3) × Tq3 × (List Tq6))} {Aa3 : Option Addr} {Ca3 : Nat} {Aa4 : Option Addr} {Ca4 : Nat} {Aa5 : Option Addr} {Ca5 : Nat} {Ab2 : Option Addr} {Cb2 : Nat} {Ab3 : Option Addr} {Cb3 : Nat} {Ab4 : Option Addr} {Cb4 : Nat} (Ga3 : Is K Yq7 [sl Aa3 xa.2.2.2.1 Ca3] xa.2.2.2.1) (Ga4 : Is K Yq7 [sl Aa4 xa.2.2.2.2.1 Ca4] xa.2.2.2.2.1) (Ga5 : Is K Yq7 [sl Aa5 xa.2.2.2.2.2 Ca5] xa.2.2.2.2.2) (Gb2 : Is K Yq8 [sl Ab2 xb.2.2.1 Cb2] xb.2.2.1) (Gb3 : Is K (.sl Yq1) [sl Ab3 xb.2.2.2.1 Cb3] xb.2.2.2.1) (Gb4 : Is K Yq4 [sl Ab4 xb.2.2.2.2 Cb4] xb.2.2.2.2) {r : Bool} (h : fn_term_within xa xb = some r) :
    Tr Tryz.prog 130 #[.agg #[ii xa.1, ii xa.2.1, ii xa.2.2.1, sl Aa3 xa.2.2.2.1 Ca3, sl Aa4 xa.2.2.2.2.1 Ca4, sl Aa5 xa.2.2.2.2.2 Ca5], .agg #[ii xb.1, ii xb.2.1, sl Ab2 xb.2.2.1 Cb2, sl Ab3 xb.2.2.2.1 Cb3, sl Ab4 xb.2.2.2.2 Cb4]] K [] (fun v K' L' => (∃ (t6 : Bool), t6 = r ∧ .bool t6 = v ∧ L' = []) ∧ K = K') := by
 refine Tr.k <| Tr.of func130 rfl ntmps130 rfl fun E F => ?_
 unfold fn_term_within at h
 refine cr <| jbx [ii xa.1, ii xa.2.1, ii xa.2.2.1, sl Aa3 xa.2.2.2.1 Ca3, sl Aa4 xa.2.2.2.2.1 Ca4, sl Aa5 xa.2.2.2.2.2 Ca5] rfl rfl fun b7 => jbx [ii xb.1, ii xb.2.1, sl Ab2 xb.2.2.1 Cb2, sl Ab3 xb.2.2.2.1 Cb3, sl Ab4 xb.2.2.2.2 Cb4] rfl rfl fun b9 => ja (.bool false) rfl <| J.nil <| CJ.seq ?_
 refine CJ.region <| jv _ (V.fad underlying140 rfl nz23 rfl) <| jv (sl Ab2 xb.2.2.1 Cb2) (V.ld rfl (Ld.sc sc23 (Rd.cl 0 rfl rfl))) <| jv (ii (((xb.2.2.1.length : Nat) : Int))) (V.len underlying23 rfl) ?_
 obtain ⟨r10, hr11, h⟩ := ob h
 refine J.op rfl (A.call (L1 := []) call139 rfl (term_beyond_ok hr11) rfl rfl) ?_
 rintro _ _ _ ⟨v12, _, rfl, ⟨⟨b13, rfl, rfl, rfl⟩, rfl⟩, _, rfl⟩
 refine ja (.func (.func 144) #[] #[pt b13]) rfl <| J.nil <| CJ.seq <| CJ.seq <| CJ.mix [Cl b9 140 [ii xb.1, ii xb.2.1, sl Ab2 xb.2.2.1 Cb2, sl Ab3 xb.2.2.2.1 Cb3, sl Ab4 xb.2.2.2.2 Cb4], Cl b7 58 [ii xa.1, ii xa.2.1, ii xa.2.2.1, sl Aa3 xa.2.2.2.1 Ca3, sl Aa4 xa.2.2.2.2.1 Ca4, sl Aa5 xa.2.2.2.2.2 Ca5]] [([0, 1, 2, 3], 4), ([], 5), ([6, 7, 8, 9], 10), ([11, 12, 13, 14, 15, 16], 17), ([], 18)] [19] [] mixO (by decide +kernel) ⟨1, rfl, 1, rfl, trivial⟩ rfl rfl rfl <| JM.cons <| qv _ (V.fad underlying58 rfl nz42 rfl) ?_
 refine qv (sl Aa3 xa.2.2.2.1 Ca3) (V.ld rfl (Ld.sc sc42 (Rd.cl 1 rfl rfl))) <| qv _ (V.fad underlying140 rfl nz3 rfl) <| qv (ii xb.1) (V.ld rfl (Ld.sc sc3 (Rd.cl 0 rfl rfl))) <| JQ.nil ?_
 obtain ⟨r14, hr15, h⟩ := ob h
 refine JA.op rfl (A.call (L1 := []) call139 rfl (term_beyond_ok hr15) rfl rfl) ?_
 rintro _ _ _ ⟨v17, _, rfl, ⟨⟨b18, rfl, rfl, rfl⟩, rfl⟩, _, rfl⟩
 refine ⟨fun w hs => Hold.sub hpr ⟨2, rfl, 2, rfl, trivial⟩ hs, ?_⟩
 refine JM.cons <| JQ.nil ?_
 obtain ⟨r19, hr20, h⟩ := ob h
 refine JA.op rfl (A.call (L1 := [Cl b18 3 [ii xb.1]]) call140 rfl (slices_ContainsFunc_int_int_k_term_beyond_1_p0_i_ok Ga3 hr20) rfl rfl) ?_
 rintro _ _ _ ⟨v21, _, rfl, ⟨⟨t22, rfl, rfl, rfl⟩, rfl⟩, _, rfl⟩
 refine ⟨fun w hs => Hold.sub hpr ⟨2, rfl, 2, rfl, trivial⟩ hs, ?_⟩
 refine JM.cons <| qm (.bool t22) rfl ?_
 rcases bt (t22) with hc24 | hc24
 · have h := ct hc24 h
   refine JQ.skip rfl rfl rfl rfl hc24 <| JQ.skip rfl rfl rfl rfl hc24 <| JQ.skip rfl rfl rfl rfl hc24 <| JQ.nil <| JA.skip rfl rfl rfl rfl hc24 <| JM.cons <| qv (.bool true) (V.pickT rfl hc24 rfl) ?_
   refine qm (.bool true) rfl <| JQ.skip rfl rfl rfl rfl rfl <| JQ.skip rfl rfl rfl rfl rfl <| JQ.skip rfl rfl rfl rfl rfl <| JQ.skip rfl rfl rfl rfl rfl <| JQ.nil <| JA.skip rfl rfl rfl rfl rfl ?_
   refine JM.cons <| JQ.nil <| JA.skip rfl rfl rfl rfl rfl <| JM.nil <| qv (.bool true) (V.pickT rfl rfl rfl) <| JQ.nil <| J.nil ?_
   refine CJ.condK (b := true) rfl rfl <| cr <| ja (.bool false) rfl <| J.nil <| CJ.ret ?_
   obtain rfl := si h
   exact ⟨_, _, Res.one rfl rfl, ⟨false, rfl, rfl, rfl⟩, hpr, fun w hs => (Sep.dropAt 0 rfl (Sep.dropAt 0 rfl (Sep.dropAt 0 rfl (Sep.dropAt 0 rfl hs))))⟩
 have h := cf hc24 h
 refine JQ.run rfl rfl rfl hc24 <| qv _ (V.fad underlying58 rfl nz42 rfl) <| JQ.run rfl rfl rfl hc24 <| qv (sl Aa4 xa.2.2.2.2.1 Ca4) (V.ld rfl (Ld.sc sc42 (Rd.cl 1 rfl rfl))) <| JQ.run rfl rfl rfl hc24 <| qm (.func (.func 144) #[] #[pt b13]) rfl <| JQ.nil ?_
 refine JA.run rfl rfl rfl hc24 ?_
 obtain ⟨r25, hr26, h⟩ := ob h
 refine JA.front 1 rfl <| JA.op rfl (A.call (L1 := [Cl b13 3 [ii ((((xb.2.2.1.length : Nat) : Int)))]]) call140 rfl (slices_ContainsFunc_int_int_k_term_beyond_1_p0_i_ok Ga4 hr26) rfl rfl) ?_
 rintro _ _ _ ⟨v28, _, rfl, ⟨⟨t29, rfl, rfl, rfl⟩, rfl⟩, _, rfl⟩
 refine ⟨fun w hs => Hold.sub hpr ⟨2, rfl, 2, rfl, trivial⟩ hs, ?_⟩
 refine JM.cons <| qv (.bool t29) (V.pickF rfl hc24 rfl) <| qm (.bool t29) rfl ?_
 rcases bt (t29) with hc30 | hc30
 · have h := ct hc30 h
   refine JQ.skip rfl rfl rfl rfl hc30 <| JQ.skip rfl rfl rfl rfl hc30 <| JQ.skip rfl rfl rfl rfl hc30 <| JQ.skip rfl rfl rfl rfl hc30 <| JQ.nil <| JA.skip rfl rfl rfl rfl hc30 <| JM.cons ?_
   refine JQ.nil <| JA.skip rfl rfl rfl rfl hc30 <| JM.nil <| qv (.bool true) (V.pickT rfl hc30 rfl) <| JQ.nil <| J.nil <| CJ.condK (b := true) rfl rfl ?_
   refine cr <| ja (.bool false) rfl <| J.nil <| CJ.ret ?_
   obtain rfl := si h
   exact ⟨_, _, Res.one rfl rfl, ⟨false, rfl, rfl, rfl⟩, hpr, fun w hs => (Sep.dropAt 0 rfl (Sep.dropAt 0 rfl (Sep.dropAt 0 rfl (Sep.dropAt 0 rfl hs))))⟩
 have h := cf hc30 h
 refine JQ.run rfl rfl rfl hc30 <| qv _ (V.fad underlying58 rfl nz42 rfl) <| JQ.run rfl rfl rfl hc30 <| qv (sl Aa5 xa.2.2.2.2.2 Ca5) (V.ld rfl (Ld.sc sc42 (Rd.cl 1 rfl rfl))) <| JQ.run rfl rfl rfl hc30 <| qv _ (V.fad underlying140 rfl nz3 rfl) <| JQ.run rfl rfl rfl hc30 ?_
 refine qv (ii xb.2.1) (V.ld rfl (Ld.sc sc3 (Rd.cl 0 rfl rfl))) <| JQ.nil <| JA.run rfl rfl rfl hc30 ?_
 obtain ⟨r31, hr33, h⟩ := ob h
 refine JA.op rfl (A.call (L1 := []) call139 rfl (term_beyond_ok hr33) rfl rfl) ?_
 rintro _ _ _ ⟨v34, _, rfl, ⟨⟨b35, rfl, rfl, rfl⟩, rfl⟩, _, rfl⟩
 refine ⟨fun w hs => Hold.sub hpr ⟨3, rfl, 3, rfl, trivial⟩ hs, ?_⟩
 refine JM.cons <| JQ.nil <| JA.run rfl rfl rfl hc30 ?_
 obtain ⟨r36, hr37, h⟩ := ob h
 refine JA.op rfl (A.call (L1 := [Cl b35 3 [ii xb.2.1]]) call140 rfl (slices_ContainsFunc_int_int_k_term_beyond_1_p0_i_ok Ga5 hr37) rfl rfl) ?_
 rintro _ _ _ ⟨v38, _, rfl, ⟨⟨t39, rfl, rfl, rfl⟩, rfl⟩, _, rfl⟩
 refine ⟨fun w hs => Hold.sub hpr ⟨3, rfl, 3, rfl, trivial⟩ hs, ?_⟩
 refine JM.nil <| qv (.bool t39) (V.pickF rfl hc30 rfl) <| JQ.nil <| J.nil <| cc rfl h (fun hc40 h => ?_) fun hc40 h => ?_
 · refine cr <| ja (.bool false) rfl <| J.nil <| CJ.ret ?_
   obtain rfl := si h
   exact ⟨_, _, Res.one rfl rfl, ⟨false, rfl, rfl, rfl⟩, hpr, fun w hs => (Sep.dropAt 0 rfl (Sep.dropAt 0 rfl (Sep.dropAt 0 rfl (Sep.dropAt 0 rfl (Sep.dropAt 0 rfl hs)))))⟩
 refine CJ.skip <| CJ.seq <| CJ.mix [Cl b35 3 [ii xb.2.1], Cl b18 3 [ii xb.1], Cl b9 140 [ii xb.1, ii xb.2.1, sl Ab2 xb.2.2.1 Cb2, sl Ab3 xb.2.2.2.1 Cb3, sl Ab4 xb.2.2.2.2 Cb4], Cl b7 58 [ii xa.1, ii xa.2.1, ii xa.2.2.1, sl Aa3 xa.2.2.2.1 Ca3, sl Aa4 xa.2.2.2.2.1 Ca4, sl Aa5 xa.2.2.2.2.2 Ca5]] [([0, 1, 2, 3, 4, 5, 6], 7), ([8, 9, 10, 11, 12, 14, 15], 13), ([], 16)] [17, 18, 19, 20] [] mixO (by decide +kernel) ⟨0, rfl, 1, rfl, 1, rfl, 1, rfl, trivial⟩ rfl rfl rfl <| JM.cons <| qv _ (V.fad underlying58 rfl nz3 rfl) <| qv (ii xa.1) (V.ld rfl (Ld.sc sc3 (Rd.cl 3 rfl rfl))) <| qv (.bool (!decide (xa.1 = 4))) (V.neq rfl rfl) ?_
 refine qm (.bool (!decide (xa.1 = 4))) rfl ?_
 rcases bt (!decide (xa.1 = 4)) with hc41 | hc41
 · have h := ct hc41 h
   refine JQ.skip rfl rfl rfl rfl hc41 <| JQ.skip rfl rfl rfl rfl hc41 <| JQ.skip rfl rfl rfl rfl hc41 <| JQ.nil <| JA.skip rfl rfl rfl rfl hc41 <| JM.cons <| JQ.skip rfl rfl rfl rfl hc41 ?_
   refine JQ.skip rfl rfl rfl rfl hc41 <| JQ.skipu rfl rfl rfl rfl <| JQ.skipu rfl rfl rfl rfl <| JQ.skipu rfl rfl rfl rfl <| JQ.skipu rfl rfl rfl rfl <| JQ.skipu rfl rfl rfl rfl <| JQ.nil ?_
   refine JA.skipu rfl rfl rfl rfl <| JM.cons <| JQ.nil <| JA.skipu rfl rfl rfl rfl <| JM.nil <| JQ.skipu rfl rfl rfl rfl <| JQ.skip rfl rfl rfl rfl hc41 ?_
   refine qv (.bool true) (V.pickT rfl hc41 rfl) <| qa (.bool true) rfl <| JQ.nil <| J.nil <| CJ.ret ?_
   obtain rfl := si h
   exact ⟨_, _, Res.one rfl rfl, ⟨true, rfl, rfl, rfl⟩, hpr, fun w hs => (Sep.dropAt 0 rfl (Sep.dropAt 0 rfl (Sep.dropAt 0 rfl (Sep.dropAt 0 rfl (Sep.dropAt 0 rfl hs)))))⟩
 have h := cf hc41 h
 refine JQ.run rfl rfl rfl hc41 <| qm (.func (.func 144) #[] #[pt b13]) rfl <| JQ.run rfl rfl rfl hc41 <| qv _ (V.fad underlying58 rfl nz3 rfl) <| JQ.run rfl rfl rfl hc41 <| qv (ii xa.2.2.1) (V.ld rfl (Ld.sc sc3 (Rd.cl 3 rfl rfl))) <| JQ.nil ?_
 refine JA.run rfl rfl rfl hc41 ?_
 obtain ⟨r43, hr44, h⟩ := ob h
 refine JA.front 1 rfl <| JA.op rfl (A.call (L1 := [Cl b13 3 [ii (((((xb.2.2.1.length : Nat) : Int))))]]) call144 rfl (term_beyond_1_ip0_i_ok hr44) rfl rfl) ?_
 rintro _ _ _ ⟨v45, _, rfl, ⟨⟨t46, rfl, rfl, rfl⟩, rfl⟩, _, rfl⟩
 refine ⟨fun w hs => Hold.sub hpr ⟨1, rfl, 1, rfl, 1, rfl, 1, rfl, trivial⟩ hs, ?_⟩
 refine JM.cons <| JQ.run rfl rfl rfl hc41 <| qv (.bool (!t46)) (V.not rfl) <| JQ.run rfl rfl rfl hc41 <| qm (.bool (!t46)) rfl ?_
 rcases bt (!t46) with hc47 | hc47
 · have h := ct hc47 h
   refine JQ.run rfl rfl rfl hc47 <| qv _ (V.fad underlying140 rfl nz27 rfl) <| JQ.run rfl rfl rfl hc47 <| qv (sl Ab4 xb.2.2.2.2 Cb4) (V.ld rfl (Ld.sc sc27 (Rd.cl 2 rfl rfl))) <| JQ.run rfl rfl rfl hc47 <| qv (ii (((xb.2.2.2.2.length : Nat) : Int))) (V.len underlying27 rfl) <| JQ.run rfl rfl rfl hc47 ?_
   refine qv _ (V.fad underlying58 rfl nz3 rfl) <| JQ.run rfl rfl rfl hc47 <| qv (ii xa.2.1) (V.ld rfl (Ld.sc sc3 (Rd.cl 3 rfl rfl))) <| JQ.nil <| JA.run rfl rfl rfl hc47 ?_
   obtain ⟨r48, hr49, h⟩ := ob h
   refine JA.op rfl (A.call (L1 := []) call139 rfl (term_beyond_ok hr49) rfl rfl) ?_
   rintro _ _ _ ⟨v50, _, rfl, ⟨⟨b51, rfl, rfl, rfl⟩, rfl⟩, _, rfl⟩
   refine ⟨fun w hs => Hold.sub hpr ⟨2, rfl, 2, rfl, 2, rfl, 2, rfl, trivial⟩ hs, ?_⟩
   refine JM.cons <| JQ.nil <| JA.run rfl rfl rfl hc47 ?_
   obtain ⟨r52, hr53, h⟩ := ob h
   refine JA.op rfl (A.call (L1 := [Cl b51 3 [ii ((((xb.2.2.2.2.length : Nat) : Int)))]]) call144 rfl (term_beyond_1_ip0_i_ok hr53) rfl rfl) ?_
   rintro _ _ _ ⟨v54, _, rfl, ⟨⟨t55, rfl, rfl, rfl⟩, rfl⟩, _, rfl⟩
   refine ⟨fun w hs => Hold.sub hpr ⟨2, rfl, 2, rfl, 2, rfl, 2, rfl, trivial⟩ hs, ?_⟩
   refine JM.nil <| JQ.run rfl rfl rfl hc47 <| qv (.bool (!t55)) (V.not rfl) <| JQ.run rfl rfl rfl hc41 <| qv (.bool (!t55)) (V.pickT rfl hc47 rfl) <| qv (.bool (!t55)) (V.pickF rfl hc41 rfl) <| qa (.bool (!t55)) rfl ?_
   refine JQ.nil <| J.nil <| CJ.ret ?_
   obtain rfl := si h
   exact ⟨_, _, Res.one rfl rfl, ⟨!t55, rfl, rfl, rfl⟩, hpr, fun w hs => (Sep.dropAt 0 rfl (Sep.dropAt 0 rfl (Sep.dropAt 0 rfl (Sep.dropAt 0 rfl (Sep.dropAt 0 rfl (Sep.dropAt 0 rfl hs))))))⟩
 have h := cf hc47 h
 refine JQ.skip rfl rfl rfl rfl hc47 <| JQ.skip rfl rfl rfl rfl hc47 <| JQ.skip rfl rfl rfl rfl hc47 <| JQ.skip rfl rfl rfl rfl hc47 <| JQ.skip rfl rfl rfl rfl hc47 <| JQ.nil <| JA.skip rfl rfl rfl rfl hc47 ?_
 refine JM.cons <| JQ.nil <| JA.skip rfl rfl rfl rfl hc47 <| JM.nil <| JQ.skip rfl rfl rfl rfl hc47 <| JQ.run rfl rfl rfl hc41 <| qv (.bool false) (V.pickF rfl hc47 rfl) ?_
 refine qv (.bool false) (V.pickF rfl hc41 rfl) <| qa (.bool false) rfl <| JQ.nil <| J.nil <| CJ.ret ?_
 obtain rfl := si h
 exact ⟨_, _, Res.one rfl rfl, ⟨false, rfl, rfl, rfl⟩, hpr, fun w hs => (Sep.dropAt 0 rfl (Sep.dropAt 0 rfl (Sep.dropAt 0 rfl (Sep.dropAt 0 rfl (Sep.dropAt 0 rfl hs)))))⟩
noncomputable def fn_sig_callable_l1 (xa : Tq6) (xc : (List Tq3)) : Int → Option (Int ⊕ (Unit ⊕ Int)) := fun (i1 : Int) => cond (decide (i1 < (((xa.2.2.1.length : Nat) : Int)))) ((getI xa.2.2.1 i1).bind fun x2 => (getI xc i1).bind fun x3 => (fn_row_Shape x3 x2).bind fun t4 => cond (!t4) (some (.inr ((.inr (8))))) (some (.inl (IntKind.wrap .i64 (i1 + 1))))) (some (.inr ((.inl ()))))
noncomputable def fn_sig_callable (xa : Tq6) (xb : (List Int)) (xc : (List Tq3)) (xd : Tq3) : Option Int :=
  (fn_sig_Check (xa.1, xa.2.1, xa.2.2.1, xa.2.2.2)).bind fun i1 => cond (!decide (i1 = 0)) (some (i1)) (cond ((!decide ((((xb.length : Nat) : Int)) = xa.1)) || (!decide ((((xc.length : Nat) : Int)) = (((xa.2.2.1.length : Nat) : Int))))) (some (2)) ((loop (fn_sig_callable_l1 xa xc) 0 : Option (Unit ⊕ Int)).bind fun o => match o with | .inr r => some r | .inl () => (fn_row_Shape xd xa.2.2.2).bind fun t2 => cond (!t2) (some (8)) (some (0))))
theorem sig_callable_ok {K : Hp} {xa : Tq6} {xb : (List Int)} {xc : (List Tq3)} {xd : Tq3} {Aa1 : Option Addr} {Ca1 : Nat} {Aa2 : Option Addr} {Ca2 : Nat} {Aa3 : Option Addr} {Ca3 : Nat} {Ab0 : Option Addr} {Cb0 : Nat} {Ac0 : Option Addr} {Cc0 : Nat} {Ad0 : Option Addr} {Cd0 : Nat} (Ga1 : Is K (.sl Yq5) [sl Aa1 xa.2.1 Ca1] xa.2.1) (Ga2 : Is K Yq8 [sl Aa2 xa.2.2.1 Ca2] xa.2.2.1) (Ga3 : Is K (.sl Yq1) [sl Aa3 xa.2.2.2 Ca3] xa.2.2.2) (Gb0 : Is K Yq7 [sl Ab0 xb Cb0] xb) (Gc0 : Is K Yq8 [sl Ac0 xc Cc0] xc) (Gd0 : Is K (.sl Yq1) [sl Ad0 xd Cd0] xd) {r : Int} (h : fn_sig_callable xa xb xc xd = some r) :
    Tr Tryz.prog 141 #[.agg #[ii xa.1, sl Aa1 xa.2.1 Ca1, sl Aa2 xa.2.2.1 Ca2, sl Aa3 xa.2.2.2 Ca3], sl Ab0 xb Cb0, sl Ac0 xc Cc0, .agg #[sl Ad0 xd Cd0]] K [] (fun v K' L' => (∃ (i4 : Int), i4 = r ∧ ii i4 = v ∧ L' = []) ∧ K = K') := by
 refine Tr.k <| Tr.of func141 rfl ntmps141 rfl fun E F => ?_
 unfold fn_sig_callable at h
 refine cr <| jbx [ii xa.1, sl Aa1 xa.2.1 Ca1, sl Aa2 xa.2.2.1 Ca2, sl Aa3 xa.2.2.2 Ca3] rfl rfl fun b5 => jbx [sl Ad0 xd Cd0] rfl rfl fun b7 => ja (ii 0) rfl <| J.nil <| CJ.seq ?_
 refine cr <| jv (.agg #[ii xa.1, sl Aa1 xa.2.1 Ca1, sl Aa2 xa.2.2.1 Ca2, sl Aa3 xa.2.2.2 Ca3]) (V.ld rfl (Ld.agg (cs := [ii xa.1, sl Aa1 xa.2.1 Ca1, sl Aa2 xa.2.2.1 Ca2, sl Aa3 xa.2.2.2 Ca3]) underlying55 sz55 rfl (Rd.cls 1 0 rfl rfl))) ?_
 obtain ⟨r9, hr10, h⟩ := ob h
 refine J.op rfl (A.call (L1 := []) call93 rfl (sig_Check_ok Ga1 Ga2 Ga3 hr10) rfl rfl) ?_
 rintro _ _ _ ⟨v11, _, rfl, ⟨⟨i12, rfl, rfl, rfl⟩, rfl⟩, _, rfl⟩
 refine ja (ii i12) rfl <| J.nil <| cr <| jm (ii i12) rfl <| jv (.bool (!decide (i12 = 0))) (V.neq rfl rfl) <| J.nil ?_
 refine cc rfl h (fun hc13 h => ?_) fun hc13 h => ?_
 · refine cr <| jm (ii i12) rfl <| ja (ii i12) rfl <| J.nil <| CJ.ret ?_
   obtain rfl := si h
   exact ⟨_, _, Res.one rfl rfl, ⟨i12, rfl, rfl, rfl⟩, hpr, fun w hs => (Sep.dropAt 0 rfl (Sep.dropAt 0 rfl hs))⟩
 refine CJ.skip <| CJ.seq <| cr <| jm (sl Ab0 xb Cb0) rfl <| jv (ii (((xb.length : Nat) : Int))) (V.len underlying42 rfl) <| jv _ (V.fad underlying55 rfl nz3 rfl) ?_
 refine jv (ii xa.1) (V.ld rfl (Ld.sc sc3 (Rd.cl 1 rfl rfl))) <| jv (.bool (!decide ((((xb.length : Nat) : Int)) = xa.1))) (V.neq rfl rfl) <| jm (.bool (!decide ((((xb.length : Nat) : Int)) = xa.1))) rfl <| J.cut 7 <| jmeet [(29, .bool ((!decide ((((xb.length : Nat) : Int)) = xa.1)) || (!decide ((((xc.length : Nat) : Int)) = (((xa.2.2.1.length : Nat) : Int)))))), (2, sl Ac0 xc Cc0), (4, pt b5), (7, pt b7)] ?_ ?_
 · rcases bt (!decide ((((xb.length : Nat) : Int)) = xa.1)) with hc14 | hc14
   · refine J.skip rfl rfl rfl rfl hc14 <| J.skip rfl rfl rfl rfl hc14 <| J.skip rfl rfl rfl rfl hc14 <| J.skip rfl rfl rfl rfl hc14 <| J.skip rfl rfl rfl rfl hc14 <| J.skip rfl rfl rfl rfl hc14 <| jv (.bool true) (V.pickT rfl hc14 rfl) ?_
     refine J.nil ?_
     exact ⟨rfl, ⟨(by simp only [hc14]; rfl), rfl, rfl, rfl, trivial⟩, rfl, rfl⟩
   refine J.run rfl rfl rfl hc14 <| jm (sl Ac0 xc Cc0) rfl <| J.run rfl rfl rfl hc14 <| jv (ii (((xc.length : Nat) : Int))) (V.len underlying23 rfl) <| J.run rfl rfl rfl hc14 <| jv _ (V.fad underlying55 rfl nz23 rfl) <| J.run rfl rfl rfl hc14 ?_
   refine jv (sl Aa2 xa.2.2.1 Ca2) (V.ld rfl (Ld.sc sc23 (Rd.cl 1 rfl rfl))) <| J.run rfl rfl rfl hc14 <| jv (ii (((xa.2.2.1.length : Nat) : Int))) (V.len underlying23 rfl) <| J.run rfl rfl rfl hc14 <| jv (.bool (!decide ((((xc.length : Nat) : Int)) = (((xa.2.2.1.length : Nat) : Int))))) (V.neq rfl rfl) <| jv (.bool (!decide ((((xc.length : Nat) : Int)) = (((xa.2.2.1.length : Nat) : Int))))) (V.pickF rfl hc14 rfl) <| J.nil ?_
   exact ⟨rfl, ⟨(by simp only [hc14]; rfl), rfl, rfl, rfl, trivial⟩, rfl, rfl⟩
 intro ρ
 refine J.nil <| cc rfl h (fun hc15 h => ?_) fun hc15 h => ?_
 · refine cr <| ja (ii 2) rfl <| J.nil <| CJ.ret ?_
   obtain rfl := si h
   exact ⟨_, _, Res.one rfl rfl, ⟨2, rfl, rfl, rfl⟩, hpr, fun w hs => (Sep.dropAt 0 rfl (Sep.dropAt 0 rfl hs))⟩
 refine CJ.skip <| CJ.seq <| cr <| jv _ (V.fad underlying55 rfl nz23 rfl) <| jv (sl Aa2 xa.2.2.1 Ca2) (V.ld rfl (Ld.sc sc23 (Rd.cl 1 rfl rfl))) <| jv (ii (((xa.2.2.1.length : Nat) : Int))) (V.len underlying23 rfl) ?_
 refine jm (ii 0) rfl <| J.nil ?_
 obtain ⟨o17, ho18, h⟩ := ob h
 refine CJ.joinN (o := o17) (fun s ρ K' L' => () = s ∧ Fits [(4, pt b5), (7, pt b7)] ρ ∧ K = K' ∧ L' = Cl b5 55 [ii xa.1, sl Aa1 xa.2.1 Ca1, sl Aa2 xa.2.2.1 Ca2, sl Aa3 xa.2.2.2 Ca3] :: Cl b7 26 [sl Ad0 xd Cd0] :: F) ?_ ?_
 · refine CJ.block <| CJ.front 1 rfl <| CJ.loop (fun s ρ K' L' => ∃ (i19 : Int), i19 = s ∧ Fits [(2, sl Ac0 xc Cc0), (4, pt b5), (7, pt b7), (31, sl Aa2 xa.2.2.1 Ca2), (32, ii (((xa.2.2.1.length : Nat) : Int))), (33, ii i19)] ρ ∧ K = K' ∧ L' = Cl b5 55 [ii xa.1, sl Aa1 xa.2.1 Ca1, sl Aa2 xa.2.2.1 Ca2, sl Aa3 xa.2.2.2 Ca3] :: Cl b7 26 [sl Ad0 xd Cd0] :: F) ho18 ⟨0, rfl, rt6, rfl, rfl⟩ ?_
   rintro s ρ _ _ r20 ⟨i19, rfl, hf21, rfl, rfl⟩ h22
   obtain ⟨ρ, rfl⟩ := hf21.ex
   refine cr <| jv (.bool (decide (i19 < (((xa.2.2.1.length : Nat) : Int))))) (V.lss rfl rfl) <| J.nil <| CJ.seq <| cc rfl h22 (fun hc24 h22 => ?_) fun hc24 h22 => ?_
   · refine CJ.skip <| CJ.seq <| CJ.block <| cr <| jm (ii i19) rfl ?_
     obtain ⟨x25, hx27, h22⟩ := ob h22
     obtain ⟨p28, p29, p30⟩ := getI_some hx27
     obtain ⟨b31, o33, e34, a35⟩ := (Ga2).at p29
     refine jv _ (V.iad underlying23 sz26 rfl e34 rfl p28 p30) ?_
     obtain ⟨ad36, cp37, c38, f39⟩ := ((a35).one).sl
     refine jv (.agg #[sl ad36 x25 cp37]) (V.ld rfl (Ld.aggK (cs := [sl ad36 x25 cp37]) underlying26 sz26 rfl ⟨c38, trivial⟩ hpr)) <| jal inf26 [nos] rfl fun b40 => ja (ii i19) rfl <| js [sl ad36 x25 cp37] sz26 rfl rfl rfl rfl rfl rfl <| J.nil <| CJ.seq <| CJ.mix [Cl b40 26 [sl ad36 x25 cp37], Cl b5 55 [ii xa.1, sl Aa1 xa.2.1 Ca1, sl Aa2 xa.2.2.1 Ca2, sl Aa3 xa.2.2.2 Ca3], Cl b7 26 [sl Ad0 xd Cd0]] [([0, 1, 2, 3, 4], 5)] [6] [] mixO (by decide +kernel) ⟨0, rfl, 0, rfl, 0, rfl, trivial⟩ rfl rfl rfl ?_
     refine JM.cons <| qm (sl Ac0 xc Cc0) rfl <| qm (ii i19) rfl ?_
     obtain ⟨x41, hx43, h22⟩ := ob h22
     obtain ⟨p44, p45, p46⟩ := getI_some hx43
     obtain ⟨b47, o48, e49, a50⟩ := (Gc0).at p45
     refine qv _ (V.iad underlying23 sz26 rfl e49 rfl p44 p46) ?_
     obtain ⟨ad51, cp52, c53, f54⟩ := ((a50).one).sl
     refine qv (.agg #[sl ad51 x41 cp52]) (V.ld rfl (Ld.aggK (cs := [sl ad51 x41 cp52]) underlying26 sz26 rfl ⟨c53, trivial⟩ hpr)) <| qv (.agg #[sl ad36 x25 cp37]) (V.ld rfl (Ld.agg (cs := [sl ad36 x25 cp37]) underlying26 sz26 rfl (Rd.cls 0 0 rfl rfl))) <| JQ.nil ?_
     obtain ⟨r56, hr57, h22⟩ := ob h22
     refine JA.op rfl (A.call (L1 := []) call92 rfl (row_Shape_ok f54 f39 hr57) rfl rfl) ?_
     rintro _ _ _ ⟨v58, _, rfl, ⟨⟨t59, rfl, rfl, rfl⟩, rfl⟩, _, rfl⟩
     refine ⟨fun w hs => Hold.sub hpr ⟨0, rfl, 0, rfl, 0, rfl, trivial⟩ hs, ?_⟩
     refine JM.nil <| qv (.bool (!t59)) (V.not rfl) <| JQ.nil <| J.nil <| cc rfl h22 (fun hc60 h22 => ?_) fun hc60 h22 => ?_
     · refine cr <| ja (ii 8) rfl <| J.nil <| CJ.ret ?_
       obtain rfl := si h22
       refine ⟨nofun, fun e => ?_⟩
       subst e
       refine .inr ⟨nofun, ?_⟩
       obtain rfl := si h
       exact ⟨_, _, Res.one rfl rfl, ⟨8, rfl, rfl, rfl⟩, hpr, fun w hs => (Sep.dropAt 0 rfl (Sep.dropAt 0 rfl (Sep.dropAt 0 rfl hs)))⟩
     refine CJ.skip <| CJ.region <| jv (ii (IntKind.wrap .i64 (i19 + 1))) (V.add rfl rfl) <| jm (ii (IntKind.wrap .i64 (i19 + 1))) rfl <| J.dropAt 0 rfl <| J.nil ?_
     obtain rfl := si h22
     exact ⟨rfl, ⟨IntKind.wrap .i64 (i19 + 1), rfl, rt6, rfl, rfl⟩⟩
   refine CJ.exit ?_
   obtain rfl := si h22
   refine ⟨nofun, fun e => ?_⟩
   subst e
   exact .inl ⟨rfl, _, rfl, ⟨rfl, rt2, rfl, rfl⟩⟩
 rintro s ρ _ _ ho61 ⟨rfl, hf62, rfl, rfl⟩
 subst ho61
 obtain ⟨ρ, rfl⟩ := hf62.ex
 refine PJ.done <| CJ.seq <| cr <| jv (.agg #[sl Ad0 xd Cd0]) (V.ld rfl (Ld.agg (cs := [sl Ad0 xd Cd0]) underlying26 sz26 rfl (Rd.cls 1 0 rfl rfl))) <| jv _ (V.fad underlying55 rfl nz26 rfl) <| jv (.agg #[sl Aa3 xa.2.2.2 Ca3]) (V.ld rfl (Ld.agg (cs := [sl Aa3 xa.2.2.2 Ca3]) underlying26 sz26 rfl (Rd.cls 0 3 rfl rfl))) ?_
 obtain ⟨r63, hr65, h⟩ := ob h
 refine J.op rfl (A.call (L1 := []) call92 rfl (row_Shape_ok Gd0 Ga3 hr65) rfl rfl) ?_
 rintro _ _ _ ⟨v66, _, rfl, ⟨⟨t67, rfl, rfl, rfl⟩, rfl⟩, _, rfl⟩
 refine jv (.bool (!t67)) (V.not rfl) <| J.nil <| cc rfl h (fun hc68 h => ?_) fun hc68 h => ?_
 · refine cr <| ja (ii 8) rfl <| J.nil <| CJ.ret ?_
   obtain rfl := si h
   exact ⟨_, _, Res.one rfl rfl, ⟨8, rfl, rfl, rfl⟩, hpr, fun w hs => (Sep.dropAt 0 rfl (Sep.dropAt 0 rfl hs))⟩
 refine CJ.skip <| cr <| ja (ii 0) rfl <| J.nil <| CJ.ret ?_
 obtain rfl := si h
 exact ⟨_, _, Res.one rfl rfl, ⟨0, rfl, rfl, rfl⟩, hpr, fun w hs => (Sep.dropAt 0 rfl (Sep.dropAt 0 rfl hs))⟩

noncomputable def fn_slices_Clone_api_Slot_api_Slot (xa : Tq3) : Option (Tq3) :=
  nilb xa (some ([])) ((app (([] : List (Int × Bool))) xa).bind fun z21 => some (z21))
theorem slices_Clone_api_Slot_api_Slot_ok {K : Hp} {xa : Tq3} {Aa0 : Option Addr} {Ca0 : Nat} (Ga0 : Is K (.sl Yq1) [sl Aa0 xa Ca0] xa) {r : Tq3} (h : fn_slices_Clone_api_Slot_api_Slot xa = some r) :
    Tr Tryz.prog 147 #[sl Aa0 xa Ca0] K [] (fun v K' L' => (∃ (l11 : Tq3) (ad12 : Option Addr) (cp13 : Nat), l11 = r ∧ sl ad12 l11 cp13 = v ∧ L' = [Row Hp.nil 150 Yq1 (sl ad12 l11 cp13) l11]) ∧ K = K') := by
 refine Tr.k <| Tr.of func147 rfl ntmps147 rfl fun E F => ?_
 unfold fn_slices_Clone_api_Slot_api_Slot at h
 refine cr <| ja (nos) rfl <| J.nil <| CJ.seq <| CJ.seq <| CJ.region ?_
 refine jm (sl Aa0 xa Ca0) rfl <| jv (.bool Aa0.isNone) (V.sn_eql underlying24 rfl rfl) <| J.nil ?_
 rcases Aa0 with _ | ad16
 · have h := nilb_nil ((Ga0).nil_of) h
   refine CJ.condK (b := true) rfl rfl <| cr <| ja (nos) rfl <| J.nil <| CJ.by (fun w hs => Sep.rowNil (e := 150) (t := Yq1) hs) <| CJ.ret ?_
   obtain rfl := si h
   exact ⟨_, _, Res.one rfl rfl, ⟨[], none, 0, rfl, rfl, rfl⟩, hpr, fun w hs => hs⟩
 have h := nilb_cons h
 refine CJ.condK (b := false) rfl rfl <| CJ.skip <| CJ.seq <| CJ.region ?_
 refine J.op rfl (A.lit (K0 := Hp.nil) (ty := Yq1) (xs := ([] : List (Int × Bool))) underlying24 inf150 rfl (by decide) rfl rfl rfl rfl rfl (by decide)) ?_
 rintro _ _ _ ⟨b18, rfl, rfl, rfl⟩
 have hn19 : ([] : List (Int × Bool)) ≠ [] → ∃ g, (some ⟨b18, 0, none⟩ : Option Addr) = some ⟨g, 0, none⟩ := fun _ => ⟨b18, rfl⟩
 refine jm (.slice (some ad16) xa.length Ca0) rfl ?_
 obtain ⟨z21, hz22, h⟩ := ob h
 refine J.op rfl (A.appP (Kr := Hp.nil) (K1 := K) underlying24 inf150 rfl rfl (by decide) (by decide) rfl rfl Ga0 hpr (Els.flat rfl) (Els.flat rfl) hz22) ?_
 rintro _ _ _ ⟨v23, rfl, rfl, rfl⟩
 refine J.wit Row.form ?_
 rintro ⟨ad24, cp25, rfl, _, _, hn26⟩
 refine ja (sl ad24 z21 cp25) rfl <| J.nil <| CJ.ret ?_
 obtain rfl := si h
 exact ⟨_, _, Res.one rfl rfl, ⟨z21, ad24, cp25, rfl, rfl, rfl⟩, hpr, fun w hs => hs⟩

noncomputable def fn_row_Clone (xa : Tq3) : Option (Tq3) :=
  (fn_slices_Clone_api_Slot_api_Slot xa).bind fun l22 => some (l22)
theorem row_Clone_ok {K : Hp} {xa : Tq3} {Aa0 : Option Addr} {Ca0 : Nat} (Ga0 : Is K (.sl Yq1) [sl Aa0 xa Ca0] xa) {r : Tq3} (h : fn_row_Clone xa = some r) :
    Tr Tryz.prog 146 #[.agg #[sl Aa0 xa Ca0]] K [] (fun v K' L' => (∃ (l13 : Tq3) (ad14 : Option Addr) (cp15 : Nat), l13 = r ∧ .agg #[sl ad14 l13 cp15] = v ∧ L' = [Row Hp.nil 150 Yq1 (sl ad14 l13 cp15) l13]) ∧ K = K') := by
 refine Tr.k <| Tr.of func146 rfl ntmps146 rfl fun E F => ?_
 unfold fn_row_Clone at h
 refine cr <| jbx [sl Aa0 xa Ca0] rfl rfl fun b18 => jal inf26 [nos] rfl fun b19 => J.nil <| CJ.seq <| CJ.region ?_
 refine jv _ (V.fad underlying26 rfl nz24 rfl) <| jv (sl Aa0 xa Ca0) (V.ld rfl (Ld.sc sc24 (Rd.cl 1 rfl rfl))) ?_
 obtain ⟨r20, hr21, h⟩ := ob h
 refine J.op rfl (A.call (L1 := []) call147 rfl (slices_Clone_api_Slot_api_Slot_ok Ga0 hr21) rfl rfl) ?_
 rintro _ _ _ ⟨v26, _, rfl, ⟨⟨l22, ad23, cp24, rfl, rfl, rfl⟩, rfl⟩, _, rfl⟩
 refine J.wit Row.hn fun hn25 => jv (.agg #[sl ad23 l22 cp24]) (V.build inf26 places26 rfl rfl) <| J.front 1 rfl <| js [sl ad23 l22 cp24] sz26 rfl rfl rfl rfl rfl rfl <| J.nil <| CJ.ret ?_
 obtain rfl := si h
 exact ⟨_, _, Res.one rfl ⟨_, _, rfl, Ld.agg (cs := [sl ad23 l22 cp24]) underlying26 sz26 rfl (Rd.cls 0 0 rfl rfl)⟩, ⟨l22, ad23, cp24, rfl, rfl, rfl⟩, hpr, fun w hs => (Sep.dropAt 1 rfl (Sep.dropAt 0 rfl hs))⟩
noncomputable def fn_row_Subst_l1 (xb : (List Int)) (l1 : Tq3) : (Tq3 × Int) → Option ((Tq3 × Int) ⊕ Tq3) := fun ((l2, i3) : (Tq3 × Int)) => cond (decide (i3 < (((l1.length : Nat) : Int)))) ((getI l2 i3).bind fun x4 => (getI xb x4.1).bind fun x5 => (getI l2 i3).bind fun x6 => (some (l2.set i3.toNat (x5, x6.2))).bind fun z7 => some (.inl ((z7, IntKind.wrap .i64 (i3 + 1))))) (some (.inr (l2)))
noncomputable def fn_row_Subst (xa : Tq3) (xb : (List Int)) : Option ((Tq3 × Int)) :=
  (fn_row_within xa (((xb.length : Nat) : Int))).bind fun t1 => cond (!t1) (some (([], 7))) ((fn_row_Clone xa).bind fun l2 => (loop (fn_row_Subst_l1 xb l2) (l2, 0) : Option (Tq3)).bind fun l3 => some ((l3, 0)))
theorem row_Subst_ok {K : Hp} {xa : Tq3} {xb : (List Int)} {Aa0 : Option Addr} {Ca0 : Nat} {Ab0 : Option Addr} {Cb0 : Nat} (Ga0 : Is K (.sl Yq1) [.slice Aa0 xa.length Ca0] xa) (Gb0 : Is K Yq7 [.slice Ab0 xb.length Cb0] xb) {r : (Tq3 × Int)} (h : fn_row_Subst xa xb = some r) :
    Tr Tryz.prog 142 #[.agg #[.slice Aa0 xa.length Ca0], .slice Ab0 xb.length Cb0] K [] (fun v K' L' => (∃ (l4 : Tq3) (i5 : Int) (ad7 : Option Addr) (cp9 : Nat), (l4, i5) = r ∧ .tuple #[.agg #[.slice ad7 l4.length cp9], ii i5] = v ∧ L' = [Row Hp.nil 150 Yq1 (.slice ad7 l4.length cp9) l4]) ∧ K = K') := by
 refine Tr.k <| Tr.of func142 rfl ntmps142 rfl fun E F => ?_
 unfold fn_row_Subst at h
 refine cr <| jbx [.slice Aa0 xa.length Ca0] rfl rfl fun b10 => jal inf26 [nos] rfl fun b11 => ja (ii 0) rfl <| J.nil <| CJ.seq ?_
 refine cr <| jv (.agg #[.slice Aa0 xa.length Ca0]) (V.ld rfl (Ld.agg (cs := [.slice Aa0 xa.length Ca0]) underlying26 sz26 rfl (Rd.cls 1 0 rfl rfl))) <| jm (.slice Ab0 xb.length Cb0) rfl <| jv (ii (((xb.length : Nat) : Int))) (V.len underlying42 rfl) ?_
 obtain ⟨r12, hr13, h⟩ := ob h
 refine J.op rfl (A.call (L1 := []) call112 rfl (row_within_ok Ga0 hr13) rfl rfl) ?_
 rintro _ _ _ ⟨v14, _, rfl, ⟨⟨t15, rfl, rfl, rfl⟩, rfl⟩, _, rfl⟩
 refine jv (.bool (!t15)) (V.not rfl) <| J.nil <| cc rfl h (fun hc17 h => ?_) fun hc17 h => ?_
 · refine cr <| jv (.agg #[nos]) (V.build inf26 places26 rfl rfl) <| js [nos] sz26 rfl rfl rfl rfl rfl rfl <| ja (ii 7) rfl <| J.nil <| CJ.by (fun w hs => Sep.rowNil (e := 150) (t := Yq1) hs) ?_
   refine CJ.ret ?_
   obtain rfl := si h
   exact ⟨_, _, Res.two rfl ⟨_, _, rfl, Ld.agg (cs := [nos]) underlying26 sz26 rfl (Rd.cls 1 0 rfl rfl)⟩ rfl, ⟨[], 7, none, 0, rfl, rfl, rfl⟩, hpr, fun w hs => (Sep.dropAt 1 rfl (Sep.dropAt 1 rfl hs))⟩
 refine CJ.skip <| cr <| jv (.agg #[.slice Aa0 xa.length Ca0]) (V.ld rfl (Ld.agg (cs := [.slice Aa0 xa.length Ca0]) underlying26 sz26 rfl (Rd.cls 1 0 rfl rfl))) ?_
 obtain ⟨r18, hr19, h⟩ := ob h
 refine J.op rfl (A.call (L1 := []) call146 rfl (row_Clone_ok Ga0 hr19) rfl rfl) ?_
 rintro _ _ _ ⟨v20, _, rfl, ⟨⟨l21, ad22, cp23, rfl, rfl, rfl⟩, rfl⟩, _, rfl⟩
 refine J.wit Row.hn fun hn25 => jal inf26 [nos] rfl fun b27 => js [.slice ad22 l21.length cp23] sz26 rfl rfl rfl rfl rfl rfl <| J.nil <| CJ.seq <| CJ.seq <| CJ.region ?_
 refine jv _ (V.fad underlying26 rfl nz24 rfl) <| jv (.slice ad22 l21.length cp23) (V.ld rfl (Ld.sc sc24 (Rd.cl 0 rfl rfl))) <| jv (ii (((l21.length : Nat) : Int))) (V.len underlying24 rfl) <| jm (ii 0) rfl <| J.nil ?_
 obtain ⟨o28, ho29, h⟩ := ob h
 refine CJ.meetN (fun ρ K' L' => ∃ (l30 : Tq3) (ad31 : Option Addr) (cp33 : Nat), l30 = o28 ∧ Fits [(4, pt b11), (6, pt b27)] ρ ∧ K = K' ∧ L' = Cl b11 26 [nos] :: Cl b27 26 [.slice ad31 l30.length cp33] :: Row Hp.nil 150 Yq1 (.slice ad31 l30.length cp33) l30 :: F) ?_ ?_
 · refine CJ.block <| CJ.dropAt 3 rfl <| CJ.front 1 rfl <| CJ.front 1 rfl <| CJ.front 2 rfl <| CJ.loop (fun s ρ K' L' => ∃ (l34 : Tq3) (i35 : Int) (ad36 : Option Addr) (cp37 : Nat), (l34, i35) = s ∧ Fits [(1, .slice Ab0 xb.length Cb0), (4, pt b11), (6, pt b27), (18, .slice ad36 l34.length cp37), (19, ii (((l21.length : Nat) : Int))), (20, ii i35)] ρ ∧ K = K' ∧ L' = Cl b11 26 [nos] :: Cl b27 26 [.slice ad36 l34.length cp37] :: Row Hp.nil 150 Yq1 (.slice ad36 l34.length cp37) l34 :: F) ho29 ⟨l21, 0, ad22, cp23, rfl, rt6, rfl, rfl⟩ ?_
   rintro s ρ _ _ r38 ⟨l34, i35, ad36, cp37, rfl, hf39, rfl, rfl⟩ h40
   obtain ⟨ρ, rfl⟩ := hf39.ex
   refine CJ.front 2 rfl <| CJ.wit Row.hn fun hn41 => cr <| jv (.bool (decide (i35 < (((l21.length : Nat) : Int))))) (V.lss rfl rfl) <| J.nil <| CJ.seq ?_
   refine cc rfl h40 (fun hc43 h40 => ?_) fun hc43 h40 => ?_
   · refine CJ.skip <| CJ.seq <| CJ.block <| cr <| jm (ii i35) rfl ?_
     obtain ⟨x44, hx45, h40⟩ := ob h40
     obtain ⟨p46, p47, p48⟩ := getI_some hx45
     obtain ⟨g49, e50⟩ := hn41 (fun e => by rw [e] at p47; simp at p47)
     refine jv _ (V.iad underlying24 sz150 rfl e50 rfl p46 p48) <| jv (.agg #[ii x44.1, .bool x44.2]) (V.ld rfl (Ld.agg underlying150 sz150 rfl (Rd.rows (K0 := Hp.nil) (s := Yq1) 0 rfl e50 p47 (cs := [ii x44.1, .bool x44.2]) rfl (by rintro _ ⟨_, _, rfl, _, rfl, rfl⟩; rfl)))) <| jal inf150 [ii 0, .bool false] rfl fun b51 => ja (ii i35) rfl <| js [ii x44.1, .bool x44.2] sz150 rfl rfl rfl rfl rfl rfl <| J.nil <| CJ.mix [Cl b51 150 [ii x44.1, .bool x44.2], Row Hp.nil 150 Yq1 (.slice ad36 l34.length cp37) l34, Cl b11 26 [nos], Cl b27 26 [.slice ad36 l34.length cp37]] [] [0, 1, 2, 3, 4, 5, 6, 7, 8, 9] [10] mixO (by decide +kernel) ⟨0, rfl, 0, rfl, 0, rfl, 0, rfl, trivial⟩ rfl rfl rfl ?_
     refine JM.nil <| qv _ (V.fad underlying26 rfl nz24 rfl) <| qv (.slice ad36 l34.length cp37) (V.ld rfl (Ld.sc sc24 (Rd.cl 3 rfl rfl))) <| qm (ii i35) rfl <| qm (.slice Ab0 xb.length Cb0) rfl <| qv _ (V.fad underlying150 rfl nz3 rfl) <| qv (ii x44.1) (V.ld rfl (Ld.sc sc3 (Rd.cl 0 rfl rfl))) ?_
     obtain ⟨x52, hx53, h40⟩ := ob h40
     obtain ⟨p54, p55, p56⟩ := getI_some hx53
     obtain ⟨b57, o58, e59, a60⟩ := (Gb0).at p55
     refine qv _ (V.iad underlying42 sz3 rfl e59 rfl p54 p56) <| qv (ii x52) (V.ld rfl (Ld.sc sc3 (Rd.k (a60).int hpr))) ?_
     obtain ⟨x61, hx62, h40⟩ := ob h40
     obtain ⟨p63, p65, p66⟩ := getI_some hx62
     obtain ⟨g67, e68⟩ := hn41 (fun e => by rw [e] at p65; simp at p65)
     refine qv _ (V.iad underlying24 sz150 rfl e68 rfl p63 p66) <| qv _ (V.fad underlying150 rfl nz3 rfl) <| JQ.nil <| J.front 1 rfl ?_
     obtain ⟨z69, hz70, h40⟩ := ob h40
     have e71 := Option.some.inj hz70
     have hl72 : z69.length = l34.length := by rw [← e71, List.length_set]
     refine J.op rfl (A.storeR (ty := Yq1) (q := 0) (y0 := (x52, x61.2)) (zs := z69) sz3 rfl rfl rfl rfl e68 p65 (by simp [Tp.size]) (by decide) (by rintro _ ⟨_, _, rfl, _, rfl, rfl⟩; exact ⟨_, _, rfl, rfl, rfl, rfl⟩) e71) ?_
     rintro _ _ _ ⟨rfl, rfl, rfl⟩
     have hn73 : z69 ≠ [] → _ := fun h => hn41 (fun e => h (List.length_eq_zero_iff.1 (by rw [hl72]; exact List.length_eq_zero_iff.2 e)))
     refine J.nil <| CJ.region <| jv (ii (IntKind.wrap .i64 (i35 + 1))) (V.add rfl rfl) <| jm (ii (IntKind.wrap .i64 (i35 + 1))) rfl <| J.dropAt 1 rfl <| J.front 2 rfl <| J.front 2 rfl ?_
     refine J.nil ?_
     obtain rfl := si h40
     exact ⟨rfl, ⟨z69, IntKind.wrap .i64 (i35 + 1), ad36, cp37, rfl, ⟨rfl, rfl, rfl, (by rw [hl72]; rfl), rfl, rfl, trivial⟩, rfl, (by rw [hl72]; first | done | rfl)⟩⟩
   refine CJ.front 2 rfl <| CJ.front 2 rfl <| CJ.exit ?_
   obtain rfl := si h40
   refine ⟨nofun, fun e => ?_⟩
   subst e
   exact ⟨rfl, ⟨l34, ad36, cp37, rfl, rt2, rfl, rfl⟩⟩
 rintro ρ _ _ ⟨l30, ad31, cp33, rfl, hf74, rfl, rfl⟩
 obtain ⟨ρ, rfl⟩ := hf74.ex
 refine PJ.front 2 rfl <| PJ.wit Row.hn fun hn75 => PJ.done <| cr <| jv (.agg #[.slice ad31 l30.length cp33]) (V.ld rfl (Ld.agg (cs := [.slice ad31 l30.length cp33]) underlying26 sz26 rfl (Rd.cls 2 0 rfl rfl))) <| J.front 1 rfl ?_
 refine js [.slice ad31 l30.length cp33] sz26 rfl rfl rfl rfl rfl rfl <| ja (ii 0) rfl <| J.nil <| CJ.ret ?_
 obtain rfl := si h
 exact ⟨_, _, Res.two rfl ⟨_, _, rfl, Ld.agg (cs := [.slice ad31 l30.length cp33]) underlying26 sz26 rfl (Rd.cls 0 0 rfl rfl)⟩ rfl, ⟨l30, 0, ad31, cp33, rfl, rfl, rfl⟩, hpr, fun w hs => (Sep.dropAt 1 rfl (Sep.dropAt 0 rfl hs))⟩
noncomputable def fn_sig_Call_l1 (xa : Tq6) (xb : (List Int)) : Tq10 → Option (Tq10 ⊕ (List Tq2)) := fun ((l1, i2) : Tq10) => cond (decide (i2 < (((xa.2.1.length : Nat) : Int)))) ((getI xa.2.1 i2).bind fun x3 => (getI xb x3.1).bind fun x4 => (getI xb x3.2).bind fun x5 => (app l1 (([(x4, x5, 4, i2, false)] : List Tq2))).bind fun z6 => some (.inl ((z6, IntKind.wrap .i64 (i2 + 1))))) (some (.inr (l1)))
noncomputable def fn_sig_Call_l2 (xa : Tq6) (xb : (List Int)) (xc : (List Tq3)) : Tq10 → Option (Tq10 ⊕ (List Tq2)) := fun ((l1, i2) : Tq10) => cond (decide (i2 < (((xa.2.2.1.length : Nat) : Int)))) ((getI xa.2.2.1 i2).bind fun x3 => (fn_row_Subst x3 xb).bind fun (l4, i5) => (getI xc i2).bind fun x6 => (fn_relate_Flow x6 l4 5 (IntKind.wrap .i64 (16 * i2))).bind fun (l7, i9) => (app l1 l7).bind fun z10 => some (.inl ((z10, IntKind.wrap .i64 (i2 + 1))))) (some (.inr (l1)))
noncomputable def fn_sig_Call (xa : Tq6) (xb : (List Int)) (xc : (List Tq3)) (xd : Tq3) : Option (Tq10) :=
  (fn_sig_callable (xa.1, xa.2.1, xa.2.2.1, xa.2.2.2) xb xc xd).bind fun i1 => cond (!decide (i1 = 0)) (some (([], i1))) ((loop (fn_sig_Call_l1 xa xb) ([], 0) : Option ((List Tq2))).bind fun l2 => (loop (fn_sig_Call_l2 xa xb xc) (l2, 0) : Option ((List Tq2))).bind fun l3 => (fn_row_Subst xa.2.2.2 xb).bind fun (l4, i5) => (fn_relate_Flow l4 xd 6 0).bind fun (l6, i7) => (app l3 l6).bind fun z9 => some ((z9, 0)))
theorem sig_Call_ok {K : Hp} {xa : Tq6} {xb : (List Int)} {xc : (List Tq3)} {xd : Tq3} {Aa1 : Option Addr} {Ca1 : Nat} {Aa2 : Option Addr} {Ca2 : Nat} {Aa3 : Option Addr} {Ca3 : Nat} {Ab0 : Option Addr} {Cb0 : Nat} {Ac0 : Option Addr} {Cc0 : Nat} {Ad0 : Option Addr} {Cd0 : Nat} (Ga1 : Is K (.sl Yq5) [sl Aa1 xa.2.1 Ca1] xa.2.1) (Ga2 : Is K Yq8 [sl Aa2 xa.2.2.1 Ca2] xa.2.2.1) (Ga3 : Is K (.sl Yq1) [sl Aa3 xa.2.2.2 Ca3] xa.2.2.2) (Gb0 : Is K Yq7 [sl Ab0 xb Cb0] xb) (Gc0 : Is K Yq8 [sl Ac0 xc Cc0] xc) (Gd0 : Is K (.sl Yq1) [sl Ad0 xd Cd0] xd) {r : Tq10} (h : fn_sig_Call xa xb xc xd = some r) :
    Tr Tryz.prog 131 #[.agg #[ii xa.1, sl Aa1 xa.2.1 Ca1, sl Aa2 xa.2.2.1 Ca2, sl Aa3 xa.2.2.2 Ca3], sl Ab0 xb Cb0, sl Ac0 xc Cc0, .agg #[sl Ad0 xd Cd0]] K [] (fun v K' L' => (∃ (l6 : (List Tq2)) (i7 : Int) (ad9 : Option Addr) (cp10 : Nat), (l6, i7) = r ∧ .tuple #[sl ad9 l6 cp10, ii i7] = v ∧ L' = [Row Hp.nil 187 Yq2 (sl ad9 l6 cp10) l6]) ∧ K = K') := by
 refine Tr.k <| Tr.of func131 rfl ntmps131 rfl fun E F => ?_
 unfold fn_sig_Call at h
 refine cr <| jbx [ii xa.1, sl Aa1 xa.2.1 Ca1, sl Aa2 xa.2.2.1 Ca2, sl Aa3 xa.2.2.2 Ca3] rfl rfl fun b11 => jbx [sl Ad0 xd Cd0] rfl rfl fun b12 => ja (nos) rfl <| ja (ii 0) rfl <| J.nil ?_
 refine CJ.seq <| cr <| jv (.agg #[ii xa.1, sl Aa1 xa.2.1 Ca1, sl Aa2 xa.2.2.1 Ca2, sl Aa3 xa.2.2.2 Ca3]) (V.ld rfl (Ld.agg (cs := [ii xa.1, sl Aa1 xa.2.1 Ca1, sl Aa2 xa.2.2.1 Ca2, sl Aa3 xa.2.2.2 Ca3]) underlying55 sz55 rfl (Rd.cls 1 0 rfl rfl))) <| jm (sl Ab0 xb Cb0) rfl <| jm (sl Ac0 xc Cc0) rfl <| jv (.agg #[sl Ad0 xd Cd0]) (V.ld rfl (Ld.agg (cs := [sl Ad0 xd Cd0]) underlying26 sz26 rfl (Rd.cls 0 0 rfl rfl))) ?_
 obtain ⟨r13, hr14, h⟩ := ob h
 refine J.op rfl (A.call (L1 := []) call141 rfl (sig_callable_ok Ga1 Ga2 Ga3 Gb0 Gc0 Gd0 hr14) rfl rfl) ?_
 rintro _ _ _ ⟨v15, _, rfl, ⟨⟨i17, rfl, rfl, rfl⟩, rfl⟩, _, rfl⟩
 refine ja (ii i17) rfl <| J.nil <| cr <| jm (ii i17) rfl <| jv (.bool (!decide (i17 = 0))) (V.neq rfl rfl) <| J.nil ?_
 refine cc rfl h (fun hc18 h => ?_) fun hc18 h => ?_
 · refine cr <| jm (ii i17) rfl <| ja (nos) rfl <| ja (ii i17) rfl <| J.nil <| CJ.by (fun w hs => Sep.rowNil (e := 187) (t := Yq2) hs) ?_
   refine CJ.ret ?_
   obtain rfl := si h
   exact ⟨_, _, Res.two rfl rfl rfl, ⟨[], i17, none, 0, rfl, rfl, rfl⟩, hpr, fun w hs => (Sep.dropAt 1 rfl (Sep.dropAt 1 rfl hs))⟩
 refine CJ.skip <| cr <| ja (nos) rfl <| J.nil <| CJ.seq <| CJ.seq ?_
 refine CJ.region <| jv _ (V.fad underlying55 rfl nz22 rfl) <| jv (sl Aa1 xa.2.1 Ca1) (V.ld rfl (Ld.sc sc22 (Rd.cl 1 rfl rfl))) <| jv (ii (((xa.2.1.length : Nat) : Int))) (V.len underlying22 rfl) <| jm (ii 0) rfl <| J.nil ?_
 obtain ⟨o19, ho20, h⟩ := ob h
 refine CJ.meetN (fun ρ K' L' => ∃ (l21 : (List Tq2)) (ad24 : Option Addr) (cp25 : Nat), l21 = o19 ∧ Fits [(1, sl Ab0 xb Cb0), (2, sl Ac0 xc Cc0), (4, pt b11), (7, pt b12), (11, sl ad24 l21 cp25)] ρ ∧ K = K' ∧ L' = Cl b11 55 [ii xa.1, sl Aa1 xa.2.1 Ca1, sl Aa2 xa.2.2.1 Ca2, sl Aa3 xa.2.2.2 Ca3] :: Cl b12 26 [sl Ad0 xd Cd0] :: Row Hp.nil 187 Yq2 (sl ad24 l21 cp25) l21 :: F) ?_ ?_
 · refine CJ.block <| CJ.by (fun w hs => Sep.rowNil (e := 187) (t := Yq2) hs) <| CJ.front 1 rfl <| CJ.front 2 rfl <| CJ.loop (fun s ρ K' L' => ∃ (l27 : (List Tq2)) (i28 : Int) (ad29 : Option Addr) (cp30 : Nat), (l27, i28) = s ∧ Fits [(1, sl Ab0 xb Cb0), (2, sl Ac0 xc Cc0), (4, pt b11), (7, pt b12), (11, sl ad29 l27 cp30), (33, sl Aa1 xa.2.1 Ca1), (34, ii (((xa.2.1.length : Nat) : Int))), (35, ii i28)] ρ ∧ K = K' ∧ L' = Cl b11 55 [ii xa.1, sl Aa1 xa.2.1 Ca1, sl Aa2 xa.2.2.1 Ca2, sl Aa3 xa.2.2.2 Ca3] :: Cl b12 26 [sl Ad0 xd Cd0] :: Row Hp.nil 187 Yq2 (sl ad29 l27 cp30) l27 :: F) ho20 ⟨[], 0, none, 0, rfl, rt8, rfl, rfl⟩ ?_
   rintro s ρ _ _ r31 ⟨l27, i28, ad29, cp30, rfl, hf33, rfl, rfl⟩ h34
   obtain ⟨ρ, rfl⟩ := hf33.ex
   refine CJ.front 2 rfl <| CJ.wit Row.hn fun hn35 => cr <| jv (.bool (decide (i28 < (((xa.2.1.length : Nat) : Int))))) (V.lss rfl rfl) <| J.nil <| CJ.seq ?_
   refine cc rfl h34 (fun hc36 h34 => ?_) fun hc36 h34 => ?_
   · refine CJ.skip <| CJ.seq <| CJ.block <| cr <| jm (ii i28) rfl ?_
     obtain ⟨x37, hx38, h34⟩ := ob h34
     obtain ⟨p39, p40, p41⟩ := getI_some hx38
     obtain ⟨b43, o44, e45, a46⟩ := (Ga1).at p40
     refine jv _ (V.iad underlying22 sz126 rfl e45 rfl p39 p41) <| jv (.agg #[ii x37.1, ii x37.2]) (V.ld rfl (Ld.aggK (cs := [ii x37.1, ii x37.2]) underlying126 sz126 rfl ⟨((a46).fst).int, (((a46).snd).one).int, trivial⟩ hpr)) <| jal inf126 [ii 0, ii 0] rfl fun b47 => ja (ii i28) rfl <| js [ii x37.1, ii x37.2] sz126 rfl rfl rfl rfl rfl rfl <| J.nil <| CJ.mix [Cl b47 126 [ii x37.1, ii x37.2], Row Hp.nil 187 Yq2 (sl ad29 l27 cp30) l27, Cl b11 55 [ii xa.1, sl Aa1 xa.2.1 Ca1, sl Aa2 xa.2.2.1 Ca2, sl Aa3 xa.2.2.2 Ca3], Cl b12 26 [sl Ad0 xd Cd0]] [([0, 1, 2, 3, 4, 5, 6, 7, 8, 9, 10, 11, 12], 13)] [] [14, 15] mixO (by decide +kernel) ⟨0, rfl, 0, rfl, 0, rfl, 0, rfl, trivial⟩ rfl rfl rfl ?_
     refine JM.cons <| qm (sl ad29 l27 cp30) rfl <| qm (sl Ab0 xb Cb0) rfl <| qv _ (V.fad underlying126 rfl nz3 rfl) <| qv (ii x37.1) (V.ld rfl (Ld.sc sc3 (Rd.cl 0 rfl rfl))) ?_
     obtain ⟨x48, hx49, h34⟩ := ob h34
     obtain ⟨p50, p51, p52⟩ := getI_some hx49
     obtain ⟨b53, o54, e56, a57⟩ := (Gb0).at p51
     refine qv _ (V.iad underlying42 sz3 rfl e56 rfl p50 p52) <| qv (ii x48) (V.ld rfl (Ld.sc sc3 (Rd.k (a57).int hpr))) <| qm (sl Ab0 xb Cb0) rfl <| qv _ (V.fad underlying126 rfl nz3 rfl) <| qv (ii x37.2) (V.ld rfl (Ld.sc sc3 (Rd.cl 0 rfl rfl))) ?_
     obtain ⟨x58, hx59, h34⟩ := ob h34
     obtain ⟨p60, p61, p62⟩ := getI_some hx59
     obtain ⟨b63, o65, e66, a67⟩ := (Gb0).at p61
     refine qv _ (V.iad underlying42 sz3 rfl e66 rfl p60 p62) <| qv (ii x58) (V.ld rfl (Ld.sc sc3 (Rd.k (a67).int hpr))) <| qm (ii i28) rfl <| qv (.agg #[ii x48, ii x58, ii 4, ii i28, .bool false]) (V.build inf187 places187 rfl rfl) <| JQ.nil ?_
     refine JA.op rfl (A.lit (K0 := Hp.nil) (ty := Yq2) (xs := ([(x48, x58, 4, i28, false)] : List Tq2)) underlying159 inf187 rfl (by decide) rfl rfl rfl ⟨_, _, rfl, ⟨_, _, rfl, rfl, rfl, ⟨_, _, rfl, rfl, rfl, ⟨_, _, rfl, rfl, rfl, ⟨_, _, rfl, rfl, rfl, rfl⟩⟩⟩⟩, rfl⟩ rfl (by decide)) ?_
     rintro _ _ _ ⟨b68, rfl, rfl, rfl⟩
     have hn69 : ([(x48, x58, 4, i28, false)] : List Tq2) ≠ [] → ∃ g, (some ⟨b68, 0, none⟩ : Option Addr) = some ⟨g, 0, none⟩ := fun _ => ⟨b68, rfl⟩
     refine ⟨fun w hs => Hold.sub hpr ⟨1, rfl, 1, rfl, 1, rfl, 1, rfl, trivial⟩ hs, ?_⟩
     refine JM.nil <| JQ.nil ?_
     obtain ⟨z70, hz71, h34⟩ := ob h34
     refine J.front 2 rfl <| J.op rfl (A.appR (Kr := Hp.nil) underlying159 inf187 rfl rfl (by decide) (by decide) rfl rfl (Els.flat rfl) (Els.flat rfl) hz71) ?_
     rintro _ _ _ ⟨v72, rfl, rfl, rfl⟩
     refine J.wit Row.form ?_
     rintro ⟨ad73, cp74, rfl, _, _, hn75⟩
     refine ja (sl ad73 z70 cp74) rfl <| J.nil <| CJ.region <| jv (ii (IntKind.wrap .i64 (i28 + 1))) (V.add rfl rfl) <| jm (ii (IntKind.wrap .i64 (i28 + 1))) rfl <| J.dropAt 1 rfl <| J.front 2 rfl ?_
     refine J.front 2 rfl <| J.nil ?_
     obtain rfl := si h34
     exact ⟨rfl, ⟨z70, IntKind.wrap .i64 (i28 + 1), ad73, cp74, rfl, rt8, rfl, rfl⟩⟩
   refine CJ.front 2 rfl <| CJ.front 2 rfl <| CJ.exit ?_
   obtain rfl := si h34
   refine ⟨nofun, fun e => ?_⟩
   subst e
   exact ⟨rfl, ⟨l27, ad29, cp30, rfl, rt5, rfl, rfl⟩⟩
 rintro ρ _ _ ⟨l21, ad24, cp25, rfl, hf76, rfl, rfl⟩
 obtain ⟨ρ, rfl⟩ := hf76.ex
 refine PJ.front 2 rfl <| PJ.wit Row.hn fun hn77 => PJ.done <| CJ.seq <| cr <| jv _ (V.fad underlying55 rfl nz23 rfl) ?_
 refine jv (sl Aa2 xa.2.2.1 Ca2) (V.ld rfl (Ld.sc sc23 (Rd.cl 1 rfl rfl))) <| jv (ii (((xa.2.2.1.length : Nat) : Int))) (V.len underlying23 rfl) <| jm (ii 0) rfl <| J.nil ?_
 obtain ⟨o78, ho79, h⟩ := ob h
 refine CJ.meetN (fun ρ K' L' => ∃ (l80 : (List Tq2)) (ad81 : Option Addr) (cp82 : Nat), l80 = o78 ∧ Fits [(1, sl Ab0 xb Cb0), (4, pt b11), (7, pt b12), (11, sl ad81 l80 cp82)] ρ ∧ Hp.le K K' ∧ L' = Cl b11 55 [ii xa.1, sl Aa1 xa.2.1 Ca1, sl Aa2 xa.2.2.1 Ca2, sl Aa3 xa.2.2.2 Ca3] :: Cl b12 26 [sl Ad0 xd Cd0] :: Row Hp.nil 187 Yq2 (sl ad81 l80 cp82) l80 :: F) ?_ ?_
 · refine CJ.block <| CJ.front 2 rfl <| CJ.front 2 rfl <| CJ.loop (fun s ρ K' L' => ∃ (l83 : (List Tq2)) (i84 : Int) (ad85 : Option Addr) (cp86 : Nat), (l83, i84) = s ∧ Fits [(1, sl Ab0 xb Cb0), (2, sl Ac0 xc Cc0), (4, pt b11), (7, pt b12), (11, sl ad85 l83 cp86), (57, sl Aa2 xa.2.2.1 Ca2), (58, ii (((xa.2.2.1.length : Nat) : Int))), (59, ii i84)] ρ ∧ Hp.le K K' ∧ L' = Cl b11 55 [ii xa.1, sl Aa1 xa.2.1 Ca1, sl Aa2 xa.2.2.1 Ca2, sl Aa3 xa.2.2.2 Ca3] :: Cl b12 26 [sl Ad0 xd Cd0] :: Row Hp.nil 187 Yq2 (sl ad85 l83 cp86) l83 :: F) ho79 ⟨l21, 0, ad24, cp25, rfl, rt8, hpr, rfl⟩ ?_
   rintro s ρ K87 _ r88 ⟨l83, i84, ad85, cp86, rfl, hf89, hk90, rfl⟩ h91
   obtain ⟨ρ, rfl⟩ := hf89.ex
   refine CJ.front 2 rfl <| CJ.wit Row.hn fun hn92 => cr <| jv (.bool (decide (i84 < (((xa.2.2.1.length : Nat) : Int))))) (V.lss rfl rfl) <| J.nil <| CJ.seq ?_
   refine cc rfl h91 (fun hc93 h91 => ?_) fun hc93 h91 => ?_
   · refine CJ.skip <| CJ.seq <| CJ.block <| cr <| jm (ii i84) rfl ?_
     obtain ⟨x94, hx95, h91⟩ := ob h91
     obtain ⟨p96, p97, p98⟩ := getI_some hx95
     obtain ⟨b99, o100, e101, a102⟩ := ((Ga2.mono hk90)).at p97
     refine jv _ (V.iad underlying23 sz26 rfl e101 rfl p96 p98) ?_
     obtain ⟨ad103, cp104, c105, f106⟩ := ((a102).one).sl
     refine jv (.agg #[sl ad103 x94 cp104]) (V.ld rfl (Ld.aggK (cs := [sl ad103 x94 cp104]) underlying26 sz26 rfl ⟨c105, trivial⟩ hpr)) <| jal inf26 [nos] rfl fun b107 => ja (ii i84) rfl <| js [sl ad103 x94 cp104] sz26 rfl rfl rfl rfl rfl rfl <| J.nil <| CJ.seq <| CJ.region ?_
     refine jv (.agg #[sl ad103 x94 cp104]) (V.ld rfl (Ld.agg (cs := [sl ad103 x94 cp104]) underlying26 sz26 rfl (Rd.cls 0 0 rfl rfl))) <| jm (sl Ab0 xb Cb0) rfl ?_
     obtain ⟨r108, hr109, h91⟩ := ob h91
     refine J.op rfl (A.call (L1 := []) call142 rfl (row_Subst_ok f106 (Gb0.mono hk90) hr109) rfl rfl) ?_
     rintro _ _ _ ⟨v110, _, rfl, ⟨⟨l111, i112, ad113, cp114, rfl, rfl, rfl⟩, rfl⟩, _, rfl⟩
     refine J.wit Row.hn fun hn115 => jm (.tuple #[.agg #[sl ad113 l111 cp114], ii i112]) rfl <| jx (.agg #[sl ad113 l111 cp114]) rfl rfl <| jx (ii i112) rfl rfl <| jal inf26 [nos] rfl fun b116 => js [sl ad113 l111 cp114] sz26 rfl rfl rfl rfl rfl rfl <| ja (ii i112) rfl ?_
     refine J.nil <| CJ.seq <| CJ.mix [Cl b116 26 [sl ad113 l111 cp114], Cl b107 26 [sl ad103 x94 cp104], Row Hp.nil 187 Yq2 (sl ad85 l83 cp86) l83, Cl b11 55 [ii xa.1, sl Aa1 xa.2.1 Ca1, sl Aa2 xa.2.2.1 Ca2, sl Aa3 xa.2.2.2 Ca3], Cl b12 26 [sl Ad0 xd Cd0]] [([0, 1, 2, 3, 4, 5, 6], 7)] [8, 9, 10, 11, 12] [] mixO (by decide +kernel) ⟨0, rfl, 1, rfl, 1, rfl, 1, rfl, 1, rfl, trivial⟩ rfl rfl rfl <| JM.cons <| qm (sl Ac0 xc Cc0) rfl <| qm (ii i84) rfl ?_
     obtain ⟨x117, hx118, h91⟩ := ob h91
     obtain ⟨p119, p120, p121⟩ := getI_some hx118
     obtain ⟨b122, o123, e124, a125⟩ := ((Gc0.mono hk90)).at p120
     refine qv _ (V.iad underlying23 sz26 rfl e124 rfl p119 p121) ?_
     obtain ⟨ad126, cp127, c128, f129⟩ := ((a125).one).sl
     refine qv (.agg #[sl ad126 x117 cp127]) (V.ld rfl (Ld.aggK (cs := [sl ad126 x117 cp127]) underlying26 sz26 rfl ⟨c128, trivial⟩ hpr)) <| qv (.agg #[sl ad113 l111 cp114]) (V.ld rfl (Ld.agg (cs := [sl ad113 l111 cp114]) underlying26 sz26 rfl (Rd.cls 0 0 rfl rfl))) <| qm (ii i84) rfl <| qv (ii (IntKind.wrap .i64 (16 * i84))) (V.mul rfl rfl) <| JQ.nil <| JA.front 1 rfl <| JA.persist (Hp.nil_le _) (by decide) fun K130 hK131 f132 => ?_
     obtain ⟨r133, hr134, h91⟩ := ob h91
     refine JA.op rfl (A.call (L1 := []) call126 rfl (relate_Flow_ok (f129.mono hK131) f132 hr134) rfl rfl) ?_
     rintro _ _ _ ⟨v135, _, rfl, ⟨⟨l136, i137, ad138, cp139, rfl, rfl, rfl⟩, rfl⟩, _, rfl⟩
     refine ⟨fun w hs => Hold.sub hK131 ⟨1, rfl, 1, rfl, 1, rfl, 1, rfl, 1, rfl, trivial⟩ hs, ?_⟩
     refine JM.wit Row.hn fun hn140 => JM.nil <| qm (.tuple #[sl ad138 l136 cp139, ii i137]) rfl <| qv (sl ad138 l136 cp139) (V.ext rfl rfl) <| qv (ii i137) (V.ext rfl rfl) <| qa (sl ad138 l136 cp139) rfl <| qa (ii i137) rfl ?_
     refine JQ.nil <| J.nil <| CJ.region <| jm (sl ad85 l83 cp86) rfl <| jm (sl ad138 l136 cp139) rfl ?_
     obtain ⟨z141, hz142, h91⟩ := ob h91
     refine J.front 3 rfl <| J.op rfl (A.appR (Kr := Hp.nil) underlying159 inf187 rfl rfl (by decide) (by decide) rfl rfl (Els.flat rfl) (Els.flat rfl) hz142) ?_
     rintro _ _ _ ⟨v143, rfl, rfl, rfl⟩
     refine J.wit Row.form ?_
     rintro ⟨ad144, cp145, rfl, _, _, hn146⟩
     refine ja (sl ad144 z141 cp145) rfl <| J.nil <| CJ.region <| jv (ii (IntKind.wrap .i64 (i84 + 1))) (V.add rfl rfl) <| jm (ii (IntKind.wrap .i64 (i84 + 1))) rfl <| J.dropAt 1 rfl <| J.dropAt 1 rfl ?_
     refine J.front 2 rfl <| J.front 2 rfl <| J.nil ?_
     obtain rfl := si h91
     exact ⟨rfl, ⟨z141, IntKind.wrap .i64 (i84 + 1), ad144, cp145, rfl, rt8, (hk90.trans hK131), rfl⟩⟩
   refine CJ.front 2 rfl <| CJ.front 2 rfl <| CJ.exit ?_
   obtain rfl := si h91
   refine ⟨nofun, fun e => ?_⟩
   subst e
   exact ⟨rfl, ⟨l83, ad85, cp86, rfl, rt4, hk90, rfl⟩⟩
 rintro ρ K147 _ ⟨l80, ad81, cp82, rfl, hf148, hk149, rfl⟩
 obtain ⟨ρ, rfl⟩ := hf148.ex
 refine PJ.front 2 rfl <| PJ.wit Row.hn fun hn150 => PJ.done <| cr <| jv _ (V.fad underlying55 rfl nz26 rfl) <| jv (.agg #[sl Aa3 xa.2.2.2 Ca3]) (V.ld rfl (Ld.agg (cs := [sl Aa3 xa.2.2.2 Ca3]) underlying26 sz26 rfl (Rd.cls 1 3 rfl rfl))) ?_
 refine jm (sl Ab0 xb Cb0) rfl ?_
 obtain ⟨r151, hr152, h⟩ := ob h
 refine J.op rfl (A.call (L1 := []) call142 rfl (row_Subst_ok (Ga3.mono hk149) (Gb0.mono hk149) hr152) rfl rfl) ?_
 rintro _ _ _ ⟨v153, _, rfl, ⟨⟨l154, i155, ad156, cp157, rfl, rfl, rfl⟩, rfl⟩, _, rfl⟩
 refine J.wit Row.hn fun hn158 => jm (.tuple #[.agg #[sl ad156 l154 cp157], ii i155]) rfl <| jx (.agg #[sl ad156 l154 cp157]) rfl rfl <| jx (ii i155) rfl rfl <| jal inf26 [nos] rfl fun b159 => js [sl ad156 l154 cp157] sz26 rfl rfl rfl rfl rfl rfl <| ja (ii i155) rfl ?_
 refine J.nil <| cr <| jv (.agg #[sl ad156 l154 cp157]) (V.ld rfl (Ld.agg (cs := [sl ad156 l154 cp157]) underlying26 sz26 rfl (Rd.cls 0 0 rfl rfl))) <| jv (.agg #[sl Ad0 xd Cd0]) (V.ld rfl (Ld.agg (cs := [sl Ad0 xd Cd0]) underlying26 sz26 rfl (Rd.cls 4 0 rfl rfl))) <| J.front 1 rfl <| J.persist (Hp.nil_le _) (by decide) fun K160 hK161 f162 => ?_
 obtain ⟨r163, hr164, h⟩ := ob h
 refine J.op rfl (A.call (L1 := []) call126 rfl (relate_Flow_ok f162 (Gd0.mono (hk149.trans hK161)) hr164) rfl rfl) ?_
 rintro _ _ _ ⟨v165, _, rfl, ⟨⟨l166, i167, ad168, cp169, rfl, rfl, rfl⟩, rfl⟩, _, rfl⟩
 refine J.wit Row.hn fun hn170 => jm (.tuple #[sl ad168 l166 cp169, ii i167]) rfl <| jx (sl ad168 l166 cp169) rfl rfl <| jx (ii i167) rfl rfl <| ja (sl ad168 l166 cp169) rfl <| ja (ii i167) rfl <| J.nil ?_
 refine cr <| jm (sl ad81 l80 cp82) rfl <| jm (sl ad168 l166 cp169) rfl ?_
 obtain ⟨z171, hz172, h⟩ := ob h
 refine J.front 2 rfl <| J.op rfl (A.appR (Kr := Hp.nil) underlying159 inf187 rfl rfl (by decide) (by decide) rfl rfl (Els.flat rfl) (Els.flat rfl) hz172) ?_
 rintro _ _ _ ⟨v173, rfl, rfl, rfl⟩
 refine J.wit Row.form ?_
 rintro ⟨ad174, cp175, rfl, _, _, hn176⟩
 refine ja (sl ad174 z171 cp175) rfl <| ja (ii 0) rfl <| J.nil <| CJ.ret ?_
 obtain rfl := si h
 exact ⟨_, _, Res.two rfl rfl rfl, ⟨z171, 0, ad174, cp175, rfl, rfl, rfl⟩, (hk149.trans hK161), fun w hs => (Sep.dropAt 1 rfl (Sep.dropAt 1 rfl (Sep.dropAt 1 rfl hs)))⟩
noncomputable def fn_term_Needs_l1 (xa : Tq5) (xb : (Int × Int × (List Tq3) × Tq3 × (List Tq6))) : ((List Tq3) × Int) → Option (((List Tq3) × Int) ⊕ (List Tq3)) := fun ((l1, i2) : ((List Tq3) × Int)) => cond (decide (i2 < (((xa.2.2.2.2.1.length : Nat) : Int)))) ((getI xa.2.2.2.2.1 i2).bind fun x3 => (getI xb.2.2.1 x3).bind fun x4 => (app l1 (([x4] : List Tq3))).bind fun z5 => some (.inl ((z5, IntKind.wrap .i64 (i2 + 1))))) (some (.inr (l1)))
noncomputable def fn_term_Needs (xa : Tq5) (xb : (Int × Int × (List Tq3) × Tq3 × (List Tq6))) : Option (Tq10) :=
  (fn_term_form (xa.1, xa.2.1, xa.2.2.1, xa.2.2.2.1, xa.2.2.2.2.1, xa.2.2.2.2.2)).bind fun i1 => cond (!decide (i1 = 0)) (some (([], i1))) ((fn_term_within (xa.1, xa.2.1, xa.2.2.1, xa.2.2.2.1, xa.2.2.2.2.1, xa.2.2.2.2.2) (xb.1, xb.2.1, xb.2.2.1, xb.2.2.2.1, xb.2.2.2.2)).bind fun t2 => cond (!t2) (some (([], 7))) (cond (decide (xa.1 = 3)) (cond (decide ((((xb.2.2.1.length : Nat) : Int)) = 0)) (some (([], 14))) ((getI xb.2.2.1 0).bind fun x3 => (fn_relate_Flow x3 xb.2.2.2.1 7 0).bind fun (l4, i5) => some ((l4, i5)))) (cond (decide (xa.1 = 4)) ((loop (fn_term_Needs_l1 xa xb) ([], 0) : Option ((List Tq3))).bind fun l6 => (getI xb.2.2.2.2 xa.2.1).bind fun x7 => (getI xb.2.2.1 xa.2.2.1).bind fun x9 => (fn_sig_Call (x7.1, x7.2.1, x7.2.2.1, x7.2.2.2) xa.2.2.2.2.2 l6 x9).bind fun (l10, i11) => some ((l10, i11))) (some (([], 0))))))
theorem term_Needs_ok {K : Hp} {xa : Tq5} {xb : (Int × Int × (List Tq3) × Tq3 × (List Tq6))} {Aa3 : Option Addr} {Ca3 : Nat} {Aa4 : Option Addr} {Ca4 : Nat} {Aa5 : Option Addr} {Ca5 : Nat} {Ab2 : Option Addr} {Cb2 : Nat} {Ab3 : Option Addr} {Cb3 : Nat} {Ab4 : Option Addr} {Cb4 : Nat} (Ga3 : Is K Yq7 [sl Aa3 xa.2.2.2.1 Ca3] xa.2.2.2.1) (Ga4 : Is K Yq7 [sl Aa4 xa.2.2.2.2.1 Ca4] xa.2.2.2.2.1) (Ga5 : Is K Yq7 [sl Aa5 xa.2.2.2.2.2 Ca5] xa.2.2.2.2.2) (Gb2 : Is K Yq8 [sl Ab2 xb.2.2.1 Cb2] xb.2.2.1) (Gb3 : Is K (.sl Yq1) [sl Ab3 xb.2.2.2.1 Cb3] xb.2.2.2.1) (Gb4 : Is K Yq4 [sl Ab4 xb.2.2.2.2 Cb4] xb.2.2.2.2) {r : Tq10} (h : fn_term_Needs xa xb = some r) :
    Tr Tryz.prog 117 #[.agg #[ii xa.1, ii xa.2.1, ii xa.2.2.1, sl Aa3 xa.2.2.2.1 Ca3, sl Aa4 xa.2.2.2.2.1 Ca4, sl Aa5 xa.2.2.2.2.2 Ca5], .agg #[ii xb.1, ii xb.2.1, sl Ab2 xb.2.2.1 Cb2, sl Ab3 xb.2.2.2.1 Cb3, sl Ab4 xb.2.2.2.2 Cb4]] K [] (fun v K' L' => (∃ (l7 : (List Tq2)) (i9 : Int) (ad10 : Option Addr) (cp11 : Nat), (l7, i9) = r ∧ .tuple #[sl ad10 l7 cp11, ii i9] = v ∧ L' = [Row Hp.nil 187 Yq2 (sl ad10 l7 cp11) l7]) ∧ K = K') := by
 refine Tr.k <| Tr.of func117 rfl ntmps117 rfl fun E F => ?_
 unfold fn_term_Needs at h
 refine cr <| jbx [ii xa.1, ii xa.2.1, ii xa.2.2.1, sl Aa3 xa.2.2.2.1 Ca3, sl Aa4 xa.2.2.2.2.1 Ca4, sl Aa5 xa.2.2.2.2.2 Ca5] rfl rfl fun b12 => jbx [ii xb.1, ii xb.2.1, sl Ab2 xb.2.2.1 Cb2, sl Ab3 xb.2.2.2.1 Cb3, sl Ab4 xb.2.2.2.2 Cb4] rfl rfl fun b13 => ja (nos) rfl <| ja (ii 0) rfl <| J.nil ?_
 refine CJ.seq <| cr <| jv (.agg #[ii xa.1, ii xa.2.1, ii xa.2.2.1, sl Aa3 xa.2.2.2.1 Ca3, sl Aa4 xa.2.2.2.2.1 Ca4, sl Aa5 xa.2.2.2.2.2 Ca5]) (V.ld rfl (Ld.agg (cs := [ii xa.1, ii xa.2.1, ii xa.2.2.1, sl Aa3 xa.2.2.2.1 Ca3, sl Aa4 xa.2.2.2.2.1 Ca4, sl Aa5 xa.2.2.2.2.2 Ca5]) underlying58 sz58 rfl (Rd.cls 1 0 rfl rfl))) ?_
 obtain ⟨r14, hr15, h⟩ := ob h
 refine J.op rfl (A.call (L1 := []) call129 rfl (term_form_ok Ga3 Ga4 Ga5 hr15) rfl rfl) ?_
 rintro _ _ _ ⟨v17, _, rfl, ⟨⟨i18, rfl, rfl, rfl⟩, rfl⟩, _, rfl⟩
 refine ja (ii i18) rfl <| J.nil <| cr <| jm (ii i18) rfl <| jv (.bool (!decide (i18 = 0))) (V.neq rfl rfl) <| J.nil ?_
 refine cc rfl h (fun hc19 h => ?_) fun hc19 h => ?_
 · refine cr <| jm (ii i18) rfl <| ja (nos) rfl <| ja (ii i18) rfl <| J.nil <| CJ.by (fun w hs => Sep.rowNil (e := 187) (t := Yq2) hs) ?_
   refine CJ.ret ?_
   obtain rfl := si h
   exact ⟨_, _, Res.two rfl rfl rfl, ⟨[], i18, none, 0, rfl, rfl, rfl⟩, hpr, fun w hs => (Sep.dropAt 1 rfl (Sep.dropAt 1 rfl hs))⟩
 refine CJ.skip <| CJ.seq <| cr <| jv (.agg #[ii xa.1, ii xa.2.1, ii xa.2.2.1, sl Aa3 xa.2.2.2.1 Ca3, sl Aa4 xa.2.2.2.2.1 Ca4, sl Aa5 xa.2.2.2.2.2 Ca5]) (V.ld rfl (Ld.agg (cs := [ii xa.1, ii xa.2.1, ii xa.2.2.1, sl Aa3 xa.2.2.2.1 Ca3, sl Aa4 xa.2.2.2.2.1 Ca4, sl Aa5 xa.2.2.2.2.2 Ca5]) underlying58 sz58 rfl (Rd.cls 1 0 rfl rfl))) <| jv (.agg #[ii xb.1, ii xb.2.1, sl Ab2 xb.2.2.1 Cb2, sl Ab3 xb.2.2.2.1 Cb3, sl Ab4 xb.2.2.2.2 Cb4]) (V.ld rfl (Ld.agg (cs := [ii xb.1, ii xb.2.1, sl Ab2 xb.2.2.1 Cb2, sl Ab3 xb.2.2.2.1 Cb3, sl Ab4 xb.2.2.2.2 Cb4]) underlying140 sz140 rfl (Rd.cls 0 0 rfl rfl))) ?_
 obtain ⟨r20, hr21, h⟩ := ob h
 refine J.op rfl (A.call (L1 := []) call130 rfl (term_within_ok Ga3 Ga4 Ga5 Gb2 Gb3 Gb4 hr21) rfl rfl) ?_
 rintro _ _ _ ⟨v22, _, rfl, ⟨⟨t24, rfl, rfl, rfl⟩, rfl⟩, _, rfl⟩
 refine jv (.bool (!t24)) (V.not rfl) <| J.nil <| cc rfl h (fun hc25 h => ?_) fun hc25 h => ?_
 · refine cr <| ja (nos) rfl <| ja (ii 7) rfl <| J.nil <| CJ.by (fun w hs => Sep.rowNil (e := 187) (t := Yq2) hs) <| CJ.ret ?_
   obtain rfl := si h
   exact ⟨_, _, Res.two rfl rfl rfl, ⟨[], 7, none, 0, rfl, rfl, rfl⟩, hpr, fun w hs => (Sep.dropAt 1 rfl (Sep.dropAt 1 rfl hs))⟩
 refine CJ.skip <| CJ.seq <| cr <| jv _ (V.fad underlying58 rfl nz3 rfl) <| jv (ii xa.1) (V.ld rfl (Ld.sc sc3 (Rd.cl 1 rfl rfl))) <| J.nil ?_
 refine CJ.block <| cr <| jv (.bool (decide (xa.1 = 3))) (V.eql rfl rfl) <| ja (.bool (decide (xa.1 = 3))) rfl <| J.nil <| cc rfl h (fun hc28 h => ?_) fun hc28 h => ?_
 · refine CJ.seq <| cr <| jv _ (V.fad underlying140 rfl nz23 rfl) <| jv (sl Ab2 xb.2.2.1 Cb2) (V.ld rfl (Ld.sc sc23 (Rd.cl 0 rfl rfl))) <| jv (ii (((xb.2.2.1.length : Nat) : Int))) (V.len underlying23 rfl) <| jv (.bool (decide ((((xb.2.2.1.length : Nat) : Int)) = 0))) (V.eql rfl rfl) ?_
   refine J.nil <| cc rfl h (fun hc29 h => ?_) fun hc29 h => ?_
   · refine cr <| ja (nos) rfl <| ja (ii 14) rfl <| J.nil <| CJ.by (fun w hs => Sep.rowNil (e := 187) (t := Yq2) hs) <| CJ.ret ?_
     obtain rfl := si h
     exact ⟨_, _, Res.two rfl rfl rfl, ⟨[], 14, none, 0, rfl, rfl, rfl⟩, hpr, fun w hs => (Sep.dropAt 1 rfl (Sep.dropAt 1 rfl hs))⟩
   refine CJ.skip <| CJ.seq <| CJ.mix [Cl b13 140 [ii xb.1, ii xb.2.1, sl Ab2 xb.2.2.1 Cb2, sl Ab3 xb.2.2.2.1 Cb3, sl Ab4 xb.2.2.2.2 Cb4], Cl b12 58 [ii xa.1, ii xa.2.1, ii xa.2.2.1, sl Aa3 xa.2.2.2.1 Ca3, sl Aa4 xa.2.2.2.2.1 Ca4, sl Aa5 xa.2.2.2.2.2 Ca5]] [([0, 1, 2, 3, 4, 5], 6)] [7, 8, 9, 10] [] mixO (by decide +kernel) ⟨0, rfl, 0, rfl, trivial⟩ rfl rfl rfl <| JM.cons <| qv _ (V.fad underlying140 rfl nz23 rfl) <| qv (sl Ab2 xb.2.2.1 Cb2) (V.ld rfl (Ld.sc sc23 (Rd.cl 0 rfl rfl))) ?_
   obtain ⟨x30, hx31, h⟩ := ob h
   obtain ⟨p33, p34, p35⟩ := getI_some hx31
   obtain ⟨b36, o37, e38, a39⟩ := (Gb2).at p34
   refine qv _ (V.iad underlying23 sz26 rfl e38 rfl p33 p35) ?_
   obtain ⟨ad40, cp41, c43, f44⟩ := ((a39).one).sl
   refine qv (.agg #[sl ad40 x30 cp41]) (V.ld rfl (Ld.aggK (cs := [sl ad40 x30 cp41]) underlying26 sz26 rfl ⟨c43, trivial⟩ hpr)) <| qv _ (V.fad underlying140 rfl nz26 rfl) <| qv (.agg #[sl Ab3 xb.2.2.2.1 Cb3]) (V.ld rfl (Ld.agg (cs := [sl Ab3 xb.2.2.2.1 Cb3]) underlying26 sz26 rfl (Rd.cls 0 3 rfl rfl))) <| JQ.nil ?_
   obtain ⟨r45, hr46, h⟩ := ob h
   refine JA.op rfl (A.call (L1 := []) call126 rfl (relate_Flow_ok f44 Gb3 hr46) rfl rfl) ?_
   rintro _ _ _ ⟨v47, _, rfl, ⟨⟨l48, i49, ad50, cp51, rfl, rfl, rfl⟩, rfl⟩, _, rfl⟩
   refine ⟨fun w hs => Hold.sub hpr ⟨1, rfl, 1, rfl, trivial⟩ hs, ?_⟩
   refine JM.wit Row.hn fun hn52 => JM.nil <| qv (sl ad50 l48 cp51) (V.ext rfl rfl) <| qv (ii i49) (V.ext rfl rfl) <| qa (sl ad50 l48 cp51) rfl <| qa (ii i49) rfl <| JQ.nil ?_
   refine J.nil <| CJ.ret ?_
   obtain rfl := si h
   exact ⟨_, _, Res.two rfl rfl rfl, ⟨l48, i49, ad50, cp51, rfl, rfl, rfl⟩, hpr, fun w hs => (Sep.dropAt 1 rfl (Sep.dropAt 1 rfl hs))⟩
 refine cr <| jv (.bool (decide (xa.1 = 4))) (V.eql rfl rfl) <| ja (.bool (decide (xa.1 = 4))) rfl <| J.nil <| cc rfl h (fun hc53 h => ?_) fun hc53 h => ?_
 · refine cr <| ja (nos) rfl <| J.nil <| CJ.seq <| CJ.seq <| CJ.region ?_
   refine jv _ (V.fad underlying58 rfl nz42 rfl) <| jv (sl Aa4 xa.2.2.2.2.1 Ca4) (V.ld rfl (Ld.sc sc42 (Rd.cl 1 rfl rfl))) <| jv (ii (((xa.2.2.2.2.1.length : Nat) : Int))) (V.len underlying42 rfl) <| jm (ii 0) rfl <| J.nil ?_
   obtain ⟨o54, ho56, h⟩ := ob h
   refine CJ.meetN (fun ρ K' L' => ∃ (l57 : (List Tq3)) (ad59 : Option Addr) (cp60 : Nat), l57 = o54 ∧ Fits [(2, pt b12), (3, pt b13), (7, sl ad59 l57 cp60)] ρ ∧ K = K' ∧ L' = Cl b12 58 [ii xa.1, ii xa.2.1, ii xa.2.2.1, sl Aa3 xa.2.2.2.1 Ca3, sl Aa4 xa.2.2.2.2.1 Ca4, sl Aa5 xa.2.2.2.2.2 Ca5] :: Cl b13 140 [ii xb.1, ii xb.2.1, sl Ab2 xb.2.2.1 Cb2, sl Ab3 xb.2.2.2.1 Cb3, sl Ab4 xb.2.2.2.2 Cb4] :: Row K 26 (.one (.sl Yq1)) (sl ad59 l57 cp60) l57 :: F) ?_ ?_
   · refine CJ.block <| CJ.by (fun w hs => Sep.rowNil (e := 26) (t := (.one (.sl Yq1))) hs) <| CJ.by (fun w hs => hs.mono (Row.mono (Hp.nil_le K))) <| CJ.front 1 rfl <| CJ.front 2 rfl <| CJ.loop (fun s ρ K' L' => ∃ (l61 : (List Tq3)) (i62 : Int) (ad63 : Option Addr) (cp65 : Nat), (l61, i62) = s ∧ Fits [(2, pt b12), (3, pt b13), (7, sl ad63 l61 cp65), (39, sl Aa4 xa.2.2.2.2.1 Ca4), (40, ii (((xa.2.2.2.2.1.length : Nat) : Int))), (41, ii i62)] ρ ∧ K = K' ∧ L' = Cl b12 58 [ii xa.1, ii xa.2.1, ii xa.2.2.1, sl Aa3 xa.2.2.2.1 Ca3, sl Aa4 xa.2.2.2.2.1 Ca4, sl Aa5 xa.2.2.2.2.2 Ca5] :: Cl b13 140 [ii xb.1, ii xb.2.1, sl Ab2 xb.2.2.1 Cb2, sl Ab3 xb.2.2.2.1 Cb3, sl Ab4 xb.2.2.2.2 Cb4] :: Row K 26 (.one (.sl Yq1)) (sl ad63 l61 cp65) l61 :: F) ho56 ⟨[], 0, none, 0, rfl, rt6, rfl, rfl⟩ ?_
     rintro s ρ _ _ r66 ⟨l61, i62, ad63, cp65, rfl, hf67, rfl, rfl⟩ h68
     obtain ⟨ρ, rfl⟩ := hf67.ex
     refine CJ.front 2 rfl <| CJ.wit Row.hn fun hn69 => cr <| jv (.bool (decide (i62 < (((xa.2.2.2.2.1.length : Nat) : Int))))) (V.lss rfl rfl) <| J.nil <| CJ.seq ?_
     refine cc rfl h68 (fun hc70 h68 => ?_) fun hc70 h68 => ?_
     · refine CJ.skip <| CJ.seq <| CJ.block <| CJ.seq <| CJ.region ?_
       obtain ⟨x71, hx72, h68⟩ := ob h68
       obtain ⟨p73, p74, p75⟩ := getI_some hx72
       obtain ⟨b76, o77, e78, a79⟩ := (Ga4).at p74
       refine jv _ (V.iad underlying42 sz3 rfl e78 rfl p73 p75) <| jv (ii x71) (V.ld rfl (Ld.sc sc3 (Rd.k (a79).int hpr))) <| ja (ii x71) rfl <| J.nil <| CJ.region <| jm (sl ad63 l61 cp65) rfl <| jv _ (V.fad underlying140 rfl nz23 rfl) ?_
       refine jv (sl Ab2 xb.2.2.1 Cb2) (V.ld rfl (Ld.sc sc23 (Rd.cl 2 rfl rfl))) <| jm (ii x71) rfl ?_
       obtain ⟨x80, hx81, h68⟩ := ob h68
       obtain ⟨p82, p83, p84⟩ := getI_some hx81
       obtain ⟨b85, o86, e87, a88⟩ := (Gb2).at p83
       refine jv _ (V.iad underlying23 sz26 rfl e87 rfl p82 p84) ?_
       obtain ⟨ad89, cp90, c91, f92⟩ := ((a88).one).sl
       refine jv (.agg #[sl ad89 x80 cp90]) (V.ld rfl (Ld.aggK (cs := [sl ad89 x80 cp90]) underlying26 sz26 rfl ⟨c91, trivial⟩ hpr)) ?_
       refine J.op rfl (A.lit (K0 := K) (ty := (.one (.sl Yq1))) (xs := ([x80] : List Tq3)) underlying23 inf26 rfl (by decide) rfl rfl rfl ⟨_, _, rfl, f92, rfl⟩ rfl (by decide)) ?_
       rintro _ _ _ ⟨b93, rfl, rfl, rfl⟩
       have hn94 : ([x80] : List Tq3) ≠ [] → ∃ g, (some ⟨b93, 0, none⟩ : Option Addr) = some ⟨g, 0, none⟩ := fun _ => ⟨b93, rfl⟩
       obtain ⟨z95, hz96, h68⟩ := ob h68
       refine J.front 1 rfl <| J.op rfl (A.appR (Kr := K) underlying23 inf26 rfl rfl (by decide) (by decide) rfl rfl (Els.mono hpr) (Els.mono hpr) hz96) ?_
       rintro _ _ _ ⟨v97, rfl, rfl, rfl⟩
       refine J.wit Row.form ?_
       rintro ⟨ad98, cp99, rfl, _, _, hn100⟩
       refine ja (sl ad98 z95 cp99) rfl <| J.nil <| CJ.region <| jv (ii (IntKind.wrap .i64 (i62 + 1))) (V.add rfl rfl) <| jm (ii (IntKind.wrap .i64 (i62 + 1))) rfl <| J.front 2 rfl <| J.front 2 rfl ?_
       refine J.nil ?_
       obtain rfl := si h68
       exact ⟨rfl, ⟨z95, IntKind.wrap .i64 (i62 + 1), ad98, cp99, rfl, rt6, rfl, rfl⟩⟩
     refine CJ.front 2 rfl <| CJ.front 2 rfl <| CJ.exit ?_
     obtain rfl := si h68
     refine ⟨nofun, fun e => ?_⟩
     subst e
     exact ⟨rfl, ⟨l61, ad63, cp65, rfl, rt3, rfl, rfl⟩⟩
   rintro ρ _ _ ⟨l57, ad59, cp60, rfl, hf101, rfl, rfl⟩
   obtain ⟨ρ, rfl⟩ := hf101.ex
   refine PJ.front 2 rfl <| PJ.wit Row.hn fun hn102 => PJ.done <| CJ.seq <| CJ.mix [Cl b12 58 [ii xa.1, ii xa.2.1, ii xa.2.2.1, sl Aa3 xa.2.2.2.1 Ca3, sl Aa4 xa.2.2.2.2.1 Ca4, sl Aa5 xa.2.2.2.2.2 Ca5], Cl b13 140 [ii xb.1, ii xb.2.1, sl Ab2 xb.2.2.1 Cb2, sl Ab3 xb.2.2.2.1 Cb3, sl Ab4 xb.2.2.2.2 Cb4]] [([0, 1, 2, 3, 4, 5, 6, 7, 8, 9, 10, 11, 12, 13, 14], 15)] [16, 17, 18, 19] [] mixO (by decide +kernel) ⟨1, rfl, 1, rfl, trivial⟩ rfl rfl rfl <| JM.cons <| qv _ (V.fad underlying140 rfl nz27 rfl) ?_
   refine qv (sl Ab4 xb.2.2.2.2 Cb4) (V.ld rfl (Ld.sc sc27 (Rd.cl 1 rfl rfl))) <| qv _ (V.fad underlying58 rfl nz3 rfl) <| qv (ii xa.2.1) (V.ld rfl (Ld.sc sc3 (Rd.cl 0 rfl rfl))) ?_
   obtain ⟨x103, hx104, h⟩ := ob h
   obtain ⟨p105, p106, p107⟩ := getI_some hx104
   obtain ⟨b108, o109, e110, a111⟩ := (Gb4).at p106
   refine qv _ (V.iad underlying27 sz55 rfl e110 rfl p105 p107) ?_
   obtain ⟨ad112, cp113, c114, f115⟩ := (((a111).snd).fst).sl
   obtain ⟨ad116, cp117, c118, f119⟩ := ((((a111).snd).snd).fst).sl
   obtain ⟨ad120, cp121, c122, f123⟩ := ((((((a111).snd).snd).snd).one).one).sl
   refine qv (.agg #[ii x103.1, sl ad112 x103.2.1 cp113, sl ad116 x103.2.2.1 cp117, sl ad120 x103.2.2.2 cp121]) (V.ld rfl (Ld.aggK (cs := [ii x103.1, sl ad112 x103.2.1 cp113, sl ad116 x103.2.2.1 cp117, sl ad120 x103.2.2.2 cp121]) underlying55 sz55 rfl ⟨((a111).fst).int, c114, c118, c122, trivial⟩ hpr)) <| qv _ (V.fad underlying58 rfl nz42 rfl) <| qv (sl Aa5 xa.2.2.2.2.2 Ca5) (V.ld rfl (Ld.sc sc42 (Rd.cl 0 rfl rfl))) <| qm (sl ad59 l57 cp60) rfl <| qv _ (V.fad underlying140 rfl nz23 rfl) <| qv (sl Ab2 xb.2.2.1 Cb2) (V.ld rfl (Ld.sc sc23 (Rd.cl 1 rfl rfl))) <| qv _ (V.fad underlying58 rfl nz3 rfl) ?_
   refine qv (ii xa.2.2.1) (V.ld rfl (Ld.sc sc3 (Rd.cl 0 rfl rfl))) ?_
   obtain ⟨x124, hx125, h⟩ := ob h
   obtain ⟨p126, p127, p128⟩ := getI_some hx125
   obtain ⟨b129, o130, e131, a132⟩ := (Gb2).at p127
   refine qv _ (V.iad underlying23 sz26 rfl e131 rfl p126 p128) ?_
   obtain ⟨ad133, cp134, c135, f136⟩ := ((a132).one).sl
   refine qv (.agg #[sl ad133 x124 cp134]) (V.ld rfl (Ld.aggK (cs := [sl ad133 x124 cp134]) underlying26 sz26 rfl ⟨c135, trivial⟩ hpr)) <| JQ.nil <| JA.persist hpr (by decide) fun K137 hK138 f139 => ?_
   obtain ⟨r140, hr141, h⟩ := ob h
   refine JA.op rfl (A.call (L1 := []) call131 rfl (sig_Call_ok (f115.mono hK138) (f119.mono hK138) (f123.mono hK138) (Ga5.mono hK138) f139 (f136.mono hK138) hr141) rfl rfl) ?_
   rintro _ _ _ ⟨v142, _, rfl, ⟨⟨l143, i144, ad145, cp146, rfl, rfl, rfl⟩, rfl⟩, _, rfl⟩
   refine ⟨fun w hs => Hold.sub hK138 ⟨1, rfl, 1, rfl, trivial⟩ hs, ?_⟩
   refine JM.wit Row.hn fun hn147 => JM.nil <| qv (sl ad145 l143 cp146) (V.ext rfl rfl) <| qv (ii i144) (V.ext rfl rfl) <| qa (sl ad145 l143 cp146) rfl <| qa (ii i144) rfl <| JQ.nil ?_
   refine J.nil <| CJ.ret ?_
   obtain rfl := si h
   exact ⟨_, _, Res.two rfl rfl rfl, ⟨l143, i144, ad145, cp146, rfl, rfl, rfl⟩, hK138, fun w hs => (Sep.dropAt 1 rfl (Sep.dropAt 1 rfl hs))⟩
 refine CJ.skip <| cr <| ja (nos) rfl <| ja (ii 0) rfl <| J.nil <| CJ.by (fun w hs => Sep.rowNil (e := 187) (t := Yq2) hs) ?_
 refine CJ.ret ?_
 obtain rfl := si h
 exact ⟨_, _, Res.two rfl rfl rfl, ⟨[], 0, none, 0, rfl, rfl, rfl⟩, hpr, fun w hs => (Sep.dropAt 1 rfl (Sep.dropAt 1 rfl hs))⟩

noncomputable def fn_term_Check (xa : Tq5) (xb : (Int × Int × (List Tq3) × Tq3 × (List Tq6))) : Option Int :=
  (fn_term_Needs (xa.1, xa.2.1, xa.2.2.1, xa.2.2.2.1, xa.2.2.2.2.1, xa.2.2.2.2.2) (xb.1, xb.2.1, xb.2.2.1, xb.2.2.2.1, xb.2.2.2.2)).bind fun (l19, i20) => some (i20)
theorem term_Check_ok {K : Hp} {xa : Tq5} {xb : (Int × Int × (List Tq3) × Tq3 × (List Tq6))} {Aa3 : Option Addr} {Ca3 : Nat} {Aa4 : Option Addr} {Ca4 : Nat} {Aa5 : Option Addr} {Ca5 : Nat} {Ab2 : Option Addr} {Cb2 : Nat} {Ab3 : Option Addr} {Cb3 : Nat} {Ab4 : Option Addr} {Cb4 : Nat} (Ga3 : Is K Yq7 [sl Aa3 xa.2.2.2.1 Ca3] xa.2.2.2.1) (Ga4 : Is K Yq7 [sl Aa4 xa.2.2.2.2.1 Ca4] xa.2.2.2.2.1) (Ga5 : Is K Yq7 [sl Aa5 xa.2.2.2.2.2 Ca5] xa.2.2.2.2.2) (Gb2 : Is K Yq8 [sl Ab2 xb.2.2.1 Cb2] xb.2.2.1) (Gb3 : Is K (.sl Yq1) [sl Ab3 xb.2.2.2.1 Cb3] xb.2.2.2.1) (Gb4 : Is K Yq4 [sl Ab4 xb.2.2.2.2 Cb4] xb.2.2.2.2) {r : Int} (h : fn_term_Check xa xb = some r) :
    Tr Tryz.prog 95 #[.agg #[ii xa.1, ii xa.2.1, ii xa.2.2.1, sl Aa3 xa.2.2.2.1 Ca3, sl Aa4 xa.2.2.2.2.1 Ca4, sl Aa5 xa.2.2.2.2.2 Ca5], .agg #[ii xb.1, ii xb.2.1, sl Ab2 xb.2.2.1 Cb2, sl Ab3 xb.2.2.2.1 Cb3, sl Ab4 xb.2.2.2.2 Cb4]] K [] (fun v K' L' => (∃ (i14 : Int), i14 = r ∧ ii i14 = v ∧ L' = []) ∧ K = K') := by
 refine Tr.k <| Tr.of func95 rfl ntmps95 rfl fun E F => ?_
 unfold fn_term_Check at h
 refine cr <| jbx [ii xa.1, ii xa.2.1, ii xa.2.2.1, sl Aa3 xa.2.2.2.1 Ca3, sl Aa4 xa.2.2.2.2.1 Ca4, sl Aa5 xa.2.2.2.2.2 Ca5] rfl rfl fun b15 => jbx [ii xb.1, ii xb.2.1, sl Ab2 xb.2.2.1 Cb2, sl Ab3 xb.2.2.2.1 Cb3, sl Ab4 xb.2.2.2.2 Cb4] rfl rfl fun b16 => ja (ii 0) rfl <| J.nil <| CJ.seq ?_
 refine CJ.region <| jv (.agg #[ii xa.1, ii xa.2.1, ii xa.2.2.1, sl Aa3 xa.2.2.2.1 Ca3, sl Aa4 xa.2.2.2.2.1 Ca4, sl Aa5 xa.2.2.2.2.2 Ca5]) (V.ld rfl (Ld.agg (cs := [ii xa.1, ii xa.2.1, ii xa.2.2.1, sl Aa3 xa.2.2.2.1 Ca3, sl Aa4 xa.2.2.2.2.1 Ca4, sl Aa5 xa.2.2.2.2.2 Ca5]) underlying58 sz58 rfl (Rd.cls 1 0 rfl rfl))) <| jv (.agg #[ii xb.1, ii xb.2.1, sl Ab2 xb.2.2.1 Cb2, sl Ab3 xb.2.2.2.1 Cb3, sl Ab4 xb.2.2.2.2 Cb4]) (V.ld rfl (Ld.agg (cs := [ii xb.1, ii xb.2.1, sl Ab2 xb.2.2.1 Cb2, sl Ab3 xb.2.2.2.1 Cb3, sl Ab4 xb.2.2.2.2 Cb4]) underlying140 sz140 rfl (Rd.cls 0 0 rfl rfl))) ?_
 obtain ⟨r17, hr18, h⟩ := ob h
 refine J.op rfl (A.call (L1 := []) call117 rfl (term_Needs_ok Ga3 Ga4 Ga5 Gb2 Gb3 Gb4 hr18) rfl rfl) ?_
 rintro _ _ _ ⟨v24, _, rfl, ⟨⟨l19, i20, ad21, cp22, rfl, rfl, rfl⟩, rfl⟩, _, rfl⟩
 refine J.wit Row.hn fun hn23 => jm (.tuple #[sl ad21 l19 cp22, ii i20]) rfl <| jx (sl ad21 l19 cp22) rfl rfl <| jx (ii i20) rfl rfl <| ja (sl ad21 l19 cp22) rfl <| ja (ii i20) rfl <| J.nil ?_
 refine cr <| jm (ii i20) rfl <| ja (ii i20) rfl <| J.nil <| CJ.ret ?_
 obtain rfl := si h
 exact ⟨_, _, Res.one rfl rfl, ⟨i20, rfl, rfl, rfl⟩, hpr, fun w hs => (Sep.dropAt 0 rfl (Sep.dropAt 0 rfl (Sep.dropAt 0 rfl hs)))⟩
noncomputable def fn_valid_code_az_l1 (xa : Tq1) (i1 : Int) (x2 : ((List Tq2) × Tq5)) : Int → Option (Int ⊕ (Unit ⊕ (Int ⊕ (Unit ⊕ Tq7)))) := fun (i3 : Int) => cond (decide (i3 < (((x2.1.length : Nat) : Int)))) ((getI x2.1 i3).bind fun x4 => (fn_tick_Counter_Add_zii 1 1).bind fun _ => (fn_stmt_Check (x4.1, x4.2.1, x4.2.2.1, x4.2.2.2.1, x4.2.2.2.2) xa.2.2.2.1 xa.2.1).bind fun i5 => cond (!decide (i5 = 0)) (some (.inr ((.inr (.inr ((.inr ((i5, 6, i1, i3))))))))) (some (.inl (IntKind.wrap .i64 (i3 + 1))))) (some (.inr ((.inl ()))))
noncomputable def fn_valid_code_az_l2 (xa : Tq1) : Int → Option (Int ⊕ (Unit ⊕ Tq7)) := fun (i1 : Int) => cond (decide (i1 < (((xa.2.2.2.2.2.2.length : Nat) : Int)))) ((getI xa.2.2.2.2.2.2 i1).bind fun x2 => (loop (fn_valid_code_az_l1 xa i1 x2) 0 : Option (Unit ⊕ (Int ⊕ (Unit ⊕ Tq7)))).bind fun o => match o with | .inr r => some r | .inl () => (fn_tick_Counter_Add_zii 1 1).bind fun _ => (fn_term_Check (x2.2.1, x2.2.2.1, x2.2.2.2.1, x2.2.2.2.2.1, x2.2.2.2.2.2.1, x2.2.2.2.2.2.2) ((((xa.2.2.2.2.2.2.length : Nat) : Int), xa.2.1, xa.2.2.2.1, xa.2.2.2.2.1, xa.2.2.2.2.2.1))).bind fun i3 => cond (!decide (i3 = 0)) (some (.inr ((.inr ((i3, 7, i1, 0)))))) (some (.inl (IntKind.wrap .i64 (i1 + 1))))) (some (.inr ((.inl ()))))
noncomputable def fn_valid_code_az (xa : Tq1) : Option Tq7 :=
  (loop (fn_valid_code_az_l2 xa) 0 : Option (Unit ⊕ Tq7)).bind fun o => match o with | .inr r => some r | .inl () => some ((0, 0, 0, 0))
theorem valid_code_az_ok {K : Hp} {xa : Tq1} {Aa2 : Option Addr} {Ca2 : Nat} {Aa3 : Option Addr} {Ca3 : Nat} {Aa4 : Option Addr} {Ca4 : Nat} {Aa5 : Option Addr} {Ca5 : Nat} {Aa6 : Option Addr} {Ca6 : Nat} (Ga2 : Is K (.sl Yq5) [sl Aa2 xa.2.2.1 Ca2] xa.2.2.1) (Ga3 : Is K Yq8 [sl Aa3 xa.2.2.2.1 Ca3] xa.2.2.2.1) (Ga4 : Is K (.sl Yq1) [sl Aa4 xa.2.2.2.2.1 Ca4] xa.2.2.2.2.1) (Ga5 : Is K Yq4 [sl Aa5 xa.2.2.2.2.2.1 Ca5] xa.2.2.2.2.2.1) (Ga6 : Is K (.sl Yq3) [sl Aa6 xa.2.2.2.2.2.2 Ca6] xa.2.2.2.2.2.2) {r : Tq7} (h : fn_valid_code_az xa = some r) :
    Tr Tryz.prog 71 #[.agg #[ii xa.1, ii xa.2.1, sl Aa2 xa.2.2.1 Ca2, sl Aa3 xa.2.2.2.1 Ca3, sl Aa4 xa.2.2.2.2.1 Ca4, sl Aa5 xa.2.2.2.2.2.1 Ca5, sl Aa6 xa.2.2.2.2.2.2 Ca6], .pointer none] K [] (fun v K' L' => (∃ (i10 : Int) (i11 : Int) (i13 : Int) (i14 : Int), (i10, i11, i13, i14) = r ∧ .agg #[ii i10, ii i11, ii i13, ii i14] = v ∧ L' = []) ∧ K = K') := by
 refine Tr.k <| Tr.of func71 rfl ntmps71 rfl fun E F => ?_
 unfold fn_valid_code_az at h
 refine cr <| jbx [ii xa.1, ii xa.2.1, sl Aa2 xa.2.2.1 Ca2, sl Aa3 xa.2.2.2.1 Ca3, sl Aa4 xa.2.2.2.2.1 Ca4, sl Aa5 xa.2.2.2.2.2.1 Ca5, sl Aa6 xa.2.2.2.2.2.2 Ca6] rfl rfl fun b15 => jal inf105 [ii 0, ii 0, ii 0, ii 0] rfl fun b17 => J.nil <| CJ.seq <| CJ.region ?_
 refine jv _ (V.fad underlying30 rfl nz28 rfl) <| jv (sl Aa6 xa.2.2.2.2.2.2 Ca6) (V.ld rfl (Ld.sc sc28 (Rd.cl 1 rfl rfl))) <| jv (ii (((xa.2.2.2.2.2.2.length : Nat) : Int))) (V.len underlying28 rfl) <| jv _ (V.fad underlying30 rfl nz3 rfl) <| jv (ii xa.2.1) (V.ld rfl (Ld.sc sc3 (Rd.cl 1 rfl rfl))) <| jv _ (V.fad underlying30 rfl nz23 rfl) <| jv (sl Aa3 xa.2.2.2.1 Ca3) (V.ld rfl (Ld.sc sc23 (Rd.cl 1 rfl rfl))) ?_
 refine jv _ (V.fad underlying30 rfl nz26 rfl) <| jv (.agg #[sl Aa4 xa.2.2.2.2.1 Ca4]) (V.ld rfl (Ld.agg (cs := [sl Aa4 xa.2.2.2.2.1 Ca4]) underlying26 sz26 rfl (Rd.cls 1 4 rfl rfl))) <| jv _ (V.fad underlying30 rfl nz27 rfl) <| jv (sl Aa5 xa.2.2.2.2.2.1 Ca5) (V.ld rfl (Ld.sc sc27 (Rd.cl 1 rfl rfl))) <| jv (.agg #[ii (((xa.2.2.2.2.2.2.length : Nat) : Int)), ii xa.2.1, sl Aa3 xa.2.2.2.1 Ca3, sl Aa4 xa.2.2.2.2.1 Ca4, sl Aa5 xa.2.2.2.2.2.1 Ca5]) (V.build inf140 places140 rfl rfl) <| jal inf140 [ii 0, ii 0, nos, nos, nos] rfl fun b18 => js [ii (((xa.2.2.2.2.2.2.length : Nat) : Int)), ii xa.2.1, sl Aa3 xa.2.2.2.1 Ca3, sl Aa4 xa.2.2.2.2.1 Ca4, sl Aa5 xa.2.2.2.2.2.1 Ca5] sz140 rfl rfl rfl rfl rfl rfl ?_
 refine J.nil <| CJ.seq <| cr <| jv _ (V.fad underlying30 rfl nz28 rfl) <| jv (sl Aa6 xa.2.2.2.2.2.2 Ca6) (V.ld rfl (Ld.sc sc28 (Rd.cl 2 rfl rfl))) <| jv (ii (((xa.2.2.2.2.2.2.length : Nat) : Int))) (V.len underlying28 rfl) ?_
 refine jm (ii 0) rfl <| J.nil ?_
 obtain ⟨o19, ho20, h⟩ := ob h
 refine CJ.joinN (o := o19) (fun s ρ K' L' => () = s ∧ Fits [(4, pt b17)] ρ ∧ K = K' ∧ L' = Cl b17 105 [ii 0, ii 0, ii 0, ii 0] :: F) ?_ ?_
 · refine CJ.block <| CJ.front 1 rfl <| CJ.front 2 rfl <| CJ.loop (fun s ρ K' L' => ∃ (i21 : Int), i21 = s ∧ Fits [(1, .pointer none), (2, pt b15), (4, pt b17), (5, pt b18), (25, sl Aa6 xa.2.2.2.2.2.2 Ca6), (26, ii (((xa.2.2.2.2.2.2.length : Nat) : Int))), (27, ii i21)] ρ ∧ K = K' ∧ L' = Cl b15 30 [ii xa.1, ii xa.2.1, sl Aa2 xa.2.2.1 Ca2, sl Aa3 xa.2.2.2.1 Ca3, sl Aa4 xa.2.2.2.2.1 Ca4, sl Aa5 xa.2.2.2.2.2.1 Ca5, sl Aa6 xa.2.2.2.2.2.2 Ca6] :: Cl b17 105 [ii 0, ii 0, ii 0, ii 0] :: Cl b18 140 [ii (((xa.2.2.2.2.2.2.length : Nat) : Int)), ii xa.2.1, sl Aa3 xa.2.2.2.1 Ca3, sl Aa4 xa.2.2.2.2.1 Ca4, sl Aa5 xa.2.2.2.2.2.1 Ca5] :: F) ho20 ⟨0, rfl, rt7, rfl, rfl⟩ ?_
   rintro s ρ _ _ r22 ⟨i21, rfl, hf24, rfl, rfl⟩ h25
   obtain ⟨ρ, rfl⟩ := hf24.ex
   refine cr <| jv (.bool (decide (i21 < (((xa.2.2.2.2.2.2.length : Nat) : Int))))) (V.lss rfl rfl) <| J.nil <| CJ.seq <| cc rfl h25 (fun hc29 h25 => ?_) fun hc29 h25 => ?_
   · refine CJ.skip <| CJ.seq <| CJ.block <| cr <| jm (ii i21) rfl ?_
     obtain ⟨x31, hx33, h25⟩ := ob h25
     obtain ⟨p34, p35, p36⟩ := getI_some hx33
     obtain ⟨b37, o38, e39, a40⟩ := (Ga6).at p35
     refine jv _ (V.iad underlying28 sz60 rfl e39 rfl p34 p36) ?_
     obtain ⟨ad41, cp42, c43, f44⟩ := ((a40).fst).sl
     obtain ⟨ad45, cp46, c47, f48⟩ := (((((((a40).snd).one).snd).snd).snd).fst).sl
     obtain ⟨ad49, cp50, c51, f52⟩ := ((((((((a40).snd).one).snd).snd).snd).snd).fst).sl
     obtain ⟨ad53, cp54, c55, f57⟩ := (((((((((a40).snd).one).snd).snd).snd).snd).snd).one).sl
     refine jv (.agg #[sl ad41 x31.1 cp42, ii x31.2.1, ii x31.2.2.1, ii x31.2.2.2.1, sl ad45 x31.2.2.2.2.1 cp46, sl ad49 x31.2.2.2.2.2.1 cp50, sl ad53 x31.2.2.2.2.2.2 cp54]) (V.ld rfl (Ld.aggK (cs := [sl ad41 x31.1 cp42, ii x31.2.1, ii x31.2.2.1, ii x31.2.2.2.1, sl ad45 x31.2.2.2.2.1 cp46, sl ad49 x31.2.2.2.2.2.1 cp50, sl ad53 x31.2.2.2.2.2.2 cp54]) underlying60 sz60 rfl ⟨c43, ((((a40).snd).one).fst).int, (((((a40).snd).one).snd).fst).int, ((((((a40).snd).one).snd).snd).fst).int, c47, c51, c55, trivial⟩ hpr)) <| jal inf60 [nos, ii 0, ii 0, ii 0, nos, nos, nos] rfl fun b59 => ja (ii i21) rfl <| js [sl ad41 x31.1 cp42, ii x31.2.1, ii x31.2.2.1, ii x31.2.2.2.1, sl ad45 x31.2.2.2.2.1 cp46, sl ad49 x31.2.2.2.2.2.1 cp50, sl ad53 x31.2.2.2.2.2.2 cp54] sz60 rfl rfl rfl rfl rfl rfl <| J.nil <| CJ.seq <| CJ.seq ?_
     refine CJ.region <| jv _ (V.fad underlying60 rfl nz56 rfl) <| jv (sl ad41 x31.1 cp42) (V.ld rfl (Ld.sc sc56 (Rd.cl 0 rfl rfl))) <| jv (ii (((x31.1.length : Nat) : Int))) (V.len underlying56 rfl) <| jm (ii 0) rfl <| J.nil ?_
     obtain ⟨o61, ho63, h25⟩ := ob h25
     refine CJ.joinN (o := o61) (fun s ρ K' L' => () = s ∧ Fits [(1, .pointer none), (2, pt b15), (4, pt b17), (5, pt b18), (6, ii i21), (7, pt b59), (25, sl Aa6 xa.2.2.2.2.2.2 Ca6), (26, ii (((xa.2.2.2.2.2.2.length : Nat) : Int))), (27, ii i21)] ρ ∧ K = K' ∧ L' = Cl b15 30 [ii xa.1, ii xa.2.1, sl Aa2 xa.2.2.1 Ca2, sl Aa3 xa.2.2.2.1 Ca3, sl Aa4 xa.2.2.2.2.1 Ca4, sl Aa5 xa.2.2.2.2.2.1 Ca5, sl Aa6 xa.2.2.2.2.2.2 Ca6] :: Cl b17 105 [ii 0, ii 0, ii 0, ii 0] :: Cl b18 140 [ii (((xa.2.2.2.2.2.2.length : Nat) : Int)), ii xa.2.1, sl Aa3 xa.2.2.2.1 Ca3, sl Aa4 xa.2.2.2.2.1 Ca4, sl Aa5 xa.2.2.2.2.2.1 Ca5] :: Cl b59 60 [sl ad41 x31.1 cp42, ii x31.2.1, ii x31.2.2.1, ii x31.2.2.2.1, sl ad45 x31.2.2.2.2.1 cp46, sl ad49 x31.2.2.2.2.2.1 cp50, sl ad53 x31.2.2.2.2.2.2 cp54] :: F) ?_ ?_
     · refine CJ.block <| CJ.front 3 rfl <| CJ.front 3 rfl <| CJ.front 3 rfl <| CJ.loop (fun s ρ K' L' => ∃ (i65 : Int), i65 = s ∧ Fits [(1, .pointer none), (2, pt b15), (4, pt b17), (5, pt b18), (6, ii i21), (7, pt b59), (25, sl Aa6 xa.2.2.2.2.2.2 Ca6), (26, ii (((xa.2.2.2.2.2.2.length : Nat) : Int))), (27, ii i21), (33, sl ad41 x31.1 cp42), (34, ii (((x31.1.length : Nat) : Int))), (35, ii i65)] ρ ∧ K = K' ∧ L' = Cl b15 30 [ii xa.1, ii xa.2.1, sl Aa2 xa.2.2.1 Ca2, sl Aa3 xa.2.2.2.1 Ca3, sl Aa4 xa.2.2.2.2.1 Ca4, sl Aa5 xa.2.2.2.2.2.1 Ca5, sl Aa6 xa.2.2.2.2.2.2 Ca6] :: Cl b17 105 [ii 0, ii 0, ii 0, ii 0] :: Cl b18 140 [ii (((xa.2.2.2.2.2.2.length : Nat) : Int)), ii xa.2.1, sl Aa3 xa.2.2.2.1 Ca3, sl Aa4 xa.2.2.2.2.1 Ca4, sl Aa5 xa.2.2.2.2.2.1 Ca5] :: Cl b59 60 [sl ad41 x31.1 cp42, ii x31.2.1, ii x31.2.2.1, ii x31.2.2.2.1, sl ad45 x31.2.2.2.2.1 cp46, sl ad49 x31.2.2.2.2.2.1 cp50, sl ad53 x31.2.2.2.2.2.2 cp54] :: F) ho63 ⟨0, rfl, rt12, rfl, rfl⟩ ?_
       rintro s ρ _ _ r66 ⟨i65, rfl, hf67, rfl, rfl⟩ h68
       obtain ⟨ρ, rfl⟩ := hf67.ex
       refine cr <| jv (.bool (decide (i65 < (((x31.1.length : Nat) : Int))))) (V.lss rfl rfl) <| J.nil <| CJ.seq <| cc rfl h68 (fun hc69 h68 => ?_) fun hc69 h68 => ?_
       · refine CJ.skip <| CJ.seq <| CJ.block <| cr <| jm (ii i65) rfl ?_
         obtain ⟨x70, hx72, h68⟩ := ob h68
         obtain ⟨p73, p74, p75⟩ := getI_some hx72
         obtain ⟨b76, o77, e78, a79⟩ := (f44).at p74
         refine jv _ (V.iad underlying56 sz62 rfl e78 rfl p73 p75) <| jv (.agg #[ii x70.1, ii x70.2.1, ii x70.2.2.1, ii x70.2.2.2.1, .bool x70.2.2.2.2]) (V.ld rfl (Ld.aggK (cs := [ii x70.1, ii x70.2.1, ii x70.2.2.1, ii x70.2.2.2.1, .bool x70.2.2.2.2]) underlying62 sz62 rfl ⟨((a79).fst).int, (((a79).snd).fst).int, ((((a79).snd).snd).fst).int, (((((a79).snd).snd).snd).fst).int, ((((((a79).snd).snd).snd).snd).one).bool, trivial⟩ hpr)) <| jal inf62 [ii 0, ii 0, ii 0, ii 0, .bool false] rfl fun b80 => ja (ii i65) rfl <| js [ii x70.1, ii x70.2.1, ii x70.2.2.1, ii x70.2.2.2.1, .bool x70.2.2.2.2] sz62 rfl rfl rfl rfl rfl rfl <| J.nil <| CJ.seq ?_
         refine CJ.region <| jm (.pointer none) rfl ?_
         obtain ⟨r81, hr82, h68⟩ := ob h68
         refine J.op rfl (A.call (L1 := []) call64 rfl (tick_Counter_Add_zii_ok hr82) rfl rfl) ?_
         rintro _ _ _ ⟨v83, _, rfl, ⟨⟨rfl, rfl, rfl⟩, rfl⟩, _, rfl⟩
         refine J.nil <| cr <| jv (.agg #[ii x70.1, ii x70.2.1, ii x70.2.2.1, ii x70.2.2.2.1, .bool x70.2.2.2.2]) (V.ld rfl (Ld.agg (cs := [ii x70.1, ii x70.2.1, ii x70.2.2.1, ii x70.2.2.2.1, .bool x70.2.2.2.2]) underlying62 sz62 rfl (Rd.cls 0 0 rfl rfl))) <| jv _ (V.fad underlying30 rfl nz23 rfl) <| jv (sl Aa3 xa.2.2.2.1 Ca3) (V.ld rfl (Ld.sc sc23 (Rd.cl 1 rfl rfl))) <| jv _ (V.fad underlying30 rfl nz3 rfl) ?_
         refine jv (ii xa.2.1) (V.ld rfl (Ld.sc sc3 (Rd.cl 1 rfl rfl))) ?_
         obtain ⟨r84, hr85, h68⟩ := ob h68
         refine J.op rfl (A.call (L1 := []) call94 rfl (stmt_Check_ok Ga3 hr85) rfl rfl) ?_
         rintro _ _ _ ⟨v86, _, rfl, ⟨⟨i87, rfl, rfl, rfl⟩, rfl⟩, _, rfl⟩
         refine ja (ii i87) rfl <| J.nil <| cr <| jm (ii i87) rfl <| jv (.bool (!decide (i87 = 0))) (V.neq rfl rfl) <| J.nil ?_
         refine cc rfl h68 (fun hc88 h68 => ?_) fun hc88 h68 => ?_
         · refine cr <| jm (ii i87) rfl <| jm (ii i21) rfl <| jm (ii i65) rfl <| jv (.agg #[ii i87, ii 6, ii i21, ii i65]) (V.build inf105 places105 rfl rfl) <| J.front 2 rfl ?_
           refine js [ii i87, ii 6, ii i21, ii i65] sz105 rfl rfl rfl rfl rfl rfl <| J.nil <| CJ.ret ?_
           obtain rfl := si h68
           refine ⟨nofun, fun e => ?_⟩
           subst e
           refine .inr ⟨nofun, ?_⟩
           obtain rfl := si h25
           refine ⟨nofun, fun e => ?_⟩
           subst e
           refine .inr ⟨nofun, ?_⟩
           obtain rfl := si h
           exact ⟨_, _, Res.one rfl ⟨_, _, rfl, Ld.agg (cs := [ii i87, ii 6, ii i21, ii i65]) underlying105 sz105 rfl (Rd.cls 0 0 rfl rfl)⟩, ⟨i87, 6, i21, i65, rfl, rfl, rfl⟩, hpr, fun w hs => (Sep.dropAt 0 rfl (Sep.dropAt 0 rfl (Sep.dropAt 0 rfl (Sep.dropAt 0 rfl (Sep.dropAt 0 rfl hs)))))⟩
         refine CJ.skip <| CJ.region <| jv (ii (IntKind.wrap .i64 (i65 + 1))) (V.add rfl rfl) <| jm (ii (IntKind.wrap .i64 (i65 + 1))) rfl <| J.dropAt 0 rfl <| J.nil ?_
         obtain rfl := si h68
         exact ⟨rfl, ⟨IntKind.wrap .i64 (i65 + 1), rfl, rt12, rfl, rfl⟩⟩
       refine CJ.exit ?_
       obtain rfl := si h68
       refine ⟨nofun, fun e => ?_⟩
       subst e
       exact .inl ⟨rfl, _, rfl, ⟨rfl, rt9, rfl, rfl⟩⟩
     rintro s ρ _ _ ho89 ⟨rfl, hf90, rfl, rfl⟩
     subst ho89
     obtain ⟨ρ, rfl⟩ := hf90.ex
     refine PJ.done <| cr <| jm (.pointer none) rfl ?_
     obtain ⟨r91, hr92, h25⟩ := ob h25
     refine J.op rfl (A.call (L1 := []) call64 rfl (tick_Counter_Add_zii_ok hr92) rfl rfl) ?_
     rintro _ _ _ ⟨v93, _, rfl, ⟨⟨rfl, rfl, rfl⟩, rfl⟩, _, rfl⟩
     refine J.nil <| cr <| jv _ (V.fad underlying60 rfl nz58 rfl) <| jv (.agg #[ii x31.2.1, ii x31.2.2.1, ii x31.2.2.2.1, sl ad45 x31.2.2.2.2.1 cp46, sl ad49 x31.2.2.2.2.2.1 cp50, sl ad53 x31.2.2.2.2.2.2 cp54]) (V.ld rfl (Ld.agg (cs := [ii x31.2.1, ii x31.2.2.1, ii x31.2.2.2.1, sl ad45 x31.2.2.2.2.1 cp46, sl ad49 x31.2.2.2.2.2.1 cp50, sl ad53 x31.2.2.2.2.2.2 cp54]) underlying58 sz58 rfl (Rd.cls 3 1 rfl rfl))) <| jv (.agg #[ii (((xa.2.2.2.2.2.2.length : Nat) : Int)), ii xa.2.1, sl Aa3 xa.2.2.2.1 Ca3, sl Aa4 xa.2.2.2.2.1 Ca4, sl Aa5 xa.2.2.2.2.2.1 Ca5]) (V.ld rfl (Ld.agg (cs := [ii (((xa.2.2.2.2.2.2.length : Nat) : Int)), ii xa.2.1, sl Aa3 xa.2.2.2.1 Ca3, sl Aa4 xa.2.2.2.2.1 Ca4, sl Aa5 xa.2.2.2.2.2.1 Ca5]) underlying140 sz140 rfl (Rd.cls 2 0 rfl rfl))) ?_
     obtain ⟨r96, hr97, h25⟩ := ob h25
     refine J.op rfl (A.call (L1 := []) call95 rfl (term_Check_ok f48 f52 f57 Ga3 Ga4 Ga5 hr97) rfl rfl) ?_
     rintro _ _ _ ⟨v98, _, rfl, ⟨⟨i99, rfl, rfl, rfl⟩, rfl⟩, _, rfl⟩
     refine ja (ii i99) rfl <| J.nil <| cr <| jm (ii i99) rfl <| jv (.bool (!decide (i99 = 0))) (V.neq rfl rfl) <| J.nil ?_
     refine cc rfl h25 (fun hc100 h25 => ?_) fun hc100 h25 => ?_
     · refine cr <| jm (ii i99) rfl <| jm (ii i21) rfl <| jv (.agg #[ii i99, ii 7, ii i21, ii 0]) (V.build inf105 places105 rfl rfl) <| J.front 1 rfl <| js [ii i99, ii 7, ii i21, ii 0] sz105 rfl rfl rfl rfl rfl rfl ?_
       refine J.nil <| CJ.ret ?_
       obtain rfl := si h25
       refine ⟨nofun, fun e => ?_⟩
       subst e
       refine .inr ⟨nofun, ?_⟩
       obtain rfl := si h
       exact ⟨_, _, Res.one rfl ⟨_, _, rfl, Ld.agg (cs := [ii i99, ii 7, ii i21, ii 0]) underlying105 sz105 rfl (Rd.cls 0 0 rfl rfl)⟩, ⟨i99, 7, i21, 0, rfl, rfl, rfl⟩, hpr, fun w hs => (Sep.dropAt 0 rfl (Sep.dropAt 0 rfl (Sep.dropAt 0 rfl (Sep.dropAt 0 rfl hs))))⟩
     refine CJ.skip <| CJ.region <| jv (ii (IntKind.wrap .i64 (i21 + 1))) (V.add rfl rfl) <| jm (ii (IntKind.wrap .i64 (i21 + 1))) rfl <| J.dropAt 3 rfl <| J.nil ?_
     obtain rfl := si h25
     exact ⟨rfl, ⟨IntKind.wrap .i64 (i21 + 1), rfl, rt7, rfl, rfl⟩⟩
   refine CJ.dropAt 0 rfl <| CJ.dropAt 1 rfl <| CJ.exit ?_
   obtain rfl := si h25
   refine ⟨nofun, fun e => ?_⟩
   subst e
   exact .inl ⟨rfl, _, rfl, ⟨rfl, rt1, rfl, rfl⟩⟩
 rintro s ρ _ _ ho101 ⟨rfl, hf102, rfl, rfl⟩
 subst ho101
 obtain ⟨ρ, rfl⟩ := hf102.ex
 refine PJ.done <| cr <| jv (.agg #[ii 0, ii 0, ii 0, ii 0]) (V.build inf105 places105 rfl rfl) <| js [ii 0, ii 0, ii 0, ii 0] sz105 rfl rfl rfl rfl rfl rfl <| J.nil <| CJ.ret ?_
 obtain rfl := si h
 exact ⟨_, _, Res.one rfl ⟨_, _, rfl, Ld.agg (cs := [ii 0, ii 0, ii 0, ii 0]) underlying105 sz105 rfl (Rd.cls 0 0 rfl rfl)⟩, ⟨0, 0, 0, 0, rfl, rfl, rfl⟩, hpr, fun w hs => (Sep.dropAt 0 rfl hs)⟩
end Go.Proofs.YtbennpandomacaaGreat
