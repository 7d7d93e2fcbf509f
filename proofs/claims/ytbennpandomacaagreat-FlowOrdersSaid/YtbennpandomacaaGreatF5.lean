/- What Go functions answer: generated. -/
import Derived.Test.YtbennpandomacaaGreatF4
namespace Go.Proofs.YtbennpandomacaaGreat
open Go.RowKit _root_.Go.Proofs.Tryz
set_option linter.unusedVariables false
set_option linter.unnecessarySimpa false
set_option linter.unusedSimpArgs false
set_option maxRecDepth 100000
set_option maxHeartbeats 4000000

noncomputable def fn_ref18_Needs (xa : Tq2) (xb : (List Tq3)) (xc : Int) : Option (Tq10) :=
  (fn_ref18_Form (xa.1, xa.2.1, xa.2.2.1, xa.2.2.2.1, xa.2.2.2.2)).bind fun t1 => cond (!t1) (some (([], 3))) ((fn_ref18_Dst xa.1).bind fun t2 => (cond (t2 && ((decide (xa.2.1 < 0)) || (decide ((((xb.length : Nat) : Int)) ≤ xa.2.1)))) (some (true)) ((fn_ref18_Src xa.1).bind fun t3 => some (t3 && ((decide (xa.2.2.1 < 0)) || (decide ((((xb.length : Nat) : Int)) ≤ xa.2.2.1)))))).bind fun t4 => (cond (t4) (some (true)) ((fn_ref18_Region xa.1).bind fun t5 => some (t5 && ((decide (xa.2.2.2.1 < 0)) || (decide (xc ≤ xa.2.2.2.1)))))).bind fun t6 => cond (t6) (some (([], 7))) (cond (decide (xa.1 = 1)) ((getI xb xa.2.2.1).bind fun x7 => (getI xb xa.2.1).bind fun x9 => (fn_ref16_Flow x7 x9 1 0).bind fun (l10, i11) => some ((l10, i11))) (cond (decide (xa.1 = 2)) ((getI xb xa.2.2.1).bind fun x12 => (getI xb xa.2.1).bind fun x13 => (fn_ref16_Loan x12 x13 xa.2.2.2.1 xa.2.2.2.2).bind fun (l14, i15) => some ((l14, i15))) (cond (decide (xa.1 = 3)) ((getI xb xa.2.2.1).bind fun x17 => (getI xb xa.2.1).bind fun x18 => (fn_ref16_Again x17 x18 xa.2.2.2.1 xa.2.2.2.2).bind fun (l19, i20) => some ((l19, i20))) (some (([], 0)))))))
theorem ref18_Needs_ok {K : Hp} {xa : Tq2} {xb : (List Tq3)} {xc : Int} {Ab0 : Option Addr} {Cb0 : Nat} (Gb0 : Is K Yq8 [sl Ab0 xb Cb0] xb) {r : Tq10} (h : fn_ref18_Needs xa xb xc = some r) :
    Tr Tryz.prog 86 #[.agg #[ii xa.1, ii xa.2.1, ii xa.2.2.1, ii xa.2.2.2.1, .bool xa.2.2.2.2], sl Ab0 xb Cb0, ii xc] K [] (fun v K' L' => (∃ (l2 : (List Tq2)) (i5 : Int) (ad6 : Option Addr) (cp7 : Nat), (l2, i5) = r ∧ .tuple #[sl ad6 l2 cp7, ii i5] = v ∧ L' = [Row Hp.nil 169 Yq2 (sl ad6 l2 cp7) l2]) ∧ K = K') := by
 refine Tr.k <| Tr.of func86 rfl ntmps86 rfl fun E F => ?_
 unfold fn_ref18_Needs at h
 refine cr <| jbx [ii xa.1, ii xa.2.1, ii xa.2.2.1, ii xa.2.2.2.1, .bool xa.2.2.2.2] rfl rfl fun b9 => ja (nos) rfl <| ja (ii 0) rfl <| J.nil <| CJ.seq ?_
 refine cr <| jv (.agg #[ii xa.1, ii xa.2.1, ii xa.2.2.1, ii xa.2.2.2.1, .bool xa.2.2.2.2]) (V.ld rfl (Ld.agg (cs := [ii xa.1, ii xa.2.1, ii xa.2.2.1, ii xa.2.2.2.1, .bool xa.2.2.2.2]) underlying62 sz62 rfl (Rd.cls 0 0 rfl rfl))) ?_
 obtain ⟨r10, hr11, h⟩ := ob h
 refine J.op rfl (A.call (L1 := []) call102 rfl (ref18_Form_ok hr11) rfl rfl) ?_
 rintro _ _ _ ⟨v12, _, rfl, ⟨⟨t13, rfl, rfl, rfl⟩, rfl⟩, _, rfl⟩
 refine jv (.bool (!t13)) (V.not rfl) <| J.nil <| cc rfl h (fun hc14 h => ?_) fun hc14 h => ?_
 · refine cr <| ja (nos) rfl <| ja (ii 3) rfl <| J.nil <| CJ.by (fun w hs => Sep.rowNil (e := 169) (t := Yq2) hs) <| CJ.ret ?_
   obtain rfl := si h
   exact ⟨_, _, Res.two rfl rfl rfl, ⟨[], 3, none, 0, rfl, rfl, rfl⟩, hpr, fun w hs => (Sep.dropAt 1 rfl hs)⟩
 refine CJ.skip <| CJ.seq <| cr <| jv _ (V.fad underlying62 rfl nz3 rfl) <| jv (ii xa.1) (V.ld rfl (Ld.sc sc3 (Rd.cl 0 rfl rfl))) ?_
 obtain ⟨r15, hr17, h⟩ := ob h
 refine J.op rfl (A.call (L1 := []) call103 rfl (ref18_Dst_ok hr17) rfl rfl) ?_
 rintro _ _ _ ⟨v18, _, rfl, ⟨⟨t19, rfl, rfl, rfl⟩, rfl⟩, _, rfl⟩
 refine jm (.bool t19) rfl <| J.cut 11 <| jmeet [(25, .bool (t19 && ((decide (xa.2.1 < 0)) || (decide ((((xb.length : Nat) : Int)) ≤ xa.2.1))))), (1, sl Ab0 xb Cb0), (2, ii xc), (3, pt b9)] ?_ ?_
 · rcases bt (t19) with hc20 | hc20
   · refine J.run rfl rfl rfl hc20 <| jv _ (V.fad underlying62 rfl nz3 rfl) <| J.run rfl rfl rfl hc20 <| jv (ii xa.2.1) (V.ld rfl (Ld.sc sc3 (Rd.cl 0 rfl rfl))) <| J.run rfl rfl rfl hc20 <| jv (.bool (decide (xa.2.1 < 0))) (V.lss rfl rfl) <| J.run rfl rfl rfl hc20 ?_
     refine jm (.bool (decide (xa.2.1 < 0))) rfl <| J.cut 6 <| jmeet [(24, .bool ((decide (xa.2.1 < 0)) || (decide ((((xb.length : Nat) : Int)) ≤ xa.2.1)))), (1, sl Ab0 xb Cb0), (2, ii xc), (3, pt b9), (14, .bool t19)] ?_ ?_
     · rcases bt (decide (xa.2.1 < 0)) with hc21 | hc21
       · refine J.skip rfl rfl rfl rfl hc21 <| J.skip rfl rfl rfl rfl hc21 <| J.skip rfl rfl rfl rfl hc21 <| J.skip rfl rfl rfl rfl hc21 <| J.skip rfl rfl rfl rfl hc21 <| J.run rfl rfl rfl hc20 <| jv (.bool true) (V.pickT rfl hc21 rfl) ?_
         refine J.nil ?_
         exact ⟨rfl, ⟨(by simp only [hc21]; rfl), rfl, rfl, rfl, rfl, trivial⟩, rfl, rfl⟩
       refine J.run rfl rfl rfl hc21 <| jv _ (V.fad underlying62 rfl nz3 rfl) <| J.run rfl rfl rfl hc21 <| jv (ii xa.2.1) (V.ld rfl (Ld.sc sc3 (Rd.cl 0 rfl rfl))) <| J.run rfl rfl rfl hc21 <| jm (sl Ab0 xb Cb0) rfl <| J.run rfl rfl rfl hc21 ?_
       refine jv (ii (((xb.length : Nat) : Int))) (V.len underlying23 rfl) <| J.run rfl rfl rfl hc21 <| jv (.bool (decide ((((xb.length : Nat) : Int)) ≤ xa.2.1))) (V.geq rfl rfl) <| J.run rfl rfl rfl hc20 <| jv (.bool (decide ((((xb.length : Nat) : Int)) ≤ xa.2.1))) (V.pickF rfl hc21 rfl) <| J.nil ?_
       exact ⟨rfl, ⟨(by simp only [hc21]; rfl), rfl, rfl, rfl, rfl, trivial⟩, rfl, rfl⟩
     intro ρ
     refine jv (.bool ((decide (xa.2.1 < 0)) || (decide ((((xb.length : Nat) : Int)) ≤ xa.2.1)))) (V.pickT rfl hc20 rfl) <| J.nil ?_
     exact ⟨rfl, ⟨(by simp only [hc20]; rfl), rfl, rfl, rfl, trivial⟩, rfl, rfl⟩
   refine J.skip rfl rfl rfl rfl hc20 <| J.skip rfl rfl rfl rfl hc20 <| J.skip rfl rfl rfl rfl hc20 <| J.skip rfl rfl rfl rfl hc20 <| J.skipu rfl rfl rfl rfl <| J.skipu rfl rfl rfl rfl <| J.skipu rfl rfl rfl rfl ?_
   refine J.skipu rfl rfl rfl rfl <| J.skipu rfl rfl rfl rfl <| J.skip rfl rfl rfl rfl hc20 <| jv (.bool false) (V.pickF rfl hc20 rfl) <| J.nil ?_
   exact ⟨rfl, ⟨(by simp only [hc20]; rfl), rfl, rfl, rfl, trivial⟩, rfl, rfl⟩
 intro ρ
 refine jm (.bool (t19 && ((decide (xa.2.1 < 0)) || (decide ((((xb.length : Nat) : Int)) ≤ xa.2.1))))) rfl <| J.cut 16 ?_
 obtain ⟨t22, ht24, h⟩ := ob h
 refine jmeet [(42, .bool t22), (1, sl Ab0 xb Cb0), (2, ii xc), (3, pt b9)] ?_ ?_
 · rcases bt (t19 && ((decide (xa.2.1 < 0)) || (decide ((((xb.length : Nat) : Int)) ≤ xa.2.1)))) with hc25 | hc25
   · have ht24 := ct hc25 ht24
     refine J.skip rfl rfl rfl rfl hc25 <| J.skip rfl rfl rfl rfl hc25 <| J.skip rfl rfl rfl rfl hc25 <| J.skip rfl rfl rfl rfl hc25 <| J.skipu rfl rfl rfl rfl <| J.skipu rfl rfl rfl rfl <| J.skipu rfl rfl rfl rfl ?_
     refine J.skipu rfl rfl rfl rfl <| J.skipu rfl rfl rfl rfl <| J.skipu rfl rfl rfl rfl <| J.skipu rfl rfl rfl rfl <| J.skipu rfl rfl rfl rfl <| J.skipu rfl rfl rfl rfl <| J.skipu rfl rfl rfl rfl ?_
     refine J.skip rfl rfl rfl rfl hc25 <| jv (.bool true) (V.pickT rfl hc25 rfl) <| J.nil ?_
     obtain rfl := si ht24
     exact ⟨rfl, rt4, rfl, rfl⟩
   have ht24 := cf hc25 ht24
   refine J.run rfl rfl rfl hc25 <| jv _ (V.fad underlying62 rfl nz3 rfl) <| J.run rfl rfl rfl hc25 <| jv (ii xa.1) (V.ld rfl (Ld.sc sc3 (Rd.cl 0 rfl rfl))) <| J.run rfl rfl rfl hc25 ?_
   obtain ⟨r27, hr28, ht24⟩ := ob ht24
   refine J.op rfl (A.call (L1 := []) call104 rfl (ref18_Src_ok hr28) rfl rfl) ?_
   rintro _ _ _ ⟨v29, _, rfl, ⟨⟨t30, rfl, rfl, rfl⟩, rfl⟩, _, rfl⟩
   refine J.run rfl rfl rfl hc25 <| jm (.bool t30) rfl <| J.cut 11 <| jmeet [(41, .bool (t30 && ((decide (xa.2.2.1 < 0)) || (decide ((((xb.length : Nat) : Int)) ≤ xa.2.2.1))))), (1, sl Ab0 xb Cb0), (2, ii xc), (3, pt b9), (26, .bool (t19 && ((decide (xa.2.1 < 0)) || (decide ((((xb.length : Nat) : Int)) ≤ xa.2.1)))))] ?_ ?_
   · rcases bt (t30) with hc31 | hc31
     · refine J.run rfl rfl rfl hc31 <| jv _ (V.fad underlying62 rfl nz3 rfl) <| J.run rfl rfl rfl hc31 <| jv (ii xa.2.2.1) (V.ld rfl (Ld.sc sc3 (Rd.cl 0 rfl rfl))) <| J.run rfl rfl rfl hc31 <| jv (.bool (decide (xa.2.2.1 < 0))) (V.lss rfl rfl) <| J.run rfl rfl rfl hc31 ?_
       refine jm (.bool (decide (xa.2.2.1 < 0))) rfl <| J.cut 6 <| jmeet [(40, .bool ((decide (xa.2.2.1 < 0)) || (decide ((((xb.length : Nat) : Int)) ≤ xa.2.2.1)))), (1, sl Ab0 xb Cb0), (2, ii xc), (3, pt b9), (26, .bool (t19 && ((decide (xa.2.1 < 0)) || (decide ((((xb.length : Nat) : Int)) ≤ xa.2.1))))), (30, .bool t30)] ?_ ?_
       · rcases bt (decide (xa.2.2.1 < 0)) with hc33 | hc33
         · refine J.skip rfl rfl rfl rfl hc33 <| J.skip rfl rfl rfl rfl hc33 <| J.skip rfl rfl rfl rfl hc33 <| J.skip rfl rfl rfl rfl hc33 <| J.skip rfl rfl rfl rfl hc33 <| J.run rfl rfl rfl hc31 <| jv (.bool true) (V.pickT rfl hc33 rfl) ?_
           refine J.nil ?_
           exact ⟨rfl, ⟨(by simp only [hc33]; rfl), rfl, rfl, rfl, rfl, rfl, trivial⟩, rfl, rfl⟩
         refine J.run rfl rfl rfl hc33 <| jv _ (V.fad underlying62 rfl nz3 rfl) <| J.run rfl rfl rfl hc33 <| jv (ii xa.2.2.1) (V.ld rfl (Ld.sc sc3 (Rd.cl 0 rfl rfl))) <| J.run rfl rfl rfl hc33 <| jm (sl Ab0 xb Cb0) rfl <| J.run rfl rfl rfl hc33 ?_
         refine jv (ii (((xb.length : Nat) : Int))) (V.len underlying23 rfl) <| J.run rfl rfl rfl hc33 <| jv (.bool (decide ((((xb.length : Nat) : Int)) ≤ xa.2.2.1))) (V.geq rfl rfl) <| J.run rfl rfl rfl hc31 <| jv (.bool (decide ((((xb.length : Nat) : Int)) ≤ xa.2.2.1))) (V.pickF rfl hc33 rfl) <| J.nil ?_
         exact ⟨rfl, ⟨(by simp only [hc33]; rfl), rfl, rfl, rfl, rfl, rfl, trivial⟩, rfl, rfl⟩
       intro ρ
       refine J.run rfl rfl rfl hc25 <| jv (.bool ((decide (xa.2.2.1 < 0)) || (decide ((((xb.length : Nat) : Int)) ≤ xa.2.2.1)))) (V.pickT rfl hc31 rfl) <| J.nil ?_
       exact ⟨rfl, ⟨(by simp only [hc31]; rfl), rfl, rfl, rfl, rfl, trivial⟩, rfl, rfl⟩
     refine J.skip rfl rfl rfl rfl hc31 <| J.skip rfl rfl rfl rfl hc31 <| J.skip rfl rfl rfl rfl hc31 <| J.skip rfl rfl rfl rfl hc31 <| J.skipu rfl rfl rfl rfl <| J.skipu rfl rfl rfl rfl <| J.skipu rfl rfl rfl rfl ?_
     refine J.skipu rfl rfl rfl rfl <| J.skipu rfl rfl rfl rfl <| J.skip rfl rfl rfl rfl hc31 <| J.run rfl rfl rfl hc25 <| jv (.bool false) (V.pickF rfl hc31 rfl) <| J.nil ?_
     exact ⟨rfl, ⟨(by simp only [hc31]; rfl), rfl, rfl, rfl, rfl, trivial⟩, rfl, rfl⟩
   intro ρ
   refine jv (.bool (t30 && ((decide (xa.2.2.1 < 0)) || (decide ((((xb.length : Nat) : Int)) ≤ xa.2.2.1))))) (V.pickF rfl hc25 rfl) <| J.nil ?_
   obtain rfl := si ht24
   exact ⟨rfl, rt4, rfl, rfl⟩
 intro ρ
 refine jm (.bool t22) rfl <| J.cut 15 ?_
 obtain ⟨t34, ht35, h⟩ := ob h
 refine jmeet [(58, .bool t34), (1, sl Ab0 xb Cb0), (3, pt b9)] ?_ ?_
 · rcases bt (t22) with hc36 | hc36
   · have ht35 := ct hc36 ht35
     refine J.skip rfl rfl rfl rfl hc36 <| J.skip rfl rfl rfl rfl hc36 <| J.skip rfl rfl rfl rfl hc36 <| J.skip rfl rfl rfl rfl hc36 <| J.skipu rfl rfl rfl rfl <| J.skipu rfl rfl rfl rfl <| J.skipu rfl rfl rfl rfl ?_
     refine J.skipu rfl rfl rfl rfl <| J.skipu rfl rfl rfl rfl <| J.skipu rfl rfl rfl rfl <| J.skipu rfl rfl rfl rfl <| J.skipu rfl rfl rfl rfl <| J.skipu rfl rfl rfl rfl <| J.skip rfl rfl rfl rfl hc36 ?_
     refine jv (.bool true) (V.pickT rfl hc36 rfl) <| J.nil ?_
     obtain rfl := si ht35
     exact ⟨rfl, rt3, rfl, rfl⟩
   have ht35 := cf hc36 ht35
   refine J.run rfl rfl rfl hc36 <| jv _ (V.fad underlying62 rfl nz3 rfl) <| J.run rfl rfl rfl hc36 <| jv (ii xa.1) (V.ld rfl (Ld.sc sc3 (Rd.cl 0 rfl rfl))) <| J.run rfl rfl rfl hc36 ?_
   obtain ⟨r37, hr38, ht35⟩ := ob ht35
   refine J.op rfl (A.call (L1 := []) call105 rfl (ref18_Region_ok hr38) rfl rfl) ?_
   rintro _ _ _ ⟨v39, _, rfl, ⟨⟨t40, rfl, rfl, rfl⟩, rfl⟩, _, rfl⟩
   refine J.run rfl rfl rfl hc36 <| jm (.bool t40) rfl <| J.cut 10 <| jmeet [(57, .bool (t40 && ((decide (xa.2.2.2.1 < 0)) || (decide (xc ≤ xa.2.2.2.1))))), (1, sl Ab0 xb Cb0), (3, pt b9), (43, .bool t22)] ?_ ?_
   · rcases bt (t40) with hc41 | hc41
     · refine J.run rfl rfl rfl hc41 <| jv _ (V.fad underlying62 rfl nz3 rfl) <| J.run rfl rfl rfl hc41 <| jv (ii xa.2.2.2.1) (V.ld rfl (Ld.sc sc3 (Rd.cl 0 rfl rfl))) <| J.run rfl rfl rfl hc41 <| jv (.bool (decide (xa.2.2.2.1 < 0))) (V.lss rfl rfl) <| J.run rfl rfl rfl hc41 ?_
       refine jm (.bool (decide (xa.2.2.2.1 < 0))) rfl <| J.cut 5 <| jmeet [(56, .bool ((decide (xa.2.2.2.1 < 0)) || (decide (xc ≤ xa.2.2.2.1)))), (1, sl Ab0 xb Cb0), (3, pt b9), (43, .bool t22), (47, .bool t40)] ?_ ?_
       · rcases bt (decide (xa.2.2.2.1 < 0)) with hc42 | hc42
         · refine J.skip rfl rfl rfl rfl hc42 <| J.skip rfl rfl rfl rfl hc42 <| J.skip rfl rfl rfl rfl hc42 <| J.skip rfl rfl rfl rfl hc42 <| J.run rfl rfl rfl hc41 <| jv (.bool true) (V.pickT rfl hc42 rfl) <| J.nil ?_
           exact ⟨rfl, ⟨(by simp only [hc42]; rfl), rfl, rfl, rfl, rfl, trivial⟩, rfl, rfl⟩
         refine J.run rfl rfl rfl hc42 <| jv _ (V.fad underlying62 rfl nz3 rfl) <| J.run rfl rfl rfl hc42 <| jv (ii xa.2.2.2.1) (V.ld rfl (Ld.sc sc3 (Rd.cl 0 rfl rfl))) <| J.run rfl rfl rfl hc42 <| jm (ii xc) rfl <| J.run rfl rfl rfl hc42 ?_
         refine jv (.bool (decide (xc ≤ xa.2.2.2.1))) (V.geq rfl rfl) <| J.run rfl rfl rfl hc41 <| jv (.bool (decide (xc ≤ xa.2.2.2.1))) (V.pickF rfl hc42 rfl) <| J.nil ?_
         exact ⟨rfl, ⟨(by simp only [hc42]; rfl), rfl, rfl, rfl, rfl, trivial⟩, rfl, rfl⟩
       intro ρ
       refine J.run rfl rfl rfl hc36 <| jv (.bool ((decide (xa.2.2.2.1 < 0)) || (decide (xc ≤ xa.2.2.2.1)))) (V.pickT rfl hc41 rfl) <| J.nil ?_
       exact ⟨rfl, ⟨(by simp only [hc41]; rfl), rfl, rfl, rfl, trivial⟩, rfl, rfl⟩
     refine J.skip rfl rfl rfl rfl hc41 <| J.skip rfl rfl rfl rfl hc41 <| J.skip rfl rfl rfl rfl hc41 <| J.skip rfl rfl rfl rfl hc41 <| J.skipu rfl rfl rfl rfl <| J.skipu rfl rfl rfl rfl <| J.skipu rfl rfl rfl rfl ?_
     refine J.skipu rfl rfl rfl rfl <| J.skip rfl rfl rfl rfl hc41 <| J.run rfl rfl rfl hc36 <| jv (.bool false) (V.pickF rfl hc41 rfl) <| J.nil ?_
     exact ⟨rfl, ⟨(by simp only [hc41]; rfl), rfl, rfl, rfl, trivial⟩, rfl, rfl⟩
   intro ρ
   refine jv (.bool (t40 && ((decide (xa.2.2.2.1 < 0)) || (decide (xc ≤ xa.2.2.2.1))))) (V.pickF rfl hc36 rfl) <| J.nil ?_
   obtain rfl := si ht35
   exact ⟨rfl, rt3, rfl, rfl⟩
 intro ρ
 refine J.nil <| cc rfl h (fun hc43 h => ?_) fun hc43 h => ?_
 · refine cr <| ja (nos) rfl <| ja (ii 7) rfl <| J.nil <| CJ.by (fun w hs => Sep.rowNil (e := 169) (t := Yq2) hs) <| CJ.ret ?_
   obtain rfl := si h
   exact ⟨_, _, Res.two rfl rfl rfl, ⟨[], 7, none, 0, rfl, rfl, rfl⟩, hpr, fun w hs => (Sep.dropAt 1 rfl hs)⟩
 refine CJ.skip <| CJ.seq <| cr <| jv _ (V.fad underlying62 rfl nz3 rfl) <| jv (ii xa.1) (V.ld rfl (Ld.sc sc3 (Rd.cl 0 rfl rfl))) <| jv (.bool (decide (xa.1 = 1))) (V.eql rfl rfl) ?_
 refine J.nil <| cc rfl h (fun hc44 h => ?_) fun hc44 h => ?_
 · refine CJ.seq <| CJ.mix [Cl b9 62 [ii xa.1, ii xa.2.1, ii xa.2.2.1, ii xa.2.2.2.1, .bool xa.2.2.2.2]] [([0, 1, 2, 3, 4, 5, 6, 7, 8, 9], 10)] [11, 12, 13, 14] [] mixO (by decide +kernel) ⟨0, rfl, trivial⟩ rfl rfl rfl <| JM.cons <| qm (sl Ab0 xb Cb0) rfl <| qv _ (V.fad underlying62 rfl nz3 rfl) <| qv (ii xa.2.2.1) (V.ld rfl (Ld.sc sc3 (Rd.cl 0 rfl rfl))) ?_
   obtain ⟨x45, hx46, h⟩ := ob h
   obtain ⟨p47, p48, p49⟩ := getI_some hx46
   obtain ⟨b50, o51, e52, a53⟩ := (Gb0).at p48
   refine qv _ (V.iad underlying23 sz26 rfl e52 rfl p47 p49) ?_
   obtain ⟨ad54, cp55, c56, f57⟩ := ((a53).one).sl
   refine qv (.agg #[sl ad54 x45 cp55]) (V.ld rfl (Ld.aggK (cs := [sl ad54 x45 cp55]) underlying26 sz26 rfl ⟨c56, trivial⟩ hpr)) <| qm (sl Ab0 xb Cb0) rfl <| qv _ (V.fad underlying62 rfl nz3 rfl) <| qv (ii xa.2.1) (V.ld rfl (Ld.sc sc3 (Rd.cl 0 rfl rfl))) ?_
   obtain ⟨x58, hx59, h⟩ := ob h
   obtain ⟨p60, p61, p63⟩ := getI_some hx59
   obtain ⟨b65, o66, e67, a68⟩ := (Gb0).at p61
   refine qv _ (V.iad underlying23 sz26 rfl e67 rfl p60 p63) ?_
   obtain ⟨ad69, cp70, c71, f72⟩ := ((a68).one).sl
   refine qv (.agg #[sl ad69 x58 cp70]) (V.ld rfl (Ld.aggK (cs := [sl ad69 x58 cp70]) underlying26 sz26 rfl ⟨c71, trivial⟩ hpr)) <| JQ.nil ?_
   obtain ⟨r73, hr74, h⟩ := ob h
   refine JA.op rfl (A.call (L1 := []) call106 rfl (ref16_Flow_ok f57 f72 hr74) rfl rfl) ?_
   rintro _ _ _ ⟨v75, _, rfl, ⟨⟨l76, i77, ad78, cp79, rfl, rfl, rfl⟩, rfl⟩, _, rfl⟩
   refine ⟨fun w hs => Hold.sub hpr ⟨1, rfl, trivial⟩ hs, ?_⟩
   refine JM.wit Row.hn fun hn80 => JM.nil <| qv (sl ad78 l76 cp79) (V.ext rfl rfl) <| qv (ii i77) (V.ext rfl rfl) <| qa (sl ad78 l76 cp79) rfl <| qa (ii i77) rfl <| JQ.nil ?_
   refine J.nil <| CJ.ret ?_
   obtain rfl := si h
   exact ⟨_, _, Res.two rfl rfl rfl, ⟨l76, i77, ad78, cp79, rfl, rfl, rfl⟩, hpr, fun w hs => (Sep.dropAt 1 rfl hs)⟩
 refine CJ.skip <| CJ.seq <| cr <| jv _ (V.fad underlying62 rfl nz3 rfl) <| jv (ii xa.1) (V.ld rfl (Ld.sc sc3 (Rd.cl 0 rfl rfl))) <| jv (.bool (decide (xa.1 = 2))) (V.eql rfl rfl) ?_
 refine J.nil <| cc rfl h (fun hc81 h => ?_) fun hc81 h => ?_
 · refine CJ.seq <| CJ.mix [Cl b9 62 [ii xa.1, ii xa.2.1, ii xa.2.2.1, ii xa.2.2.2.1, .bool xa.2.2.2.2]] [([0, 1, 2, 3, 4, 5, 6, 7, 8, 9, 10, 11, 12, 13], 14)] [15, 16, 17, 18] [] mixO (by decide +kernel) ⟨0, rfl, trivial⟩ rfl rfl rfl <| JM.cons <| qm (sl Ab0 xb Cb0) rfl <| qv _ (V.fad underlying62 rfl nz3 rfl) <| qv (ii xa.2.2.1) (V.ld rfl (Ld.sc sc3 (Rd.cl 0 rfl rfl))) ?_
   obtain ⟨x82, hx83, h⟩ := ob h
   obtain ⟨p84, p85, p87⟩ := getI_some hx83
   obtain ⟨b88, o89, e90, a91⟩ := (Gb0).at p85
   refine qv _ (V.iad underlying23 sz26 rfl e90 rfl p84 p87) ?_
   obtain ⟨ad92, cp93, c94, f95⟩ := ((a91).one).sl
   refine qv (.agg #[sl ad92 x82 cp93]) (V.ld rfl (Ld.aggK (cs := [sl ad92 x82 cp93]) underlying26 sz26 rfl ⟨c94, trivial⟩ hpr)) <| qm (sl Ab0 xb Cb0) rfl <| qv _ (V.fad underlying62 rfl nz3 rfl) <| qv (ii xa.2.1) (V.ld rfl (Ld.sc sc3 (Rd.cl 0 rfl rfl))) ?_
   obtain ⟨x96, hx97, h⟩ := ob h
   obtain ⟨p98, p99, p100⟩ := getI_some hx97
   obtain ⟨b101, o102, e103, a104⟩ := (Gb0).at p99
   refine qv _ (V.iad underlying23 sz26 rfl e103 rfl p98 p100) ?_
   obtain ⟨ad105, cp106, c107, f108⟩ := ((a104).one).sl
   refine qv (.agg #[sl ad105 x96 cp106]) (V.ld rfl (Ld.aggK (cs := [sl ad105 x96 cp106]) underlying26 sz26 rfl ⟨c107, trivial⟩ hpr)) <| qv _ (V.fad underlying62 rfl nz3 rfl) <| qv (ii xa.2.2.2.1) (V.ld rfl (Ld.sc sc3 (Rd.cl 0 rfl rfl))) <| qv _ (V.fad underlying62 rfl nz4 rfl) <| qv (.bool xa.2.2.2.2) (V.ld rfl (Ld.sc sc4 (Rd.cl 0 rfl rfl))) <| JQ.nil ?_
   obtain ⟨r109, hr110, h⟩ := ob h
   refine JA.op rfl (A.call (L1 := []) call107 rfl (ref16_Loan_ok f95 f108 hr110) rfl rfl) ?_
   rintro _ _ _ ⟨v111, _, rfl, ⟨⟨l112, i113, ad114, cp115, rfl, rfl, rfl⟩, rfl⟩, _, rfl⟩
   refine ⟨fun w hs => Hold.sub hpr ⟨1, rfl, trivial⟩ hs, ?_⟩
   refine JM.wit Row.hn fun hn116 => JM.nil <| qv (sl ad114 l112 cp115) (V.ext rfl rfl) <| qv (ii i113) (V.ext rfl rfl) <| qa (sl ad114 l112 cp115) rfl <| qa (ii i113) rfl <| JQ.nil ?_
   refine J.nil <| CJ.ret ?_
   obtain rfl := si h
   exact ⟨_, _, Res.two rfl rfl rfl, ⟨l112, i113, ad114, cp115, rfl, rfl, rfl⟩, hpr, fun w hs => (Sep.dropAt 1 rfl hs)⟩
 refine CJ.skip <| CJ.seq <| cr <| jv _ (V.fad underlying62 rfl nz3 rfl) <| jv (ii xa.1) (V.ld rfl (Ld.sc sc3 (Rd.cl 0 rfl rfl))) <| jv (.bool (decide (xa.1 = 3))) (V.eql rfl rfl) ?_
 refine J.nil <| cc rfl h (fun hc117 h => ?_) fun hc117 h => ?_
 · refine CJ.seq <| CJ.mix [Cl b9 62 [ii xa.1, ii xa.2.1, ii xa.2.2.1, ii xa.2.2.2.1, .bool xa.2.2.2.2]] [([0, 1, 2, 3, 4, 5, 6, 7, 8, 9, 10, 11, 12, 13], 14)] [15, 16, 17, 18] [] mixO (by decide +kernel) ⟨0, rfl, trivial⟩ rfl rfl rfl <| JM.cons <| qm (sl Ab0 xb Cb0) rfl <| qv _ (V.fad underlying62 rfl nz3 rfl) <| qv (ii xa.2.2.1) (V.ld rfl (Ld.sc sc3 (Rd.cl 0 rfl rfl))) ?_
   obtain ⟨x118, hx119, h⟩ := ob h
   obtain ⟨p120, p121, p122⟩ := getI_some hx119
   obtain ⟨b123, o124, e125, a126⟩ := (Gb0).at p121
   refine qv _ (V.iad underlying23 sz26 rfl e125 rfl p120 p122) ?_
   obtain ⟨ad127, cp128, c129, f130⟩ := ((a126).one).sl
   refine qv (.agg #[sl ad127 x118 cp128]) (V.ld rfl (Ld.aggK (cs := [sl ad127 x118 cp128]) underlying26 sz26 rfl ⟨c129, trivial⟩ hpr)) <| qm (sl Ab0 xb Cb0) rfl <| qv _ (V.fad underlying62 rfl nz3 rfl) <| qv (ii xa.2.1) (V.ld rfl (Ld.sc sc3 (Rd.cl 0 rfl rfl))) ?_
   obtain ⟨x131, hx132, h⟩ := ob h
   obtain ⟨p133, p134, p135⟩ := getI_some hx132
   obtain ⟨b136, o137, e138, a139⟩ := (Gb0).at p134
   refine qv _ (V.iad underlying23 sz26 rfl e138 rfl p133 p135) ?_
   obtain ⟨ad140, cp141, c142, f143⟩ := ((a139).one).sl
   refine qv (.agg #[sl ad140 x131 cp141]) (V.ld rfl (Ld.aggK (cs := [sl ad140 x131 cp141]) underlying26 sz26 rfl ⟨c142, trivial⟩ hpr)) <| qv _ (V.fad underlying62 rfl nz3 rfl) <| qv (ii xa.2.2.2.1) (V.ld rfl (Ld.sc sc3 (Rd.cl 0 rfl rfl))) <| qv _ (V.fad underlying62 rfl nz4 rfl) <| qv (.bool xa.2.2.2.2) (V.ld rfl (Ld.sc sc4 (Rd.cl 0 rfl rfl))) <| JQ.nil ?_
   obtain ⟨r144, hr145, h⟩ := ob h
   refine JA.op rfl (A.call (L1 := []) call108 rfl (ref16_Again_ok f130 f143 hr145) rfl rfl) ?_
   rintro _ _ _ ⟨v146, _, rfl, ⟨⟨l147, i148, ad149, cp150, rfl, rfl, rfl⟩, rfl⟩, _, rfl⟩
   refine ⟨fun w hs => Hold.sub hpr ⟨1, rfl, trivial⟩ hs, ?_⟩
   refine JM.wit Row.hn fun hn151 => JM.nil <| qv (sl ad149 l147 cp150) (V.ext rfl rfl) <| qv (ii i148) (V.ext rfl rfl) <| qa (sl ad149 l147 cp150) rfl <| qa (ii i148) rfl <| JQ.nil ?_
   refine J.nil <| CJ.ret ?_
   obtain rfl := si h
   exact ⟨_, _, Res.two rfl rfl rfl, ⟨l147, i148, ad149, cp150, rfl, rfl, rfl⟩, hpr, fun w hs => (Sep.dropAt 1 rfl hs)⟩
 refine CJ.skip <| cr <| ja (nos) rfl <| ja (ii 0) rfl <| J.nil <| CJ.by (fun w hs => Sep.rowNil (e := 169) (t := Yq2) hs) ?_
 refine CJ.ret ?_
 obtain rfl := si h
 exact ⟨_, _, Res.two rfl rfl rfl, ⟨[], 0, none, 0, rfl, rfl, rfl⟩, hpr, fun w hs => (Sep.dropAt 1 rfl hs)⟩

noncomputable def fn_ref19_Form (xa : Tq5) : Option Int :=
  cond ((decide (xa.1 < 1)) || (decide (4 < xa.1))) (some (3)) (cond (((((decide (xa.1 = 1)) || (decide (xa.1 = 4))) && (!decide ((((xa.2.2.2.1.length : Nat) : Int)) = 1))) || ((decide (xa.1 = 2)) && (decide ((((xa.2.2.2.1.length : Nat) : Int)) = 0)))) || ((decide (xa.1 = 3)) && (!decide ((((xa.2.2.2.1.length : Nat) : Int)) = 0)))) (some (3)) (cond ((!decide (xa.1 = 4)) && (((!decide (xa.2.1 = 0)) || (!decide (xa.2.2.1 = 0))) || (!decide ((((xa.2.2.2.2.2.length : Nat) : Int)) = 0)))) (some (3)) (cond (((decide (xa.1 = 1)) || (decide (xa.1 = 3))) && (!decide ((((xa.2.2.2.2.1.length : Nat) : Int)) = 0))) (some (3)) (cond (((decide (16 < (((xa.2.2.2.1.length : Nat) : Int)))) || (decide (16 < (((xa.2.2.2.2.1.length : Nat) : Int))))) || (decide (16 < (((xa.2.2.2.2.2.length : Nat) : Int))))) (some (6)) (some (0))))))
theorem ref19_Form_ok {K : Hp} {xa : Tq5} {Aa3 : Option Addr} {Ca3 : Nat} {Aa4 : Option Addr} {Ca4 : Nat} {Aa5 : Option Addr} {Ca5 : Nat} (Ga3 : Is K Yq7 [sl Aa3 xa.2.2.2.1 Ca3] xa.2.2.2.1) (Ga4 : Is K Yq7 [sl Aa4 xa.2.2.2.2.1 Ca4] xa.2.2.2.2.1) (Ga5 : Is K Yq7 [sl Aa5 xa.2.2.2.2.2 Ca5] xa.2.2.2.2.2) {r : Int} (h : fn_ref19_Form xa = some r) :
    Tr Tryz.prog 109 #[.agg #[ii xa.1, ii xa.2.1, ii xa.2.2.1, sl Aa3 xa.2.2.2.1 Ca3, sl Aa4 xa.2.2.2.2.1 Ca4, sl Aa5 xa.2.2.2.2.2 Ca5]] K [] (fun v K' L' => (∃ (i61 : Int), i61 = r ∧ ii i61 = v ∧ L' = []) ∧ K = K') := by
 refine Tr.k <| Tr.of func109 rfl ntmps109 rfl fun E F => ?_
 unfold fn_ref19_Form at h
 refine cr <| jbx [ii xa.1, ii xa.2.1, ii xa.2.2.1, sl Aa3 xa.2.2.2.1 Ca3, sl Aa4 xa.2.2.2.2.1 Ca4, sl Aa5 xa.2.2.2.2.2 Ca5] rfl rfl fun b62 => ja (ii 0) rfl <| J.nil <| CJ.seq <| CJ.seq ?_
 refine CJ.region <| jv _ (V.fad underlying58 rfl nz3 rfl) <| jv (ii xa.1) (V.ld rfl (Ld.sc sc3 (Rd.cl 0 rfl rfl))) <| jv (.bool (decide (xa.1 < 1))) (V.lss rfl rfl) <| jm (.bool (decide (xa.1 < 1))) rfl <| J.cut 4 <| jmeet [(10, .bool ((decide (xa.1 < 1)) || (decide (4 < xa.1)))), (1, pt b62)] ?_ ?_
 · rcases bt (decide (xa.1 < 1)) with hc65 | hc65
   · refine J.skip rfl rfl rfl rfl hc65 <| J.skip rfl rfl rfl rfl hc65 <| J.skip rfl rfl rfl rfl hc65 <| jv (.bool true) (V.pickT rfl hc65 rfl) <| J.nil ?_
     exact ⟨rfl, ⟨(by simp only [hc65]; rfl), rfl, trivial⟩, rfl, rfl⟩
   refine J.run rfl rfl rfl hc65 <| jv _ (V.fad underlying58 rfl nz3 rfl) <| J.run rfl rfl rfl hc65 <| jv (ii xa.1) (V.ld rfl (Ld.sc sc3 (Rd.cl 0 rfl rfl))) <| J.run rfl rfl rfl hc65 <| jv (.bool (decide (4 < xa.1))) (V.gtr rfl rfl) <| jv (.bool (decide (4 < xa.1))) (V.pickF rfl hc65 rfl) ?_
   refine J.nil ?_
   exact ⟨rfl, ⟨(by simp only [hc65]; rfl), rfl, trivial⟩, rfl, rfl⟩
 intro ρ
 refine J.nil <| cc rfl h (fun hc66 h => ?_) fun hc66 h => ?_
 · refine cr <| ja (ii 3) rfl <| J.nil <| CJ.ret ?_
   obtain rfl := si h
   exact ⟨_, _, Res.one rfl rfl, ⟨3, rfl, rfl, rfl⟩, hpr, fun w hs => (Sep.dropAt 0 rfl hs)⟩
 refine CJ.skip <| CJ.seq <| cr <| jv _ (V.fad underlying58 rfl nz3 rfl) <| jv (ii xa.1) (V.ld rfl (Ld.sc sc3 (Rd.cl 0 rfl rfl))) <| jv (.bool (decide (xa.1 = 1))) (V.eql rfl rfl) ?_
 refine jm (.bool (decide (xa.1 = 1))) rfl <| J.cut 4 <| jmeet [(18, .bool ((decide (xa.1 = 1)) || (decide (xa.1 = 4)))), (1, pt b62)] ?_ ?_
 · rcases bt (decide (xa.1 = 1)) with hc69 | hc69
   · refine J.skip rfl rfl rfl rfl hc69 <| J.skip rfl rfl rfl rfl hc69 <| J.skip rfl rfl rfl rfl hc69 <| jv (.bool true) (V.pickT rfl hc69 rfl) <| J.nil ?_
     exact ⟨rfl, ⟨(by simp only [hc69]; rfl), rfl, trivial⟩, rfl, rfl⟩
   refine J.run rfl rfl rfl hc69 <| jv _ (V.fad underlying58 rfl nz3 rfl) <| J.run rfl rfl rfl hc69 <| jv (ii xa.1) (V.ld rfl (Ld.sc sc3 (Rd.cl 0 rfl rfl))) <| J.run rfl rfl rfl hc69 <| jv (.bool (decide (xa.1 = 4))) (V.eql rfl rfl) <| jv (.bool (decide (xa.1 = 4))) (V.pickF rfl hc69 rfl) ?_
   refine J.nil ?_
   exact ⟨rfl, ⟨(by simp only [hc69]; rfl), rfl, trivial⟩, rfl, rfl⟩
 intro ρ
 refine jm (.bool ((decide (xa.1 = 1)) || (decide (xa.1 = 4)))) rfl <| J.cut 5 <| jmeet [(24, .bool (((decide (xa.1 = 1)) || (decide (xa.1 = 4))) && (!decide ((((xa.2.2.2.1.length : Nat) : Int)) = 1)))), (1, pt b62)] ?_ ?_
 · rcases bt ((decide (xa.1 = 1)) || (decide (xa.1 = 4))) with hc72 | hc72
   · refine J.run rfl rfl rfl hc72 <| jv _ (V.fad underlying58 rfl nz42 rfl) <| J.run rfl rfl rfl hc72 <| jv (sl Aa3 xa.2.2.2.1 Ca3) (V.ld rfl (Ld.sc sc42 (Rd.cl 0 rfl rfl))) <| J.run rfl rfl rfl hc72 <| jv (ii (((xa.2.2.2.1.length : Nat) : Int))) (V.len underlying42 rfl) <| J.run rfl rfl rfl hc72 ?_
     refine jv (.bool (!decide ((((xa.2.2.2.1.length : Nat) : Int)) = 1))) (V.neq rfl rfl) <| jv (.bool (!decide ((((xa.2.2.2.1.length : Nat) : Int)) = 1))) (V.pickT rfl hc72 rfl) <| J.nil ?_
     exact ⟨rfl, ⟨(by simp only [hc72]; rfl), rfl, trivial⟩, rfl, rfl⟩
   refine J.skip rfl rfl rfl rfl hc72 <| J.skip rfl rfl rfl rfl hc72 <| J.skip rfl rfl rfl rfl hc72 <| J.skip rfl rfl rfl rfl hc72 <| jv (.bool false) (V.pickF rfl hc72 rfl) <| J.nil ?_
   exact ⟨rfl, ⟨(by simp only [hc72]; rfl), rfl, trivial⟩, rfl, rfl⟩
 intro ρ
 refine jm (.bool (((decide (xa.1 = 1)) || (decide (xa.1 = 4))) && (!decide ((((xa.2.2.2.1.length : Nat) : Int)) = 1)))) rfl <| J.cut 10 <| jmeet [(35, .bool ((((decide (xa.1 = 1)) || (decide (xa.1 = 4))) && (!decide ((((xa.2.2.2.1.length : Nat) : Int)) = 1))) || ((decide (xa.1 = 2)) && (decide ((((xa.2.2.2.1.length : Nat) : Int)) = 0))))), (1, pt b62)] ?_ ?_
 · rcases bt (((decide (xa.1 = 1)) || (decide (xa.1 = 4))) && (!decide ((((xa.2.2.2.1.length : Nat) : Int)) = 1))) with hc78 | hc78
   · refine J.skip rfl rfl rfl rfl hc78 <| J.skip rfl rfl rfl rfl hc78 <| J.skip rfl rfl rfl rfl hc78 <| J.skip rfl rfl rfl rfl hc78 <| J.skipu rfl rfl rfl rfl <| J.skipu rfl rfl rfl rfl <| J.skipu rfl rfl rfl rfl ?_
     refine J.skipu rfl rfl rfl rfl <| J.skip rfl rfl rfl rfl hc78 <| jv (.bool true) (V.pickT rfl hc78 rfl) <| J.nil ?_
     exact ⟨rfl, ⟨(by simp only [hc78]; rfl), rfl, trivial⟩, rfl, rfl⟩
   refine J.run rfl rfl rfl hc78 <| jv _ (V.fad underlying58 rfl nz3 rfl) <| J.run rfl rfl rfl hc78 <| jv (ii xa.1) (V.ld rfl (Ld.sc sc3 (Rd.cl 0 rfl rfl))) <| J.run rfl rfl rfl hc78 <| jv (.bool (decide (xa.1 = 2))) (V.eql rfl rfl) <| J.run rfl rfl rfl hc78 ?_
   refine jm (.bool (decide (xa.1 = 2))) rfl <| J.cut 5 <| jmeet [(34, .bool ((decide (xa.1 = 2)) && (decide ((((xa.2.2.2.1.length : Nat) : Int)) = 0)))), (1, pt b62), (25, .bool (((decide (xa.1 = 1)) || (decide (xa.1 = 4))) && (!decide ((((xa.2.2.2.1.length : Nat) : Int)) = 1))))] ?_ ?_
   · rcases bt (decide (xa.1 = 2)) with hc81 | hc81
     · refine J.run rfl rfl rfl hc81 <| jv _ (V.fad underlying58 rfl nz42 rfl) <| J.run rfl rfl rfl hc81 <| jv (sl Aa3 xa.2.2.2.1 Ca3) (V.ld rfl (Ld.sc sc42 (Rd.cl 0 rfl rfl))) <| J.run rfl rfl rfl hc81 <| jv (ii (((xa.2.2.2.1.length : Nat) : Int))) (V.len underlying42 rfl) <| J.run rfl rfl rfl hc81 ?_
       refine jv (.bool (decide ((((xa.2.2.2.1.length : Nat) : Int)) = 0))) (V.eql rfl rfl) <| J.run rfl rfl rfl hc78 <| jv (.bool (decide ((((xa.2.2.2.1.length : Nat) : Int)) = 0))) (V.pickT rfl hc81 rfl) <| J.nil ?_
       exact ⟨rfl, ⟨(by simp only [hc81]; rfl), rfl, rfl, trivial⟩, rfl, rfl⟩
     refine J.skip rfl rfl rfl rfl hc81 <| J.skip rfl rfl rfl rfl hc81 <| J.skip rfl rfl rfl rfl hc81 <| J.skip rfl rfl rfl rfl hc81 <| J.run rfl rfl rfl hc78 <| jv (.bool false) (V.pickF rfl hc81 rfl) <| J.nil ?_
     exact ⟨rfl, ⟨(by simp only [hc81]; rfl), rfl, rfl, trivial⟩, rfl, rfl⟩
   intro ρ
   refine jv (.bool ((decide (xa.1 = 2)) && (decide ((((xa.2.2.2.1.length : Nat) : Int)) = 0)))) (V.pickF rfl hc78 rfl) <| J.nil ?_
   exact ⟨rfl, ⟨(by simp only [hc78]; rfl), rfl, trivial⟩, rfl, rfl⟩
 intro ρ
 refine jm (.bool ((((decide (xa.1 = 1)) || (decide (xa.1 = 4))) && (!decide ((((xa.2.2.2.1.length : Nat) : Int)) = 1))) || ((decide (xa.1 = 2)) && (decide ((((xa.2.2.2.1.length : Nat) : Int)) = 0))))) rfl <| J.cut 10 <| jmeet [(46, .bool (((((decide (xa.1 = 1)) || (decide (xa.1 = 4))) && (!decide ((((xa.2.2.2.1.length : Nat) : Int)) = 1))) || ((decide (xa.1 = 2)) && (decide ((((xa.2.2.2.1.length : Nat) : Int)) = 0)))) || ((decide (xa.1 = 3)) && (!decide ((((xa.2.2.2.1.length : Nat) : Int)) = 0))))), (1, pt b62)] ?_ ?_
 · rcases bt ((((decide (xa.1 = 1)) || (decide (xa.1 = 4))) && (!decide ((((xa.2.2.2.1.length : Nat) : Int)) = 1))) || ((decide (xa.1 = 2)) && (decide ((((xa.2.2.2.1.length : Nat) : Int)) = 0)))) with hc87 | hc87
   · refine J.skip rfl rfl rfl rfl hc87 <| J.skip rfl rfl rfl rfl hc87 <| J.skip rfl rfl rfl rfl hc87 <| J.skip rfl rfl rfl rfl hc87 <| J.skipu rfl rfl rfl rfl <| J.skipu rfl rfl rfl rfl <| J.skipu rfl rfl rfl rfl ?_
     refine J.skipu rfl rfl rfl rfl <| J.skip rfl rfl rfl rfl hc87 <| jv (.bool true) (V.pickT rfl hc87 rfl) <| J.nil ?_
     exact ⟨rfl, ⟨(by simp only [hc87]; rfl), rfl, trivial⟩, rfl, rfl⟩
   refine J.run rfl rfl rfl hc87 <| jv _ (V.fad underlying58 rfl nz3 rfl) <| J.run rfl rfl rfl hc87 <| jv (ii xa.1) (V.ld rfl (Ld.sc sc3 (Rd.cl 0 rfl rfl))) <| J.run rfl rfl rfl hc87 <| jv (.bool (decide (xa.1 = 3))) (V.eql rfl rfl) <| J.run rfl rfl rfl hc87 ?_
   refine jm (.bool (decide (xa.1 = 3))) rfl <| J.cut 5 <| jmeet [(45, .bool ((decide (xa.1 = 3)) && (!decide ((((xa.2.2.2.1.length : Nat) : Int)) = 0)))), (1, pt b62), (36, .bool ((((decide (xa.1 = 1)) || (decide (xa.1 = 4))) && (!decide ((((xa.2.2.2.1.length : Nat) : Int)) = 1))) || ((decide (xa.1 = 2)) && (decide ((((xa.2.2.2.1.length : Nat) : Int)) = 0)))))] ?_ ?_
   · rcases bt (decide (xa.1 = 3)) with hc90 | hc90
     · refine J.run rfl rfl rfl hc90 <| jv _ (V.fad underlying58 rfl nz42 rfl) <| J.run rfl rfl rfl hc90 <| jv (sl Aa3 xa.2.2.2.1 Ca3) (V.ld rfl (Ld.sc sc42 (Rd.cl 0 rfl rfl))) <| J.run rfl rfl rfl hc90 <| jv (ii (((xa.2.2.2.1.length : Nat) : Int))) (V.len underlying42 rfl) <| J.run rfl rfl rfl hc90 ?_
       refine jv (.bool (!decide ((((xa.2.2.2.1.length : Nat) : Int)) = 0))) (V.neq rfl rfl) <| J.run rfl rfl rfl hc87 <| jv (.bool (!decide ((((xa.2.2.2.1.length : Nat) : Int)) = 0))) (V.pickT rfl hc90 rfl) <| J.nil ?_
       exact ⟨rfl, ⟨(by simp only [hc90]; rfl), rfl, rfl, trivial⟩, rfl, rfl⟩
     refine J.skip rfl rfl rfl rfl hc90 <| J.skip rfl rfl rfl rfl hc90 <| J.skip rfl rfl rfl rfl hc90 <| J.skip rfl rfl rfl rfl hc90 <| J.run rfl rfl rfl hc87 <| jv (.bool false) (V.pickF rfl hc90 rfl) <| J.nil ?_
     exact ⟨rfl, ⟨(by simp only [hc90]; rfl), rfl, rfl, trivial⟩, rfl, rfl⟩
   intro ρ
   refine jv (.bool ((decide (xa.1 = 3)) && (!decide ((((xa.2.2.2.1.length : Nat) : Int)) = 0)))) (V.pickF rfl hc87 rfl) <| J.nil ?_
   exact ⟨rfl, ⟨(by simp only [hc87]; rfl), rfl, trivial⟩, rfl, rfl⟩
 intro ρ
 refine J.nil <| cc rfl h (fun hc91 h => ?_) fun hc91 h => ?_
 · refine cr <| ja (ii 3) rfl <| J.nil <| CJ.ret ?_
   obtain rfl := si h
   exact ⟨_, _, Res.one rfl rfl, ⟨3, rfl, rfl, rfl⟩, hpr, fun w hs => (Sep.dropAt 0 rfl hs)⟩
 refine CJ.skip <| CJ.seq <| cr <| jv _ (V.fad underlying58 rfl nz3 rfl) <| jv (ii xa.1) (V.ld rfl (Ld.sc sc3 (Rd.cl 0 rfl rfl))) <| jv (.bool (!decide (xa.1 = 4))) (V.neq rfl rfl) ?_
 refine jm (.bool (!decide (xa.1 = 4))) rfl <| J.cut 15 <| jmeet [(65, .bool ((!decide (xa.1 = 4)) && (((!decide (xa.2.1 = 0)) || (!decide (xa.2.2.1 = 0))) || (!decide ((((xa.2.2.2.2.2.length : Nat) : Int)) = 0))))), (1, pt b62)] ?_ ?_
 · rcases bt (!decide (xa.1 = 4)) with hc1 | hc1
   · refine J.run rfl rfl rfl hc1 <| jv _ (V.fad underlying58 rfl nz3 rfl) <| J.run rfl rfl rfl hc1 <| jv (ii xa.2.1) (V.ld rfl (Ld.sc sc3 (Rd.cl 0 rfl rfl))) <| J.run rfl rfl rfl hc1 <| jv (.bool (!decide (xa.2.1 = 0))) (V.neq rfl rfl) <| J.run rfl rfl rfl hc1 ?_
     refine jm (.bool (!decide (xa.2.1 = 0))) rfl <| J.cut 4 <| jmeet [(58, .bool ((!decide (xa.2.1 = 0)) || (!decide (xa.2.2.1 = 0)))), (1, pt b62), (50, .bool (!decide (xa.1 = 4)))] ?_ ?_
     · rcases bt (!decide (xa.2.1 = 0)) with hc2 | hc2
       · refine J.skip rfl rfl rfl rfl hc2 <| J.skip rfl rfl rfl rfl hc2 <| J.skip rfl rfl rfl rfl hc2 <| J.run rfl rfl rfl hc1 <| jv (.bool true) (V.pickT rfl hc2 rfl) <| J.nil ?_
         exact ⟨rfl, ⟨(by simp only [hc2]; rfl), rfl, rfl, trivial⟩, rfl, rfl⟩
       refine J.run rfl rfl rfl hc2 <| jv _ (V.fad underlying58 rfl nz3 rfl) <| J.run rfl rfl rfl hc2 <| jv (ii xa.2.2.1) (V.ld rfl (Ld.sc sc3 (Rd.cl 0 rfl rfl))) <| J.run rfl rfl rfl hc2 <| jv (.bool (!decide (xa.2.2.1 = 0))) (V.neq rfl rfl) <| J.run rfl rfl rfl hc1 ?_
       refine jv (.bool (!decide (xa.2.2.1 = 0))) (V.pickF rfl hc2 rfl) <| J.nil ?_
       exact ⟨rfl, ⟨(by simp only [hc2]; rfl), rfl, rfl, trivial⟩, rfl, rfl⟩
     intro ρ
     refine J.run rfl rfl rfl hc1 <| jm (.bool ((!decide (xa.2.1 = 0)) || (!decide (xa.2.2.1 = 0)))) rfl <| J.cut 5 <| jmeet [(64, .bool (((!decide (xa.2.1 = 0)) || (!decide (xa.2.2.1 = 0))) || (!decide ((((xa.2.2.2.2.2.length : Nat) : Int)) = 0)))), (1, pt b62), (50, .bool (!decide (xa.1 = 4)))] ?_ ?_
     · rcases bt ((!decide (xa.2.1 = 0)) || (!decide (xa.2.2.1 = 0))) with hc6 | hc6
       · refine J.skip rfl rfl rfl rfl hc6 <| J.skip rfl rfl rfl rfl hc6 <| J.skip rfl rfl rfl rfl hc6 <| J.skip rfl rfl rfl rfl hc6 <| J.run rfl rfl rfl hc1 <| jv (.bool true) (V.pickT rfl hc6 rfl) <| J.nil ?_
         exact ⟨rfl, ⟨(by simp only [hc6]; rfl), rfl, rfl, trivial⟩, rfl, rfl⟩
       refine J.run rfl rfl rfl hc6 <| jv _ (V.fad underlying58 rfl nz42 rfl) <| J.run rfl rfl rfl hc6 <| jv (sl Aa5 xa.2.2.2.2.2 Ca5) (V.ld rfl (Ld.sc sc42 (Rd.cl 0 rfl rfl))) <| J.run rfl rfl rfl hc6 <| jv (ii (((xa.2.2.2.2.2.length : Nat) : Int))) (V.len underlying42 rfl) <| J.run rfl rfl rfl hc6 ?_
       refine jv (.bool (!decide ((((xa.2.2.2.2.2.length : Nat) : Int)) = 0))) (V.neq rfl rfl) <| J.run rfl rfl rfl hc1 <| jv (.bool (!decide ((((xa.2.2.2.2.2.length : Nat) : Int)) = 0))) (V.pickF rfl hc6 rfl) <| J.nil ?_
       exact ⟨rfl, ⟨(by simp only [hc6]; rfl), rfl, rfl, trivial⟩, rfl, rfl⟩
     intro ρ
     refine jv (.bool (((!decide (xa.2.1 = 0)) || (!decide (xa.2.2.1 = 0))) || (!decide ((((xa.2.2.2.2.2.length : Nat) : Int)) = 0)))) (V.pickT rfl hc1 rfl) <| J.nil ?_
     exact ⟨rfl, ⟨(by simp only [hc1]; rfl), rfl, trivial⟩, rfl, rfl⟩
   refine J.skip rfl rfl rfl rfl hc1 <| J.skip rfl rfl rfl rfl hc1 <| J.skip rfl rfl rfl rfl hc1 <| J.skip rfl rfl rfl rfl hc1 <| J.skipu rfl rfl rfl rfl <| J.skipu rfl rfl rfl rfl <| J.skipu rfl rfl rfl rfl ?_
   refine J.skip rfl rfl rfl rfl hc1 <| J.skip rfl rfl rfl rfl hc1 <| J.skipu rfl rfl rfl rfl <| J.skipu rfl rfl rfl rfl <| J.skipu rfl rfl rfl rfl <| J.skipu rfl rfl rfl rfl <| J.skip rfl rfl rfl rfl hc1 ?_
   refine jv (.bool false) (V.pickF rfl hc1 rfl) <| J.nil ?_
   exact ⟨rfl, ⟨(by simp only [hc1]; rfl), rfl, trivial⟩, rfl, rfl⟩
 intro ρ
 refine J.nil <| cc rfl h (fun hc7 h => ?_) fun hc7 h => ?_
 · refine cr <| ja (ii 3) rfl <| J.nil <| CJ.ret ?_
   obtain rfl := si h
   exact ⟨_, _, Res.one rfl rfl, ⟨3, rfl, rfl, rfl⟩, hpr, fun w hs => (Sep.dropAt 0 rfl hs)⟩
 refine CJ.skip <| CJ.seq <| cr <| jv _ (V.fad underlying58 rfl nz3 rfl) <| jv (ii xa.1) (V.ld rfl (Ld.sc sc3 (Rd.cl 0 rfl rfl))) <| jv (.bool (decide (xa.1 = 1))) (V.eql rfl rfl) ?_
 refine jm (.bool (decide (xa.1 = 1))) rfl <| J.cut 4 <| jmeet [(73, .bool ((decide (xa.1 = 1)) || (decide (xa.1 = 3)))), (1, pt b62)] ?_ ?_
 · rcases bt (decide (xa.1 = 1)) with hc9 | hc9
   · refine J.skip rfl rfl rfl rfl hc9 <| J.skip rfl rfl rfl rfl hc9 <| J.skip rfl rfl rfl rfl hc9 <| jv (.bool true) (V.pickT rfl hc9 rfl) <| J.nil ?_
     exact ⟨rfl, ⟨(by simp only [hc9]; rfl), rfl, trivial⟩, rfl, rfl⟩
   refine J.run rfl rfl rfl hc9 <| jv _ (V.fad underlying58 rfl nz3 rfl) <| J.run rfl rfl rfl hc9 <| jv (ii xa.1) (V.ld rfl (Ld.sc sc3 (Rd.cl 0 rfl rfl))) <| J.run rfl rfl rfl hc9 <| jv (.bool (decide (xa.1 = 3))) (V.eql rfl rfl) <| jv (.bool (decide (xa.1 = 3))) (V.pickF rfl hc9 rfl) ?_
   refine J.nil ?_
   exact ⟨rfl, ⟨(by simp only [hc9]; rfl), rfl, trivial⟩, rfl, rfl⟩
 intro ρ
 refine jm (.bool ((decide (xa.1 = 1)) || (decide (xa.1 = 3)))) rfl <| J.cut 5 <| jmeet [(79, .bool (((decide (xa.1 = 1)) || (decide (xa.1 = 3))) && (!decide ((((xa.2.2.2.2.1.length : Nat) : Int)) = 0)))), (1, pt b62)] ?_ ?_
 · rcases bt ((decide (xa.1 = 1)) || (decide (xa.1 = 3))) with hc10 | hc10
   · refine J.run rfl rfl rfl hc10 <| jv _ (V.fad underlying58 rfl nz42 rfl) <| J.run rfl rfl rfl hc10 <| jv (sl Aa4 xa.2.2.2.2.1 Ca4) (V.ld rfl (Ld.sc sc42 (Rd.cl 0 rfl rfl))) <| J.run rfl rfl rfl hc10 <| jv (ii (((xa.2.2.2.2.1.length : Nat) : Int))) (V.len underlying42 rfl) <| J.run rfl rfl rfl hc10 ?_
     refine jv (.bool (!decide ((((xa.2.2.2.2.1.length : Nat) : Int)) = 0))) (V.neq rfl rfl) <| jv (.bool (!decide ((((xa.2.2.2.2.1.length : Nat) : Int)) = 0))) (V.pickT rfl hc10 rfl) <| J.nil ?_
     exact ⟨rfl, ⟨(by simp only [hc10]; rfl), rfl, trivial⟩, rfl, rfl⟩
   refine J.skip rfl rfl rfl rfl hc10 <| J.skip rfl rfl rfl rfl hc10 <| J.skip rfl rfl rfl rfl hc10 <| J.skip rfl rfl rfl rfl hc10 <| jv (.bool false) (V.pickF rfl hc10 rfl) <| J.nil ?_
   exact ⟨rfl, ⟨(by simp only [hc10]; rfl), rfl, trivial⟩, rfl, rfl⟩
 intro ρ
 refine J.nil <| cc rfl h (fun hc11 h => ?_) fun hc11 h => ?_
 · refine cr <| ja (ii 3) rfl <| J.nil <| CJ.ret ?_
   obtain rfl := si h
   exact ⟨_, _, Res.one rfl rfl, ⟨3, rfl, rfl, rfl⟩, hpr, fun w hs => (Sep.dropAt 0 rfl hs)⟩
 refine CJ.skip <| CJ.seq <| cr <| jv _ (V.fad underlying58 rfl nz42 rfl) <| jv (sl Aa3 xa.2.2.2.1 Ca3) (V.ld rfl (Ld.sc sc42 (Rd.cl 0 rfl rfl))) <| jv (ii (((xa.2.2.2.1.length : Nat) : Int))) (V.len underlying42 rfl) ?_
 refine jv (.bool (decide (16 < (((xa.2.2.2.1.length : Nat) : Int))))) (V.gtr rfl rfl) <| jm (.bool (decide (16 < (((xa.2.2.2.1.length : Nat) : Int))))) rfl <| J.cut 5 <| jmeet [(89, .bool ((decide (16 < (((xa.2.2.2.1.length : Nat) : Int)))) || (decide (16 < (((xa.2.2.2.2.1.length : Nat) : Int)))))), (1, pt b62)] ?_ ?_
 · rcases bt (decide (16 < (((xa.2.2.2.1.length : Nat) : Int)))) with hc12 | hc12
   · refine J.skip rfl rfl rfl rfl hc12 <| J.skip rfl rfl rfl rfl hc12 <| J.skip rfl rfl rfl rfl hc12 <| J.skip rfl rfl rfl rfl hc12 <| jv (.bool true) (V.pickT rfl hc12 rfl) <| J.nil ?_
     exact ⟨rfl, ⟨(by simp only [hc12]; rfl), rfl, trivial⟩, rfl, rfl⟩
   refine J.run rfl rfl rfl hc12 <| jv _ (V.fad underlying58 rfl nz42 rfl) <| J.run rfl rfl rfl hc12 <| jv (sl Aa4 xa.2.2.2.2.1 Ca4) (V.ld rfl (Ld.sc sc42 (Rd.cl 0 rfl rfl))) <| J.run rfl rfl rfl hc12 <| jv (ii (((xa.2.2.2.2.1.length : Nat) : Int))) (V.len underlying42 rfl) <| J.run rfl rfl rfl hc12 ?_
   refine jv (.bool (decide (16 < (((xa.2.2.2.2.1.length : Nat) : Int))))) (V.gtr rfl rfl) <| jv (.bool (decide (16 < (((xa.2.2.2.2.1.length : Nat) : Int))))) (V.pickF rfl hc12 rfl) <| J.nil ?_
   exact ⟨rfl, ⟨(by simp only [hc12]; rfl), rfl, trivial⟩, rfl, rfl⟩
 intro ρ
 refine jm (.bool ((decide (16 < (((xa.2.2.2.1.length : Nat) : Int)))) || (decide (16 < (((xa.2.2.2.2.1.length : Nat) : Int)))))) rfl <| J.cut 5 <| jmeet [(95, .bool (((decide (16 < (((xa.2.2.2.1.length : Nat) : Int)))) || (decide (16 < (((xa.2.2.2.2.1.length : Nat) : Int))))) || (decide (16 < (((xa.2.2.2.2.2.length : Nat) : Int))))))] ?_ ?_
 · rcases bt ((decide (16 < (((xa.2.2.2.1.length : Nat) : Int)))) || (decide (16 < (((xa.2.2.2.2.1.length : Nat) : Int))))) with hc13 | hc13
   · refine J.skip rfl rfl rfl rfl hc13 <| J.skip rfl rfl rfl rfl hc13 <| J.skip rfl rfl rfl rfl hc13 <| J.skip rfl rfl rfl rfl hc13 <| jv (.bool true) (V.pickT rfl hc13 rfl) <| J.nil ?_
     exact ⟨rfl, ⟨(by simp only [hc13]; rfl), trivial⟩, rfl, rfl⟩
   refine J.run rfl rfl rfl hc13 <| jv _ (V.fad underlying58 rfl nz42 rfl) <| J.run rfl rfl rfl hc13 <| jv (sl Aa5 xa.2.2.2.2.2 Ca5) (V.ld rfl (Ld.sc sc42 (Rd.cl 0 rfl rfl))) <| J.run rfl rfl rfl hc13 <| jv (ii (((xa.2.2.2.2.2.length : Nat) : Int))) (V.len underlying42 rfl) <| J.run rfl rfl rfl hc13 ?_
   refine jv (.bool (decide (16 < (((xa.2.2.2.2.2.length : Nat) : Int))))) (V.gtr rfl rfl) <| jv (.bool (decide (16 < (((xa.2.2.2.2.2.length : Nat) : Int))))) (V.pickF rfl hc13 rfl) <| J.nil ?_
   exact ⟨rfl, ⟨(by simp only [hc13]; rfl), trivial⟩, rfl, rfl⟩
 intro ρ
 refine J.nil <| cc rfl h (fun hc14 h => ?_) fun hc14 h => ?_
 · refine cr <| ja (ii 6) rfl <| J.nil <| CJ.ret ?_
   obtain rfl := si h
   exact ⟨_, _, Res.one rfl rfl, ⟨6, rfl, rfl, rfl⟩, hpr, fun w hs => (Sep.dropAt 0 rfl hs)⟩
 refine CJ.skip <| cr <| ja (ii 0) rfl <| J.nil <| CJ.ret ?_
 obtain rfl := si h
 exact ⟨_, _, Res.one rfl rfl, ⟨0, rfl, rfl, rfl⟩, hpr, fun w hs => (Sep.dropAt 0 rfl hs)⟩
noncomputable def fn_ref19_within_l1 (xa : (List Int)) (xb : Int) : Int → Option (Int ⊕ (Unit ⊕ Bool)) := fun (i1 : Int) => cond (decide (i1 < (((xa.length : Nat) : Int)))) ((getI xa i1).bind fun x2 => (cond (decide (x2 < 0)) (some (true)) ((getI xa i1).bind fun x3 => some (decide (xb ≤ x3)))).bind fun t4 => cond (t4) (some (.inr ((.inr (false))))) (some (.inl (IntKind.wrap .i64 (i1 + 1))))) (some (.inr ((.inl ()))))
noncomputable def fn_ref19_within (xa : (List Int)) (xb : Int) : Option Bool :=
  (loop (fn_ref19_within_l1 xa xb) 0 : Option (Unit ⊕ Bool)).bind fun o => match o with | .inr r => some r | .inl () => some (true)
theorem ref19_within_ok {K : Hp} {xa : (List Int)} {xb : Int} {Aa0 : Option Addr} {Ca0 : Nat} (Ga0 : Is K Yq7 [sl Aa0 xa Ca0] xa) {r : Bool} (h : fn_ref19_within xa xb = some r) :
    Tr Tryz.prog 110 #[sl Aa0 xa Ca0, ii xb] K [] (fun v K' L' => (∃ (t1 : Bool), t1 = r ∧ .bool t1 = v ∧ L' = []) ∧ K = K') := by
 refine Tr.k <| Tr.of func110 rfl ntmps110 rfl fun E F => ?_
 unfold fn_ref19_within at h
 refine cr <| ja (.bool false) rfl <| J.nil <| CJ.seq <| CJ.seq <| CJ.region ?_
 refine ja (ii 0) rfl <| J.nil ?_
 obtain ⟨o2, ho5, h⟩ := ob h
 refine CJ.joinN (o := o2) (fun s ρ K' L' => () = s ∧ Fits [] ρ ∧ K = K' ∧ F = L') ?_ ?_
 · refine CJ.block <| CJ.loop (fun s ρ K' L' => ∃ (i6 : Int), i6 = s ∧ Fits [(0, sl Aa0 xa Ca0), (1, ii xb), (5, ii i6)] ρ ∧ K = K' ∧ F = L') ho5 ⟨0, rfl, rt3, rfl, rfl⟩ ?_
   rintro s ρ _ _ r7 ⟨i6, rfl, hf9, rfl, rfl⟩ h10
   obtain ⟨ρ, rfl⟩ := hf9.ex
   refine CJ.seq <| cr <| jm (ii i6) rfl <| jm (sl Aa0 xa Ca0) rfl <| jv (ii (((xa.length : Nat) : Int))) (V.len underlying42 rfl) <| jv (.bool (decide (i6 < (((xa.length : Nat) : Int))))) (V.lss rfl rfl) ?_
   refine J.nil <| cc rfl h10 (fun hc11 h10 => ?_) fun hc11 h10 => ?_
   · refine CJ.skip <| CJ.seq <| CJ.block <| cr <| jm (sl Aa0 xa Ca0) rfl <| jm (ii i6) rfl ?_
     obtain ⟨x12, hx13, h10⟩ := ob h10
     obtain ⟨p14, p15, p17⟩ := getI_some hx13
     obtain ⟨b18, o19, e20, a21⟩ := (Ga0).at p15
     refine jv _ (V.iad underlying42 sz3 rfl e20 rfl p14 p17) <| jv (ii x12) (V.ld rfl (Ld.sc sc3 (Rd.k (a21).int hpr))) <| jv (.bool (decide (x12 < 0))) (V.lss rfl rfl) <| jm (.bool (decide (x12 < 0))) rfl <| J.cut 7 ?_
     obtain ⟨t22, ht23, h10⟩ := ob h10
     refine jmeet [(24, .bool t22), (0, sl Aa0 xa Ca0), (1, ii xb), (5, ii i6)] ?_ ?_
     · rcases bt (decide (x12 < 0)) with hc24 | hc24
       · have ht23 := ct hc24 ht23
         refine J.skip rfl rfl rfl rfl hc24 <| J.skip rfl rfl rfl rfl hc24 <| J.skip rfl rfl rfl rfl hc24 <| J.skip rfl rfl rfl rfl hc24 <| J.skip rfl rfl rfl rfl hc24 <| J.skip rfl rfl rfl rfl hc24 <| jv (.bool true) (V.pickT rfl hc24 rfl) ?_
         refine J.nil ?_
         obtain rfl := si ht23
         exact ⟨rfl, rt4, rfl, rfl⟩
       have ht23 := cf hc24 ht23
       refine J.run rfl rfl rfl hc24 <| jm (sl Aa0 xa Ca0) rfl <| J.run rfl rfl rfl hc24 <| jm (ii i6) rfl <| J.run rfl rfl rfl hc24 ?_
       obtain ⟨x25, hx26, ht23⟩ := ob ht23
       obtain ⟨p27, p28, p29⟩ := getI_some hx26
       obtain ⟨b30, o31, e33, a34⟩ := (Ga0).at p28
       refine jv _ (V.iad underlying42 sz3 rfl e33 rfl p27 p29) <| J.run rfl rfl rfl hc24 <| jv (ii x25) (V.ld rfl (Ld.sc sc3 (Rd.k (a34).int hpr))) <| J.run rfl rfl rfl hc24 <| jm (ii xb) rfl <| J.run rfl rfl rfl hc24 <| jv (.bool (decide (xb ≤ x25))) (V.geq rfl rfl) ?_
       refine jv (.bool (decide (xb ≤ x25))) (V.pickF rfl hc24 rfl) <| J.nil ?_
       obtain rfl := si ht23
       exact ⟨rfl, rt4, rfl, rfl⟩
     intro ρ
     refine J.nil <| cc rfl h10 (fun hc35 h10 => ?_) fun hc35 h10 => ?_
     · refine cr <| ja (.bool false) rfl <| J.nil <| CJ.ret ?_
       obtain rfl := si h10
       refine ⟨nofun, fun e => ?_⟩
       subst e
       refine .inr ⟨nofun, ?_⟩
       obtain rfl := si h
       exact ⟨_, _, Res.one rfl rfl, ⟨false, rfl, rfl, rfl⟩, hpr, fun w hs => hs⟩
     refine CJ.skip <| CJ.region <| jm (ii i6) rfl <| jv (ii (IntKind.wrap .i64 (i6 + 1))) (V.add rfl rfl) <| ja (ii (IntKind.wrap .i64 (i6 + 1))) rfl <| J.nil ?_
     obtain rfl := si h10
     exact ⟨rfl, ⟨IntKind.wrap .i64 (i6 + 1), rfl, rt3, rfl, rfl⟩⟩
   refine CJ.exit ?_
   obtain rfl := si h10
   refine ⟨nofun, fun e => ?_⟩
   subst e
   exact .inl ⟨rfl, _, rfl, ⟨rfl, trivial, rfl, rfl⟩⟩
 rintro s ρ _ _ ho36 ⟨rfl, hf37, rfl, rfl⟩
 subst ho36
 obtain ⟨ρ, rfl⟩ := hf37.ex
 refine PJ.done <| cr <| ja (.bool true) rfl <| J.nil <| CJ.ret ?_
 obtain rfl := si h
 exact ⟨_, _, Res.one rfl rfl, ⟨true, rfl, rfl, rfl⟩, hpr, fun w hs => hs⟩
noncomputable def fn_ref15_Subst_l1 (xa : Tq3) (xb : (List Int)) : (Tq3 × Int) → Option ((Tq3 × Int) ⊕ (Tq3 ⊕ (Tq3 × Int))) := fun ((l1, i2) : (Tq3 × Int)) => cond (decide (i2 < (((xa.length : Nat) : Int)))) ((getI xa i2).bind fun x3 => cond ((decide (x3.1 < 0)) || (decide ((((xb.length : Nat) : Int)) ≤ x3.1))) (some (.inr ((.inr (([], 7)))))) ((getI xb x3.1).bind fun x4 => (getI xa i2).bind fun x5 => (app l1 (([(x4, x5.2)] : List (Int × Bool)))).bind fun z6 => some (.inl ((z6, IntKind.wrap .i64 (i2 + 1)))))) (some (.inr (.inl l1)))
noncomputable def fn_ref15_Subst (xa : Tq3) (xb : (List Int)) : Option ((Tq3 × Int)) :=
  (loop (fn_ref15_Subst_l1 xa xb) ((([] : List (Int × Bool)), 0)) : Option (Tq3 ⊕ (Tq3 × Int))).bind fun o => match o with | .inr r => some r | .inl l1 => some ((l1, 0))
theorem ref15_Subst_ok {K : Hp} {xa : Tq3} {xb : (List Int)} {Aa0 : Option Addr} {Ca0 : Nat} {Ab0 : Option Addr} {Cb0 : Nat} (Ga0 : Is K (.sl Yq1) [sl Aa0 xa Ca0] xa) (Gb0 : Is K Yq7 [sl Ab0 xb Cb0] xb) {r : (Tq3 × Int)} (h : fn_ref15_Subst xa xb = some r) :
    Tr Tryz.prog 121 #[.agg #[sl Aa0 xa Ca0], sl Ab0 xb Cb0] K [] (fun v K' L' => (∃ (l1 : Tq3) (i6 : Int) (ad7 : Option Addr) (cp9 : Nat), (l1, i6) = r ∧ .tuple #[.agg #[sl ad7 l1 cp9], ii i6] = v ∧ L' = [Row Hp.nil 150 Yq1 (sl ad7 l1 cp9) l1]) ∧ K = K') := by
 refine Tr.k <| Tr.of func121 rfl ntmps121 rfl fun E F => ?_
 unfold fn_ref15_Subst at h
 refine cr <| jbx [sl Aa0 xa Ca0] rfl rfl fun b10 => jal inf26 [nos] rfl fun b11 => ja (ii 0) rfl <| J.nil <| CJ.seq ?_
 refine CJ.region ?_
 refine J.op rfl (A.lit (K0 := Hp.nil) (ty := Yq1) (xs := ([] : List (Int × Bool))) underlying24 inf150 rfl (by decide) rfl rfl rfl rfl rfl (by decide)) ?_
 rintro _ _ _ ⟨b12, rfl, rfl, rfl⟩
 have hn13 : ([] : List (Int × Bool)) ≠ [] → ∃ g, (some ⟨b12, 0, none⟩ : Option Addr) = some ⟨g, 0, none⟩ := fun _ => ⟨b12, rfl⟩
 refine ja (.slice (some ⟨b12, 0, none⟩) ((([] : List (Int × Bool))).length) 0) rfl <| J.nil <| CJ.seq <| cr <| ja (ii 0) rfl <| J.nil ?_
 obtain ⟨o14, ho15, h⟩ := ob h
 refine CJ.joinN (o := o14) (fun s ρ K' L' => ∃ (l17 : Tq3) (ad18 : Option Addr) (cp19 : Nat), l17 = s ∧ Fits [(4, pt b11), (6, sl ad18 l17 cp19)] ρ ∧ K = K' ∧ L' = Cl b11 26 [nos] :: Row Hp.nil 150 Yq1 (sl ad18 l17 cp19) l17 :: F) ?_ ?_
 · refine CJ.block <| CJ.front 1 rfl <| CJ.front 2 rfl <| CJ.loop (fun s ρ K' L' => ∃ (l20 : Tq3) (i21 : Int) (ad22 : Option Addr) (cp23 : Nat), (l20, i21) = s ∧ Fits [(1, sl Ab0 xb Cb0), (2, pt b10), (4, pt b11), (6, sl ad22 l20 cp23), (7, ii i21)] ρ ∧ K = K' ∧ L' = Cl b10 26 [sl Aa0 xa Ca0] :: Cl b11 26 [nos] :: Row Hp.nil 150 Yq1 (sl ad22 l20 cp23) l20 :: F) ho15 ⟨([] : List (Int × Bool)), 0, (some ⟨b12, 0, none⟩), 0, rfl, rt5, rfl, rfl⟩ ?_
   rintro s ρ _ _ r25 ⟨l20, i21, ad22, cp23, rfl, hf27, rfl, rfl⟩ h28
   obtain ⟨ρ, rfl⟩ := hf27.ex
   refine CJ.front 2 rfl <| CJ.wit Row.hn fun hn29 => CJ.seq <| cr <| jm (ii i21) rfl <| jv _ (V.fad underlying26 rfl nz24 rfl) ?_
   refine jv (sl Aa0 xa Ca0) (V.ld rfl (Ld.sc sc24 (Rd.cl 1 rfl rfl))) <| jv (ii (((xa.length : Nat) : Int))) (V.len underlying24 rfl) <| jv (.bool (decide (i21 < (((xa.length : Nat) : Int))))) (V.lss rfl rfl) <| J.nil <| cc rfl h28 (fun hc30 h28 => ?_) fun hc30 h28 => ?_
   · refine CJ.skip <| CJ.seq <| CJ.block <| cr <| jv _ (V.fad underlying26 rfl nz24 rfl) <| jv (sl Aa0 xa Ca0) (V.ld rfl (Ld.sc sc24 (Rd.cl 1 rfl rfl))) ?_
     refine jm (ii i21) rfl ?_
     obtain ⟨x31, hx33, h28⟩ := ob h28
     obtain ⟨p34, p35, p36⟩ := getI_some hx33
     obtain ⟨b37, o38, e39, a40⟩ := (Ga0).at p35
     refine jv _ (V.iad underlying24 sz150 rfl e39 rfl p34 p36) <| jv _ (V.fad underlying150 rfl nz3 rfl) <| jv (ii x31.1) (V.ld rfl (Ld.sc sc3 (Rd.k ((a40).fst).int hpr))) <| ja (ii x31.1) rfl <| J.nil <| CJ.seq <| CJ.seq ?_
     refine CJ.region <| jm (ii x31.1) rfl <| jv (.bool (decide (x31.1 < 0))) (V.lss rfl rfl) <| jm (.bool (decide (x31.1 < 0))) rfl <| J.cut 5 <| jmeet [(30, .bool ((decide (x31.1 < 0)) || (decide ((((xb.length : Nat) : Int)) ≤ x31.1)))), (1, sl Ab0 xb Cb0), (2, pt b10), (4, pt b11), (6, sl ad22 l20 cp23), (7, ii i21), (8, ii x31.1)] ?_ ?_
     · rcases bt (decide (x31.1 < 0)) with hc41 | hc41
       · refine J.skip rfl rfl rfl rfl hc41 <| J.skip rfl rfl rfl rfl hc41 <| J.skip rfl rfl rfl rfl hc41 <| J.skip rfl rfl rfl rfl hc41 <| jv (.bool true) (V.pickT rfl hc41 rfl) <| J.nil ?_
         exact ⟨rfl, ⟨(by simp only [hc41]; rfl), rfl, rfl, rfl, rfl, rfl, rfl, trivial⟩, rfl, rfl⟩
       refine J.run rfl rfl rfl hc41 <| jm (ii x31.1) rfl <| J.run rfl rfl rfl hc41 <| jm (sl Ab0 xb Cb0) rfl <| J.run rfl rfl rfl hc41 <| jv (ii (((xb.length : Nat) : Int))) (V.len underlying42 rfl) <| J.run rfl rfl rfl hc41 ?_
       refine jv (.bool (decide ((((xb.length : Nat) : Int)) ≤ x31.1))) (V.geq rfl rfl) <| jv (.bool (decide ((((xb.length : Nat) : Int)) ≤ x31.1))) (V.pickF rfl hc41 rfl) <| J.nil ?_
       exact ⟨rfl, ⟨(by simp only [hc41]; rfl), rfl, rfl, rfl, rfl, rfl, rfl, trivial⟩, rfl, rfl⟩
     intro ρ
     refine J.nil <| cc rfl h28 (fun hc43 h28 => ?_) fun hc43 h28 => ?_
     · refine cr <| jv (.agg #[nos]) (V.build inf26 places26 rfl rfl) <| J.front 2 rfl <| js [nos] sz26 rfl rfl rfl rfl rfl rfl <| ja (ii 7) rfl <| J.nil ?_
       refine CJ.by (fun w hs => Sep.rowNil (e := 150) (t := Yq1) hs) <| CJ.ret ?_
       obtain rfl := si h28
       refine ⟨nofun, fun e => ?_⟩
       subst e
       refine .inr ⟨nofun, ?_⟩
       obtain rfl := si h
       exact ⟨_, _, Res.two rfl ⟨_, _, rfl, Ld.agg (cs := [nos]) underlying26 sz26 rfl (Rd.cls 1 0 rfl rfl)⟩ rfl, ⟨[], 7, none, 0, rfl, rfl, rfl⟩, hpr, fun w hs => (Sep.dropAt 1 rfl (Sep.dropAt 1 rfl (Sep.dropAt 1 rfl hs)))⟩
     refine CJ.skip <| CJ.mix [Row Hp.nil 150 Yq1 (sl ad22 l20 cp23) l20, Cl b10 26 [sl Aa0 xa Ca0], Cl b11 26 [nos]] [([0, 1, 2, 3, 4, 5, 6, 7, 8, 9, 10, 11], 12)] [] [13, 14] mixO (by decide +kernel) ⟨0, rfl, 0, rfl, 0, rfl, trivial⟩ rfl rfl rfl <| JM.cons <| qm (sl ad22 l20 cp23) rfl <| qm (sl Ab0 xb Cb0) rfl <| qm (ii x31.1) rfl ?_
     obtain ⟨x44, hx45, h28⟩ := ob h28
     obtain ⟨p46, p47, p48⟩ := getI_some hx45
     obtain ⟨b49, o50, e51, a52⟩ := (Gb0).at p47
     refine qv _ (V.iad underlying42 sz3 rfl e51 rfl p46 p48) <| qv (ii x44) (V.ld rfl (Ld.sc sc3 (Rd.k (a52).int hpr))) <| qv _ (V.fad underlying26 rfl nz24 rfl) <| qv (sl Aa0 xa Ca0) (V.ld rfl (Ld.sc sc24 (Rd.cl 1 rfl rfl))) <| qm (ii i21) rfl ?_
     obtain ⟨x53, hx54, h28⟩ := ob h28
     obtain ⟨p55, p56, p57⟩ := getI_some hx54
     obtain ⟨b58, o59, e60, a61⟩ := (Ga0).at p56
     refine qv _ (V.iad underlying24 sz150 rfl e60 rfl p55 p57) <| qv _ (V.fad underlying150 rfl nz4 rfl) <| qv (.bool x53.2) (V.ld rfl (Ld.sc sc4 (Rd.k (((a61).snd).one).bool hpr))) <| qv (.agg #[ii x44, .bool x53.2]) (V.build inf150 places150 rfl rfl) <| JQ.nil ?_
     refine JA.op rfl (A.lit (K0 := Hp.nil) (ty := Yq1) (xs := ([(x44, x53.2)] : List (Int × Bool))) underlying24 inf150 rfl (by decide) rfl rfl rfl ⟨_, _, rfl, ⟨_, _, rfl, rfl, rfl, rfl⟩, rfl⟩ rfl (by decide)) ?_
     rintro _ _ _ ⟨b62, rfl, rfl, rfl⟩
     have hn63 : ([(x44, x53.2)] : List (Int × Bool)) ≠ [] → ∃ g, (some ⟨b62, 0, none⟩ : Option Addr) = some ⟨g, 0, none⟩ := fun _ => ⟨b62, rfl⟩
     refine ⟨fun w hs => Hold.sub hpr ⟨1, rfl, 1, rfl, 1, rfl, trivial⟩ hs, ?_⟩
     refine JM.nil <| JQ.nil ?_
     obtain ⟨z65, hz66, h28⟩ := ob h28
     refine J.front 1 rfl <| J.op rfl (A.appR (Kr := Hp.nil) underlying24 inf150 rfl rfl (by decide) (by decide) rfl rfl (Els.flat rfl) (Els.flat rfl) hz66) ?_
     rintro _ _ _ ⟨v67, rfl, rfl, rfl⟩
     refine J.wit Row.form ?_
     rintro ⟨ad68, cp69, rfl, _, _, hn70⟩
     refine ja (sl ad68 z65 cp69) rfl <| J.nil <| CJ.region <| jm (ii i21) rfl <| jv (ii (IntKind.wrap .i64 (i21 + 1))) (V.add rfl rfl) <| ja (ii (IntKind.wrap .i64 (i21 + 1))) rfl <| J.front 2 rfl ?_
     refine J.front 2 rfl <| J.nil ?_
     obtain rfl := si h28
     exact ⟨rfl, ⟨z65, IntKind.wrap .i64 (i21 + 1), ad68, cp69, rfl, rt5, rfl, rfl⟩⟩
   refine CJ.dropAt 1 rfl <| CJ.front 1 rfl <| CJ.exit ?_
   obtain rfl := si h28
   refine ⟨nofun, fun e => ?_⟩
   subst e
   exact .inl ⟨rfl, _, rfl, ⟨l20, ad22, cp23, rfl, rt2, rfl, rfl⟩⟩
 rintro s ρ _ _ ho71 ⟨l17, ad18, cp19, rfl, hf72, rfl, rfl⟩
 subst ho71
 obtain ⟨ρ, rfl⟩ := hf72.ex
 refine PJ.front 1 rfl <| PJ.wit Row.hn fun hn73 => PJ.done <| cr <| jm (sl ad18 l17 cp19) rfl <| jv (.agg #[sl ad18 l17 cp19]) (V.build inf26 places26 rfl rfl) ?_
 refine J.front 1 rfl <| js [sl ad18 l17 cp19] sz26 rfl rfl rfl rfl rfl rfl <| ja (ii 0) rfl <| J.nil <| CJ.ret ?_
 obtain rfl := si h
 exact ⟨_, _, Res.two rfl ⟨_, _, rfl, Ld.agg (cs := [sl ad18 l17 cp19]) underlying26 sz26 rfl (Rd.cls 0 0 rfl rfl)⟩ rfl, ⟨l17, 0, ad18, cp19, rfl, rfl, rfl⟩, hpr, fun w hs => (Sep.dropAt 0 rfl hs)⟩
noncomputable def fn_ref17_Call_l1 (xa : Tq6) (xb : (List Int)) : Tq10 → Option (Tq10 ⊕ (List Tq2)) := fun ((l1, i2) : Tq10) => cond (decide (i2 < (((xa.2.1.length : Nat) : Int)))) ((getI xa.2.1 i2).bind fun x3 => (getI xb x3.1).bind fun x4 => (getI xa.2.1 i2).bind fun x5 => (getI xb x5.2).bind fun x6 => (app l1 (([(x4, x6, 4, i2, false)] : List Tq2))).bind fun z7 => some (.inl ((z7, IntKind.wrap .i64 (i2 + 1))))) (some (.inr (l1)))
noncomputable def fn_ref17_Call_l2 (xa : Tq6) (xb : (List Int)) (xc : (List Tq3)) : Tq10 → Option (Tq10 ⊕ ((List Tq2) ⊕ Tq10)) := fun ((l1, i2) : Tq10) => cond (decide (i2 < (((xa.2.2.1.length : Nat) : Int)))) ((getI xa.2.2.1 i2).bind fun x3 => (fn_ref15_Subst x3 xb).bind fun (l4, i5) => (getI xc i2).bind fun x6 => (fn_ref16_Flow x6 l4 5 (IntKind.wrap .i64 (16 * i2))).bind fun (l7, i9) => cond (!decide (i9 = 0)) (some (.inr ((.inr (([], i9)))))) ((app l1 l7).bind fun z10 => some (.inl ((z10, IntKind.wrap .i64 (i2 + 1)))))) (some (.inr (.inl l1)))
noncomputable def fn_ref17_Call (xa : Tq6) (xb : (List Int)) (xc : (List Tq3)) (xd : Tq3) : Option (Tq10) :=
  (fn_ref17_Check (xa.1, xa.2.1, xa.2.2.1, xa.2.2.2)).bind fun i1 => cond (!decide (i1 = 0)) (some (([], i1))) (cond ((!decide ((((xb.length : Nat) : Int)) = xa.1)) || (!decide ((((xc.length : Nat) : Int)) = (((xa.2.2.1.length : Nat) : Int))))) (some (([], 2))) ((loop (fn_ref17_Call_l1 xa xb) ((([] : List Tq2), 0)) : Option ((List Tq2))).bind fun l2 => (loop (fn_ref17_Call_l2 xa xb xc) (l2, 0) : Option ((List Tq2) ⊕ Tq10)).bind fun o => match o with | .inr r => some r | .inl l3 => (fn_ref15_Subst xa.2.2.2 xb).bind fun (l4, i5) => (fn_ref16_Flow l4 xd 6 0).bind fun (l6, i7) => cond (!decide (i7 = 0)) (some (([], i7))) ((app l3 l6).bind fun z9 => some ((z9, 0)))))
theorem ref17_Call_ok {K : Hp} {xa : Tq6} {xb : (List Int)} {xc : (List Tq3)} {xd : Tq3} {Aa1 : Option Addr} {Ca1 : Nat} {Aa2 : Option Addr} {Ca2 : Nat} {Aa3 : Option Addr} {Ca3 : Nat} {Ab0 : Option Addr} {Cb0 : Nat} {Ac0 : Option Addr} {Cc0 : Nat} {Ad0 : Option Addr} {Cd0 : Nat} (Ga1 : Is K (.sl Yq5) [sl Aa1 xa.2.1 Ca1] xa.2.1) (Ga2 : Is K Yq8 [sl Aa2 xa.2.2.1 Ca2] xa.2.2.1) (Ga3 : Is K (.sl Yq1) [sl Aa3 xa.2.2.2 Ca3] xa.2.2.2) (Gb0 : Is K Yq7 [sl Ab0 xb Cb0] xb) (Gc0 : Is K Yq8 [sl Ac0 xc Cc0] xc) (Gd0 : Is K (.sl Yq1) [sl Ad0 xd Cd0] xd) {r : Tq10} (h : fn_ref17_Call xa xb xc xd = some r) :
    Tr Tryz.prog 111 #[.agg #[ii xa.1, sl Aa1 xa.2.1 Ca1, sl Aa2 xa.2.2.1 Ca2, sl Aa3 xa.2.2.2 Ca3], sl Ab0 xb Cb0, sl Ac0 xc Cc0, .agg #[sl Ad0 xd Cd0]] K [] (fun v K' L' => (∃ (l7 : (List Tq2)) (i9 : Int) (ad10 : Option Addr) (cp11 : Nat), (l7, i9) = r ∧ .tuple #[sl ad10 l7 cp11, ii i9] = v ∧ L' = [Row Hp.nil 169 Yq2 (sl ad10 l7 cp11) l7]) ∧ K = K') := by
 refine Tr.k <| Tr.of func111 rfl ntmps111 rfl fun E F => ?_
 unfold fn_ref17_Call at h
 refine cr <| jbx [ii xa.1, sl Aa1 xa.2.1 Ca1, sl Aa2 xa.2.2.1 Ca2, sl Aa3 xa.2.2.2 Ca3] rfl rfl fun b12 => jbx [sl Ad0 xd Cd0] rfl rfl fun b13 => ja (nos) rfl <| ja (ii 0) rfl <| J.nil ?_
 refine cr <| jv (.agg #[ii xa.1, sl Aa1 xa.2.1 Ca1, sl Aa2 xa.2.2.1 Ca2, sl Aa3 xa.2.2.2 Ca3]) (V.ld rfl (Ld.agg (cs := [ii xa.1, sl Aa1 xa.2.1 Ca1, sl Aa2 xa.2.2.1 Ca2, sl Aa3 xa.2.2.2 Ca3]) underlying55 sz55 rfl (Rd.cls 1 0 rfl rfl))) ?_
 obtain ⟨r14, hr15, h⟩ := ob h
 refine J.op rfl (A.call (L1 := []) call85 rfl (ref17_Check_ok Ga1 Ga2 Ga3 hr15) rfl rfl) ?_
 rintro _ _ _ ⟨v17, _, rfl, ⟨⟨i18, rfl, rfl, rfl⟩, rfl⟩, _, rfl⟩
 refine ja (ii i18) rfl <| J.nil <| CJ.seq <| cr <| jm (ii i18) rfl <| jv (.bool (!decide (i18 = 0))) (V.neq rfl rfl) ?_
 refine J.nil <| cc rfl h (fun hc19 h => ?_) fun hc19 h => ?_
 · refine cr <| jm (ii i18) rfl <| ja (nos) rfl <| ja (ii i18) rfl <| J.nil <| CJ.by (fun w hs => Sep.rowNil (e := 169) (t := Yq2) hs) ?_
   refine CJ.ret ?_
   obtain rfl := si h
   exact ⟨_, _, Res.two rfl rfl rfl, ⟨[], i18, none, 0, rfl, rfl, rfl⟩, hpr, fun w hs => (Sep.dropAt 1 rfl (Sep.dropAt 1 rfl hs))⟩
 refine CJ.skip <| CJ.seq <| cr <| jm (sl Ab0 xb Cb0) rfl <| jv (ii (((xb.length : Nat) : Int))) (V.len underlying42 rfl) <| jv _ (V.fad underlying55 rfl nz3 rfl) ?_
 refine jv (ii xa.1) (V.ld rfl (Ld.sc sc3 (Rd.cl 1 rfl rfl))) <| jv (.bool (!decide ((((xb.length : Nat) : Int)) = xa.1))) (V.neq rfl rfl) <| jm (.bool (!decide ((((xb.length : Nat) : Int)) = xa.1))) rfl <| J.cut 7 <| jmeet [(39, .bool ((!decide ((((xb.length : Nat) : Int)) = xa.1)) || (!decide ((((xc.length : Nat) : Int)) = (((xa.2.2.1.length : Nat) : Int)))))), (1, sl Ab0 xb Cb0), (2, sl Ac0 xc Cc0), (4, pt b12), (7, pt b13)] ?_ ?_
 · rcases bt (!decide ((((xb.length : Nat) : Int)) = xa.1)) with hc20 | hc20
   · refine J.skip rfl rfl rfl rfl hc20 <| J.skip rfl rfl rfl rfl hc20 <| J.skip rfl rfl rfl rfl hc20 <| J.skip rfl rfl rfl rfl hc20 <| J.skip rfl rfl rfl rfl hc20 <| J.skip rfl rfl rfl rfl hc20 <| jv (.bool true) (V.pickT rfl hc20 rfl) ?_
     refine J.nil ?_
     exact ⟨rfl, ⟨(by simp only [hc20]; rfl), rfl, rfl, rfl, rfl, trivial⟩, rfl, rfl⟩
   refine J.run rfl rfl rfl hc20 <| jm (sl Ac0 xc Cc0) rfl <| J.run rfl rfl rfl hc20 <| jv (ii (((xc.length : Nat) : Int))) (V.len underlying23 rfl) <| J.run rfl rfl rfl hc20 <| jv _ (V.fad underlying55 rfl nz23 rfl) <| J.run rfl rfl rfl hc20 ?_
   refine jv (sl Aa2 xa.2.2.1 Ca2) (V.ld rfl (Ld.sc sc23 (Rd.cl 1 rfl rfl))) <| J.run rfl rfl rfl hc20 <| jv (ii (((xa.2.2.1.length : Nat) : Int))) (V.len underlying23 rfl) <| J.run rfl rfl rfl hc20 <| jv (.bool (!decide ((((xc.length : Nat) : Int)) = (((xa.2.2.1.length : Nat) : Int))))) (V.neq rfl rfl) <| jv (.bool (!decide ((((xc.length : Nat) : Int)) = (((xa.2.2.1.length : Nat) : Int))))) (V.pickF rfl hc20 rfl) <| J.nil ?_
   exact ⟨rfl, ⟨(by simp only [hc20]; rfl), rfl, rfl, rfl, rfl, trivial⟩, rfl, rfl⟩
 intro ρ
 refine J.nil <| cc rfl h (fun hc21 h => ?_) fun hc21 h => ?_
 · refine cr <| ja (nos) rfl <| ja (ii 2) rfl <| J.nil <| CJ.by (fun w hs => Sep.rowNil (e := 169) (t := Yq2) hs) <| CJ.ret ?_
   obtain rfl := si h
   exact ⟨_, _, Res.two rfl rfl rfl, ⟨[], 2, none, 0, rfl, rfl, rfl⟩, hpr, fun w hs => (Sep.dropAt 1 rfl (Sep.dropAt 1 rfl hs))⟩
 refine CJ.skip <| CJ.seq <| CJ.region ?_
 refine J.op rfl (A.lit (K0 := Hp.nil) (ty := Yq2) (xs := ([] : List Tq2)) underlying132 inf169 rfl (by decide) rfl rfl rfl rfl rfl (by decide)) ?_
 rintro _ _ _ ⟨b24, rfl, rfl, rfl⟩
 have hn25 : ([] : List Tq2) ≠ [] → ∃ g, (some ⟨b24, 0, none⟩ : Option Addr) = some ⟨g, 0, none⟩ := fun _ => ⟨b24, rfl⟩
 refine ja (.slice (some ⟨b24, 0, none⟩) ((([] : List Tq2)).length) 0) rfl <| J.nil <| CJ.seq <| cr <| ja (ii 0) rfl <| J.nil ?_
 obtain ⟨o27, ho28, h⟩ := ob h
 refine CJ.meetN (fun ρ K' L' => ∃ (l29 : (List Tq2)) (ad30 : Option Addr) (cp31 : Nat), l29 = o27 ∧ Fits [(1, sl Ab0 xb Cb0), (2, sl Ac0 xc Cc0), (4, pt b12), (7, pt b13), (11, sl ad30 l29 cp31)] ρ ∧ K = K' ∧ L' = Cl b12 55 [ii xa.1, sl Aa1 xa.2.1 Ca1, sl Aa2 xa.2.2.1 Ca2, sl Aa3 xa.2.2.2 Ca3] :: Cl b13 26 [sl Ad0 xd Cd0] :: Row Hp.nil 169 Yq2 (sl ad30 l29 cp31) l29 :: F) ?_ ?_
 · refine CJ.block <| CJ.front 1 rfl <| CJ.front 2 rfl <| CJ.loop (fun s ρ K' L' => ∃ (l33 : (List Tq2)) (i34 : Int) (ad35 : Option Addr) (cp36 : Nat), (l33, i34) = s ∧ Fits [(1, sl Ab0 xb Cb0), (2, sl Ac0 xc Cc0), (4, pt b12), (7, pt b13), (11, sl ad35 l33 cp36), (12, ii i34)] ρ ∧ K = K' ∧ L' = Cl b12 55 [ii xa.1, sl Aa1 xa.2.1 Ca1, sl Aa2 xa.2.2.1 Ca2, sl Aa3 xa.2.2.2 Ca3] :: Cl b13 26 [sl Ad0 xd Cd0] :: Row Hp.nil 169 Yq2 (sl ad35 l33 cp36) l33 :: F) ho28 ⟨([] : List Tq2), 0, (some ⟨b24, 0, none⟩), 0, rfl, rt6, rfl, rfl⟩ ?_
   rintro s ρ _ _ r37 ⟨l33, i34, ad35, cp36, rfl, hf38, rfl, rfl⟩ h39
   obtain ⟨ρ, rfl⟩ := hf38.ex
   refine CJ.front 2 rfl <| CJ.wit Row.hn fun hn40 => CJ.seq <| cr <| jm (ii i34) rfl <| jv _ (V.fad underlying55 rfl nz22 rfl) ?_
   refine jv (sl Aa1 xa.2.1 Ca1) (V.ld rfl (Ld.sc sc22 (Rd.cl 1 rfl rfl))) <| jv (ii (((xa.2.1.length : Nat) : Int))) (V.len underlying22 rfl) <| jv (.bool (decide (i34 < (((xa.2.1.length : Nat) : Int))))) (V.lss rfl rfl) <| J.nil <| cc rfl h39 (fun hc41 h39 => ?_) fun hc41 h39 => ?_
   · refine CJ.skip <| CJ.seq <| CJ.block <| CJ.mix [Row Hp.nil 169 Yq2 (sl ad35 l33 cp36) l33, Cl b12 55 [ii xa.1, sl Aa1 xa.2.1 Ca1, sl Aa2 xa.2.2.1 Ca2, sl Aa3 xa.2.2.2 Ca3], Cl b13 26 [sl Ad0 xd Cd0]] [([0, 1, 2, 3, 4, 5, 6, 7, 8, 9, 10, 11, 12, 13, 14, 15, 16, 17, 18, 19, 20], 21)] [] [22, 23] mixO (by decide +kernel) ⟨0, rfl, 0, rfl, 0, rfl, trivial⟩ rfl rfl rfl <| JM.cons <| qm (sl ad35 l33 cp36) rfl <| qm (sl Ab0 xb Cb0) rfl ?_
     refine qv _ (V.fad underlying55 rfl nz22 rfl) <| qv (sl Aa1 xa.2.1 Ca1) (V.ld rfl (Ld.sc sc22 (Rd.cl 1 rfl rfl))) <| qm (ii i34) rfl ?_
     obtain ⟨x43, hx44, h39⟩ := ob h39
     obtain ⟨p45, p46, p47⟩ := getI_some hx44
     obtain ⟨b48, o49, e50, a51⟩ := (Ga1).at p46
     refine qv _ (V.iad underlying22 sz126 rfl e50 rfl p45 p47) <| qv _ (V.fad underlying126 rfl nz3 rfl) <| qv (ii x43.1) (V.ld rfl (Ld.sc sc3 (Rd.k ((a51).fst).int hpr))) ?_
     obtain ⟨x52, hx53, h39⟩ := ob h39
     obtain ⟨p54, p56, p57⟩ := getI_some hx53
     obtain ⟨b58, o59, e60, a61⟩ := (Gb0).at p56
     refine qv _ (V.iad underlying42 sz3 rfl e60 rfl p54 p57) <| qv (ii x52) (V.ld rfl (Ld.sc sc3 (Rd.k (a61).int hpr))) <| qm (sl Ab0 xb Cb0) rfl <| qv _ (V.fad underlying55 rfl nz22 rfl) <| qv (sl Aa1 xa.2.1 Ca1) (V.ld rfl (Ld.sc sc22 (Rd.cl 1 rfl rfl))) <| qm (ii i34) rfl ?_
     obtain ⟨x62, hx63, h39⟩ := ob h39
     obtain ⟨p65, p66, p67⟩ := getI_some hx63
     obtain ⟨b68, o69, e70, a71⟩ := (Ga1).at p66
     refine qv _ (V.iad underlying22 sz126 rfl e70 rfl p65 p67) <| qv _ (V.fad underlying126 rfl nz3 rfl) <| qv (ii x62.2) (V.ld rfl (Ld.sc sc3 (Rd.k (((a71).snd).one).int hpr))) ?_
     obtain ⟨x72, hx73, h39⟩ := ob h39
     obtain ⟨p74, p75, p76⟩ := getI_some hx73
     obtain ⟨b77, o78, e79, a80⟩ := (Gb0).at p75
     refine qv _ (V.iad underlying42 sz3 rfl e79 rfl p74 p76) <| qv (ii x72) (V.ld rfl (Ld.sc sc3 (Rd.k (a80).int hpr))) <| qm (ii i34) rfl <| qv (.agg #[ii x52, ii x72, ii 4, ii i34, .bool false]) (V.build inf169 places169 rfl rfl) <| JQ.nil ?_
     refine JA.op rfl (A.lit (K0 := Hp.nil) (ty := Yq2) (xs := ([(x52, x72, 4, i34, false)] : List Tq2)) underlying132 inf169 rfl (by decide) rfl rfl rfl ⟨_, _, rfl, ⟨_, _, rfl, rfl, rfl, ⟨_, _, rfl, rfl, rfl, ⟨_, _, rfl, rfl, rfl, ⟨_, _, rfl, rfl, rfl, rfl⟩⟩⟩⟩, rfl⟩ rfl (by decide)) ?_
     rintro _ _ _ ⟨b81, rfl, rfl, rfl⟩
     have hn82 : ([(x52, x72, 4, i34, false)] : List Tq2) ≠ [] → ∃ g, (some ⟨b81, 0, none⟩ : Option Addr) = some ⟨g, 0, none⟩ := fun _ => ⟨b81, rfl⟩
     refine ⟨fun w hs => Hold.sub hpr ⟨1, rfl, 1, rfl, 1, rfl, trivial⟩ hs, ?_⟩
     refine JM.nil <| JQ.nil ?_
     obtain ⟨z83, hz84, h39⟩ := ob h39
     refine J.front 1 rfl <| J.op rfl (A.appR (Kr := Hp.nil) underlying132 inf169 rfl rfl (by decide) (by decide) rfl rfl (Els.flat rfl) (Els.flat rfl) hz84) ?_
     rintro _ _ _ ⟨v86, rfl, rfl, rfl⟩
     refine J.wit Row.form ?_
     rintro ⟨ad87, cp88, rfl, _, _, hn89⟩
     refine ja (sl ad87 z83 cp88) rfl <| J.nil <| CJ.region <| jm (ii i34) rfl <| jv (ii (IntKind.wrap .i64 (i34 + 1))) (V.add rfl rfl) <| ja (ii (IntKind.wrap .i64 (i34 + 1))) rfl <| J.front 2 rfl ?_
     refine J.front 2 rfl <| J.nil ?_
     obtain rfl := si h39
     exact ⟨rfl, ⟨z83, IntKind.wrap .i64 (i34 + 1), ad87, cp88, rfl, rt6, rfl, rfl⟩⟩
   refine CJ.front 2 rfl <| CJ.front 2 rfl <| CJ.exit ?_
   obtain rfl := si h39
   refine ⟨nofun, fun e => ?_⟩
   subst e
   exact ⟨rfl, ⟨l33, ad35, cp36, rfl, rt5, rfl, rfl⟩⟩
 rintro ρ _ _ ⟨l29, ad30, cp31, rfl, hf90, rfl, rfl⟩
 obtain ⟨ρ, rfl⟩ := hf90.ex
 refine PJ.front 2 rfl <| PJ.wit Row.hn fun hn91 => PJ.done <| CJ.seq <| cr <| ja (ii 0) rfl ?_
 refine J.nil ?_
 obtain ⟨o92, ho93, h⟩ := ob h
 refine CJ.joinN (o := o92) (fun s ρ K' L' => ∃ (l94 : (List Tq2)) (ad95 : Option Addr) (cp96 : Nat), l94 = s ∧ Fits [(1, sl Ab0 xb Cb0), (4, pt b12), (7, pt b13), (11, sl ad95 l94 cp96)] ρ ∧ Hp.le K K' ∧ L' = Cl b12 55 [ii xa.1, sl Aa1 xa.2.1 Ca1, sl Aa2 xa.2.2.1 Ca2, sl Aa3 xa.2.2.2 Ca3] :: Cl b13 26 [sl Ad0 xd Cd0] :: Row Hp.nil 169 Yq2 (sl ad95 l94 cp96) l94 :: F) ?_ ?_
 · refine CJ.block <| CJ.front 2 rfl <| CJ.front 2 rfl <| CJ.loop (fun s ρ K' L' => ∃ (l97 : (List Tq2)) (i98 : Int) (ad99 : Option Addr) (cp100 : Nat), (l97, i98) = s ∧ Fits [(1, sl Ab0 xb Cb0), (2, sl Ac0 xc Cc0), (4, pt b12), (7, pt b13), (11, sl ad99 l97 cp100), (13, ii i98)] ρ ∧ Hp.le K K' ∧ L' = Cl b12 55 [ii xa.1, sl Aa1 xa.2.1 Ca1, sl Aa2 xa.2.2.1 Ca2, sl Aa3 xa.2.2.2 Ca3] :: Cl b13 26 [sl Ad0 xd Cd0] :: Row Hp.nil 169 Yq2 (sl ad99 l97 cp100) l97 :: F) ho93 ⟨l29, 0, ad30, cp31, rfl, rt6, hpr, rfl⟩ ?_
   rintro s ρ K101 _ r102 ⟨l97, i98, ad99, cp100, rfl, hf103, hk104, rfl⟩ h105
   obtain ⟨ρ, rfl⟩ := hf103.ex
   refine CJ.front 2 rfl <| CJ.wit Row.hn fun hn106 => CJ.seq <| cr <| jm (ii i98) rfl <| jv _ (V.fad underlying55 rfl nz23 rfl) ?_
   refine jv (sl Aa2 xa.2.2.1 Ca2) (V.ld rfl (Ld.sc sc23 (Rd.cl 1 rfl rfl))) <| jv (ii (((xa.2.2.1.length : Nat) : Int))) (V.len underlying23 rfl) <| jv (.bool (decide (i98 < (((xa.2.2.1.length : Nat) : Int))))) (V.lss rfl rfl) <| J.nil <| cc rfl h105 (fun hc107 h105 => ?_) fun hc107 h105 => ?_
   · refine CJ.skip <| CJ.seq <| CJ.block <| cr <| jv _ (V.fad underlying55 rfl nz23 rfl) <| jv (sl Aa2 xa.2.2.1 Ca2) (V.ld rfl (Ld.sc sc23 (Rd.cl 1 rfl rfl))) ?_
     refine jm (ii i98) rfl ?_
     obtain ⟨x108, hx109, h105⟩ := ob h105
     obtain ⟨p110, p111, p112⟩ := getI_some hx109
     obtain ⟨b113, o114, e115, a116⟩ := ((Ga2.mono hk104)).at p111
     refine jv _ (V.iad underlying23 sz26 rfl e115 rfl p110 p112) ?_
     obtain ⟨ad117, cp118, c119, f120⟩ := ((a116).one).sl
     refine jv (.agg #[sl ad117 x108 cp118]) (V.ld rfl (Ld.aggK (cs := [sl ad117 x108 cp118]) underlying26 sz26 rfl ⟨c119, trivial⟩ hpr)) <| jm (sl Ab0 xb Cb0) rfl ?_
     obtain ⟨r121, hr122, h105⟩ := ob h105
     refine J.op rfl (A.call (L1 := []) call121 rfl (ref15_Subst_ok f120 (Gb0.mono hk104) hr122) rfl rfl) ?_
     rintro _ _ _ ⟨v123, _, rfl, ⟨⟨l124, i125, ad126, cp127, rfl, rfl, rfl⟩, rfl⟩, _, rfl⟩
     refine J.wit Row.hn fun hn128 => jm (.tuple #[.agg #[sl ad126 l124 cp127], ii i125]) rfl <| jx (.agg #[sl ad126 l124 cp127]) rfl rfl <| jx (ii i125) rfl rfl <| jal inf26 [nos] rfl fun b129 => js [sl ad126 l124 cp127] sz26 rfl rfl rfl rfl rfl rfl <| ja (ii i125) rfl ?_
     refine J.nil <| CJ.seq <| CJ.mix [Cl b129 26 [sl ad126 l124 cp127], Row Hp.nil 169 Yq2 (sl ad99 l97 cp100) l97, Cl b12 55 [ii xa.1, sl Aa1 xa.2.1 Ca1, sl Aa2 xa.2.2.1 Ca2, sl Aa3 xa.2.2.2 Ca3], Cl b13 26 [sl Ad0 xd Cd0]] [([0, 1, 2, 3, 4, 5, 6], 7)] [8, 9, 10, 11, 12] [] mixO (by decide +kernel) ⟨0, rfl, 1, rfl, 1, rfl, 1, rfl, trivial⟩ rfl rfl rfl <| JM.cons <| qm (sl Ac0 xc Cc0) rfl <| qm (ii i98) rfl ?_
     obtain ⟨x130, hx131, h105⟩ := ob h105
     obtain ⟨p132, p133, p134⟩ := getI_some hx131
     obtain ⟨b135, o136, e137, a138⟩ := ((Gc0.mono hk104)).at p133
     refine qv _ (V.iad underlying23 sz26 rfl e137 rfl p132 p134) ?_
     obtain ⟨ad139, cp140, c141, f142⟩ := ((a138).one).sl
     refine qv (.agg #[sl ad139 x130 cp140]) (V.ld rfl (Ld.aggK (cs := [sl ad139 x130 cp140]) underlying26 sz26 rfl ⟨c141, trivial⟩ hpr)) <| qv (.agg #[sl ad126 l124 cp127]) (V.ld rfl (Ld.agg (cs := [sl ad126 l124 cp127]) underlying26 sz26 rfl (Rd.cls 0 0 rfl rfl))) <| qm (ii i98) rfl <| qv (ii (IntKind.wrap .i64 (16 * i98))) (V.mul rfl rfl) <| JQ.nil <| JA.front 1 rfl <| JA.persist (Hp.nil_le _) (by decide) fun K143 hK144 f145 => ?_
     obtain ⟨r146, hr147, h105⟩ := ob h105
     refine JA.op rfl (A.call (L1 := []) call106 rfl (ref16_Flow_ok (f142.mono hK144) f145 hr147) rfl rfl) ?_
     rintro _ _ _ ⟨v148, _, rfl, ⟨⟨l149, i150, ad151, cp152, rfl, rfl, rfl⟩, rfl⟩, _, rfl⟩
     refine ⟨fun w hs => Hold.sub hK144 ⟨1, rfl, 1, rfl, 1, rfl, 1, rfl, trivial⟩ hs, ?_⟩
     refine JM.wit Row.hn fun hn153 => JM.nil <| qm (.tuple #[sl ad151 l149 cp152, ii i150]) rfl <| qv (sl ad151 l149 cp152) (V.ext rfl rfl) <| qv (ii i150) (V.ext rfl rfl) <| qa (sl ad151 l149 cp152) rfl <| qa (ii i150) rfl ?_
     refine JQ.nil <| J.nil <| CJ.seq <| cr <| jm (ii i150) rfl <| jv (.bool (!decide (i150 = 0))) (V.neq rfl rfl) ?_
     refine J.nil <| cc rfl h105 (fun hc154 h105 => ?_) fun hc154 h105 => ?_
     · refine cr <| jm (ii i150) rfl <| ja (nos) rfl <| ja (ii i150) rfl <| J.nil <| CJ.by (fun w hs => Sep.rowNil (e := 169) (t := Yq2) hs) ?_
       refine CJ.ret ?_
       obtain rfl := si h105
       refine ⟨nofun, fun e => ?_⟩
       subst e
       refine .inr ⟨nofun, ?_⟩
       obtain rfl := si h
       exact ⟨_, _, Res.two rfl rfl rfl, ⟨[], i150, none, 0, rfl, rfl, rfl⟩, (hk104.trans hK144), fun w hs => (Sep.dropAt 1 rfl (Sep.dropAt 1 rfl (Sep.dropAt 1 rfl (Sep.dropAt 1 rfl (Sep.dropAt 1 rfl hs)))))⟩
     refine CJ.skip <| CJ.region <| jm (sl ad99 l97 cp100) rfl <| jm (sl ad151 l149 cp152) rfl ?_
     obtain ⟨z155, hz156, h105⟩ := ob h105
     refine J.front 2 rfl <| J.op rfl (A.appR (Kr := Hp.nil) underlying132 inf169 rfl rfl (by decide) (by decide) rfl rfl (Els.flat rfl) (Els.flat rfl) hz156) ?_
     rintro _ _ _ ⟨v157, rfl, rfl, rfl⟩
     refine J.wit Row.form ?_
     rintro ⟨ad158, cp159, rfl, _, _, hn160⟩
     refine ja (sl ad158 z155 cp159) rfl <| J.nil <| CJ.region <| jm (ii i98) rfl <| jv (ii (IntKind.wrap .i64 (i98 + 1))) (V.add rfl rfl) <| ja (ii (IntKind.wrap .i64 (i98 + 1))) rfl <| J.dropAt 1 rfl ?_
     refine J.front 2 rfl <| J.front 2 rfl <| J.nil ?_
     obtain rfl := si h105
     exact ⟨rfl, ⟨z155, IntKind.wrap .i64 (i98 + 1), ad158, cp159, rfl, rt6, (hk104.trans hK144), rfl⟩⟩
   refine CJ.front 2 rfl <| CJ.front 2 rfl <| CJ.exit ?_
   obtain rfl := si h105
   refine ⟨nofun, fun e => ?_⟩
   subst e
   exact .inl ⟨rfl, _, rfl, ⟨l97, ad99, cp100, rfl, rt4, hk104, rfl⟩⟩
 rintro s ρ K161 _ ho162 ⟨l94, ad95, cp96, rfl, hf163, hk164, rfl⟩
 subst ho162
 obtain ⟨ρ, rfl⟩ := hf163.ex
 refine PJ.front 2 rfl <| PJ.wit Row.hn fun hn165 => PJ.done <| cr <| jv _ (V.fad underlying55 rfl nz26 rfl) <| jv (.agg #[sl Aa3 xa.2.2.2 Ca3]) (V.ld rfl (Ld.agg (cs := [sl Aa3 xa.2.2.2 Ca3]) underlying26 sz26 rfl (Rd.cls 1 3 rfl rfl))) ?_
 refine jm (sl Ab0 xb Cb0) rfl ?_
 obtain ⟨r166, hr167, h⟩ := ob h
 refine J.op rfl (A.call (L1 := []) call121 rfl (ref15_Subst_ok (Ga3.mono hk164) (Gb0.mono hk164) hr167) rfl rfl) ?_
 rintro _ _ _ ⟨v168, _, rfl, ⟨⟨l169, i170, ad171, cp172, rfl, rfl, rfl⟩, rfl⟩, _, rfl⟩
 refine J.wit Row.hn fun hn173 => jm (.tuple #[.agg #[sl ad171 l169 cp172], ii i170]) rfl <| jx (.agg #[sl ad171 l169 cp172]) rfl rfl <| jx (ii i170) rfl rfl <| jal inf26 [nos] rfl fun b174 => js [sl ad171 l169 cp172] sz26 rfl rfl rfl rfl rfl rfl <| ja (ii i170) rfl ?_
 refine J.nil <| cr <| jv (.agg #[sl ad171 l169 cp172]) (V.ld rfl (Ld.agg (cs := [sl ad171 l169 cp172]) underlying26 sz26 rfl (Rd.cls 0 0 rfl rfl))) <| jv (.agg #[sl Ad0 xd Cd0]) (V.ld rfl (Ld.agg (cs := [sl Ad0 xd Cd0]) underlying26 sz26 rfl (Rd.cls 4 0 rfl rfl))) <| J.front 1 rfl <| J.persist (Hp.nil_le _) (by decide) fun K175 hK176 f177 => ?_
 obtain ⟨r178, hr179, h⟩ := ob h
 refine J.op rfl (A.call (L1 := []) call106 rfl (ref16_Flow_ok f177 (Gd0.mono (hk164.trans hK176)) hr179) rfl rfl) ?_
 rintro _ _ _ ⟨v180, _, rfl, ⟨⟨l181, i182, ad183, cp184, rfl, rfl, rfl⟩, rfl⟩, _, rfl⟩
 refine J.wit Row.hn fun hn185 => jm (.tuple #[sl ad183 l181 cp184, ii i182]) rfl <| jx (sl ad183 l181 cp184) rfl rfl <| jx (ii i182) rfl rfl <| ja (sl ad183 l181 cp184) rfl <| ja (ii i182) rfl <| J.nil ?_
 refine CJ.seq <| cr <| jm (ii i182) rfl <| jv (.bool (!decide (i182 = 0))) (V.neq rfl rfl) <| J.nil <| cc rfl h (fun hc186 h => ?_) fun hc186 h => ?_
 · refine cr <| jm (ii i182) rfl <| ja (nos) rfl <| ja (ii i182) rfl <| J.nil <| CJ.by (fun w hs => Sep.rowNil (e := 169) (t := Yq2) hs) ?_
   refine CJ.ret ?_
   obtain rfl := si h
   exact ⟨_, _, Res.two rfl rfl rfl, ⟨[], i182, none, 0, rfl, rfl, rfl⟩, (hk164.trans hK176), fun w hs => (Sep.dropAt 1 rfl (Sep.dropAt 1 rfl (Sep.dropAt 1 rfl (Sep.dropAt 1 rfl (Sep.dropAt 1 rfl hs)))))⟩
 refine CJ.skip <| cr <| jm (sl ad95 l94 cp96) rfl <| jm (sl ad183 l181 cp184) rfl ?_
 obtain ⟨z187, hz188, h⟩ := ob h
 refine J.front 2 rfl <| J.op rfl (A.appR (Kr := Hp.nil) underlying132 inf169 rfl rfl (by decide) (by decide) rfl rfl (Els.flat rfl) (Els.flat rfl) hz188) ?_
 rintro _ _ _ ⟨v189, rfl, rfl, rfl⟩
 refine J.wit Row.form ?_
 rintro ⟨ad190, cp191, rfl, _, _, hn192⟩
 refine ja (sl ad190 z187 cp191) rfl <| ja (ii 0) rfl <| J.nil <| CJ.ret ?_
 obtain rfl := si h
 exact ⟨_, _, Res.two rfl rfl rfl, ⟨z187, 0, ad190, cp191, rfl, rfl, rfl⟩, (hk164.trans hK176), fun w hs => (Sep.dropAt 1 rfl (Sep.dropAt 1 rfl (Sep.dropAt 1 rfl hs)))⟩
noncomputable def fn_ref19_Needs_l1 (xa : Tq5) (xb : (Int × Int × (List Tq3) × Tq3 × (List Tq6))) : ((List Tq3) × Int) → Option (((List Tq3) × Int) ⊕ (List Tq3)) := fun ((l1, i2) : ((List Tq3) × Int)) => cond (decide (i2 < (((xa.2.2.2.2.1.length : Nat) : Int)))) ((getI xa.2.2.2.2.1 i2).bind fun x3 => (getI xb.2.2.1 x3).bind fun x4 => (app l1 (([x4] : List Tq3))).bind fun z5 => some (.inl ((z5, IntKind.wrap .i64 (i2 + 1))))) (some (.inr (l1)))
noncomputable def fn_ref19_Needs (xa : Tq5) (xb : (Int × Int × (List Tq3) × Tq3 × (List Tq6))) : Option (Tq10) :=
  (fn_ref19_Form (xa.1, xa.2.1, xa.2.2.1, xa.2.2.2.1, xa.2.2.2.2.1, xa.2.2.2.2.2)).bind fun i1 => cond (!decide (i1 = 0)) (some (([], i1))) ((fn_ref19_within xa.2.2.2.1 xb.1).bind fun t2 => (cond (!t2) (some (true)) ((fn_ref19_within xa.2.2.2.2.1 (((xb.2.2.1.length : Nat) : Int))).bind fun t3 => some (!t3))).bind fun t4 => (cond (t4) (some (true)) ((fn_ref19_within xa.2.2.2.2.2 xb.2.1).bind fun t5 => some (!t5))).bind fun t6 => cond (t6) (some (([], 7))) ((cond (decide (xa.1 = 4)) ((fn_ref19_within ([xa.2.2.1] : List Int) (((xb.2.2.1.length : Nat) : Int))).bind fun t7 => (cond (!t7) (some (true)) ((fn_ref19_within ([xa.2.1] : List Int) (((xb.2.2.2.2.length : Nat) : Int))).bind fun t9 => some (!t9))).bind fun t10 => some (t10)) (some (false))).bind fun t11 => cond (t11) (some (([], 7))) (cond ((decide (xa.1 = 3)) && (decide ((((xb.2.2.1.length : Nat) : Int)) = 0))) (some (([], 14))) (cond (decide (xa.1 = 3)) ((getI xb.2.2.1 0).bind fun x12 => (fn_ref16_Flow x12 xb.2.2.2.1 7 0).bind fun (l13, i14) => some ((l13, i14))) (cond (decide (xa.1 = 4)) ((loop (fn_ref19_Needs_l1 xa xb) ((([] : List Tq3), 0)) : Option ((List Tq3))).bind fun l15 => (getI xb.2.2.2.2 xa.2.1).bind fun x17 => (getI xb.2.2.1 xa.2.2.1).bind fun x18 => (fn_ref17_Call (x17.1, x17.2.1, x17.2.2.1, x17.2.2.2) xa.2.2.2.2.2 l15 x18).bind fun (l19, i20) => some ((l19, i20))) (some (([], 0))))))))
theorem ref19_Needs_ok {K : Hp} {xa : Tq5} {xb : (Int × Int × (List Tq3) × Tq3 × (List Tq6))} {Aa3 : Option Addr} {Ca3 : Nat} {Aa4 : Option Addr} {Ca4 : Nat} {Aa5 : Option Addr} {Ca5 : Nat} {Ab2 : Option Addr} {Cb2 : Nat} {Ab3 : Option Addr} {Cb3 : Nat} {Ab4 : Option Addr} {Cb4 : Nat} (Ga3 : Is K Yq7 [sl Aa3 xa.2.2.2.1 Ca3] xa.2.2.2.1) (Ga4 : Is K Yq7 [sl Aa4 xa.2.2.2.2.1 Ca4] xa.2.2.2.2.1) (Ga5 : Is K Yq7 [sl Aa5 xa.2.2.2.2.2 Ca5] xa.2.2.2.2.2) (Gb2 : Is K Yq8 [sl Ab2 xb.2.2.1 Cb2] xb.2.2.1) (Gb3 : Is K (.sl Yq1) [sl Ab3 xb.2.2.2.1 Cb3] xb.2.2.2.1) (Gb4 : Is K Yq4 [sl Ab4 xb.2.2.2.2 Cb4] xb.2.2.2.2) {r : Tq10} (h : fn_ref19_Needs xa xb = some r) :
    Tr Tryz.prog 87 #[.agg #[ii xa.1, ii xa.2.1, ii xa.2.2.1, sl Aa3 xa.2.2.2.1 Ca3, sl Aa4 xa.2.2.2.2.1 Ca4, sl Aa5 xa.2.2.2.2.2 Ca5], .agg #[ii xb.1, ii xb.2.1, sl Ab2 xb.2.2.1 Cb2, sl Ab3 xb.2.2.2.1 Cb3, sl Ab4 xb.2.2.2.2 Cb4]] K [] (fun v K' L' => (∃ (l6 : (List Tq2)) (i7 : Int) (ad9 : Option Addr) (cp10 : Nat), (l6, i7) = r ∧ .tuple #[sl ad9 l6 cp10, ii i7] = v ∧ L' = [Row Hp.nil 169 Yq2 (sl ad9 l6 cp10) l6]) ∧ K = K') := by
 refine Tr.k <| Tr.of func87 rfl ntmps87 rfl fun E F => ?_
 unfold fn_ref19_Needs at h
 refine cr <| jbx [ii xa.1, ii xa.2.1, ii xa.2.2.1, sl Aa3 xa.2.2.2.1 Ca3, sl Aa4 xa.2.2.2.2.1 Ca4, sl Aa5 xa.2.2.2.2.2 Ca5] rfl rfl fun b11 => jbx [ii xb.1, ii xb.2.1, sl Ab2 xb.2.2.1 Cb2, sl Ab3 xb.2.2.2.1 Cb3, sl Ab4 xb.2.2.2.2 Cb4] rfl rfl fun b12 => ja (nos) rfl <| ja (ii 0) rfl <| J.nil ?_
 refine cr <| jv (.agg #[ii xa.1, ii xa.2.1, ii xa.2.2.1, sl Aa3 xa.2.2.2.1 Ca3, sl Aa4 xa.2.2.2.2.1 Ca4, sl Aa5 xa.2.2.2.2.2 Ca5]) (V.ld rfl (Ld.agg (cs := [ii xa.1, ii xa.2.1, ii xa.2.2.1, sl Aa3 xa.2.2.2.1 Ca3, sl Aa4 xa.2.2.2.2.1 Ca4, sl Aa5 xa.2.2.2.2.2 Ca5]) underlying58 sz58 rfl (Rd.cls 1 0 rfl rfl))) ?_
 obtain ⟨r13, hr14, h⟩ := ob h
 refine J.op rfl (A.call (L1 := []) call109 rfl (ref19_Form_ok Ga3 Ga4 Ga5 hr14) rfl rfl) ?_
 rintro _ _ _ ⟨v15, _, rfl, ⟨⟨i17, rfl, rfl, rfl⟩, rfl⟩, _, rfl⟩
 refine ja (ii i17) rfl <| J.nil <| CJ.seq <| cr <| jm (ii i17) rfl <| jv (.bool (!decide (i17 = 0))) (V.neq rfl rfl) ?_
 refine J.nil <| cc rfl h (fun hc18 h => ?_) fun hc18 h => ?_
 · refine cr <| jm (ii i17) rfl <| ja (nos) rfl <| ja (ii i17) rfl <| J.nil <| CJ.by (fun w hs => Sep.rowNil (e := 169) (t := Yq2) hs) ?_
   refine CJ.ret ?_
   obtain rfl := si h
   exact ⟨_, _, Res.two rfl rfl rfl, ⟨[], i17, none, 0, rfl, rfl, rfl⟩, hpr, fun w hs => (Sep.dropAt 1 rfl (Sep.dropAt 1 rfl hs))⟩
 refine CJ.skip <| CJ.seq <| cr <| jv _ (V.fad underlying58 rfl nz42 rfl) <| jv (sl Aa3 xa.2.2.2.1 Ca3) (V.ld rfl (Ld.sc sc42 (Rd.cl 1 rfl rfl))) <| jv _ (V.fad underlying131 rfl nz3 rfl) ?_
 refine jv (ii xb.1) (V.ld rfl (Ld.sc sc3 (Rd.cl 0 rfl rfl))) ?_
 obtain ⟨r19, hr20, h⟩ := ob h
 refine J.op rfl (A.call (L1 := []) call110 rfl (ref19_within_ok Ga3 hr20) rfl rfl) ?_
 rintro _ _ _ ⟨v21, _, rfl, ⟨⟨t22, rfl, rfl, rfl⟩, rfl⟩, _, rfl⟩
 refine jv (.bool (!t22)) (V.not rfl) <| jm (.bool (!t22)) rfl <| J.cut 8 ?_
 obtain ⟨t24, ht25, h⟩ := ob h
 refine jmeet [(28, .bool t24), (2, pt b11), (3, pt b12)] ?_ ?_
 · rcases bt (!t22) with hc28 | hc28
   · have ht25 := ct hc28 ht25
     refine J.skip rfl rfl rfl rfl hc28 <| J.skip rfl rfl rfl rfl hc28 <| J.skip rfl rfl rfl rfl hc28 <| J.skip rfl rfl rfl rfl hc28 <| J.skip rfl rfl rfl rfl hc28 <| J.skip rfl rfl rfl rfl hc28 <| J.skip rfl rfl rfl rfl hc28 ?_
     refine jv (.bool true) (V.pickT rfl hc28 rfl) <| J.nil ?_
     obtain rfl := si ht25
     exact ⟨rfl, rt3, rfl, rfl⟩
   have ht25 := cf hc28 ht25
   refine J.run rfl rfl rfl hc28 <| jv _ (V.fad underlying58 rfl nz42 rfl) <| J.run rfl rfl rfl hc28 <| jv (sl Aa4 xa.2.2.2.2.1 Ca4) (V.ld rfl (Ld.sc sc42 (Rd.cl 1 rfl rfl))) <| J.run rfl rfl rfl hc28 <| jv _ (V.fad underlying131 rfl nz23 rfl) <| J.run rfl rfl rfl hc28 ?_
   refine jv (sl Ab2 xb.2.2.1 Cb2) (V.ld rfl (Ld.sc sc23 (Rd.cl 0 rfl rfl))) <| J.run rfl rfl rfl hc28 <| jv (ii (((xb.2.2.1.length : Nat) : Int))) (V.len underlying23 rfl) <| J.run rfl rfl rfl hc28 ?_
   obtain ⟨r29, hr30, ht25⟩ := ob ht25
   refine J.op rfl (A.call (L1 := []) call110 rfl (ref19_within_ok Ga4 hr30) rfl rfl) ?_
   rintro _ _ _ ⟨v31, _, rfl, ⟨⟨t33, rfl, rfl, rfl⟩, rfl⟩, _, rfl⟩
   refine J.run rfl rfl rfl hc28 <| jv (.bool (!t33)) (V.not rfl) <| jv (.bool (!t33)) (V.pickF rfl hc28 rfl) <| J.nil ?_
   obtain rfl := si ht25
   exact ⟨rfl, rt3, rfl, rfl⟩
 intro ρ
 refine jm (.bool t24) rfl <| J.cut 7 ?_
 obtain ⟨t34, ht35, h⟩ := ob h
 refine jmeet [(36, .bool t34), (2, pt b11), (3, pt b12)] ?_ ?_
 · rcases bt (t24) with hc36 | hc36
   · have ht35 := ct hc36 ht35
     refine J.skip rfl rfl rfl rfl hc36 <| J.skip rfl rfl rfl rfl hc36 <| J.skip rfl rfl rfl rfl hc36 <| J.skip rfl rfl rfl rfl hc36 <| J.skip rfl rfl rfl rfl hc36 <| J.skip rfl rfl rfl rfl hc36 <| jv (.bool true) (V.pickT rfl hc36 rfl) ?_
     refine J.nil ?_
     obtain rfl := si ht35
     exact ⟨rfl, rt3, rfl, rfl⟩
   have ht35 := cf hc36 ht35
   refine J.run rfl rfl rfl hc36 <| jv _ (V.fad underlying58 rfl nz42 rfl) <| J.run rfl rfl rfl hc36 <| jv (sl Aa5 xa.2.2.2.2.2 Ca5) (V.ld rfl (Ld.sc sc42 (Rd.cl 1 rfl rfl))) <| J.run rfl rfl rfl hc36 <| jv _ (V.fad underlying131 rfl nz3 rfl) <| J.run rfl rfl rfl hc36 ?_
   refine jv (ii xb.2.1) (V.ld rfl (Ld.sc sc3 (Rd.cl 0 rfl rfl))) <| J.run rfl rfl rfl hc36 ?_
   obtain ⟨r37, hr38, ht35⟩ := ob ht35
   refine J.op rfl (A.call (L1 := []) call110 rfl (ref19_within_ok Ga5 hr38) rfl rfl) ?_
   rintro _ _ _ ⟨v39, _, rfl, ⟨⟨t40, rfl, rfl, rfl⟩, rfl⟩, _, rfl⟩
   refine J.run rfl rfl rfl hc36 <| jv (.bool (!t40)) (V.not rfl) <| jv (.bool (!t40)) (V.pickF rfl hc36 rfl) <| J.nil ?_
   obtain rfl := si ht35
   exact ⟨rfl, rt3, rfl, rfl⟩
 intro ρ
 refine J.nil <| cc rfl h (fun hc41 h => ?_) fun hc41 h => ?_
 · refine cr <| ja (nos) rfl <| ja (ii 7) rfl <| J.nil <| CJ.by (fun w hs => Sep.rowNil (e := 169) (t := Yq2) hs) <| CJ.ret ?_
   obtain rfl := si h
   exact ⟨_, _, Res.two rfl rfl rfl, ⟨[], 7, none, 0, rfl, rfl, rfl⟩, hpr, fun w hs => (Sep.dropAt 1 rfl (Sep.dropAt 1 rfl hs))⟩
 refine CJ.skip <| CJ.seq <| cr <| jv _ (V.fad underlying58 rfl nz3 rfl) <| jv (ii xa.1) (V.ld rfl (Ld.sc sc3 (Rd.cl 1 rfl rfl))) <| jv (.bool (decide (xa.1 = 4))) (V.eql rfl rfl) ?_
 refine jm (.bool (decide (xa.1 = 4))) rfl <| J.cut 19 ?_
 obtain ⟨t43, ht44, h⟩ := ob h
 refine jmeet [(59, .bool t43), (2, pt b11), (3, pt b12)] ?_ ?_
 · rcases bt (decide (xa.1 = 4)) with hc45 | hc45
   · have ht44 := ct hc45 ht44
     refine J.run rfl rfl rfl hc45 <| jv _ (V.fad underlying58 rfl nz3 rfl) <| J.run rfl rfl rfl hc45 <| jv (ii xa.2.2.1) (V.ld rfl (Ld.sc sc3 (Rd.cl 1 rfl rfl))) <| J.run rfl rfl rfl hc45 ?_
     refine J.op rfl (A.lit (K0 := Hp.nil) (ty := (.int .i64)) (xs := ([xa.2.2.1] : List Int)) underlying42 inf3 rfl (by decide) rfl rfl rfl ⟨_, _, rfl, rfl, rfl⟩ rfl (by decide)) ?_
     rintro _ _ _ ⟨b46, rfl, rfl, rfl⟩
     have hn47 : ([xa.2.2.1] : List Int) ≠ [] → ∃ g, (some ⟨b46, 0, none⟩ : Option Addr) = some ⟨g, 0, none⟩ := fun _ => ⟨b46, rfl⟩
     refine J.run rfl rfl rfl hc45 <| jv _ (V.fad underlying131 rfl nz23 rfl) <| J.run rfl rfl rfl hc45 <| jv (sl Ab2 xb.2.2.1 Cb2) (V.ld rfl (Ld.sc sc23 (Rd.cl 1 rfl rfl))) <| J.run rfl rfl rfl hc45 <| jv (ii (((xb.2.2.1.length : Nat) : Int))) (V.len underlying23 rfl) <| J.run rfl rfl rfl hc45 ?_
     obtain ⟨r48, hr49, ht44⟩ := ob ht44
     refine J.op rfl (A.call (L1 := [Row Hp.nil 3 (.int .i64) (.slice (some ⟨b46, 0, none⟩) (([xa.2.2.1] : List Int).length) 1) ([xa.2.2.1] : List Int)]) call110 rfl (Tr.lend (Hp.nil_le _) (by decide) (fun K50 hK51 f52 => ref19_within_ok f52 hr49)) rfl rfl) ?_
     rintro _ _ _ ⟨v53, _, rfl, ⟨⟨_, ⟨t54, rfl, rfl, rfl⟩, rfl⟩, rfl⟩, _, rfl⟩
     refine J.run rfl rfl rfl hc45 <| jv (.bool (!t54)) (V.not rfl) <| J.run rfl rfl rfl hc45 <| jm (.bool (!t54)) rfl <| J.cut 9 ?_
     obtain ⟨t56, ht57, ht44⟩ := ob ht44
     refine jmeet [(58, .bool t56), (2, pt b11), (3, pt b12), (40, .bool (decide (xa.1 = 4)))] ?_ ?_
     · rcases bt (!t54) with hc59 | hc59
       · have ht57 := ct hc59 ht57
         refine J.skip rfl rfl rfl rfl hc59 <| J.skip rfl rfl rfl rfl hc59 <| J.skip rfl rfl rfl rfl hc59 <| J.skip rfl rfl rfl rfl hc59 <| J.skip rfl rfl rfl rfl hc59 <| J.skip rfl rfl rfl rfl hc59 <| J.skip rfl rfl rfl rfl hc59 ?_
         refine J.skip rfl rfl rfl rfl hc59 <| J.run rfl rfl rfl hc45 <| jv (.bool true) (V.pickT rfl hc59 rfl) <| J.nil ?_
         obtain rfl := si ht57
         exact ⟨rfl, rt4, rfl, rfl⟩
       have ht57 := cf hc59 ht57
       refine J.run rfl rfl rfl hc59 <| jv _ (V.fad underlying58 rfl nz3 rfl) <| J.run rfl rfl rfl hc59 <| jv (ii xa.2.1) (V.ld rfl (Ld.sc sc3 (Rd.cl 2 rfl rfl))) <| J.run rfl rfl rfl hc59 ?_
       refine J.op rfl (A.lit (K0 := Hp.nil) (ty := (.int .i64)) (xs := ([xa.2.1] : List Int)) underlying42 inf3 rfl (by decide) rfl rfl rfl ⟨_, _, rfl, rfl, rfl⟩ rfl (by decide)) ?_
       rintro _ _ _ ⟨b60, rfl, rfl, rfl⟩
       have hn61 : ([xa.2.1] : List Int) ≠ [] → ∃ g, (some ⟨b60, 0, none⟩ : Option Addr) = some ⟨g, 0, none⟩ := fun _ => ⟨b60, rfl⟩
       refine J.run rfl rfl rfl hc59 <| jv _ (V.fad underlying131 rfl nz27 rfl) <| J.run rfl rfl rfl hc59 <| jv (sl Ab4 xb.2.2.2.2 Cb4) (V.ld rfl (Ld.sc sc27 (Rd.cl 2 rfl rfl))) <| J.run rfl rfl rfl hc59 <| jv (ii (((xb.2.2.2.2.length : Nat) : Int))) (V.len underlying27 rfl) <| J.run rfl rfl rfl hc59 ?_
       obtain ⟨r62, hr63, ht57⟩ := ob ht57
       refine J.op rfl (A.call (L1 := [Row Hp.nil 3 (.int .i64) (.slice (some ⟨b60, 0, none⟩) (([xa.2.1] : List Int).length) 1) ([xa.2.1] : List Int)]) call110 rfl (Tr.lend (Hp.nil_le _) (by decide) (fun K65 hK66 f67 => ref19_within_ok f67 hr63)) rfl rfl) ?_
       rintro _ _ _ ⟨v68, _, rfl, ⟨⟨_, ⟨t69, rfl, rfl, rfl⟩, rfl⟩, rfl⟩, _, rfl⟩
       refine J.run rfl rfl rfl hc59 <| jv (.bool (!t69)) (V.not rfl) <| J.run rfl rfl rfl hc45 <| jv (.bool (!t69)) (V.pickF rfl hc59 rfl) <| J.dropAt 0 rfl <| J.nil ?_
       obtain rfl := si ht57
       exact ⟨rfl, rt4, rfl, rfl⟩
     intro ρ
     refine jv (.bool t56) (V.pickT rfl hc45 rfl) <| J.dropAt 0 rfl <| J.nil ?_
     obtain rfl := si ht44
     exact ⟨rfl, rt3, rfl, rfl⟩
   have ht44 := cf hc45 ht44
   refine J.skip rfl rfl rfl rfl hc45 <| J.skip rfl rfl rfl rfl hc45 <| J.skip rfl rfl rfl rfl hc45 <| J.skip rfl rfl rfl rfl hc45 <| J.skip rfl rfl rfl rfl hc45 <| J.skip rfl rfl rfl rfl hc45 <| J.skip rfl rfl rfl rfl hc45 ?_
   refine J.skip rfl rfl rfl rfl hc45 <| J.skip rfl rfl rfl rfl hc45 <| J.skipu rfl rfl rfl rfl <| J.skipu rfl rfl rfl rfl <| J.skipu rfl rfl rfl rfl <| J.skipu rfl rfl rfl rfl <| J.skipu rfl rfl rfl rfl ?_
   refine J.skipu rfl rfl rfl rfl <| J.skipu rfl rfl rfl rfl <| J.skipu rfl rfl rfl rfl <| J.skip rfl rfl rfl rfl hc45 <| jv (.bool false) (V.pickF rfl hc45 rfl) <| J.nil ?_
   obtain rfl := si ht44
   exact ⟨rfl, rt3, rfl, rfl⟩
 intro ρ
 refine J.nil <| cc rfl h (fun hc70 h => ?_) fun hc70 h => ?_
 · refine cr <| ja (nos) rfl <| ja (ii 7) rfl <| J.nil <| CJ.by (fun w hs => Sep.rowNil (e := 169) (t := Yq2) hs) <| CJ.ret ?_
   obtain rfl := si h
   exact ⟨_, _, Res.two rfl rfl rfl, ⟨[], 7, none, 0, rfl, rfl, rfl⟩, hpr, fun w hs => (Sep.dropAt 1 rfl (Sep.dropAt 1 rfl hs))⟩
 refine CJ.skip <| CJ.seq <| cr <| jv _ (V.fad underlying58 rfl nz3 rfl) <| jv (ii xa.1) (V.ld rfl (Ld.sc sc3 (Rd.cl 1 rfl rfl))) <| jv (.bool (decide (xa.1 = 3))) (V.eql rfl rfl) ?_
 refine jm (.bool (decide (xa.1 = 3))) rfl <| J.cut 5 <| jmeet [(68, .bool ((decide (xa.1 = 3)) && (decide ((((xb.2.2.1.length : Nat) : Int)) = 0)))), (2, pt b11), (3, pt b12)] ?_ ?_
 · rcases bt (decide (xa.1 = 3)) with hc71 | hc71
   · refine J.run rfl rfl rfl hc71 <| jv _ (V.fad underlying131 rfl nz23 rfl) <| J.run rfl rfl rfl hc71 <| jv (sl Ab2 xb.2.2.1 Cb2) (V.ld rfl (Ld.sc sc23 (Rd.cl 0 rfl rfl))) <| J.run rfl rfl rfl hc71 <| jv (ii (((xb.2.2.1.length : Nat) : Int))) (V.len underlying23 rfl) <| J.run rfl rfl rfl hc71 ?_
     refine jv (.bool (decide ((((xb.2.2.1.length : Nat) : Int)) = 0))) (V.eql rfl rfl) <| jv (.bool (decide ((((xb.2.2.1.length : Nat) : Int)) = 0))) (V.pickT rfl hc71 rfl) <| J.nil ?_
     exact ⟨rfl, ⟨(by simp only [hc71]; rfl), rfl, rfl, trivial⟩, rfl, rfl⟩
   refine J.skip rfl rfl rfl rfl hc71 <| J.skip rfl rfl rfl rfl hc71 <| J.skip rfl rfl rfl rfl hc71 <| J.skip rfl rfl rfl rfl hc71 <| jv (.bool false) (V.pickF rfl hc71 rfl) <| J.nil ?_
   exact ⟨rfl, ⟨(by simp only [hc71]; rfl), rfl, rfl, trivial⟩, rfl, rfl⟩
 intro ρ
 refine J.nil <| cc rfl h (fun hc72 h => ?_) fun hc72 h => ?_
 · refine cr <| ja (nos) rfl <| ja (ii 14) rfl <| J.nil <| CJ.by (fun w hs => Sep.rowNil (e := 169) (t := Yq2) hs) <| CJ.ret ?_
   obtain rfl := si h
   exact ⟨_, _, Res.two rfl rfl rfl, ⟨[], 14, none, 0, rfl, rfl, rfl⟩, hpr, fun w hs => (Sep.dropAt 1 rfl (Sep.dropAt 1 rfl hs))⟩
 refine CJ.skip <| CJ.seq <| cr <| jv _ (V.fad underlying58 rfl nz3 rfl) <| jv (ii xa.1) (V.ld rfl (Ld.sc sc3 (Rd.cl 1 rfl rfl))) <| jv (.bool (decide (xa.1 = 3))) (V.eql rfl rfl) ?_
 refine J.nil <| cc rfl h (fun hc73 h => ?_) fun hc73 h => ?_
 · refine CJ.seq <| CJ.mix [Cl b12 131 [ii xb.1, ii xb.2.1, sl Ab2 xb.2.2.1 Cb2, sl Ab3 xb.2.2.2.1 Cb3, sl Ab4 xb.2.2.2.2 Cb4], Cl b11 58 [ii xa.1, ii xa.2.1, ii xa.2.2.1, sl Aa3 xa.2.2.2.1 Ca3, sl Aa4 xa.2.2.2.2.1 Ca4, sl Aa5 xa.2.2.2.2.2 Ca5]] [([0, 1, 2, 3, 4, 5], 6)] [7, 8, 9, 10] [] mixO (by decide +kernel) ⟨0, rfl, 0, rfl, trivial⟩ rfl rfl rfl <| JM.cons <| qv _ (V.fad underlying131 rfl nz23 rfl) <| qv (sl Ab2 xb.2.2.1 Cb2) (V.ld rfl (Ld.sc sc23 (Rd.cl 0 rfl rfl))) ?_
   obtain ⟨x74, hx75, h⟩ := ob h
   obtain ⟨p76, p77, p78⟩ := getI_some hx75
   obtain ⟨b79, o80, e81, a82⟩ := (Gb2).at p77
   refine qv _ (V.iad underlying23 sz26 rfl e81 rfl p76 p78) ?_
   obtain ⟨ad83, cp84, c85, f86⟩ := ((a82).one).sl
   refine qv (.agg #[sl ad83 x74 cp84]) (V.ld rfl (Ld.aggK (cs := [sl ad83 x74 cp84]) underlying26 sz26 rfl ⟨c85, trivial⟩ hpr)) <| qv _ (V.fad underlying131 rfl nz26 rfl) <| qv (.agg #[sl Ab3 xb.2.2.2.1 Cb3]) (V.ld rfl (Ld.agg (cs := [sl Ab3 xb.2.2.2.1 Cb3]) underlying26 sz26 rfl (Rd.cls 0 3 rfl rfl))) <| JQ.nil ?_
   obtain ⟨r88, hr89, h⟩ := ob h
   refine JA.op rfl (A.call (L1 := []) call106 rfl (ref16_Flow_ok f86 Gb3 hr89) rfl rfl) ?_
   rintro _ _ _ ⟨v90, _, rfl, ⟨⟨l91, i92, ad93, cp94, rfl, rfl, rfl⟩, rfl⟩, _, rfl⟩
   refine ⟨fun w hs => Hold.sub hpr ⟨1, rfl, 1, rfl, trivial⟩ hs, ?_⟩
   refine JM.wit Row.hn fun hn95 => JM.nil <| qv (sl ad93 l91 cp94) (V.ext rfl rfl) <| qv (ii i92) (V.ext rfl rfl) <| qa (sl ad93 l91 cp94) rfl <| qa (ii i92) rfl <| JQ.nil ?_
   refine J.nil <| CJ.ret ?_
   obtain rfl := si h
   exact ⟨_, _, Res.two rfl rfl rfl, ⟨l91, i92, ad93, cp94, rfl, rfl, rfl⟩, hpr, fun w hs => (Sep.dropAt 1 rfl (Sep.dropAt 1 rfl hs))⟩
 refine CJ.skip <| CJ.seq <| cr <| jv _ (V.fad underlying58 rfl nz3 rfl) <| jv (ii xa.1) (V.ld rfl (Ld.sc sc3 (Rd.cl 1 rfl rfl))) <| jv (.bool (decide (xa.1 = 4))) (V.eql rfl rfl) ?_
 refine J.nil <| cc rfl h (fun hc96 h => ?_) fun hc96 h => ?_
 · refine CJ.seq <| CJ.region ?_
   refine J.op rfl (A.lit (K0 := K) (ty := (.one (.sl Yq1))) (xs := ([] : List Tq3)) underlying23 inf26 rfl (by decide) rfl rfl rfl rfl rfl (by decide)) ?_
   rintro _ _ _ ⟨b97, rfl, rfl, rfl⟩
   have hn98 : ([] : List Tq3) ≠ [] → ∃ g, (some ⟨b97, 0, none⟩ : Option Addr) = some ⟨g, 0, none⟩ := fun _ => ⟨b97, rfl⟩
   refine ja (.slice (some ⟨b97, 0, none⟩) ((([] : List Tq3)).length) 0) rfl <| J.nil <| CJ.seq <| cr <| ja (ii 0) rfl <| J.nil ?_
   obtain ⟨o99, ho100, h⟩ := ob h
   refine CJ.meetN (fun ρ K' L' => ∃ (l101 : (List Tq3)) (ad102 : Option Addr) (cp103 : Nat), l101 = o99 ∧ Fits [(2, pt b11), (3, pt b12), (7, sl ad102 l101 cp103)] ρ ∧ K = K' ∧ L' = Cl b11 58 [ii xa.1, ii xa.2.1, ii xa.2.2.1, sl Aa3 xa.2.2.2.1 Ca3, sl Aa4 xa.2.2.2.2.1 Ca4, sl Aa5 xa.2.2.2.2.2 Ca5] :: Cl b12 131 [ii xb.1, ii xb.2.1, sl Ab2 xb.2.2.1 Cb2, sl Ab3 xb.2.2.2.1 Cb3, sl Ab4 xb.2.2.2.2 Cb4] :: Row K 26 (.one (.sl Yq1)) (sl ad102 l101 cp103) l101 :: F) ?_ ?_
   · refine CJ.block <| CJ.front 1 rfl <| CJ.front 2 rfl <| CJ.loop (fun s ρ K' L' => ∃ (l104 : (List Tq3)) (i105 : Int) (ad106 : Option Addr) (cp107 : Nat), (l104, i105) = s ∧ Fits [(2, pt b11), (3, pt b12), (7, sl ad106 l104 cp107), (8, ii i105)] ρ ∧ K = K' ∧ L' = Cl b11 58 [ii xa.1, ii xa.2.1, ii xa.2.2.1, sl Aa3 xa.2.2.2.1 Ca3, sl Aa4 xa.2.2.2.2.1 Ca4, sl Aa5 xa.2.2.2.2.2 Ca5] :: Cl b12 131 [ii xb.1, ii xb.2.1, sl Ab2 xb.2.2.1 Cb2, sl Ab3 xb.2.2.2.1 Cb3, sl Ab4 xb.2.2.2.2 Cb4] :: Row K 26 (.one (.sl Yq1)) (sl ad106 l104 cp107) l104 :: F) ho100 ⟨([] : List Tq3), 0, (some ⟨b97, 0, none⟩), 0, rfl, rt4, rfl, rfl⟩ ?_
     rintro s ρ _ _ r108 ⟨l104, i105, ad106, cp107, rfl, hf109, rfl, rfl⟩ h110
     obtain ⟨ρ, rfl⟩ := hf109.ex
     refine CJ.front 2 rfl <| CJ.wit Row.hn fun hn111 => CJ.seq <| cr <| jm (ii i105) rfl <| jv _ (V.fad underlying58 rfl nz42 rfl) ?_
     refine jv (sl Aa4 xa.2.2.2.2.1 Ca4) (V.ld rfl (Ld.sc sc42 (Rd.cl 1 rfl rfl))) <| jv (ii (((xa.2.2.2.2.1.length : Nat) : Int))) (V.len underlying42 rfl) <| jv (.bool (decide (i105 < (((xa.2.2.2.2.1.length : Nat) : Int))))) (V.lss rfl rfl) <| J.nil <| cc rfl h110 (fun hc112 h110 => ?_) fun hc112 h110 => ?_
     · refine CJ.skip <| CJ.seq <| CJ.block <| CJ.mix [Row K 26 (.one (.sl Yq1)) (sl ad106 l104 cp107) l104, Cl b11 58 [ii xa.1, ii xa.2.1, ii xa.2.2.1, sl Aa3 xa.2.2.2.1 Ca3, sl Aa4 xa.2.2.2.2.1 Ca4, sl Aa5 xa.2.2.2.2.2 Ca5], Cl b12 131 [ii xb.1, ii xb.2.1, sl Ab2 xb.2.2.1 Cb2, sl Ab3 xb.2.2.2.1 Cb3, sl Ab4 xb.2.2.2.2 Cb4]] [([0, 1, 2, 3, 4, 5, 6, 7, 8, 9], 10)] [] [11, 12] mixO (by decide +kernel) ⟨0, rfl, 0, rfl, 0, rfl, trivial⟩ rfl rfl rfl <| JM.cons <| qm (sl ad106 l104 cp107) rfl <| qv _ (V.fad underlying131 rfl nz23 rfl) ?_
       refine qv (sl Ab2 xb.2.2.1 Cb2) (V.ld rfl (Ld.sc sc23 (Rd.cl 2 rfl rfl))) <| qv _ (V.fad underlying58 rfl nz42 rfl) <| qv (sl Aa4 xa.2.2.2.2.1 Ca4) (V.ld rfl (Ld.sc sc42 (Rd.cl 1 rfl rfl))) <| qm (ii i105) rfl ?_
       obtain ⟨x113, hx114, h110⟩ := ob h110
       obtain ⟨p115, p116, p117⟩ := getI_some hx114
       obtain ⟨b118, o119, e120, a121⟩ := (Ga4).at p116
       refine qv _ (V.iad underlying42 sz3 rfl e120 rfl p115 p117) <| qv (ii x113) (V.ld rfl (Ld.sc sc3 (Rd.k (a121).int hpr))) ?_
       obtain ⟨x122, hx123, h110⟩ := ob h110
       obtain ⟨p124, p125, p126⟩ := getI_some hx123
       obtain ⟨b127, o128, e129, a130⟩ := (Gb2).at p125
       refine qv _ (V.iad underlying23 sz26 rfl e129 rfl p124 p126) ?_
       obtain ⟨ad131, cp132, c133, f134⟩ := ((a130).one).sl
       refine qv (.agg #[sl ad131 x122 cp132]) (V.ld rfl (Ld.aggK (cs := [sl ad131 x122 cp132]) underlying26 sz26 rfl ⟨c133, trivial⟩ hpr)) <| JQ.nil ?_
       refine JA.op rfl (A.lit (K0 := K) (ty := (.one (.sl Yq1))) (xs := ([x122] : List Tq3)) underlying23 inf26 rfl (by decide) rfl rfl rfl ⟨_, _, rfl, f134, rfl⟩ rfl (by decide)) ?_
       rintro _ _ _ ⟨b135, rfl, rfl, rfl⟩
       have hn136 : ([x122] : List Tq3) ≠ [] → ∃ g, (some ⟨b135, 0, none⟩ : Option Addr) = some ⟨g, 0, none⟩ := fun _ => ⟨b135, rfl⟩
       refine ⟨fun w hs => Hold.sub hpr ⟨1, rfl, 1, rfl, 1, rfl, trivial⟩ hs, ?_⟩
       refine JM.nil <| JQ.nil ?_
       obtain ⟨z137, hz138, h110⟩ := ob h110
       refine J.front 1 rfl <| J.op rfl (A.appR (Kr := K) underlying23 inf26 rfl rfl (by decide) (by decide) rfl rfl (Els.mono hpr) (Els.mono hpr) hz138) ?_
       rintro _ _ _ ⟨v139, rfl, rfl, rfl⟩
       refine J.wit Row.form ?_
       rintro ⟨ad140, cp141, rfl, _, _, hn142⟩
       refine ja (sl ad140 z137 cp141) rfl <| J.nil <| CJ.region <| jm (ii i105) rfl <| jv (ii (IntKind.wrap .i64 (i105 + 1))) (V.add rfl rfl) <| ja (ii (IntKind.wrap .i64 (i105 + 1))) rfl <| J.front 2 rfl ?_
       refine J.front 2 rfl <| J.nil ?_
       obtain rfl := si h110
       exact ⟨rfl, ⟨z137, IntKind.wrap .i64 (i105 + 1), ad140, cp141, rfl, rt4, rfl, rfl⟩⟩
     refine CJ.front 2 rfl <| CJ.front 2 rfl <| CJ.exit ?_
     obtain rfl := si h110
     refine ⟨nofun, fun e => ?_⟩
     subst e
     exact ⟨rfl, ⟨l104, ad106, cp107, rfl, rt3, rfl, rfl⟩⟩
   rintro ρ _ _ ⟨l101, ad102, cp103, rfl, hf143, rfl, rfl⟩
   obtain ⟨ρ, rfl⟩ := hf143.ex
   refine PJ.front 2 rfl <| PJ.wit Row.hn fun hn144 => PJ.done <| CJ.seq <| CJ.mix [Cl b11 58 [ii xa.1, ii xa.2.1, ii xa.2.2.1, sl Aa3 xa.2.2.2.1 Ca3, sl Aa4 xa.2.2.2.2.1 Ca4, sl Aa5 xa.2.2.2.2.2 Ca5], Cl b12 131 [ii xb.1, ii xb.2.1, sl Ab2 xb.2.2.1 Cb2, sl Ab3 xb.2.2.2.1 Cb3, sl Ab4 xb.2.2.2.2 Cb4]] [([0, 1, 2, 3, 4, 5, 6, 7, 8, 9, 10, 11, 12, 13, 14], 15)] [16, 17, 18, 19] [] mixO (by decide +kernel) ⟨1, rfl, 1, rfl, trivial⟩ rfl rfl rfl <| JM.cons <| qv _ (V.fad underlying131 rfl nz27 rfl) ?_
   refine qv (sl Ab4 xb.2.2.2.2 Cb4) (V.ld rfl (Ld.sc sc27 (Rd.cl 1 rfl rfl))) <| qv _ (V.fad underlying58 rfl nz3 rfl) <| qv (ii xa.2.1) (V.ld rfl (Ld.sc sc3 (Rd.cl 0 rfl rfl))) ?_
   obtain ⟨x145, hx146, h⟩ := ob h
   obtain ⟨p147, p148, p149⟩ := getI_some hx146
   obtain ⟨b150, o151, e152, a153⟩ := (Gb4).at p148
   refine qv _ (V.iad underlying27 sz55 rfl e152 rfl p147 p149) ?_
   obtain ⟨ad154, cp155, c156, f157⟩ := (((a153).snd).fst).sl
   obtain ⟨ad158, cp159, c160, f161⟩ := ((((a153).snd).snd).fst).sl
   obtain ⟨ad162, cp163, c164, f165⟩ := ((((((a153).snd).snd).snd).one).one).sl
   refine qv (.agg #[ii x145.1, sl ad154 x145.2.1 cp155, sl ad158 x145.2.2.1 cp159, sl ad162 x145.2.2.2 cp163]) (V.ld rfl (Ld.aggK (cs := [ii x145.1, sl ad154 x145.2.1 cp155, sl ad158 x145.2.2.1 cp159, sl ad162 x145.2.2.2 cp163]) underlying55 sz55 rfl ⟨((a153).fst).int, c156, c160, c164, trivial⟩ hpr)) <| qv _ (V.fad underlying58 rfl nz42 rfl) <| qv (sl Aa5 xa.2.2.2.2.2 Ca5) (V.ld rfl (Ld.sc sc42 (Rd.cl 0 rfl rfl))) <| qm (sl ad102 l101 cp103) rfl <| qv _ (V.fad underlying131 rfl nz23 rfl) <| qv (sl Ab2 xb.2.2.1 Cb2) (V.ld rfl (Ld.sc sc23 (Rd.cl 1 rfl rfl))) <| qv _ (V.fad underlying58 rfl nz3 rfl) ?_
   refine qv (ii xa.2.2.1) (V.ld rfl (Ld.sc sc3 (Rd.cl 0 rfl rfl))) ?_
   obtain ⟨x166, hx167, h⟩ := ob h
   obtain ⟨p168, p169, p170⟩ := getI_some hx167
   obtain ⟨b171, o172, e173, a174⟩ := (Gb2).at p169
   refine qv _ (V.iad underlying23 sz26 rfl e173 rfl p168 p170) ?_
   obtain ⟨ad175, cp176, c177, f178⟩ := ((a174).one).sl
   refine qv (.agg #[sl ad175 x166 cp176]) (V.ld rfl (Ld.aggK (cs := [sl ad175 x166 cp176]) underlying26 sz26 rfl ⟨c177, trivial⟩ hpr)) <| JQ.nil <| JA.persist hpr (by decide) fun K179 hK180 f181 => ?_
   obtain ⟨r182, hr183, h⟩ := ob h
   refine JA.op rfl (A.call (L1 := []) call111 rfl (ref17_Call_ok (f157.mono hK180) (f161.mono hK180) (f165.mono hK180) (Ga5.mono hK180) f181 (f178.mono hK180) hr183) rfl rfl) ?_
   rintro _ _ _ ⟨v184, _, rfl, ⟨⟨l185, i186, ad187, cp188, rfl, rfl, rfl⟩, rfl⟩, _, rfl⟩
   refine ⟨fun w hs => Hold.sub hK180 ⟨1, rfl, 1, rfl, trivial⟩ hs, ?_⟩
   refine JM.wit Row.hn fun hn189 => JM.nil <| qv (sl ad187 l185 cp188) (V.ext rfl rfl) <| qv (ii i186) (V.ext rfl rfl) <| qa (sl ad187 l185 cp188) rfl <| qa (ii i186) rfl <| JQ.nil ?_
   refine J.nil <| CJ.ret ?_
   obtain rfl := si h
   exact ⟨_, _, Res.two rfl rfl rfl, ⟨l185, i186, ad187, cp188, rfl, rfl, rfl⟩, hK180, fun w hs => (Sep.dropAt 1 rfl (Sep.dropAt 1 rfl hs))⟩
 refine CJ.skip <| cr <| ja (nos) rfl <| ja (ii 0) rfl <| J.nil <| CJ.by (fun w hs => Sep.rowNil (e := 169) (t := Yq2) hs) ?_
 refine CJ.ret ?_
 obtain rfl := si h
 exact ⟨_, _, Res.two rfl rfl rfl, ⟨[], 0, none, 0, rfl, rfl, rfl⟩, hpr, fun w hs => (Sep.dropAt 1 rfl (Sep.dropAt 1 rfl hs))⟩
noncomputable def fn_ref21_blocks_l1 (xa : Tq1) : (Int × Int) → Option ((Int × Int) ⊕ (Unit ⊕ Tq7)) := fun ((i1, i2) : (Int × Int)) => cond (decide (i2 < (((xa.2.2.2.2.2.2.length : Nat) : Int)))) ((getI xa.2.2.2.2.2.2 i2).bind fun x3 => cond (decide (65536 < (IntKind.wrap .i64 (i1 + (((x3.1.length : Nat) : Int)))))) (some (.inr ((.inr ((6, 5, i2, 0)))))) (some (.inl ((IntKind.wrap .i64 (i1 + (((x3.1.length : Nat) : Int))), IntKind.wrap .i64 (i2 + 1)))))) (some (.inr ((.inl ()))))
noncomputable def fn_ref21_blocks_l2 (xa : Tq1) (i1 : Int) (x2 : ((List Tq2) × Tq5)) : Int → Option (Int ⊕ (Unit ⊕ (Int ⊕ (Unit ⊕ Tq7)))) := fun (i3 : Int) => cond (decide (i3 < (((x2.1.length : Nat) : Int)))) ((getI x2.1 i3).bind fun x4 => (fn_ref18_Needs (x4.1, x4.2.1, x4.2.2.1, x4.2.2.2.1, x4.2.2.2.2) xa.2.2.2.1 xa.2.1).bind fun (l5, i6) => cond (!decide (i6 = 0)) (some (.inr ((.inr (.inr ((.inr ((i6, 6, i1, i3))))))))) (some (.inl (IntKind.wrap .i64 (i3 + 1))))) (some (.inr ((.inl ()))))
noncomputable def fn_ref21_blocks_l3 (xa : Tq1) : Int → Option (Int ⊕ (Unit ⊕ Tq7)) := fun (i1 : Int) => cond (decide (i1 < (((xa.2.2.2.2.2.2.length : Nat) : Int)))) ((getI xa.2.2.2.2.2.2 i1).bind fun x2 => (loop (fn_ref21_blocks_l2 xa i1 x2) 0 : Option (Unit ⊕ (Int ⊕ (Unit ⊕ Tq7)))).bind fun o => match o with | .inr r => some r | .inl () => (getI xa.2.2.2.2.2.2 i1).bind fun x3 => (fn_ref19_Needs (x3.2.1, x3.2.2.1, x3.2.2.2.1, x3.2.2.2.2.1, x3.2.2.2.2.2.1, x3.2.2.2.2.2.2) ((((xa.2.2.2.2.2.2.length : Nat) : Int), xa.2.1, xa.2.2.2.1, xa.2.2.2.2.1, xa.2.2.2.2.2.1))).bind fun (l4, i5) => cond (!decide (i5 = 0)) (some (.inr ((.inr ((i5, 7, i1, 0)))))) (some (.inl (IntKind.wrap .i64 (i1 + 1))))) (some (.inr ((.inl ()))))
noncomputable def fn_ref21_blocks (xa : Tq1) : Option Tq7 :=
  cond (decide ((((xa.2.2.2.2.2.2.length : Nat) : Int)) = 0)) (some ((14, 5, 0, 0))) (cond (decide (65536 < (((xa.2.2.2.2.2.2.length : Nat) : Int)))) (some ((6, 5, 0, 0))) ((loop (fn_ref21_blocks_l1 xa) (0, 0) : Option (Unit ⊕ Tq7)).bind fun o => match o with | .inr r => some r | .inl () => (loop (fn_ref21_blocks_l3 xa) 0 : Option (Unit ⊕ Tq7)).bind fun o => match o with | .inr r => some r | .inl () => some ((0, 0, 0, 0))))
theorem ref21_blocks_ok {K : Hp} {xa : Tq1} {Aa2 : Option Addr} {Ca2 : Nat} {Aa3 : Option Addr} {Ca3 : Nat} {Aa4 : Option Addr} {Ca4 : Nat} {Aa5 : Option Addr} {Ca5 : Nat} {Aa6 : Option Addr} {Ca6 : Nat} (Ga2 : Is K (.sl Yq5) [sl Aa2 xa.2.2.1 Ca2] xa.2.2.1) (Ga3 : Is K Yq8 [sl Aa3 xa.2.2.2.1 Ca3] xa.2.2.2.1) (Ga4 : Is K (.sl Yq1) [sl Aa4 xa.2.2.2.2.1 Ca4] xa.2.2.2.2.1) (Ga5 : Is K Yq4 [sl Aa5 xa.2.2.2.2.2.1 Ca5] xa.2.2.2.2.2.1) (Ga6 : Is K (.sl Yq3) [sl Aa6 xa.2.2.2.2.2.2 Ca6] xa.2.2.2.2.2.2) {r : Tq7} (h : fn_ref21_blocks xa = some r) :
    Tr Tryz.prog 63 #[.agg #[ii xa.1, ii xa.2.1, sl Aa2 xa.2.2.1 Ca2, sl Aa3 xa.2.2.2.1 Ca3, sl Aa4 xa.2.2.2.2.1 Ca4, sl Aa5 xa.2.2.2.2.2.1 Ca5, sl Aa6 xa.2.2.2.2.2.2 Ca6]] K [] (fun v K' L' => (∃ (i7 : Int) (i9 : Int) (i10 : Int) (i11 : Int), (i7, i9, i10, i11) = r ∧ .agg #[ii i7, ii i9, ii i10, ii i11] = v ∧ L' = []) ∧ K = K') := by
 refine Tr.k <| Tr.of func63 rfl ntmps63 rfl fun E F => ?_
 unfold fn_ref21_blocks at h
 refine cr <| jbx [ii xa.1, ii xa.2.1, sl Aa2 xa.2.2.1 Ca2, sl Aa3 xa.2.2.2.1 Ca3, sl Aa4 xa.2.2.2.2.1 Ca4, sl Aa5 xa.2.2.2.2.2.1 Ca5, sl Aa6 xa.2.2.2.2.2.2 Ca6] rfl rfl fun b12 => jal inf101 [ii 0, ii 0, ii 0, ii 0] rfl fun b13 => J.nil <| CJ.seq <| CJ.seq ?_
 refine CJ.region <| jv _ (V.fad underlying30 rfl nz28 rfl) <| jv (sl Aa6 xa.2.2.2.2.2.2 Ca6) (V.ld rfl (Ld.sc sc28 (Rd.cl 1 rfl rfl))) <| jv (ii (((xa.2.2.2.2.2.2.length : Nat) : Int))) (V.len underlying28 rfl) <| jv (.bool (decide ((((xa.2.2.2.2.2.2.length : Nat) : Int)) = 0))) (V.eql rfl rfl) <| J.nil <| cc rfl h (fun hc14 h => ?_) fun hc14 h => ?_
 · refine cr <| jv (.agg #[ii 14, ii 5, ii 0, ii 0]) (V.build inf101 places101 rfl rfl) <| js [ii 14, ii 5, ii 0, ii 0] sz101 rfl rfl rfl rfl rfl rfl <| J.nil <| CJ.ret ?_
   obtain rfl := si h
   exact ⟨_, _, Res.one rfl ⟨_, _, rfl, Ld.agg (cs := [ii 14, ii 5, ii 0, ii 0]) underlying101 sz101 rfl (Rd.cls 0 0 rfl rfl)⟩, ⟨14, 5, 0, 0, rfl, rfl, rfl⟩, hpr, fun w hs => (Sep.dropAt 0 rfl (Sep.dropAt 0 rfl hs))⟩
 refine CJ.skip <| CJ.seq <| cr <| jv _ (V.fad underlying30 rfl nz28 rfl) <| jv (sl Aa6 xa.2.2.2.2.2.2 Ca6) (V.ld rfl (Ld.sc sc28 (Rd.cl 1 rfl rfl))) <| jv (ii (((xa.2.2.2.2.2.2.length : Nat) : Int))) (V.len underlying28 rfl) ?_
 refine jv (.bool (decide (65536 < (((xa.2.2.2.2.2.2.length : Nat) : Int))))) (V.gtr rfl rfl) <| J.nil <| cc rfl h (fun hc15 h => ?_) fun hc15 h => ?_
 · refine cr <| jv (.agg #[ii 6, ii 5, ii 0, ii 0]) (V.build inf101 places101 rfl rfl) <| js [ii 6, ii 5, ii 0, ii 0] sz101 rfl rfl rfl rfl rfl rfl <| J.nil <| CJ.ret ?_
   obtain rfl := si h
   exact ⟨_, _, Res.one rfl ⟨_, _, rfl, Ld.agg (cs := [ii 6, ii 5, ii 0, ii 0]) underlying101 sz101 rfl (Rd.cls 0 0 rfl rfl)⟩, ⟨6, 5, 0, 0, rfl, rfl, rfl⟩, hpr, fun w hs => (Sep.dropAt 0 rfl (Sep.dropAt 0 rfl hs))⟩
 refine CJ.skip <| cr <| ja (ii 0) rfl <| J.nil <| CJ.seq <| CJ.seq ?_
 refine CJ.region <| ja (ii 0) rfl <| J.nil ?_
 obtain ⟨o17, ho18, h⟩ := ob h
 refine CJ.joinN (o := o17) (fun s ρ K' L' => () = s ∧ Fits [(1, pt b12), (2, pt b13)] ρ ∧ K = K' ∧ L' = Cl b12 30 [ii xa.1, ii xa.2.1, sl Aa2 xa.2.2.1 Ca2, sl Aa3 xa.2.2.2.1 Ca3, sl Aa4 xa.2.2.2.2.1 Ca4, sl Aa5 xa.2.2.2.2.2.1 Ca5, sl Aa6 xa.2.2.2.2.2.2 Ca6] :: Cl b13 101 [ii 0, ii 0, ii 0, ii 0] :: F) ?_ ?_
 · refine CJ.block <| CJ.front 1 rfl <| CJ.loop (fun s ρ K' L' => ∃ (i19 : Int) (i20 : Int), (i19, i20) = s ∧ Fits [(1, pt b12), (2, pt b13), (3, ii i19), (4, ii i20)] ρ ∧ K = K' ∧ L' = Cl b12 30 [ii xa.1, ii xa.2.1, sl Aa2 xa.2.2.1 Ca2, sl Aa3 xa.2.2.2.1 Ca3, sl Aa4 xa.2.2.2.2.1 Ca4, sl Aa5 xa.2.2.2.2.2.1 Ca5, sl Aa6 xa.2.2.2.2.2.2 Ca6] :: Cl b13 101 [ii 0, ii 0, ii 0, ii 0] :: F) ho18 ⟨0, 0, rfl, rt4, rfl, rfl⟩ ?_
   rintro s ρ _ _ r21 ⟨i19, i20, rfl, hf22, rfl, rfl⟩ h24
   obtain ⟨ρ, rfl⟩ := hf22.ex
   refine CJ.seq <| cr <| jm (ii i20) rfl <| jv _ (V.fad underlying30 rfl nz28 rfl) <| jv (sl Aa6 xa.2.2.2.2.2.2 Ca6) (V.ld rfl (Ld.sc sc28 (Rd.cl 0 rfl rfl))) <| jv (ii (((xa.2.2.2.2.2.2.length : Nat) : Int))) (V.len underlying28 rfl) ?_
   refine jv (.bool (decide (i20 < (((xa.2.2.2.2.2.2.length : Nat) : Int))))) (V.lss rfl rfl) <| J.nil <| cc rfl h24 (fun hc25 h24 => ?_) fun hc25 h24 => ?_
   · refine CJ.skip <| CJ.seq <| CJ.block <| cr <| jm (ii i19) rfl <| jv _ (V.fad underlying30 rfl nz28 rfl) ?_
     refine jv (sl Aa6 xa.2.2.2.2.2.2 Ca6) (V.ld rfl (Ld.sc sc28 (Rd.cl 0 rfl rfl))) <| jm (ii i20) rfl ?_
     obtain ⟨x29, hx31, h24⟩ := ob h24
     obtain ⟨p33, p34, p35⟩ := getI_some hx31
     obtain ⟨b36, o37, e38, a39⟩ := (Ga6).at p34
     refine jv _ (V.iad underlying28 sz60 rfl e38 rfl p33 p35) <| jv _ (V.fad underlying60 rfl nz56 rfl) ?_
     obtain ⟨ad40, cp41, c42, f43⟩ := ((a39).fst).sl
     refine jv (sl ad40 x29.1 cp41) (V.ld rfl (Ld.sc sc56 (Rd.k c42 hpr))) <| jv (ii (((x29.1.length : Nat) : Int))) (V.len underlying56 rfl) <| jv (ii (IntKind.wrap .i64 (i19 + (((x29.1.length : Nat) : Int))))) (V.add rfl rfl) <| ja (ii (IntKind.wrap .i64 (i19 + (((x29.1.length : Nat) : Int))))) rfl <| J.nil <| CJ.seq <| CJ.region ?_
     refine jm (ii (IntKind.wrap .i64 (i19 + (((x29.1.length : Nat) : Int))))) rfl <| jv (.bool (decide (65536 < (IntKind.wrap .i64 (i19 + (((x29.1.length : Nat) : Int))))))) (V.gtr rfl rfl) <| J.nil <| cc rfl h24 (fun hc44 h24 => ?_) fun hc44 h24 => ?_
     · refine cr <| jm (ii i20) rfl <| jv (.agg #[ii 6, ii 5, ii i20, ii 0]) (V.build inf101 places101 rfl rfl) <| J.front 1 rfl <| js [ii 6, ii 5, ii i20, ii 0] sz101 rfl rfl rfl rfl rfl rfl <| J.nil ?_
       refine CJ.ret ?_
       obtain rfl := si h24
       refine ⟨nofun, fun e => ?_⟩
       subst e
       refine .inr ⟨nofun, ?_⟩
       obtain rfl := si h
       exact ⟨_, _, Res.one rfl ⟨_, _, rfl, Ld.agg (cs := [ii 6, ii 5, ii i20, ii 0]) underlying101 sz101 rfl (Rd.cls 0 0 rfl rfl)⟩, ⟨6, 5, i20, 0, rfl, rfl, rfl⟩, hpr, fun w hs => (Sep.dropAt 0 rfl (Sep.dropAt 0 rfl hs))⟩
     refine CJ.skip <| CJ.region <| jm (ii i20) rfl <| jv (ii (IntKind.wrap .i64 (i20 + 1))) (V.add rfl rfl) <| ja (ii (IntKind.wrap .i64 (i20 + 1))) rfl <| J.nil ?_
     obtain rfl := si h24
     exact ⟨rfl, ⟨IntKind.wrap .i64 (i19 + (((x29.1.length : Nat) : Int))), IntKind.wrap .i64 (i20 + 1), rfl, rt4, rfl, rfl⟩⟩
   refine CJ.exit ?_
   obtain rfl := si h24
   refine ⟨nofun, fun e => ?_⟩
   subst e
   exact .inl ⟨rfl, _, rfl, ⟨rfl, rt2, rfl, rfl⟩⟩
 rintro s ρ _ _ ho45 ⟨rfl, hf46, rfl, rfl⟩
 subst ho45
 obtain ⟨ρ, rfl⟩ := hf46.ex
 refine PJ.done <| cr <| jv _ (V.fad underlying30 rfl nz28 rfl) <| jv (sl Aa6 xa.2.2.2.2.2.2 Ca6) (V.ld rfl (Ld.sc sc28 (Rd.cl 0 rfl rfl))) <| jv (ii (((xa.2.2.2.2.2.2.length : Nat) : Int))) (V.len underlying28 rfl) <| jv _ (V.fad underlying30 rfl nz3 rfl) ?_
 refine jv (ii xa.2.1) (V.ld rfl (Ld.sc sc3 (Rd.cl 0 rfl rfl))) <| jv _ (V.fad underlying30 rfl nz23 rfl) <| jv (sl Aa3 xa.2.2.2.1 Ca3) (V.ld rfl (Ld.sc sc23 (Rd.cl 0 rfl rfl))) <| jv _ (V.fad underlying30 rfl nz26 rfl) <| jv (.agg #[sl Aa4 xa.2.2.2.2.1 Ca4]) (V.ld rfl (Ld.agg (cs := [sl Aa4 xa.2.2.2.2.1 Ca4]) underlying26 sz26 rfl (Rd.cls 0 4 rfl rfl))) <| jv _ (V.fad underlying30 rfl nz27 rfl) <| jv (sl Aa5 xa.2.2.2.2.2.1 Ca5) (V.ld rfl (Ld.sc sc27 (Rd.cl 0 rfl rfl))) ?_
 refine jv (.agg #[ii (((xa.2.2.2.2.2.2.length : Nat) : Int)), ii xa.2.1, sl Aa3 xa.2.2.2.1 Ca3, sl Aa4 xa.2.2.2.2.1 Ca4, sl Aa5 xa.2.2.2.2.2.1 Ca5]) (V.build inf131 places131 rfl rfl) <| jal inf131 [ii 0, ii 0, nos, nos, nos] rfl fun b47 => js [ii (((xa.2.2.2.2.2.2.length : Nat) : Int)), ii xa.2.1, sl Aa3 xa.2.2.2.1 Ca3, sl Aa4 xa.2.2.2.2.1 Ca4, sl Aa5 xa.2.2.2.2.2.1 Ca5] sz131 rfl rfl rfl rfl rfl rfl <| J.nil <| CJ.seq <| CJ.seq <| CJ.region ?_
 refine ja (ii 0) rfl <| J.nil ?_
 obtain ⟨o48, ho49, h⟩ := ob h
 refine CJ.joinN (o := o48) (fun s ρ K' L' => () = s ∧ Fits [(2, pt b13)] ρ ∧ K = K' ∧ L' = Cl b13 101 [ii 0, ii 0, ii 0, ii 0] :: F) ?_ ?_
 · refine CJ.block <| CJ.front 2 rfl <| CJ.front 2 rfl <| CJ.loop (fun s ρ K' L' => ∃ (i50 : Int), i50 = s ∧ Fits [(1, pt b12), (2, pt b13), (5, pt b47), (6, ii i50)] ρ ∧ K = K' ∧ L' = Cl b12 30 [ii xa.1, ii xa.2.1, sl Aa2 xa.2.2.1 Ca2, sl Aa3 xa.2.2.2.1 Ca3, sl Aa4 xa.2.2.2.2.1 Ca4, sl Aa5 xa.2.2.2.2.2.1 Ca5, sl Aa6 xa.2.2.2.2.2.2 Ca6] :: Cl b13 101 [ii 0, ii 0, ii 0, ii 0] :: Cl b47 131 [ii (((xa.2.2.2.2.2.2.length : Nat) : Int)), ii xa.2.1, sl Aa3 xa.2.2.2.1 Ca3, sl Aa4 xa.2.2.2.2.1 Ca4, sl Aa5 xa.2.2.2.2.2.1 Ca5] :: F) ho49 ⟨0, rfl, rt4, rfl, rfl⟩ ?_
   rintro s ρ _ _ r51 ⟨i50, rfl, hf52, rfl, rfl⟩ h53
   obtain ⟨ρ, rfl⟩ := hf52.ex
   refine CJ.seq <| cr <| jm (ii i50) rfl <| jv _ (V.fad underlying30 rfl nz28 rfl) <| jv (sl Aa6 xa.2.2.2.2.2.2 Ca6) (V.ld rfl (Ld.sc sc28 (Rd.cl 0 rfl rfl))) <| jv (ii (((xa.2.2.2.2.2.2.length : Nat) : Int))) (V.len underlying28 rfl) ?_
   refine jv (.bool (decide (i50 < (((xa.2.2.2.2.2.2.length : Nat) : Int))))) (V.lss rfl rfl) <| J.nil <| cc rfl h53 (fun hc54 h53 => ?_) fun hc54 h53 => ?_
   · refine CJ.skip <| CJ.seq <| CJ.block <| cr <| jv _ (V.fad underlying30 rfl nz28 rfl) <| jv (sl Aa6 xa.2.2.2.2.2.2 Ca6) (V.ld rfl (Ld.sc sc28 (Rd.cl 0 rfl rfl))) ?_
     refine jm (ii i50) rfl ?_
     obtain ⟨x55, hx57, h53⟩ := ob h53
     obtain ⟨p59, p61, p65⟩ := getI_some hx57
     obtain ⟨b66, o67, e68, a69⟩ := (Ga6).at p61
     refine jv _ (V.iad underlying28 sz60 rfl e68 rfl p59 p65) <| jv _ (V.fad underlying60 rfl nz56 rfl) ?_
     obtain ⟨ad70, cp71, c72, f73⟩ := ((a69).fst).sl
     refine jv (sl ad70 x55.1 cp71) (V.ld rfl (Ld.sc sc56 (Rd.k c72 hpr))) <| ja (sl ad70 x55.1 cp71) rfl <| J.nil <| CJ.seq <| cr <| ja (ii 0) rfl ?_
     refine J.nil ?_
     obtain ⟨o74, ho75, h53⟩ := ob h53
     refine CJ.joinN (o := o74) (fun s ρ K' L' => () = s ∧ Fits [(1, pt b12), (2, pt b13), (5, pt b47), (6, ii i50)] ρ ∧ K = K' ∧ L' = Cl b12 30 [ii xa.1, ii xa.2.1, sl Aa2 xa.2.2.1 Ca2, sl Aa3 xa.2.2.2.1 Ca3, sl Aa4 xa.2.2.2.2.1 Ca4, sl Aa5 xa.2.2.2.2.2.1 Ca5, sl Aa6 xa.2.2.2.2.2.2 Ca6] :: Cl b13 101 [ii 0, ii 0, ii 0, ii 0] :: Cl b47 131 [ii (((xa.2.2.2.2.2.2.length : Nat) : Int)), ii xa.2.1, sl Aa3 xa.2.2.2.1 Ca3, sl Aa4 xa.2.2.2.2.1 Ca4, sl Aa5 xa.2.2.2.2.2.1 Ca5] :: F) ?_ ?_
     · refine CJ.block <| CJ.loop (fun s ρ K' L' => ∃ (i76 : Int), i76 = s ∧ Fits [(1, pt b12), (2, pt b13), (5, pt b47), (6, ii i50), (7, sl ad70 x55.1 cp71), (8, ii i76)] ρ ∧ K = K' ∧ L' = Cl b12 30 [ii xa.1, ii xa.2.1, sl Aa2 xa.2.2.1 Ca2, sl Aa3 xa.2.2.2.1 Ca3, sl Aa4 xa.2.2.2.2.1 Ca4, sl Aa5 xa.2.2.2.2.2.1 Ca5, sl Aa6 xa.2.2.2.2.2.2 Ca6] :: Cl b13 101 [ii 0, ii 0, ii 0, ii 0] :: Cl b47 131 [ii (((xa.2.2.2.2.2.2.length : Nat) : Int)), ii xa.2.1, sl Aa3 xa.2.2.2.1 Ca3, sl Aa4 xa.2.2.2.2.1 Ca4, sl Aa5 xa.2.2.2.2.2.1 Ca5] :: F) ho75 ⟨0, rfl, rt6, rfl, rfl⟩ ?_
       rintro s ρ _ _ r77 ⟨i76, rfl, hf78, rfl, rfl⟩ h79
       obtain ⟨ρ, rfl⟩ := hf78.ex
       refine CJ.seq <| cr <| jm (ii i76) rfl <| jm (sl ad70 x55.1 cp71) rfl <| jv (ii (((x55.1.length : Nat) : Int))) (V.len underlying56 rfl) <| jv (.bool (decide (i76 < (((x55.1.length : Nat) : Int))))) (V.lss rfl rfl) ?_
       refine J.nil <| cc rfl h79 (fun hc80 h79 => ?_) fun hc80 h79 => ?_
       · refine CJ.skip <| CJ.seq <| CJ.block <| CJ.seq <| CJ.mix [Cl b12 30 [ii xa.1, ii xa.2.1, sl Aa2 xa.2.2.1 Ca2, sl Aa3 xa.2.2.2.1 Ca3, sl Aa4 xa.2.2.2.2.1 Ca4, sl Aa5 xa.2.2.2.2.2.1 Ca5, sl Aa6 xa.2.2.2.2.2.2 Ca6], Cl b13 101 [ii 0, ii 0, ii 0, ii 0], Cl b47 131 [ii (((xa.2.2.2.2.2.2.length : Nat) : Int)), ii xa.2.1, sl Aa3 xa.2.2.2.1 Ca3, sl Aa4 xa.2.2.2.2.1 Ca4, sl Aa5 xa.2.2.2.2.2.1 Ca5]] [([0, 1, 2, 3, 4, 5, 6, 7], 8)] [9, 10, 11, 12, 13] [] mixO (by decide +kernel) ⟨0, rfl, 0, rfl, 0, rfl, trivial⟩ rfl rfl rfl <| JM.cons <| qm (sl ad70 x55.1 cp71) rfl ?_
         refine qm (ii i76) rfl ?_
         obtain ⟨x81, hx82, h79⟩ := ob h79
         obtain ⟨p83, p84, p85⟩ := getI_some hx82
         obtain ⟨b88, o89, e90, a91⟩ := (f73).at p84
         refine qv _ (V.iad underlying56 sz62 rfl e90 rfl p83 p85) <| qv (.agg #[ii x81.1, ii x81.2.1, ii x81.2.2.1, ii x81.2.2.2.1, .bool x81.2.2.2.2]) (V.ld rfl (Ld.aggK (cs := [ii x81.1, ii x81.2.1, ii x81.2.2.1, ii x81.2.2.2.1, .bool x81.2.2.2.2]) underlying62 sz62 rfl ⟨((a91).fst).int, (((a91).snd).fst).int, ((((a91).snd).snd).fst).int, (((((a91).snd).snd).snd).fst).int, ((((((a91).snd).snd).snd).snd).one).bool, trivial⟩ hpr)) <| qv _ (V.fad underlying30 rfl nz23 rfl) <| qv (sl Aa3 xa.2.2.2.1 Ca3) (V.ld rfl (Ld.sc sc23 (Rd.cl 0 rfl rfl))) <| qv _ (V.fad underlying30 rfl nz3 rfl) <| qv (ii xa.2.1) (V.ld rfl (Ld.sc sc3 (Rd.cl 0 rfl rfl))) <| JQ.nil ?_
         obtain ⟨r92, hr93, h79⟩ := ob h79
         refine JA.op rfl (A.call (L1 := []) call86 rfl (ref18_Needs_ok Ga3 hr93) rfl rfl) ?_
         rintro _ _ _ ⟨v94, _, rfl, ⟨⟨l95, i96, ad97, cp98, rfl, rfl, rfl⟩, rfl⟩, _, rfl⟩
         refine ⟨fun w hs => Hold.sub hpr ⟨1, rfl, 1, rfl, 1, rfl, trivial⟩ hs, ?_⟩
         refine JM.wit Row.hn fun hn99 => JM.nil <| qm (.tuple #[sl ad97 l95 cp98, ii i96]) rfl <| qv (sl ad97 l95 cp98) (V.ext rfl rfl) <| qv (ii i96) (V.ext rfl rfl) <| qa (sl ad97 l95 cp98) rfl <| qa (ii i96) rfl ?_
         refine JQ.nil <| J.nil <| cr <| jm (ii i96) rfl <| jv (.bool (!decide (i96 = 0))) (V.neq rfl rfl) <| J.nil ?_
         refine cc rfl h79 (fun hc100 h79 => ?_) fun hc100 h79 => ?_
         · refine cr <| jm (ii i96) rfl <| jm (ii i50) rfl <| jm (ii i76) rfl <| jv (.agg #[ii i96, ii 6, ii i50, ii i76]) (V.build inf101 places101 rfl rfl) <| J.front 2 rfl ?_
           refine js [ii i96, ii 6, ii i50, ii i76] sz101 rfl rfl rfl rfl rfl rfl <| J.nil <| CJ.ret ?_
           obtain rfl := si h79
           refine ⟨nofun, fun e => ?_⟩
           subst e
           refine .inr ⟨nofun, ?_⟩
           obtain rfl := si h53
           refine ⟨nofun, fun e => ?_⟩
           subst e
           refine .inr ⟨nofun, ?_⟩
           obtain rfl := si h
           exact ⟨_, _, Res.one rfl ⟨_, _, rfl, Ld.agg (cs := [ii i96, ii 6, ii i50, ii i76]) underlying101 sz101 rfl (Rd.cls 0 0 rfl rfl)⟩, ⟨i96, 6, i50, i76, rfl, rfl, rfl⟩, hpr, fun w hs => (Sep.dropAt 0 rfl (Sep.dropAt 0 rfl (Sep.dropAt 0 rfl (Sep.dropAt 0 rfl hs))))⟩
         refine CJ.skip <| CJ.region <| jm (ii i76) rfl <| jv (ii (IntKind.wrap .i64 (i76 + 1))) (V.add rfl rfl) <| ja (ii (IntKind.wrap .i64 (i76 + 1))) rfl <| J.dropAt 0 rfl <| J.nil ?_
         obtain rfl := si h79
         exact ⟨rfl, ⟨IntKind.wrap .i64 (i76 + 1), rfl, rt6, rfl, rfl⟩⟩
       refine CJ.exit ?_
       obtain rfl := si h79
       refine ⟨nofun, fun e => ?_⟩
       subst e
       exact .inl ⟨rfl, _, rfl, ⟨rfl, rt4, rfl, rfl⟩⟩
     rintro s ρ _ _ ho101 ⟨rfl, hf102, rfl, rfl⟩
     subst ho101
     obtain ⟨ρ, rfl⟩ := hf102.ex
     refine PJ.done <| CJ.seq <| CJ.mix [Cl b12 30 [ii xa.1, ii xa.2.1, sl Aa2 xa.2.2.1 Ca2, sl Aa3 xa.2.2.2.1 Ca3, sl Aa4 xa.2.2.2.2.1 Ca4, sl Aa5 xa.2.2.2.2.2.1 Ca5, sl Aa6 xa.2.2.2.2.2.2 Ca6], Cl b13 101 [ii 0, ii 0, ii 0, ii 0], Cl b47 131 [ii (((xa.2.2.2.2.2.2.length : Nat) : Int)), ii xa.2.1, sl Aa3 xa.2.2.2.1 Ca3, sl Aa4 xa.2.2.2.2.1 Ca4, sl Aa5 xa.2.2.2.2.2.1 Ca5]] [([0, 1, 2, 3, 4, 5, 6], 7)] [8, 9, 10, 11, 12] [] mixO (by decide +kernel) ⟨0, rfl, 0, rfl, 0, rfl, trivial⟩ rfl rfl rfl <| JM.cons <| qv _ (V.fad underlying30 rfl nz28 rfl) <| qv (sl Aa6 xa.2.2.2.2.2.2 Ca6) (V.ld rfl (Ld.sc sc28 (Rd.cl 0 rfl rfl))) <| qm (ii i50) rfl ?_
     obtain ⟨x103, hx104, h53⟩ := ob h53
     obtain ⟨p105, p106, p107⟩ := getI_some hx104
     obtain ⟨b108, o109, e110, a111⟩ := (Ga6).at p106
     refine qv _ (V.iad underlying28 sz60 rfl e110 rfl p105 p107) <| qv _ (V.fad underlying60 rfl nz58 rfl) ?_
     obtain ⟨ad112, cp113, c114, f115⟩ := (((((((a111).snd).one).snd).snd).snd).fst).sl
     obtain ⟨ad116, cp117, c118, f119⟩ := ((((((((a111).snd).one).snd).snd).snd).snd).fst).sl
     obtain ⟨ad120, cp121, c122, f123⟩ := (((((((((a111).snd).one).snd).snd).snd).snd).snd).one).sl
     refine qv (.agg #[ii x103.2.1, ii x103.2.2.1, ii x103.2.2.2.1, sl ad112 x103.2.2.2.2.1 cp113, sl ad116 x103.2.2.2.2.2.1 cp117, sl ad120 x103.2.2.2.2.2.2 cp121]) (V.ld rfl (Ld.aggK (cs := [ii x103.2.1, ii x103.2.2.1, ii x103.2.2.2.1, sl ad112 x103.2.2.2.2.1 cp113, sl ad116 x103.2.2.2.2.2.1 cp117, sl ad120 x103.2.2.2.2.2.2 cp121]) underlying58 sz58 rfl ⟨((((a111).snd).one).fst).int, (((((a111).snd).one).snd).fst).int, ((((((a111).snd).one).snd).snd).fst).int, c114, c118, c122, trivial⟩ hpr)) <| qv (.agg #[ii (((xa.2.2.2.2.2.2.length : Nat) : Int)), ii xa.2.1, sl Aa3 xa.2.2.2.1 Ca3, sl Aa4 xa.2.2.2.2.1 Ca4, sl Aa5 xa.2.2.2.2.2.1 Ca5]) (V.ld rfl (Ld.agg (cs := [ii (((xa.2.2.2.2.2.2.length : Nat) : Int)), ii xa.2.1, sl Aa3 xa.2.2.2.1 Ca3, sl Aa4 xa.2.2.2.2.1 Ca4, sl Aa5 xa.2.2.2.2.2.1 Ca5]) underlying131 sz131 rfl (Rd.cls 2 0 rfl rfl))) <| JQ.nil ?_
     obtain ⟨r124, hr125, h53⟩ := ob h53
     refine JA.op rfl (A.call (L1 := []) call87 rfl (ref19_Needs_ok f115 f119 f123 Ga3 Ga4 Ga5 hr125) rfl rfl) ?_
     rintro _ _ _ ⟨v126, _, rfl, ⟨⟨l127, i128, ad129, cp130, rfl, rfl, rfl⟩, rfl⟩, _, rfl⟩
     refine ⟨fun w hs => Hold.sub hpr ⟨1, rfl, 1, rfl, 1, rfl, trivial⟩ hs, ?_⟩
     refine JM.wit Row.hn fun hn131 => JM.nil <| qm (.tuple #[sl ad129 l127 cp130, ii i128]) rfl <| qv (sl ad129 l127 cp130) (V.ext rfl rfl) <| qv (ii i128) (V.ext rfl rfl) <| qa (sl ad129 l127 cp130) rfl <| qa (ii i128) rfl ?_
     refine JQ.nil <| J.nil <| cr <| jm (ii i128) rfl <| jv (.bool (!decide (i128 = 0))) (V.neq rfl rfl) <| J.nil ?_
     refine cc rfl h53 (fun hc132 h53 => ?_) fun hc132 h53 => ?_
     · refine cr <| jm (ii i128) rfl <| jm (ii i50) rfl <| jv (.agg #[ii i128, ii 7, ii i50, ii 0]) (V.build inf101 places101 rfl rfl) <| J.front 2 rfl <| js [ii i128, ii 7, ii i50, ii 0] sz101 rfl rfl rfl rfl rfl rfl ?_
       refine J.nil <| CJ.ret ?_
       obtain rfl := si h53
       refine ⟨nofun, fun e => ?_⟩
       subst e
       refine .inr ⟨nofun, ?_⟩
       obtain rfl := si h
       exact ⟨_, _, Res.one rfl ⟨_, _, rfl, Ld.agg (cs := [ii i128, ii 7, ii i50, ii 0]) underlying101 sz101 rfl (Rd.cls 0 0 rfl rfl)⟩, ⟨i128, 7, i50, 0, rfl, rfl, rfl⟩, hpr, fun w hs => (Sep.dropAt 0 rfl (Sep.dropAt 0 rfl (Sep.dropAt 0 rfl (Sep.dropAt 0 rfl hs))))⟩
     refine CJ.skip <| CJ.region <| jm (ii i50) rfl <| jv (ii (IntKind.wrap .i64 (i50 + 1))) (V.add rfl rfl) <| ja (ii (IntKind.wrap .i64 (i50 + 1))) rfl <| J.dropAt 0 rfl <| J.nil ?_
     obtain rfl := si h53
     exact ⟨rfl, ⟨IntKind.wrap .i64 (i50 + 1), rfl, rt4, rfl, rfl⟩⟩
   refine CJ.dropAt 0 rfl <| CJ.dropAt 1 rfl <| CJ.exit ?_
   obtain rfl := si h53
   refine ⟨nofun, fun e => ?_⟩
   subst e
   exact .inl ⟨rfl, _, rfl, ⟨rfl, rt1, rfl, rfl⟩⟩
 rintro s ρ _ _ ho133 ⟨rfl, hf134, rfl, rfl⟩
 subst ho133
 obtain ⟨ρ, rfl⟩ := hf134.ex
 refine PJ.done <| cr <| jv (.agg #[ii 0, ii 0, ii 0, ii 0]) (V.build inf101 places101 rfl rfl) <| js [ii 0, ii 0, ii 0, ii 0] sz101 rfl rfl rfl rfl rfl rfl <| J.nil <| CJ.ret ?_
 obtain rfl := si h
 exact ⟨_, _, Res.one rfl ⟨_, _, rfl, Ld.agg (cs := [ii 0, ii 0, ii 0, ii 0]) underlying101 sz101 rfl (Rd.cls 0 0 rfl rfl)⟩, ⟨0, 0, 0, 0, rfl, rfl, rfl⟩, hpr, fun w hs => (Sep.dropAt 0 rfl hs)⟩

noncomputable def fn_ref21_Check (xa : Tq1) : Option Tq7 :=
  (fn_ref21_head (xa.1, xa.2.1, xa.2.2.1, xa.2.2.2.1, xa.2.2.2.2.1, xa.2.2.2.2.2.1, xa.2.2.2.2.2.2)).bind fun (i42, i43, i44, i45) => cond (!decide (i42 = 0)) (some ((i42, i43, i44, i45))) ((fn_ref21_types (xa.1, xa.2.1, xa.2.2.1, xa.2.2.2.1, xa.2.2.2.2.1, xa.2.2.2.2.2.1, xa.2.2.2.2.2.2)).bind fun (i53, i54, i55, i56) => cond (!decide (i53 = 0)) (some ((i53, i54, i55, i56))) ((fn_ref21_blocks (xa.1, xa.2.1, xa.2.2.1, xa.2.2.2.1, xa.2.2.2.2.1, xa.2.2.2.2.2.1, xa.2.2.2.2.2.2)).bind fun (i63, i65, i66, i67) => some ((i63, i65, i66, i67))))
theorem ref21_Check_ok {K : Hp} {xa : Tq1} {Aa2 : Option Addr} {Ca2 : Nat} {Aa3 : Option Addr} {Ca3 : Nat} {Aa4 : Option Addr} {Ca4 : Nat} {Aa5 : Option Addr} {Ca5 : Nat} {Aa6 : Option Addr} {Ca6 : Nat} (Ga2 : Is K (.sl Yq5) [sl Aa2 xa.2.2.1 Ca2] xa.2.2.1) (Ga3 : Is K Yq8 [sl Aa3 xa.2.2.2.1 Ca3] xa.2.2.2.1) (Ga4 : Is K (.sl Yq1) [sl Aa4 xa.2.2.2.2.1 Ca4] xa.2.2.2.2.1) (Ga5 : Is K Yq4 [sl Aa5 xa.2.2.2.2.2.1 Ca5] xa.2.2.2.2.2.1) (Ga6 : Is K (.sl Yq3) [sl Aa6 xa.2.2.2.2.2.2 Ca6] xa.2.2.2.2.2.2) {r : Tq7} (h : fn_ref21_Check xa = some r) :
    Tr Tryz.prog 52 #[.agg #[ii xa.1, ii xa.2.1, sl Aa2 xa.2.2.1 Ca2, sl Aa3 xa.2.2.2.1 Ca3, sl Aa4 xa.2.2.2.2.1 Ca4, sl Aa5 xa.2.2.2.2.2.1 Ca5, sl Aa6 xa.2.2.2.2.2.2 Ca6]] K [] (fun v K' L' => (∃ (i34 : Int) (i35 : Int) (i36 : Int) (i37 : Int), (i34, i35, i36, i37) = r ∧ .agg #[ii i34, ii i35, ii i36, ii i37] = v ∧ L' = []) ∧ K = K') := by
 refine Tr.k <| Tr.of func52 rfl ntmps52 rfl fun E F => ?_
 unfold fn_ref21_Check at h
 refine cr <| jbx [ii xa.1, ii xa.2.1, sl Aa2 xa.2.2.1 Ca2, sl Aa3 xa.2.2.2.1 Ca3, sl Aa4 xa.2.2.2.2.1 Ca4, sl Aa5 xa.2.2.2.2.2.1 Ca5, sl Aa6 xa.2.2.2.2.2.2 Ca6] rfl rfl fun b38 => jal inf101 [ii 0, ii 0, ii 0, ii 0] rfl fun b39 => J.nil <| CJ.seq <| CJ.region ?_
 refine jv (.agg #[ii xa.1, ii xa.2.1, sl Aa2 xa.2.2.1 Ca2, sl Aa3 xa.2.2.2.1 Ca3, sl Aa4 xa.2.2.2.2.1 Ca4, sl Aa5 xa.2.2.2.2.2.1 Ca5, sl Aa6 xa.2.2.2.2.2.2 Ca6]) (V.ld rfl (Ld.agg (cs := [ii xa.1, ii xa.2.1, sl Aa2 xa.2.2.1 Ca2, sl Aa3 xa.2.2.2.1 Ca3, sl Aa4 xa.2.2.2.2.1 Ca4, sl Aa5 xa.2.2.2.2.2.1 Ca5, sl Aa6 xa.2.2.2.2.2.2 Ca6]) underlying30 sz30 rfl (Rd.cls 1 0 rfl rfl))) ?_
 obtain ⟨r40, hr41, h⟩ := ob h
 refine J.op rfl (A.call (L1 := []) call61 rfl (ref21_head_ok Ga2 Ga3 Ga4 Ga5 Ga6 hr41) rfl rfl) ?_
 rintro _ _ _ ⟨v46, _, rfl, ⟨⟨i42, i43, i44, i45, rfl, rfl, rfl⟩, rfl⟩, _, rfl⟩
 refine jal inf101 [ii 0, ii 0, ii 0, ii 0] rfl fun b49 => js [ii i42, ii i43, ii i44, ii i45] sz101 rfl rfl rfl rfl rfl rfl <| J.nil <| CJ.seq <| cr <| jv _ (V.fad underlying101 rfl nz72 rfl) ?_
 refine jv (ii i42) (V.ld rfl (Ld.sc sc72 (Rd.cl 0 rfl rfl))) <| jv (.bool (!decide (i42 = 0))) (V.neq rfl rfl) <| J.nil <| cc rfl h (fun hc50 h => ?_) fun hc50 h => ?_
 · refine cr <| jv (.agg #[ii i42, ii i43, ii i44, ii i45]) (V.ld rfl (Ld.agg (cs := [ii i42, ii i43, ii i44, ii i45]) underlying101 sz101 rfl (Rd.cls 0 0 rfl rfl))) <| J.front 1 rfl <| js [ii i42, ii i43, ii i44, ii i45] sz101 rfl rfl rfl rfl rfl rfl <| J.nil <| CJ.ret ?_
   obtain rfl := si h
   exact ⟨_, _, Res.one rfl ⟨_, _, rfl, Ld.agg (cs := [ii i42, ii i43, ii i44, ii i45]) underlying101 sz101 rfl (Rd.cls 0 0 rfl rfl)⟩, ⟨i42, i43, i44, i45, rfl, rfl, rfl⟩, hpr, fun w hs => (Sep.dropAt 0 rfl (Sep.dropAt 0 rfl (Sep.dropAt 0 rfl hs)))⟩
 refine CJ.skip <| cr <| jv (.agg #[ii xa.1, ii xa.2.1, sl Aa2 xa.2.2.1 Ca2, sl Aa3 xa.2.2.2.1 Ca3, sl Aa4 xa.2.2.2.2.1 Ca4, sl Aa5 xa.2.2.2.2.2.1 Ca5, sl Aa6 xa.2.2.2.2.2.2 Ca6]) (V.ld rfl (Ld.agg (cs := [ii xa.1, ii xa.2.1, sl Aa2 xa.2.2.1 Ca2, sl Aa3 xa.2.2.2.1 Ca3, sl Aa4 xa.2.2.2.2.1 Ca4, sl Aa5 xa.2.2.2.2.2.1 Ca5, sl Aa6 xa.2.2.2.2.2.2 Ca6]) underlying30 sz30 rfl (Rd.cls 2 0 rfl rfl))) ?_
 obtain ⟨r51, hr52, h⟩ := ob h
 refine J.op rfl (A.call (L1 := []) call62 rfl (ref21_types_ok Ga2 Ga3 Ga4 Ga5 Ga6 hr52) rfl rfl) ?_
 rintro _ _ _ ⟨v57, _, rfl, ⟨⟨i53, i54, i55, i56, rfl, rfl, rfl⟩, rfl⟩, _, rfl⟩
 refine js [ii i53, ii i54, ii i55, ii i56] sz101 rfl rfl rfl rfl rfl rfl <| J.nil <| CJ.seq <| cr <| jv _ (V.fad underlying101 rfl nz72 rfl) <| jv (ii i53) (V.ld rfl (Ld.sc sc72 (Rd.cl 0 rfl rfl))) ?_
 refine jv (.bool (!decide (i53 = 0))) (V.neq rfl rfl) <| J.nil <| cc rfl h (fun hc60 h => ?_) fun hc60 h => ?_
 · refine cr <| jv (.agg #[ii i53, ii i54, ii i55, ii i56]) (V.ld rfl (Ld.agg (cs := [ii i53, ii i54, ii i55, ii i56]) underlying101 sz101 rfl (Rd.cls 0 0 rfl rfl))) <| J.front 1 rfl <| js [ii i53, ii i54, ii i55, ii i56] sz101 rfl rfl rfl rfl rfl rfl <| J.nil <| CJ.ret ?_
   obtain rfl := si h
   exact ⟨_, _, Res.one rfl ⟨_, _, rfl, Ld.agg (cs := [ii i53, ii i54, ii i55, ii i56]) underlying101 sz101 rfl (Rd.cls 0 0 rfl rfl)⟩, ⟨i53, i54, i55, i56, rfl, rfl, rfl⟩, hpr, fun w hs => (Sep.dropAt 0 rfl (Sep.dropAt 0 rfl (Sep.dropAt 0 rfl hs)))⟩
 refine CJ.skip <| cr <| jv (.agg #[ii xa.1, ii xa.2.1, sl Aa2 xa.2.2.1 Ca2, sl Aa3 xa.2.2.2.1 Ca3, sl Aa4 xa.2.2.2.2.1 Ca4, sl Aa5 xa.2.2.2.2.2.1 Ca5, sl Aa6 xa.2.2.2.2.2.2 Ca6]) (V.ld rfl (Ld.agg (cs := [ii xa.1, ii xa.2.1, sl Aa2 xa.2.2.1 Ca2, sl Aa3 xa.2.2.2.1 Ca3, sl Aa4 xa.2.2.2.2.1 Ca4, sl Aa5 xa.2.2.2.2.2.1 Ca5, sl Aa6 xa.2.2.2.2.2.2 Ca6]) underlying30 sz30 rfl (Rd.cls 2 0 rfl rfl))) ?_
 obtain ⟨r61, hr62, h⟩ := ob h
 refine J.op rfl (A.call (L1 := []) call63 rfl (ref21_blocks_ok Ga2 Ga3 Ga4 Ga5 Ga6 hr62) rfl rfl) ?_
 rintro _ _ _ ⟨v68, _, rfl, ⟨⟨i63, i65, i66, i67, rfl, rfl, rfl⟩, rfl⟩, _, rfl⟩
 refine J.front 1 rfl <| js [ii i63, ii i65, ii i66, ii i67] sz101 rfl rfl rfl rfl rfl rfl <| J.nil <| CJ.ret ?_
 obtain rfl := si h
 exact ⟨_, _, Res.one rfl ⟨_, _, rfl, Ld.agg (cs := [ii i63, ii i65, ii i66, ii i67]) underlying101 sz101 rfl (Rd.cls 0 0 rfl rfl)⟩, ⟨i63, i65, i66, i67, rfl, rfl, rfl⟩, hpr, fun w hs => (Sep.dropAt 0 rfl (Sep.dropAt 0 rfl (Sep.dropAt 0 rfl hs)))⟩

noncomputable def fn_ref21_OK (xa : Tq1) : Option Bool :=
  (fn_ref21_Check (xa.1, xa.2.1, xa.2.2.1, xa.2.2.2.1, xa.2.2.2.2.1, xa.2.2.2.2.2.1, xa.2.2.2.2.2.2)).bind fun (i15, i17, i18, i19) => some (decide (i15 = 0))
theorem ref21_OK_ok {K : Hp} {xa : Tq1} {Aa2 : Option Addr} {Ca2 : Nat} {Aa3 : Option Addr} {Ca3 : Nat} {Aa4 : Option Addr} {Ca4 : Nat} {Aa5 : Option Addr} {Ca5 : Nat} {Aa6 : Option Addr} {Ca6 : Nat} (Ga2 : Is K (.sl Yq5) [sl Aa2 xa.2.2.1 Ca2] xa.2.2.1) (Ga3 : Is K Yq8 [sl Aa3 xa.2.2.2.1 Ca3] xa.2.2.2.1) (Ga4 : Is K (.sl Yq1) [sl Aa4 xa.2.2.2.2.1 Ca4] xa.2.2.2.2.1) (Ga5 : Is K Yq4 [sl Aa5 xa.2.2.2.2.2.1 Ca5] xa.2.2.2.2.2.1) (Ga6 : Is K (.sl Yq3) [sl Aa6 xa.2.2.2.2.2.2 Ca6] xa.2.2.2.2.2.2) {r : Bool} (h : fn_ref21_OK xa = some r) :
    Tr Tryz.prog 32 #[.agg #[ii xa.1, ii xa.2.1, sl Aa2 xa.2.2.1 Ca2, sl Aa3 xa.2.2.2.1 Ca3, sl Aa4 xa.2.2.2.2.1 Ca4, sl Aa5 xa.2.2.2.2.2.1 Ca5, sl Aa6 xa.2.2.2.2.2.2 Ca6]] K [] (fun v K' L' => (∃ (t11 : Bool), t11 = r ∧ .bool t11 = v ∧ L' = []) ∧ K = K') := by
 refine Tr.k <| Tr.of func32 rfl ntmps32 rfl fun E F => ?_
 unfold fn_ref21_OK at h
 refine cr <| jbx [ii xa.1, ii xa.2.1, sl Aa2 xa.2.2.1 Ca2, sl Aa3 xa.2.2.2.1 Ca3, sl Aa4 xa.2.2.2.2.1 Ca4, sl Aa5 xa.2.2.2.2.2.1 Ca5, sl Aa6 xa.2.2.2.2.2.2 Ca6] rfl rfl fun b12 => ja (.bool false) rfl <| J.nil <| CJ.seq <| CJ.region ?_
 refine jv (.agg #[ii xa.1, ii xa.2.1, sl Aa2 xa.2.2.1 Ca2, sl Aa3 xa.2.2.2.1 Ca3, sl Aa4 xa.2.2.2.2.1 Ca4, sl Aa5 xa.2.2.2.2.2.1 Ca5, sl Aa6 xa.2.2.2.2.2.2 Ca6]) (V.ld rfl (Ld.agg (cs := [ii xa.1, ii xa.2.1, sl Aa2 xa.2.2.1 Ca2, sl Aa3 xa.2.2.2.1 Ca3, sl Aa4 xa.2.2.2.2.1 Ca4, sl Aa5 xa.2.2.2.2.2.1 Ca5, sl Aa6 xa.2.2.2.2.2.2 Ca6]) underlying30 sz30 rfl (Rd.cls 0 0 rfl rfl))) ?_
 obtain ⟨r13, hr14, h⟩ := ob h
 refine J.op rfl (A.call (L1 := []) call52 rfl (ref21_Check_ok Ga2 Ga3 Ga4 Ga5 Ga6 hr14) rfl rfl) ?_
 rintro _ _ _ ⟨v20, _, rfl, ⟨⟨i15, i17, i18, i19, rfl, rfl, rfl⟩, rfl⟩, _, rfl⟩
 refine jv (ii i15) (V.fld (ft := 0) underlying101 rfl (Ld0.sc sc72 rfl) rfl) <| jv (.bool (decide (i15 = 0))) (V.eql rfl rfl) <| ja (.bool (decide (i15 = 0))) rfl <| J.nil <| CJ.ret ?_
 obtain rfl := si h
 exact ⟨_, _, Res.one rfl rfl, ⟨decide (i15 = 0), rfl, rfl, rfl⟩, hpr, fun w hs => (Sep.dropAt 0 rfl hs)⟩
noncomputable def fn_ref22_All_l1 (i1 : Int) (x2 : ((List Tq2) × Tq5)) : ((List Tq11) × Int) → Option (((List Tq11) × Int) ⊕ (List Tq11)) := fun ((l3, i4) : ((List Tq11) × Int)) => cond (decide (i4 ≤ (((x2.1.length : Nat) : Int)))) ((app l3 (([(i1, i4, decide (i4 = (((x2.1.length : Nat) : Int))))] : List Tq11))).bind fun z5 => some (.inl ((z5, IntKind.wrap .i64 (i4 + 1))))) (some (.inr (l3)))
noncomputable def fn_ref22_All_l2 (xa : Tq1) : ((List Tq11) × Int) → Option (((List Tq11) × Int) ⊕ (List Tq11)) := fun ((l1, i2) : ((List Tq11) × Int)) => cond (decide (i2 < (((xa.2.2.2.2.2.2.length : Nat) : Int)))) ((getI xa.2.2.2.2.2.2 i2).bind fun x3 => (loop (fn_ref22_All_l1 i2 x3) (l1, 0) : Option ((List Tq11))).bind fun l4 => some (.inl ((l4, IntKind.wrap .i64 (i2 + 1))))) (some (.inr (l1)))
noncomputable def fn_ref22_All (xa : Tq1) : Option ((List Tq11)) :=
  (fn_ref21_OK (xa.1, xa.2.1, xa.2.2.1, xa.2.2.2.1, xa.2.2.2.2.1, xa.2.2.2.2.2.1, xa.2.2.2.2.2.2)).bind fun t1 => cond (!t1) (some (([] : List Tq11))) ((loop (fn_ref22_All_l2 xa) ((([] : List Tq11), 0)) : Option ((List Tq11))).bind fun l2 => some (l2))
theorem ref22_All_ok {K : Hp} {xa : Tq1} {Aa2 : Option Addr} {Ca2 : Nat} {Aa3 : Option Addr} {Ca3 : Nat} {Aa4 : Option Addr} {Ca4 : Nat} {Aa5 : Option Addr} {Ca5 : Nat} {Aa6 : Option Addr} {Ca6 : Nat} (Ga2 : Is K (.sl Yq5) [sl Aa2 xa.2.2.1 Ca2] xa.2.2.1) (Ga3 : Is K Yq8 [sl Aa3 xa.2.2.2.1 Ca3] xa.2.2.2.1) (Ga4 : Is K (.sl Yq1) [sl Aa4 xa.2.2.2.2.1 Ca4] xa.2.2.2.2.1) (Ga5 : Is K Yq4 [sl Aa5 xa.2.2.2.2.2.1 Ca5] xa.2.2.2.2.2.1) (Ga6 : Is K (.sl Yq3) [sl Aa6 xa.2.2.2.2.2.2 Ca6] xa.2.2.2.2.2.2) {r : (List Tq11)} (h : fn_ref22_All xa = some r) :
    Tr Tryz.prog 9 #[.agg #[ii xa.1, ii xa.2.1, sl Aa2 xa.2.2.1 Ca2, sl Aa3 xa.2.2.2.1 Ca3, sl Aa4 xa.2.2.2.2.1 Ca4, sl Aa5 xa.2.2.2.2.2.1 Ca5, sl Aa6 xa.2.2.2.2.2.2 Ca6]] K [] (fun v K' L' => (∃ (l7 : (List Tq11)) (ad10 : Option Addr) (cp11 : Nat), l7 = r ∧ sl ad10 l7 cp11 = v ∧ L' = [Row Hp.nil 78 (.cons (.int .i64) Yq1) (sl ad10 l7 cp11) l7]) ∧ K = K') := by
 refine Tr.k <| Tr.of func9 rfl ntmps9 rfl fun E F => ?_
 unfold fn_ref22_All at h
 refine cr <| jbx [ii xa.1, ii xa.2.1, sl Aa2 xa.2.2.1 Ca2, sl Aa3 xa.2.2.2.1 Ca3, sl Aa4 xa.2.2.2.2.1 Ca4, sl Aa5 xa.2.2.2.2.2.1 Ca5, sl Aa6 xa.2.2.2.2.2.2 Ca6] rfl rfl fun b12 => ja (nos) rfl <| J.nil <| CJ.seq <| CJ.region ?_
 refine J.op rfl (A.lit (K0 := Hp.nil) (ty := (.cons (.int .i64) Yq1)) (xs := ([] : List Tq11)) underlying35 inf78 rfl (by decide) rfl rfl rfl rfl rfl (by decide)) ?_
 rintro _ _ _ ⟨b13, rfl, rfl, rfl⟩
 have hn14 : ([] : List Tq11) ≠ [] → ∃ g, (some ⟨b13, 0, none⟩ : Option Addr) = some ⟨g, 0, none⟩ := fun _ => ⟨b13, rfl⟩
 refine ja (.slice (some ⟨b13, 0, none⟩) ((([] : List Tq11)).length) 0) rfl <| J.nil <| CJ.seq <| cr <| jv (.agg #[ii xa.1, ii xa.2.1, sl Aa2 xa.2.2.1 Ca2, sl Aa3 xa.2.2.2.1 Ca3, sl Aa4 xa.2.2.2.2.1 Ca4, sl Aa5 xa.2.2.2.2.2.1 Ca5, sl Aa6 xa.2.2.2.2.2.2 Ca6]) (V.ld rfl (Ld.agg (cs := [ii xa.1, ii xa.2.1, sl Aa2 xa.2.2.1 Ca2, sl Aa3 xa.2.2.2.1 Ca3, sl Aa4 xa.2.2.2.2.1 Ca4, sl Aa5 xa.2.2.2.2.2.1 Ca5, sl Aa6 xa.2.2.2.2.2.2 Ca6]) underlying30 sz30 rfl (Rd.cls 1 0 rfl rfl))) ?_
 obtain ⟨r15, hr17, h⟩ := ob h
 refine J.op rfl (A.call (L1 := []) call32 rfl (ref21_OK_ok Ga2 Ga3 Ga4 Ga5 Ga6 hr17) rfl rfl) ?_
 rintro _ _ _ ⟨v18, _, rfl, ⟨⟨t19, rfl, rfl, rfl⟩, rfl⟩, _, rfl⟩
 refine jv (.bool (!t19)) (V.not rfl) <| J.nil <| cc rfl h (fun hc20 h => ?_) fun hc20 h => ?_
 · refine cr <| jm (.slice (some ⟨b13, 0, none⟩) ((([] : List Tq11)).length) 0) rfl <| ja (.slice (some ⟨b13, 0, none⟩) ((([] : List Tq11)).length) 0) rfl <| J.nil <| CJ.ret ?_
   obtain rfl := si h
   exact ⟨_, _, Res.one rfl rfl, ⟨([] : List Tq11), (some ⟨b13, 0, none⟩), 0, rfl, rfl, rfl⟩, hpr, fun w hs => (Sep.dropAt 1 rfl hs)⟩
 refine CJ.skip <| CJ.seq <| cr <| ja (ii 0) rfl <| J.nil ?_
 obtain ⟨o21, ho22, h⟩ := ob h
 refine CJ.meetN (fun ρ K' L' => ∃ (l23 : (List Tq11)) (ad24 : Option Addr) (cp25 : Nat), l23 = o21 ∧ Fits [(3, sl ad24 l23 cp25)] ρ ∧ K = K' ∧ L' = Row Hp.nil 78 (.cons (.int .i64) Yq1) (sl ad24 l23 cp25) l23 :: F) ?_ ?_
 · refine CJ.block <| CJ.front 1 rfl <| CJ.loop (fun s ρ K' L' => ∃ (l26 : (List Tq11)) (i27 : Int) (ad29 : Option Addr) (cp31 : Nat), (l26, i27) = s ∧ Fits [(1, pt b12), (3, sl ad29 l26 cp31), (4, ii i27)] ρ ∧ K = K' ∧ L' = Cl b12 30 [ii xa.1, ii xa.2.1, sl Aa2 xa.2.2.1 Ca2, sl Aa3 xa.2.2.2.1 Ca3, sl Aa4 xa.2.2.2.2.1 Ca4, sl Aa5 xa.2.2.2.2.2.1 Ca5, sl Aa6 xa.2.2.2.2.2.2 Ca6] :: Row Hp.nil 78 (.cons (.int .i64) Yq1) (sl ad29 l26 cp31) l26 :: F) ho22 ⟨([] : List Tq11), 0, (some ⟨b13, 0, none⟩), 0, rfl, rt3, rfl, rfl⟩ ?_
   rintro s ρ _ _ r33 ⟨l26, i27, ad29, cp31, rfl, hf34, rfl, rfl⟩ h36
   obtain ⟨ρ, rfl⟩ := hf34.ex
   refine CJ.front 1 rfl <| CJ.wit Row.hn fun hn37 => CJ.seq <| cr <| jm (ii i27) rfl <| jv _ (V.fad underlying30 rfl nz28 rfl) ?_
   refine jv (sl Aa6 xa.2.2.2.2.2.2 Ca6) (V.ld rfl (Ld.sc sc28 (Rd.cl 1 rfl rfl))) <| jv (ii (((xa.2.2.2.2.2.2.length : Nat) : Int))) (V.len underlying28 rfl) <| jv (.bool (decide (i27 < (((xa.2.2.2.2.2.2.length : Nat) : Int))))) (V.lss rfl rfl) <| J.nil <| cc rfl h36 (fun hc38 h36 => ?_) fun hc38 h36 => ?_
   · refine CJ.skip <| CJ.seq <| CJ.block <| cr <| jv _ (V.fad underlying30 rfl nz28 rfl) <| jv (sl Aa6 xa.2.2.2.2.2.2 Ca6) (V.ld rfl (Ld.sc sc28 (Rd.cl 1 rfl rfl))) ?_
     refine jm (ii i27) rfl ?_
     obtain ⟨x39, hx40, h36⟩ := ob h36
     obtain ⟨p41, p42, p43⟩ := getI_some hx40
     obtain ⟨b44, o45, e46, a47⟩ := (Ga6).at p42
     refine jv _ (V.iad underlying28 sz60 rfl e46 rfl p41 p43) <| jv _ (V.fad underlying60 rfl nz56 rfl) ?_
     obtain ⟨ad48, cp49, c50, f51⟩ := ((a47).fst).sl
     refine jv (sl ad48 x39.1 cp49) (V.ld rfl (Ld.sc sc56 (Rd.k c50 hpr))) <| jv (ii (((x39.1.length : Nat) : Int))) (V.len underlying56 rfl) <| ja (ii (((x39.1.length : Nat) : Int))) rfl <| J.nil <| cr <| ja (ii 0) rfl ?_
     refine J.nil ?_
     obtain ⟨o52, ho53, h36⟩ := ob h36
     refine CJ.meetN (fun ρ K' L' => ∃ (l54 : (List Tq11)) (ad55 : Option Addr) (cp57 : Nat), l54 = o52 ∧ Fits [(1, pt b12), (3, sl ad55 l54 cp57), (4, ii i27)] ρ ∧ K = K' ∧ L' = Cl b12 30 [ii xa.1, ii xa.2.1, sl Aa2 xa.2.2.1 Ca2, sl Aa3 xa.2.2.2.1 Ca3, sl Aa4 xa.2.2.2.2.1 Ca4, sl Aa5 xa.2.2.2.2.2.1 Ca5, sl Aa6 xa.2.2.2.2.2.2 Ca6] :: Row Hp.nil 78 (.cons (.int .i64) Yq1) (sl ad55 l54 cp57) l54 :: F) ?_ ?_
     · refine CJ.block <| CJ.front 1 rfl <| CJ.loop (fun s ρ K' L' => ∃ (l58 : (List Tq11)) (i59 : Int) (ad61 : Option Addr) (cp62 : Nat), (l58, i59) = s ∧ Fits [(1, pt b12), (3, sl ad61 l58 cp62), (4, ii i27), (5, ii (((x39.1.length : Nat) : Int))), (6, ii i59)] ρ ∧ K = K' ∧ L' = Cl b12 30 [ii xa.1, ii xa.2.1, sl Aa2 xa.2.2.1 Ca2, sl Aa3 xa.2.2.2.1 Ca3, sl Aa4 xa.2.2.2.2.1 Ca4, sl Aa5 xa.2.2.2.2.2.1 Ca5, sl Aa6 xa.2.2.2.2.2.2 Ca6] :: Row Hp.nil 78 (.cons (.int .i64) Yq1) (sl ad61 l58 cp62) l58 :: F) ho53 ⟨l26, 0, ad29, cp31, rfl, rt5, rfl, rfl⟩ ?_
       rintro s ρ _ _ r63 ⟨l58, i59, ad61, cp62, rfl, hf65, rfl, rfl⟩ h66
       obtain ⟨ρ, rfl⟩ := hf65.ex
       refine CJ.front 1 rfl <| CJ.wit Row.hn fun hn67 => CJ.seq <| cr <| jm (ii i59) rfl <| jm (ii (((x39.1.length : Nat) : Int))) rfl ?_
       refine jv (.bool (decide (i59 ≤ (((x39.1.length : Nat) : Int))))) (V.leq rfl rfl) <| J.nil <| cc rfl h66 (fun hc68 h66 => ?_) fun hc68 h66 => ?_
       · refine CJ.skip <| CJ.seq <| CJ.block <| CJ.region <| jm (sl ad61 l58 cp62) rfl <| jm (ii i27) rfl <| jm (ii i59) rfl ?_
         refine jm (ii i59) rfl <| jm (ii (((x39.1.length : Nat) : Int))) rfl <| jv (.bool (decide (i59 = (((x39.1.length : Nat) : Int))))) (V.eql rfl rfl) <| jv (.agg #[ii i27, ii i59, .bool (decide (i59 = (((x39.1.length : Nat) : Int))))]) (V.build inf78 places78 rfl rfl) ?_
         refine J.op rfl (A.lit (K0 := Hp.nil) (ty := (.cons (.int .i64) Yq1)) (xs := ([(i27, i59, decide (i59 = (((x39.1.length : Nat) : Int))))] : List Tq11)) underlying35 inf78 rfl (by decide) rfl rfl rfl ⟨_, _, rfl, ⟨_, _, rfl, rfl, rfl, ⟨_, _, rfl, rfl, rfl, rfl⟩⟩, rfl⟩ rfl (by decide)) ?_
         rintro _ _ _ ⟨b69, rfl, rfl, rfl⟩
         have hn70 : ([(i27, i59, decide (i59 = (((x39.1.length : Nat) : Int))))] : List Tq11) ≠ [] → ∃ g, (some ⟨b69, 0, none⟩ : Option Addr) = some ⟨g, 0, none⟩ := fun _ => ⟨b69, rfl⟩
         obtain ⟨z71, hz72, h66⟩ := ob h66
         refine J.front 1 rfl <| J.op rfl (A.appR (Kr := Hp.nil) underlying35 inf78 rfl rfl (by decide) (by decide) rfl rfl (Els.flat rfl) (Els.flat rfl) hz72) ?_
         rintro _ _ _ ⟨v73, rfl, rfl, rfl⟩
         refine J.wit Row.form ?_
         rintro ⟨ad74, cp75, rfl, _, _, hn76⟩
         refine ja (sl ad74 z71 cp75) rfl <| J.nil <| CJ.region <| jm (ii i59) rfl <| jv (ii (IntKind.wrap .i64 (i59 + 1))) (V.add rfl rfl) <| ja (ii (IntKind.wrap .i64 (i59 + 1))) rfl <| J.front 1 rfl ?_
         refine J.nil ?_
         obtain rfl := si h66
         exact ⟨rfl, ⟨z71, IntKind.wrap .i64 (i59 + 1), ad74, cp75, rfl, rt5, rfl, rfl⟩⟩
       refine CJ.front 1 rfl <| CJ.exit ?_
       obtain rfl := si h66
       refine ⟨nofun, fun e => ?_⟩
       subst e
       exact ⟨rfl, ⟨l58, ad61, cp62, rfl, rt3, rfl, rfl⟩⟩
     rintro ρ _ _ ⟨l54, ad55, cp57, rfl, hf77, rfl, rfl⟩
     obtain ⟨ρ, rfl⟩ := hf77.ex
     refine PJ.front 1 rfl <| PJ.wit Row.hn fun hn79 => PJ.done <| CJ.region <| jm (ii i27) rfl <| jv (ii (IntKind.wrap .i64 (i27 + 1))) (V.add rfl rfl) <| ja (ii (IntKind.wrap .i64 (i27 + 1))) rfl ?_
     refine J.front 1 rfl <| J.nil ?_
     obtain rfl := si h36
     exact ⟨rfl, ⟨l54, IntKind.wrap .i64 (i27 + 1), ad55, cp57, rfl, rt3, rfl, rfl⟩⟩
   refine CJ.dropAt 1 rfl <| CJ.exit ?_
   obtain rfl := si h36
   refine ⟨nofun, fun e => ?_⟩
   subst e
   exact ⟨rfl, ⟨l26, ad29, cp31, rfl, rt1, rfl, rfl⟩⟩
 rintro ρ _ _ ⟨l23, ad24, cp25, rfl, hf80, rfl, rfl⟩
 obtain ⟨ρ, rfl⟩ := hf80.ex
 refine PJ.wit Row.hn fun hn81 => PJ.done <| cr <| jm (sl ad24 l23 cp25) rfl <| ja (sl ad24 l23 cp25) rfl <| J.nil ?_
 refine CJ.ret ?_
 obtain rfl := si h
 exact ⟨_, _, Res.one rfl rfl, ⟨l23, ad24, cp25, rfl, rfl, rfl⟩, hpr, fun w hs => hs⟩
noncomputable def fn_ref22_Of_l1 (xa : (List Tq11)) (xb : Int) (xc : Int) : Int → Option (Int ⊕ (Unit ⊕ (Int × Bool))) := fun (i1 : Int) => cond (decide (i1 < (((xa.length : Nat) : Int)))) ((getI xa i1).bind fun x2 => (cond (decide (x2.1 = xb)) ((getI xa i1).bind fun x3 => some (decide (x3.2.1 = xc))) (some (false))).bind fun t4 => cond (t4) (some (.inr ((.inr ((i1, true)))))) (some (.inl (IntKind.wrap .i64 (i1 + 1))))) (some (.inr ((.inl ()))))
noncomputable def fn_ref22_Of (xa : (List Tq11)) (xb : Int) (xc : Int) : Option (Int × Bool) :=
  (loop (fn_ref22_Of_l1 xa xb xc) 0 : Option (Unit ⊕ (Int × Bool))).bind fun o => match o with | .inr r => some r | .inl () => some ((0, false))
theorem ref22_Of_ok {K : Hp} {xa : (List Tq11)} {xb : Int} {xc : Int} {Aa0 : Option Addr} {Ca0 : Nat} (Ga0 : Is K (.sl (.cons (.int .i64) Yq1)) [sl Aa0 xa Ca0] xa) {r : (Int × Bool)} (h : fn_ref22_Of xa xb xc = some r) :
    Tr Tryz.prog 53 #[sl Aa0 xa Ca0, ii xb, ii xc] K [] (fun v K' L' => (∃ (i1 : Int) (t2 : Bool), (i1, t2) = r ∧ .tuple #[ii i1, .bool t2] = v ∧ L' = []) ∧ K = K') := by
 refine Tr.k <| Tr.of func53 rfl ntmps53 rfl fun E F => ?_
 unfold fn_ref22_Of at h
 refine cr <| ja (ii 0) rfl <| ja (.bool false) rfl <| J.nil <| CJ.seq <| CJ.seq ?_
 refine CJ.region <| ja (ii 0) rfl <| J.nil ?_
 obtain ⟨o6, ho7, h⟩ := ob h
 refine CJ.joinN (o := o6) (fun s ρ K' L' => () = s ∧ Fits [] ρ ∧ K = K' ∧ F = L') ?_ ?_
 · refine CJ.block <| CJ.loop (fun s ρ K' L' => ∃ (i9 : Int), i9 = s ∧ Fits [(0, sl Aa0 xa Ca0), (1, ii xb), (2, ii xc), (8, ii i9)] ρ ∧ K = K' ∧ F = L') ho7 ⟨0, rfl, rt4, rfl, rfl⟩ ?_
   rintro s ρ _ _ r10 ⟨i9, rfl, hf11, rfl, rfl⟩ h12
   obtain ⟨ρ, rfl⟩ := hf11.ex
   refine CJ.seq <| cr <| jm (ii i9) rfl <| jm (sl Aa0 xa Ca0) rfl <| jv (ii (((xa.length : Nat) : Int))) (V.len underlying35 rfl) <| jv (.bool (decide (i9 < (((xa.length : Nat) : Int))))) (V.lss rfl rfl) ?_
   refine J.nil <| cc rfl h12 (fun hc13 h12 => ?_) fun hc13 h12 => ?_
   · refine CJ.skip <| CJ.seq <| CJ.block <| cr <| jm (sl Aa0 xa Ca0) rfl <| jm (ii i9) rfl ?_
     obtain ⟨x14, hx15, h12⟩ := ob h12
     obtain ⟨p17, p18, p19⟩ := getI_some hx15
     obtain ⟨b20, o21, e22, a23⟩ := (Ga0).at p18
     refine jv _ (V.iad underlying35 sz78 rfl e22 rfl p17 p19) <| jv _ (V.fad underlying78 rfl nz3 rfl) <| jv (ii x14.1) (V.ld rfl (Ld.sc sc3 (Rd.k ((a23).fst).int hpr))) <| jm (ii xb) rfl <| jv (.bool (decide (x14.1 = xb))) (V.eql rfl rfl) <| jm (.bool (decide (x14.1 = xb))) rfl <| J.cut 8 ?_
     obtain ⟨t24, ht25, h12⟩ := ob h12
     refine jmeet [(30, .bool t24), (0, sl Aa0 xa Ca0), (1, ii xb), (2, ii xc), (8, ii i9)] ?_ ?_
     · rcases bt (decide (x14.1 = xb)) with hc26 | hc26
       · have ht25 := ct hc26 ht25
         refine J.run rfl rfl rfl hc26 <| jm (sl Aa0 xa Ca0) rfl <| J.run rfl rfl rfl hc26 <| jm (ii i9) rfl <| J.run rfl rfl rfl hc26 ?_
         obtain ⟨x27, hx28, ht25⟩ := ob ht25
         obtain ⟨p29, p30, p31⟩ := getI_some hx28
         obtain ⟨b33, o34, e36, a37⟩ := (Ga0).at p30
         refine jv _ (V.iad underlying35 sz78 rfl e36 rfl p29 p31) <| J.run rfl rfl rfl hc26 <| jv _ (V.fad underlying78 rfl nz3 rfl) <| J.run rfl rfl rfl hc26 <| jv (ii x27.2.1) (V.ld rfl (Ld.sc sc3 (Rd.k (((a37).snd).fst).int hpr))) <| J.run rfl rfl rfl hc26 <| jm (ii xc) rfl ?_
         refine J.run rfl rfl rfl hc26 <| jv (.bool (decide (x27.2.1 = xc))) (V.eql rfl rfl) <| jv (.bool (decide (x27.2.1 = xc))) (V.pickT rfl hc26 rfl) <| J.nil ?_
         obtain rfl := si ht25
         exact ⟨rfl, rt5, rfl, rfl⟩
       have ht25 := cf hc26 ht25
       refine J.skip rfl rfl rfl rfl hc26 <| J.skip rfl rfl rfl rfl hc26 <| J.skip rfl rfl rfl rfl hc26 <| J.skip rfl rfl rfl rfl hc26 <| J.skip rfl rfl rfl rfl hc26 <| J.skip rfl rfl rfl rfl hc26 <| J.skip rfl rfl rfl rfl hc26 ?_
       refine jv (.bool false) (V.pickF rfl hc26 rfl) <| J.nil ?_
       obtain rfl := si ht25
       exact ⟨rfl, rt5, rfl, rfl⟩
     intro ρ
     refine J.nil <| cc rfl h12 (fun hc38 h12 => ?_) fun hc38 h12 => ?_
     · refine cr <| jm (ii i9) rfl <| ja (ii i9) rfl <| ja (.bool true) rfl <| J.nil <| CJ.ret ?_
       obtain rfl := si h12
       refine ⟨nofun, fun e => ?_⟩
       subst e
       refine .inr ⟨nofun, ?_⟩
       obtain rfl := si h
       exact ⟨_, _, Res.two rfl rfl rfl, ⟨i9, true, rfl, rfl, rfl⟩, hpr, fun w hs => hs⟩
     refine CJ.skip <| CJ.region <| jm (ii i9) rfl <| jv (ii (IntKind.wrap .i64 (i9 + 1))) (V.add rfl rfl) <| ja (ii (IntKind.wrap .i64 (i9 + 1))) rfl <| J.nil ?_
     obtain rfl := si h12
     exact ⟨rfl, ⟨IntKind.wrap .i64 (i9 + 1), rfl, rt4, rfl, rfl⟩⟩
   refine CJ.exit ?_
   obtain rfl := si h12
   refine ⟨nofun, fun e => ?_⟩
   subst e
   exact .inl ⟨rfl, _, rfl, ⟨rfl, trivial, rfl, rfl⟩⟩
 rintro s ρ _ _ ho39 ⟨rfl, hf40, rfl, rfl⟩
 subst ho39
 obtain ⟨ρ, rfl⟩ := hf40.ex
 refine PJ.done <| cr <| ja (ii 0) rfl <| ja (.bool false) rfl <| J.nil <| CJ.ret ?_
 obtain rfl := si h
 exact ⟨_, _, Res.two rfl rfl rfl, ⟨0, false, rfl, rfl, rfl⟩, hpr, fun w hs => hs⟩
noncomputable def fn_ref23_Goes_l1 (xb : (List Tq11)) (xd : Int) (x1 : ((List Tq2) × Tq5)) : Int → Option (Int ⊕ (Unit ⊕ Bool)) := fun (i2 : Int) => cond (decide (i2 < (((x1.2.2.2.2.1.length : Nat) : Int)))) ((getI x1.2.2.2.2.1 i2).bind fun x3 => (fn_ref22_Of xb x3 0).bind fun (i4, t5) => cond (t5 && (decide (i4 = xd))) (some (.inr ((.inr (true))))) (some (.inl (IntKind.wrap .i64 (i2 + 1))))) (some (.inr ((.inl ()))))
noncomputable def fn_ref23_Goes (xa : Tq1) (xb : (List Tq11)) (xc : Int) (xd : Int) : Option Bool :=
  (getI xb xc).bind fun x1 => cond (!x1.2.2) (some (decide (xd = (IntKind.wrap .i64 (xc + 1))))) ((getI xb xc).bind fun x2 => (getI xa.2.2.2.2.2.2 x2.1).bind fun x3 => (loop (fn_ref23_Goes_l1 xb xd x3) 0 : Option (Unit ⊕ Bool)).bind fun o => match o with | .inr r => some r | .inl () => some (false))
theorem ref23_Goes_ok {K : Hp} {xa : Tq1} {xb : (List Tq11)} {xc : Int} {xd : Int} {Aa2 : Option Addr} {Ca2 : Nat} {Aa3 : Option Addr} {Ca3 : Nat} {Aa4 : Option Addr} {Ca4 : Nat} {Aa5 : Option Addr} {Ca5 : Nat} {Aa6 : Option Addr} {Ca6 : Nat} {Ab0 : Option Addr} {Cb0 : Nat} (Ga2 : Is K (.sl Yq5) [sl Aa2 xa.2.2.1 Ca2] xa.2.2.1) (Ga3 : Is K Yq8 [sl Aa3 xa.2.2.2.1 Ca3] xa.2.2.2.1) (Ga4 : Is K (.sl Yq1) [sl Aa4 xa.2.2.2.2.1 Ca4] xa.2.2.2.2.1) (Ga5 : Is K Yq4 [sl Aa5 xa.2.2.2.2.2.1 Ca5] xa.2.2.2.2.2.1) (Ga6 : Is K (.sl Yq3) [sl Aa6 xa.2.2.2.2.2.2 Ca6] xa.2.2.2.2.2.2) (Gb0 : Is K (.sl (.cons (.int .i64) Yq1)) [sl Ab0 xb Cb0] xb) {r : Bool} (h : fn_ref23_Goes xa xb xc xd = some r) :
    Tr Tryz.prog 33 #[.agg #[ii xa.1, ii xa.2.1, sl Aa2 xa.2.2.1 Ca2, sl Aa3 xa.2.2.2.1 Ca3, sl Aa4 xa.2.2.2.2.1 Ca4, sl Aa5 xa.2.2.2.2.2.1 Ca5, sl Aa6 xa.2.2.2.2.2.2 Ca6], sl Ab0 xb Cb0, ii xc, ii xd] K [] (fun v K' L' => (∃ (t7 : Bool), t7 = r ∧ .bool t7 = v ∧ L' = []) ∧ K = K') := by
 refine Tr.k <| Tr.of func33 rfl ntmps33 rfl fun E F => ?_
 unfold fn_ref23_Goes at h
 refine cr <| jbx [ii xa.1, ii xa.2.1, sl Aa2 xa.2.2.1 Ca2, sl Aa3 xa.2.2.2.1 Ca3, sl Aa4 xa.2.2.2.2.1 Ca4, sl Aa5 xa.2.2.2.2.2.1 Ca5, sl Aa6 xa.2.2.2.2.2.2 Ca6] rfl rfl fun b9 => ja (.bool false) rfl <| J.nil <| CJ.seq <| CJ.seq ?_
 refine CJ.region <| jm (sl Ab0 xb Cb0) rfl <| jm (ii xc) rfl ?_
 obtain ⟨x10, hx11, h⟩ := ob h
 obtain ⟨p12, p13, p14⟩ := getI_some hx11
 obtain ⟨b15, o17, e18, a19⟩ := (Gb0).at p13
 refine jv _ (V.iad underlying35 sz78 rfl e18 rfl p12 p14) <| jv _ (V.fad underlying78 rfl nz4 rfl) <| jv (.bool x10.2.2) (V.ld rfl (Ld.sc sc4 (Rd.k ((((a19).snd).snd).one).bool hpr))) <| jv (.bool (!x10.2.2)) (V.not rfl) <| J.nil <| cc rfl h (fun hc20 h => ?_) fun hc20 h => ?_
 · refine cr <| jm (ii xd) rfl <| jm (ii xc) rfl <| jv (ii (IntKind.wrap .i64 (xc + 1))) (V.add rfl rfl) <| jv (.bool (decide (xd = (IntKind.wrap .i64 (xc + 1))))) (V.eql rfl rfl) <| ja (.bool (decide (xd = (IntKind.wrap .i64 (xc + 1))))) rfl ?_
   refine J.nil <| CJ.ret ?_
   obtain rfl := si h
   exact ⟨_, _, Res.one rfl rfl, ⟨decide (xd = (IntKind.wrap .i64 (xc + 1))), rfl, rfl, rfl⟩, hpr, fun w hs => (Sep.dropAt 0 rfl hs)⟩
 refine CJ.skip <| CJ.seq <| CJ.mix [Cl b9 30 [ii xa.1, ii xa.2.1, sl Aa2 xa.2.2.1 Ca2, sl Aa3 xa.2.2.2.1 Ca3, sl Aa4 xa.2.2.2.2.1 Ca4, sl Aa5 xa.2.2.2.2.2.1 Ca5, sl Aa6 xa.2.2.2.2.2.2 Ca6]] [] [0, 1, 2, 3, 4, 5, 6, 7, 8, 9, 10, 11] [] mixO (by decide +kernel) ⟨0, rfl, trivial⟩ rfl rfl rfl <| JM.nil <| qv _ (V.fad underlying30 rfl nz28 rfl) <| qv (sl Aa6 xa.2.2.2.2.2.2 Ca6) (V.ld rfl (Ld.sc sc28 (Rd.cl 0 rfl rfl))) <| qm (sl Ab0 xb Cb0) rfl ?_
 refine qm (ii xc) rfl ?_
 obtain ⟨x21, hx22, h⟩ := ob h
 obtain ⟨p23, p24, p25⟩ := getI_some hx22
 obtain ⟨b26, o27, e29, a31⟩ := (Gb0).at p24
 refine qv _ (V.iad underlying35 sz78 rfl e29 rfl p23 p25) <| qv _ (V.fad underlying78 rfl nz3 rfl) <| qv (ii x21.1) (V.ld rfl (Ld.sc sc3 (Rd.k ((a31).fst).int hpr))) ?_
 obtain ⟨x34, hx36, h⟩ := ob h
 obtain ⟨p37, p38, p39⟩ := getI_some hx36
 obtain ⟨b40, o41, e43, a44⟩ := (Ga6).at p38
 refine qv _ (V.iad underlying28 sz60 rfl e43 rfl p37 p39) <| qv _ (V.fad underlying60 rfl nz58 rfl) <| qv _ (V.fad underlying58 rfl nz42 rfl) ?_
 obtain ⟨ad45, cp46, c47, f48⟩ := (((((((a44).snd).one).snd).snd).snd).fst).sl
 refine qv (sl ad45 x34.2.2.2.2.1 cp46) (V.ld rfl (Ld.sc sc42 (Rd.k c47 hpr))) <| qa (sl ad45 x34.2.2.2.2.1 cp46) rfl <| JQ.nil <| J.nil <| CJ.seq <| CJ.seq <| CJ.region ?_
 refine ja (ii 0) rfl <| J.nil ?_
 obtain ⟨o49, ho50, h⟩ := ob h
 refine CJ.joinN (o := o49) (fun s ρ K' L' => () = s ∧ Fits [] ρ ∧ K = K' ∧ F = L') ?_ ?_
 · refine CJ.block <| CJ.dropAt 0 rfl <| CJ.loop (fun s ρ K' L' => ∃ (i51 : Int), i51 = s ∧ Fits [(1, sl Ab0 xb Cb0), (3, ii xd), (9, sl ad45 x34.2.2.2.2.1 cp46), (10, ii i51)] ρ ∧ K = K' ∧ F = L') ho50 ⟨0, rfl, rt4, rfl, rfl⟩ ?_
   rintro s ρ _ _ r52 ⟨i51, rfl, hf54, rfl, rfl⟩ h55
   obtain ⟨ρ, rfl⟩ := hf54.ex
   refine CJ.seq <| cr <| jm (ii i51) rfl <| jm (sl ad45 x34.2.2.2.2.1 cp46) rfl <| jv (ii (((x34.2.2.2.2.1.length : Nat) : Int))) (V.len underlying42 rfl) <| jv (.bool (decide (i51 < (((x34.2.2.2.2.1.length : Nat) : Int))))) (V.lss rfl rfl) ?_
   refine J.nil <| cc rfl h55 (fun hc56 h55 => ?_) fun hc56 h55 => ?_
   · refine CJ.skip <| CJ.seq <| CJ.block <| cr <| jm (sl Ab0 xb Cb0) rfl <| jm (sl ad45 x34.2.2.2.2.1 cp46) rfl ?_
     refine jm (ii i51) rfl ?_
     obtain ⟨x57, hx59, h55⟩ := ob h55
     obtain ⟨p61, p62, p63⟩ := getI_some hx59
     obtain ⟨b65, o66, e67, a68⟩ := (f48).at p62
     refine jv _ (V.iad underlying42 sz3 rfl e67 rfl p61 p63) <| jv (ii x57) (V.ld rfl (Ld.sc sc3 (Rd.k (a68).int hpr))) ?_
     obtain ⟨r69, hr70, h55⟩ := ob h55
     refine J.op rfl (A.call (L1 := []) call53 rfl (ref22_Of_ok Gb0 hr70) rfl rfl) ?_
     rintro _ _ _ ⟨v71, _, rfl, ⟨⟨i72, t73, rfl, rfl, rfl⟩, rfl⟩, _, rfl⟩
     refine jm (.tuple #[ii i72, .bool t73]) rfl <| jx (ii i72) rfl rfl <| jx (.bool t73) rfl rfl <| ja (ii i72) rfl <| ja (.bool t73) rfl <| J.nil <| CJ.seq ?_
     refine CJ.region <| jm (.bool t73) rfl <| jm (.bool t73) rfl <| J.cut 4 <| jmeet [(54, .bool (t73 && (decide (i72 = xd)))), (1, sl Ab0 xb Cb0), (3, ii xd), (9, sl ad45 x34.2.2.2.2.1 cp46), (10, ii i51)] ?_ ?_
     · rcases bt (t73) with hc74 | hc74
       · refine J.run rfl rfl rfl hc74 <| jm (ii i72) rfl <| J.run rfl rfl rfl hc74 <| jm (ii xd) rfl <| J.run rfl rfl rfl hc74 <| jv (.bool (decide (i72 = xd))) (V.eql rfl rfl) <| jv (.bool (decide (i72 = xd))) (V.pickT rfl hc74 rfl) ?_
         refine J.nil ?_
         exact ⟨rfl, ⟨(by simp only [hc74]; rfl), rfl, rfl, rfl, rfl, trivial⟩, rfl, rfl⟩
       refine J.skip rfl rfl rfl rfl hc74 <| J.skip rfl rfl rfl rfl hc74 <| J.skip rfl rfl rfl rfl hc74 <| jv (.bool false) (V.pickF rfl hc74 rfl) <| J.nil ?_
       exact ⟨rfl, ⟨(by simp only [hc74]; rfl), rfl, rfl, rfl, rfl, trivial⟩, rfl, rfl⟩
     intro ρ
     refine J.nil <| cc rfl h55 (fun hc75 h55 => ?_) fun hc75 h55 => ?_
     · refine cr <| ja (.bool true) rfl <| J.nil <| CJ.ret ?_
       obtain rfl := si h55
       refine ⟨nofun, fun e => ?_⟩
       subst e
       refine .inr ⟨nofun, ?_⟩
       obtain rfl := si h
       exact ⟨_, _, Res.one rfl rfl, ⟨true, rfl, rfl, rfl⟩, hpr, fun w hs => hs⟩
     refine CJ.skip <| CJ.region <| jm (ii i51) rfl <| jv (ii (IntKind.wrap .i64 (i51 + 1))) (V.add rfl rfl) <| ja (ii (IntKind.wrap .i64 (i51 + 1))) rfl <| J.nil ?_
     obtain rfl := si h55
     exact ⟨rfl, ⟨IntKind.wrap .i64 (i51 + 1), rfl, rt4, rfl, rfl⟩⟩
   refine CJ.exit ?_
   obtain rfl := si h55
   refine ⟨nofun, fun e => ?_⟩
   subst e
   exact .inl ⟨rfl, _, rfl, ⟨rfl, trivial, rfl, rfl⟩⟩
 rintro s ρ _ _ ho76 ⟨rfl, hf77, rfl, rfl⟩
 subst ho76
 obtain ⟨ρ, rfl⟩ := hf77.ex
 refine PJ.done <| cr <| ja (.bool false) rfl <| J.nil <| CJ.ret ?_
 obtain rfl := si h
 exact ⟨_, _, Res.one rfl rfl, ⟨false, rfl, rfl, rfl⟩, hpr, fun w hs => hs⟩
end Go.Proofs.YtbennpandomacaaGreat
