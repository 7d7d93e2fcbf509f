/- What Go functions answer: generated. -/
import Derived.Test.YtbaaamdljojknaaF1
namespace Go.Proofs.Ytbaaamdljojknaa
open Go.RowKit
set_option linter.unusedVariables false
set_option linter.unnecessarySimpa false
set_option linter.unusedSimpArgs false
set_option maxRecDepth 20000

noncomputable def fn_ref19_Form (xa : (Int × Int × Int × (List Int) × (List Int) × (List Int))) : Option Int :=
  cond ((decide (xa.1 < 1)) || (decide (4 < xa.1))) (some (3)) (cond (((((decide (xa.1 = 1)) || (decide (xa.1 = 4))) && (!decide ((((xa.2.2.2.1.length : Nat) : Int)) = 1))) || ((decide (xa.1 = 2)) && (decide ((((xa.2.2.2.1.length : Nat) : Int)) = 0)))) || ((decide (xa.1 = 3)) && (!decide ((((xa.2.2.2.1.length : Nat) : Int)) = 0)))) (some (3)) (cond ((!decide (xa.1 = 4)) && (((!decide (xa.2.1 = 0)) || (!decide (xa.2.2.1 = 0))) || (!decide ((((xa.2.2.2.2.2.length : Nat) : Int)) = 0)))) (some (3)) (cond (((decide (xa.1 = 1)) || (decide (xa.1 = 3))) && (!decide ((((xa.2.2.2.2.1.length : Nat) : Int)) = 0))) (some (3)) (cond (((decide (16 < (((xa.2.2.2.1.length : Nat) : Int)))) || (decide (16 < (((xa.2.2.2.2.1.length : Nat) : Int))))) || (decide (16 < (((xa.2.2.2.2.2.length : Nat) : Int))))) (some (6)) (some (0))))))
set_option maxRecDepth 100000 in
set_option maxHeartbeats 4000000 in
theorem ref19_Form_ok {K : Hp} {xa : (Int × Int × Int × (List Int) × (List Int) × (List Int))} {adxa_3 : Option Addr} {cpxa_3 : Nat} {adxa_4 : Option Addr} {cpxa_4 : Nat} {adxa_5 : Option Addr} {cpxa_5 : Nat} (fxa_3 : Is K (.sl (.int .i64)) [.slice adxa_3 xa.2.2.2.1.length cpxa_3] xa.2.2.2.1) (fxa_4 : Is K (.sl (.int .i64)) [.slice adxa_4 xa.2.2.2.2.1.length cpxa_4] xa.2.2.2.2.1) (fxa_5 : Is K (.sl (.int .i64)) [.slice adxa_5 xa.2.2.2.2.2.length cpxa_5] xa.2.2.2.2.2) {r : Int} (h : fn_ref19_Form xa = some r) :
    Tr Try.prog 56 #[.agg #[ii xa.1, ii xa.2.1, ii xa.2.2.1, .slice adxa_3 xa.2.2.2.1.length cpxa_3, .slice adxa_4 xa.2.2.2.2.1.length cpxa_4, .slice adxa_5 xa.2.2.2.2.2.length cpxa_5]] K [] (fun v K' L' => (∃ (i61 : Int), i61 = r ∧ ii i61 = v ∧ L' = []) ∧ K = K') := by
 refine Tr.k <| Tr.of Try.func56 rfl Try.ntmps56 rfl fun E F => ?_
 unfold fn_ref19_Form at h
 refine cr <| jbx [ii xa.1, ii xa.2.1, ii xa.2.2.1, .slice adxa_3 xa.2.2.2.1.length cpxa_3, .slice adxa_4 xa.2.2.2.2.1.length cpxa_4, .slice adxa_5 xa.2.2.2.2.2.length cpxa_5] rfl rfl fun b62 => ja (ii 0) rfl <| J.nil <| CJ.seq <| CJ.seq ?_
 refine CJ.region <| jv _ (V.fad Try.underlying54 rfl nz3 rfl) <| jv (ii xa.1) (V.ld rfl (Ld.sc sc3 (Rd.cl 0 rfl rfl))) <| jv (.bool (decide (xa.1 < 1))) (V.lss rfl rfl) <| jm (.bool (decide (xa.1 < 1))) rfl <| J.cut 4 <| jmeet [(10, .bool ((decide (xa.1 < 1)) || (decide (4 < xa.1)))), (1, .pointer (some ⟨b62, 0, none⟩))] ?_ ?_
 · rcases bt (decide (xa.1 < 1)) with hc65 | hc65
   · refine J.skip rfl rfl rfl rfl hc65 <| J.skip rfl rfl rfl rfl hc65 <| J.skip rfl rfl rfl rfl hc65 <| jv (.bool true) (V.pickT rfl hc65 rfl) <| J.nil ?_
     exact ⟨rfl, ⟨(by simp only [hc65]; rfl), rfl, trivial⟩, rfl, rfl⟩
   refine J.run rfl rfl rfl hc65 <| jv _ (V.fad Try.underlying54 rfl nz3 rfl) <| J.run rfl rfl rfl hc65 <| jv (ii xa.1) (V.ld rfl (Ld.sc sc3 (Rd.cl 0 rfl rfl))) <| J.run rfl rfl rfl hc65 <| jv (.bool (decide (4 < xa.1))) (V.gtr rfl rfl) <| jv (.bool (decide (4 < xa.1))) (V.pickF rfl hc65 rfl) ?_
   refine J.nil ?_
   exact ⟨rfl, ⟨(by simp only [hc65]; rfl), rfl, trivial⟩, rfl, rfl⟩
 intro ρ
 refine J.nil <| cc rfl h (fun hc66 h => ?_) fun hc66 h => ?_
 · refine cr <| ja (ii 3) rfl <| J.nil <| CJ.ret ?_
   obtain rfl := si h
   exact ⟨_, _, Res.one rfl rfl, ⟨3, rfl, rfl, rfl⟩, (Hp.le_refl _), fun w hs => (Sep.dropAt 0 rfl hs)⟩
 refine CJ.skip <| CJ.seq <| cr <| jv _ (V.fad Try.underlying54 rfl nz3 rfl) <| jv (ii xa.1) (V.ld rfl (Ld.sc sc3 (Rd.cl 0 rfl rfl))) <| jv (.bool (decide (xa.1 = 1))) (V.eql rfl rfl) ?_
 refine jm (.bool (decide (xa.1 = 1))) rfl <| J.cut 4 <| jmeet [(18, .bool ((decide (xa.1 = 1)) || (decide (xa.1 = 4)))), (1, .pointer (some ⟨b62, 0, none⟩))] ?_ ?_
 · rcases bt (decide (xa.1 = 1)) with hc69 | hc69
   · refine J.skip rfl rfl rfl rfl hc69 <| J.skip rfl rfl rfl rfl hc69 <| J.skip rfl rfl rfl rfl hc69 <| jv (.bool true) (V.pickT rfl hc69 rfl) <| J.nil ?_
     exact ⟨rfl, ⟨(by simp only [hc69]; rfl), rfl, trivial⟩, rfl, rfl⟩
   refine J.run rfl rfl rfl hc69 <| jv _ (V.fad Try.underlying54 rfl nz3 rfl) <| J.run rfl rfl rfl hc69 <| jv (ii xa.1) (V.ld rfl (Ld.sc sc3 (Rd.cl 0 rfl rfl))) <| J.run rfl rfl rfl hc69 <| jv (.bool (decide (xa.1 = 4))) (V.eql rfl rfl) <| jv (.bool (decide (xa.1 = 4))) (V.pickF rfl hc69 rfl) ?_
   refine J.nil ?_
   exact ⟨rfl, ⟨(by simp only [hc69]; rfl), rfl, trivial⟩, rfl, rfl⟩
 intro ρ
 refine jm (.bool ((decide (xa.1 = 1)) || (decide (xa.1 = 4)))) rfl <| J.cut 5 <| jmeet [(24, .bool (((decide (xa.1 = 1)) || (decide (xa.1 = 4))) && (!decide ((((xa.2.2.2.1.length : Nat) : Int)) = 1)))), (1, .pointer (some ⟨b62, 0, none⟩))] ?_ ?_
 · rcases bt ((decide (xa.1 = 1)) || (decide (xa.1 = 4))) with hc72 | hc72
   · refine J.run rfl rfl rfl hc72 <| jv _ (V.fad Try.underlying54 rfl nz52 rfl) <| J.run rfl rfl rfl hc72 <| jv (.slice adxa_3 xa.2.2.2.1.length cpxa_3) (V.ld rfl (Ld.sc sc52 (Rd.cl 0 rfl rfl))) <| J.run rfl rfl rfl hc72 <| jv (ii (((xa.2.2.2.1.length : Nat) : Int))) (V.len Try.underlying52 rfl) <| J.run rfl rfl rfl hc72 ?_
     refine jv (.bool (!decide ((((xa.2.2.2.1.length : Nat) : Int)) = 1))) (V.neq rfl rfl) <| jv (.bool (!decide ((((xa.2.2.2.1.length : Nat) : Int)) = 1))) (V.pickT rfl hc72 rfl) <| J.nil ?_
     exact ⟨rfl, ⟨(by simp only [hc72]; rfl), rfl, trivial⟩, rfl, rfl⟩
   refine J.skip rfl rfl rfl rfl hc72 <| J.skip rfl rfl rfl rfl hc72 <| J.skip rfl rfl rfl rfl hc72 <| J.skip rfl rfl rfl rfl hc72 <| jv (.bool false) (V.pickF rfl hc72 rfl) <| J.nil ?_
   exact ⟨rfl, ⟨(by simp only [hc72]; rfl), rfl, trivial⟩, rfl, rfl⟩
 intro ρ
 refine jm (.bool (((decide (xa.1 = 1)) || (decide (xa.1 = 4))) && (!decide ((((xa.2.2.2.1.length : Nat) : Int)) = 1)))) rfl <| J.cut 10 <| jmeet [(35, .bool ((((decide (xa.1 = 1)) || (decide (xa.1 = 4))) && (!decide ((((xa.2.2.2.1.length : Nat) : Int)) = 1))) || ((decide (xa.1 = 2)) && (decide ((((xa.2.2.2.1.length : Nat) : Int)) = 0))))), (1, .pointer (some ⟨b62, 0, none⟩))] ?_ ?_
 · rcases bt (((decide (xa.1 = 1)) || (decide (xa.1 = 4))) && (!decide ((((xa.2.2.2.1.length : Nat) : Int)) = 1))) with hc78 | hc78
   · refine J.skip rfl rfl rfl rfl hc78 <| J.skip rfl rfl rfl rfl hc78 <| J.skip rfl rfl rfl rfl hc78 <| J.skip rfl rfl rfl rfl hc78 <| J.skipu rfl rfl rfl rfl <| J.skipu rfl rfl rfl rfl <| J.skipu rfl rfl rfl rfl ?_
     refine J.skipu rfl rfl rfl rfl <| J.skip rfl rfl rfl rfl hc78 <| jv (.bool true) (V.pickT rfl hc78 rfl) <| J.nil ?_
     exact ⟨rfl, ⟨(by simp only [hc78]; rfl), rfl, trivial⟩, rfl, rfl⟩
   refine J.run rfl rfl rfl hc78 <| jv _ (V.fad Try.underlying54 rfl nz3 rfl) <| J.run rfl rfl rfl hc78 <| jv (ii xa.1) (V.ld rfl (Ld.sc sc3 (Rd.cl 0 rfl rfl))) <| J.run rfl rfl rfl hc78 <| jv (.bool (decide (xa.1 = 2))) (V.eql rfl rfl) <| J.run rfl rfl rfl hc78 ?_
   refine jm (.bool (decide (xa.1 = 2))) rfl <| J.cut 5 <| jmeet [(34, .bool ((decide (xa.1 = 2)) && (decide ((((xa.2.2.2.1.length : Nat) : Int)) = 0)))), (1, .pointer (some ⟨b62, 0, none⟩)), (25, .bool (((decide (xa.1 = 1)) || (decide (xa.1 = 4))) && (!decide ((((xa.2.2.2.1.length : Nat) : Int)) = 1))))] ?_ ?_
   · rcases bt (decide (xa.1 = 2)) with hc81 | hc81
     · refine J.run rfl rfl rfl hc81 <| jv _ (V.fad Try.underlying54 rfl nz52 rfl) <| J.run rfl rfl rfl hc81 <| jv (.slice adxa_3 xa.2.2.2.1.length cpxa_3) (V.ld rfl (Ld.sc sc52 (Rd.cl 0 rfl rfl))) <| J.run rfl rfl rfl hc81 <| jv (ii (((xa.2.2.2.1.length : Nat) : Int))) (V.len Try.underlying52 rfl) <| J.run rfl rfl rfl hc81 ?_
       refine jv (.bool (decide ((((xa.2.2.2.1.length : Nat) : Int)) = 0))) (V.eql rfl rfl) <| J.run rfl rfl rfl hc78 <| jv (.bool (decide ((((xa.2.2.2.1.length : Nat) : Int)) = 0))) (V.pickT rfl hc81 rfl) <| J.nil ?_
       exact ⟨rfl, ⟨(by simp only [hc81]; rfl), rfl, rfl, trivial⟩, rfl, rfl⟩
     refine J.skip rfl rfl rfl rfl hc81 <| J.skip rfl rfl rfl rfl hc81 <| J.skip rfl rfl rfl rfl hc81 <| J.skip rfl rfl rfl rfl hc81 <| J.run rfl rfl rfl hc78 <| jv (.bool false) (V.pickF rfl hc81 rfl) <| J.nil ?_
     exact ⟨rfl, ⟨(by simp only [hc81]; rfl), rfl, rfl, trivial⟩, rfl, rfl⟩
   intro ρ
   refine jv (.bool ((decide (xa.1 = 2)) && (decide ((((xa.2.2.2.1.length : Nat) : Int)) = 0)))) (V.pickF rfl hc78 rfl) <| J.nil ?_
   exact ⟨rfl, ⟨(by simp only [hc78]; rfl), rfl, trivial⟩, rfl, rfl⟩
 intro ρ
 refine jm (.bool ((((decide (xa.1 = 1)) || (decide (xa.1 = 4))) && (!decide ((((xa.2.2.2.1.length : Nat) : Int)) = 1))) || ((decide (xa.1 = 2)) && (decide ((((xa.2.2.2.1.length : Nat) : Int)) = 0))))) rfl <| J.cut 10 <| jmeet [(46, .bool (((((decide (xa.1 = 1)) || (decide (xa.1 = 4))) && (!decide ((((xa.2.2.2.1.length : Nat) : Int)) = 1))) || ((decide (xa.1 = 2)) && (decide ((((xa.2.2.2.1.length : Nat) : Int)) = 0)))) || ((decide (xa.1 = 3)) && (!decide ((((xa.2.2.2.1.length : Nat) : Int)) = 0))))), (1, .pointer (some ⟨b62, 0, none⟩))] ?_ ?_
 · rcases bt ((((decide (xa.1 = 1)) || (decide (xa.1 = 4))) && (!decide ((((xa.2.2.2.1.length : Nat) : Int)) = 1))) || ((decide (xa.1 = 2)) && (decide ((((xa.2.2.2.1.length : Nat) : Int)) = 0)))) with hc87 | hc87
   · refine J.skip rfl rfl rfl rfl hc87 <| J.skip rfl rfl rfl rfl hc87 <| J.skip rfl rfl rfl rfl hc87 <| J.skip rfl rfl rfl rfl hc87 <| J.skipu rfl rfl rfl rfl <| J.skipu rfl rfl rfl rfl <| J.skipu rfl rfl rfl rfl ?_
     refine J.skipu rfl rfl rfl rfl <| J.skip rfl rfl rfl rfl hc87 <| jv (.bool true) (V.pickT rfl hc87 rfl) <| J.nil ?_
     exact ⟨rfl, ⟨(by simp only [hc87]; rfl), rfl, trivial⟩, rfl, rfl⟩
   refine J.run rfl rfl rfl hc87 <| jv _ (V.fad Try.underlying54 rfl nz3 rfl) <| J.run rfl rfl rfl hc87 <| jv (ii xa.1) (V.ld rfl (Ld.sc sc3 (Rd.cl 0 rfl rfl))) <| J.run rfl rfl rfl hc87 <| jv (.bool (decide (xa.1 = 3))) (V.eql rfl rfl) <| J.run rfl rfl rfl hc87 ?_
   refine jm (.bool (decide (xa.1 = 3))) rfl <| J.cut 5 <| jmeet [(45, .bool ((decide (xa.1 = 3)) && (!decide ((((xa.2.2.2.1.length : Nat) : Int)) = 0)))), (1, .pointer (some ⟨b62, 0, none⟩)), (36, .bool ((((decide (xa.1 = 1)) || (decide (xa.1 = 4))) && (!decide ((((xa.2.2.2.1.length : Nat) : Int)) = 1))) || ((decide (xa.1 = 2)) && (decide ((((xa.2.2.2.1.length : Nat) : Int)) = 0)))))] ?_ ?_
   · rcases bt (decide (xa.1 = 3)) with hc90 | hc90
     · refine J.run rfl rfl rfl hc90 <| jv _ (V.fad Try.underlying54 rfl nz52 rfl) <| J.run rfl rfl rfl hc90 <| jv (.slice adxa_3 xa.2.2.2.1.length cpxa_3) (V.ld rfl (Ld.sc sc52 (Rd.cl 0 rfl rfl))) <| J.run rfl rfl rfl hc90 <| jv (ii (((xa.2.2.2.1.length : Nat) : Int))) (V.len Try.underlying52 rfl) <| J.run rfl rfl rfl hc90 ?_
       refine jv (.bool (!decide ((((xa.2.2.2.1.length : Nat) : Int)) = 0))) (V.neq rfl rfl) <| J.run rfl rfl rfl hc87 <| jv (.bool (!decide ((((xa.2.2.2.1.length : Nat) : Int)) = 0))) (V.pickT rfl hc90 rfl) <| J.nil ?_
       exact ⟨rfl, ⟨(by simp only [hc90]; rfl), rfl, rfl, trivial⟩, rfl, rfl⟩
     refine J.skip rfl rfl rfl rfl hc90 <| J.skip rfl rfl rfl rfl hc90 <| J.skip rfl rfl rfl rfl hc90 <| J.skip rfl rfl rfl rfl hc90 <| J.run rfl rfl rfl hc87 <| jv (.bool false) (V.pickF rfl hc90 rfl) <| J.nil ?_
     exact ⟨rfl, ⟨(by simp only [hc90]; rfl), rfl, rfl, trivial⟩, rfl, rfl⟩
   intro ρ
   refine jv (.bool ((decide (xa.1 = 3)) && (!decide ((((xa.2.2.2.1.length : Nat) : Int)) = 0)))) (V.pickF rfl hc87 rfl) <| J.nil ?_
   exact ⟨rfl, ⟨(by simp only [hc87]; rfl), rfl, trivial⟩, rfl, rfl⟩
 intro ρ
 refine J.nil <| cc rfl h (fun hc91 h => ?_) fun hc91 h => ?_
 · refine cr <| ja (ii 3) rfl <| J.nil <| CJ.ret ?_
   obtain rfl := si h
   exact ⟨_, _, Res.one rfl rfl, ⟨3, rfl, rfl, rfl⟩, (Hp.le_refl _), fun w hs => (Sep.dropAt 0 rfl hs)⟩
 refine CJ.skip <| CJ.seq <| cr <| jv _ (V.fad Try.underlying54 rfl nz3 rfl) <| jv (ii xa.1) (V.ld rfl (Ld.sc sc3 (Rd.cl 0 rfl rfl))) <| jv (.bool (!decide (xa.1 = 4))) (V.neq rfl rfl) ?_
 refine jm (.bool (!decide (xa.1 = 4))) rfl <| J.cut 15 <| jmeet [(65, .bool ((!decide (xa.1 = 4)) && (((!decide (xa.2.1 = 0)) || (!decide (xa.2.2.1 = 0))) || (!decide ((((xa.2.2.2.2.2.length : Nat) : Int)) = 0))))), (1, .pointer (some ⟨b62, 0, none⟩))] ?_ ?_
 · rcases bt (!decide (xa.1 = 4)) with hc100 | hc100
   · refine J.run rfl rfl rfl hc100 <| jv _ (V.fad Try.underlying54 rfl nz3 rfl) <| J.run rfl rfl rfl hc100 <| jv (ii xa.2.1) (V.ld rfl (Ld.sc sc3 (Rd.cl 0 rfl rfl))) <| J.run rfl rfl rfl hc100 <| jv (.bool (!decide (xa.2.1 = 0))) (V.neq rfl rfl) <| J.run rfl rfl rfl hc100 ?_
     refine jm (.bool (!decide (xa.2.1 = 0))) rfl <| J.cut 4 <| jmeet [(58, .bool ((!decide (xa.2.1 = 0)) || (!decide (xa.2.2.1 = 0)))), (1, .pointer (some ⟨b62, 0, none⟩)), (50, .bool (!decide (xa.1 = 4)))] ?_ ?_
     · rcases bt (!decide (xa.2.1 = 0)) with hc103 | hc103
       · refine J.skip rfl rfl rfl rfl hc103 <| J.skip rfl rfl rfl rfl hc103 <| J.skip rfl rfl rfl rfl hc103 <| J.run rfl rfl rfl hc100 <| jv (.bool true) (V.pickT rfl hc103 rfl) <| J.nil ?_
         exact ⟨rfl, ⟨(by simp only [hc103]; rfl), rfl, rfl, trivial⟩, rfl, rfl⟩
       refine J.run rfl rfl rfl hc103 <| jv _ (V.fad Try.underlying54 rfl nz3 rfl) <| J.run rfl rfl rfl hc103 <| jv (ii xa.2.2.1) (V.ld rfl (Ld.sc sc3 (Rd.cl 0 rfl rfl))) <| J.run rfl rfl rfl hc103 <| jv (.bool (!decide (xa.2.2.1 = 0))) (V.neq rfl rfl) <| J.run rfl rfl rfl hc100 ?_
       refine jv (.bool (!decide (xa.2.2.1 = 0))) (V.pickF rfl hc103 rfl) <| J.nil ?_
       exact ⟨rfl, ⟨(by simp only [hc103]; rfl), rfl, rfl, trivial⟩, rfl, rfl⟩
     intro ρ
     refine J.run rfl rfl rfl hc100 <| jm (.bool ((!decide (xa.2.1 = 0)) || (!decide (xa.2.2.1 = 0)))) rfl <| J.cut 5 <| jmeet [(64, .bool (((!decide (xa.2.1 = 0)) || (!decide (xa.2.2.1 = 0))) || (!decide ((((xa.2.2.2.2.2.length : Nat) : Int)) = 0)))), (1, .pointer (some ⟨b62, 0, none⟩)), (50, .bool (!decide (xa.1 = 4)))] ?_ ?_
     · rcases bt ((!decide (xa.2.1 = 0)) || (!decide (xa.2.2.1 = 0))) with hc106 | hc106
       · refine J.skip rfl rfl rfl rfl hc106 <| J.skip rfl rfl rfl rfl hc106 <| J.skip rfl rfl rfl rfl hc106 <| J.skip rfl rfl rfl rfl hc106 <| J.run rfl rfl rfl hc100 <| jv (.bool true) (V.pickT rfl hc106 rfl) <| J.nil ?_
         exact ⟨rfl, ⟨(by simp only [hc106]; rfl), rfl, rfl, trivial⟩, rfl, rfl⟩
       refine J.run rfl rfl rfl hc106 <| jv _ (V.fad Try.underlying54 rfl nz52 rfl) <| J.run rfl rfl rfl hc106 <| jv (.slice adxa_5 xa.2.2.2.2.2.length cpxa_5) (V.ld rfl (Ld.sc sc52 (Rd.cl 0 rfl rfl))) <| J.run rfl rfl rfl hc106 <| jv (ii (((xa.2.2.2.2.2.length : Nat) : Int))) (V.len Try.underlying52 rfl) <| J.run rfl rfl rfl hc106 ?_
       refine jv (.bool (!decide ((((xa.2.2.2.2.2.length : Nat) : Int)) = 0))) (V.neq rfl rfl) <| J.run rfl rfl rfl hc100 <| jv (.bool (!decide ((((xa.2.2.2.2.2.length : Nat) : Int)) = 0))) (V.pickF rfl hc106 rfl) <| J.nil ?_
       exact ⟨rfl, ⟨(by simp only [hc106]; rfl), rfl, rfl, trivial⟩, rfl, rfl⟩
     intro ρ
     refine jv (.bool (((!decide (xa.2.1 = 0)) || (!decide (xa.2.2.1 = 0))) || (!decide ((((xa.2.2.2.2.2.length : Nat) : Int)) = 0)))) (V.pickT rfl hc100 rfl) <| J.nil ?_
     exact ⟨rfl, ⟨(by simp only [hc100]; rfl), rfl, trivial⟩, rfl, rfl⟩
   refine J.skip rfl rfl rfl rfl hc100 <| J.skip rfl rfl rfl rfl hc100 <| J.skip rfl rfl rfl rfl hc100 <| J.skip rfl rfl rfl rfl hc100 <| J.skipu rfl rfl rfl rfl <| J.skipu rfl rfl rfl rfl <| J.skipu rfl rfl rfl rfl ?_
   refine J.skip rfl rfl rfl rfl hc100 <| J.skip rfl rfl rfl rfl hc100 <| J.skipu rfl rfl rfl rfl <| J.skipu rfl rfl rfl rfl <| J.skipu rfl rfl rfl rfl <| J.skipu rfl rfl rfl rfl <| J.skip rfl rfl rfl rfl hc100 ?_
   refine jv (.bool false) (V.pickF rfl hc100 rfl) <| J.nil ?_
   exact ⟨rfl, ⟨(by simp only [hc100]; rfl), rfl, trivial⟩, rfl, rfl⟩
 intro ρ
 refine J.nil <| cc rfl h (fun hc107 h => ?_) fun hc107 h => ?_
 · refine cr <| ja (ii 3) rfl <| J.nil <| CJ.ret ?_
   obtain rfl := si h
   exact ⟨_, _, Res.one rfl rfl, ⟨3, rfl, rfl, rfl⟩, (Hp.le_refl _), fun w hs => (Sep.dropAt 0 rfl hs)⟩
 refine CJ.skip <| CJ.seq <| cr <| jv _ (V.fad Try.underlying54 rfl nz3 rfl) <| jv (ii xa.1) (V.ld rfl (Ld.sc sc3 (Rd.cl 0 rfl rfl))) <| jv (.bool (decide (xa.1 = 1))) (V.eql rfl rfl) ?_
 refine jm (.bool (decide (xa.1 = 1))) rfl <| J.cut 4 <| jmeet [(73, .bool ((decide (xa.1 = 1)) || (decide (xa.1 = 3)))), (1, .pointer (some ⟨b62, 0, none⟩))] ?_ ?_
 · rcases bt (decide (xa.1 = 1)) with hc110 | hc110
   · refine J.skip rfl rfl rfl rfl hc110 <| J.skip rfl rfl rfl rfl hc110 <| J.skip rfl rfl rfl rfl hc110 <| jv (.bool true) (V.pickT rfl hc110 rfl) <| J.nil ?_
     exact ⟨rfl, ⟨(by simp only [hc110]; rfl), rfl, trivial⟩, rfl, rfl⟩
   refine J.run rfl rfl rfl hc110 <| jv _ (V.fad Try.underlying54 rfl nz3 rfl) <| J.run rfl rfl rfl hc110 <| jv (ii xa.1) (V.ld rfl (Ld.sc sc3 (Rd.cl 0 rfl rfl))) <| J.run rfl rfl rfl hc110 <| jv (.bool (decide (xa.1 = 3))) (V.eql rfl rfl) <| jv (.bool (decide (xa.1 = 3))) (V.pickF rfl hc110 rfl) ?_
   refine J.nil ?_
   exact ⟨rfl, ⟨(by simp only [hc110]; rfl), rfl, trivial⟩, rfl, rfl⟩
 intro ρ
 refine jm (.bool ((decide (xa.1 = 1)) || (decide (xa.1 = 3)))) rfl <| J.cut 5 <| jmeet [(79, .bool (((decide (xa.1 = 1)) || (decide (xa.1 = 3))) && (!decide ((((xa.2.2.2.2.1.length : Nat) : Int)) = 0)))), (1, .pointer (some ⟨b62, 0, none⟩))] ?_ ?_
 · rcases bt ((decide (xa.1 = 1)) || (decide (xa.1 = 3))) with hc113 | hc113
   · refine J.run rfl rfl rfl hc113 <| jv _ (V.fad Try.underlying54 rfl nz52 rfl) <| J.run rfl rfl rfl hc113 <| jv (.slice adxa_4 xa.2.2.2.2.1.length cpxa_4) (V.ld rfl (Ld.sc sc52 (Rd.cl 0 rfl rfl))) <| J.run rfl rfl rfl hc113 <| jv (ii (((xa.2.2.2.2.1.length : Nat) : Int))) (V.len Try.underlying52 rfl) <| J.run rfl rfl rfl hc113 ?_
     refine jv (.bool (!decide ((((xa.2.2.2.2.1.length : Nat) : Int)) = 0))) (V.neq rfl rfl) <| jv (.bool (!decide ((((xa.2.2.2.2.1.length : Nat) : Int)) = 0))) (V.pickT rfl hc113 rfl) <| J.nil ?_
     exact ⟨rfl, ⟨(by simp only [hc113]; rfl), rfl, trivial⟩, rfl, rfl⟩
   refine J.skip rfl rfl rfl rfl hc113 <| J.skip rfl rfl rfl rfl hc113 <| J.skip rfl rfl rfl rfl hc113 <| J.skip rfl rfl rfl rfl hc113 <| jv (.bool false) (V.pickF rfl hc113 rfl) <| J.nil ?_
   exact ⟨rfl, ⟨(by simp only [hc113]; rfl), rfl, trivial⟩, rfl, rfl⟩
 intro ρ
 refine J.nil <| cc rfl h (fun hc114 h => ?_) fun hc114 h => ?_
 · refine cr <| ja (ii 3) rfl <| J.nil <| CJ.ret ?_
   obtain rfl := si h
   exact ⟨_, _, Res.one rfl rfl, ⟨3, rfl, rfl, rfl⟩, (Hp.le_refl _), fun w hs => (Sep.dropAt 0 rfl hs)⟩
 refine CJ.skip <| CJ.seq <| cr <| jv _ (V.fad Try.underlying54 rfl nz52 rfl) <| jv (.slice adxa_3 xa.2.2.2.1.length cpxa_3) (V.ld rfl (Ld.sc sc52 (Rd.cl 0 rfl rfl))) <| jv (ii (((xa.2.2.2.1.length : Nat) : Int))) (V.len Try.underlying52 rfl) ?_
 refine jv (.bool (decide (16 < (((xa.2.2.2.1.length : Nat) : Int))))) (V.gtr rfl rfl) <| jm (.bool (decide (16 < (((xa.2.2.2.1.length : Nat) : Int))))) rfl <| J.cut 5 <| jmeet [(89, .bool ((decide (16 < (((xa.2.2.2.1.length : Nat) : Int)))) || (decide (16 < (((xa.2.2.2.2.1.length : Nat) : Int)))))), (1, .pointer (some ⟨b62, 0, none⟩))] ?_ ?_
 · rcases bt (decide (16 < (((xa.2.2.2.1.length : Nat) : Int)))) with hc117 | hc117
   · refine J.skip rfl rfl rfl rfl hc117 <| J.skip rfl rfl rfl rfl hc117 <| J.skip rfl rfl rfl rfl hc117 <| J.skip rfl rfl rfl rfl hc117 <| jv (.bool true) (V.pickT rfl hc117 rfl) <| J.nil ?_
     exact ⟨rfl, ⟨(by simp only [hc117]; rfl), rfl, trivial⟩, rfl, rfl⟩
   refine J.run rfl rfl rfl hc117 <| jv _ (V.fad Try.underlying54 rfl nz52 rfl) <| J.run rfl rfl rfl hc117 <| jv (.slice adxa_4 xa.2.2.2.2.1.length cpxa_4) (V.ld rfl (Ld.sc sc52 (Rd.cl 0 rfl rfl))) <| J.run rfl rfl rfl hc117 <| jv (ii (((xa.2.2.2.2.1.length : Nat) : Int))) (V.len Try.underlying52 rfl) <| J.run rfl rfl rfl hc117 ?_
   refine jv (.bool (decide (16 < (((xa.2.2.2.2.1.length : Nat) : Int))))) (V.gtr rfl rfl) <| jv (.bool (decide (16 < (((xa.2.2.2.2.1.length : Nat) : Int))))) (V.pickF rfl hc117 rfl) <| J.nil ?_
   exact ⟨rfl, ⟨(by simp only [hc117]; rfl), rfl, trivial⟩, rfl, rfl⟩
 intro ρ
 refine jm (.bool ((decide (16 < (((xa.2.2.2.1.length : Nat) : Int)))) || (decide (16 < (((xa.2.2.2.2.1.length : Nat) : Int)))))) rfl <| J.cut 5 <| jmeet [(95, .bool (((decide (16 < (((xa.2.2.2.1.length : Nat) : Int)))) || (decide (16 < (((xa.2.2.2.2.1.length : Nat) : Int))))) || (decide (16 < (((xa.2.2.2.2.2.length : Nat) : Int))))))] ?_ ?_
 · rcases bt ((decide (16 < (((xa.2.2.2.1.length : Nat) : Int)))) || (decide (16 < (((xa.2.2.2.2.1.length : Nat) : Int))))) with hc120 | hc120
   · refine J.skip rfl rfl rfl rfl hc120 <| J.skip rfl rfl rfl rfl hc120 <| J.skip rfl rfl rfl rfl hc120 <| J.skip rfl rfl rfl rfl hc120 <| jv (.bool true) (V.pickT rfl hc120 rfl) <| J.nil ?_
     exact ⟨rfl, ⟨(by simp only [hc120]; rfl), trivial⟩, rfl, rfl⟩
   refine J.run rfl rfl rfl hc120 <| jv _ (V.fad Try.underlying54 rfl nz52 rfl) <| J.run rfl rfl rfl hc120 <| jv (.slice adxa_5 xa.2.2.2.2.2.length cpxa_5) (V.ld rfl (Ld.sc sc52 (Rd.cl 0 rfl rfl))) <| J.run rfl rfl rfl hc120 <| jv (ii (((xa.2.2.2.2.2.length : Nat) : Int))) (V.len Try.underlying52 rfl) <| J.run rfl rfl rfl hc120 ?_
   refine jv (.bool (decide (16 < (((xa.2.2.2.2.2.length : Nat) : Int))))) (V.gtr rfl rfl) <| jv (.bool (decide (16 < (((xa.2.2.2.2.2.length : Nat) : Int))))) (V.pickF rfl hc120 rfl) <| J.nil ?_
   exact ⟨rfl, ⟨(by simp only [hc120]; rfl), trivial⟩, rfl, rfl⟩
 intro ρ
 refine J.nil <| cc rfl h (fun hc121 h => ?_) fun hc121 h => ?_
 · refine cr <| ja (ii 6) rfl <| J.nil <| CJ.ret ?_
   obtain rfl := si h
   exact ⟨_, _, Res.one rfl rfl, ⟨6, rfl, rfl, rfl⟩, (Hp.le_refl _), fun w hs => (Sep.dropAt 0 rfl hs)⟩
 refine CJ.skip <| cr <| ja (ii 0) rfl <| J.nil <| CJ.ret ?_
 obtain rfl := si h
 exact ⟨_, _, Res.one rfl rfl, ⟨0, rfl, rfl, rfl⟩, (Hp.le_refl _), fun w hs => (Sep.dropAt 0 rfl hs)⟩
noncomputable def fn_ref19_within_l1 (xa : (List Int)) (xb : Int) : Int → Option (Int ⊕ (Unit ⊕ Bool)) := fun (i361 : Int) => cond (decide (i361 < (((xa.length : Nat) : Int)))) ((getI xa i361).bind fun x401 => (cond (decide (x401 < 0)) (some (true)) ((getI xa i361).bind fun x423 => some (decide (xb ≤ x423)))).bind fun t420 => cond (t420) (some (.inr ((.inr (false))))) (some (.inl (IntKind.wrap .i64 (i361 + 1))))) (some (.inr ((.inl ()))))
noncomputable def fn_ref19_within (xa : (List Int)) (xb : Int) : Option Bool :=
  (loop (fn_ref19_within_l1 xa xb) 0 : Option (Unit ⊕ Bool)).bind fun o => match o with | .inr r => some r | .inl () => some (true)
set_option maxRecDepth 100000 in
set_option maxHeartbeats 4000000 in
theorem ref19_within_ok {K : Hp} {xa : (List Int)} {xb : Int} {adxa_0 : Option Addr} {cpxa_0 : Nat} (fxa_0 : Is K (.sl (.int .i64)) [.slice adxa_0 xa.length cpxa_0] xa) {r : Bool} (h : fn_ref19_within xa xb = some r) :
    Tr Try.prog 57 #[.slice adxa_0 xa.length cpxa_0, ii xb] K [] (fun v K' L' => (∃ (t218 : Bool), t218 = r ∧ .bool t218 = v ∧ L' = []) ∧ K = K') := by
 refine Tr.k <| Tr.of Try.func57 rfl Try.ntmps57 rfl fun E F => ?_
 unfold fn_ref19_within at h
 refine cr <| ja (.bool false) rfl <| J.nil <| CJ.seq <| CJ.seq <| CJ.region ?_
 refine ja (ii 0) rfl <| J.nil ?_
 obtain ⟨o325, ho326, h⟩ := ob h
 refine CJ.joinN (o := o325) (fun s ρ K' L' => () = s ∧ Fits [] ρ ∧ K = K' ∧ F = L') ?_ ?_
 · refine CJ.block <| CJ.loop (fun s ρ K' L' => ∃ (i361 : Int), i361 = s ∧ Fits [(0, .slice adxa_0 xa.length cpxa_0), (1, ii xb), (5, ii i361)] ρ ∧ K = K' ∧ F = L') ho326 ⟨0, rfl, ⟨rfl, rfl, rfl, trivial⟩, rfl, rfl⟩ ?_
   rintro s ρ _ _ r399 ⟨i361, rfl, hf397, rfl, rfl⟩ h396
   obtain ⟨ρ, rfl⟩ := hf397.ex
   refine CJ.seq <| cr <| jm (ii i361) rfl <| jm (.slice adxa_0 xa.length cpxa_0) rfl <| jv (ii (((xa.length : Nat) : Int))) (V.len Try.underlying52 rfl) <| jv (.bool (decide (i361 < (((xa.length : Nat) : Int))))) (V.lss rfl rfl) ?_
   refine J.nil <| cc rfl h396 (fun hc400 h396 => ?_) fun hc400 h396 => ?_
   · refine CJ.skip <| CJ.seq <| CJ.block <| cr <| jm (.slice adxa_0 xa.length cpxa_0) rfl <| jm (ii i361) rfl ?_
     obtain ⟨x401, hx402, h396⟩ := ob h396
     obtain ⟨p403, p404, p405⟩ := getI_some hx402
     obtain ⟨b406, o407, e408, a409⟩ := (fxa_0).at p404
     refine jv _ (V.iad Try.underlying52 sz3 rfl e408 rfl p403 p405) <| jv (ii x401) (V.ld rfl (Ld.sc sc3 (Rd.k (a409).int (Hp.le_refl _)))) <| jv (.bool (decide (x401 < 0))) (V.lss rfl rfl) <| jm (.bool (decide (x401 < 0))) rfl <| J.cut 7 ?_
     obtain ⟨t420, ht421, h396⟩ := ob h396
     refine jmeet [(24, .bool t420), (0, .slice adxa_0 xa.length cpxa_0), (1, ii xb), (5, ii i361)] ?_ ?_
     · rcases bt (decide (x401 < 0)) with hc422 | hc422
       · have ht421 := ct hc422 ht421
         refine J.skip rfl rfl rfl rfl hc422 <| J.skip rfl rfl rfl rfl hc422 <| J.skip rfl rfl rfl rfl hc422 <| J.skip rfl rfl rfl rfl hc422 <| J.skip rfl rfl rfl rfl hc422 <| J.skip rfl rfl rfl rfl hc422 <| jv (.bool true) (V.pickT rfl hc422 rfl) ?_
         refine J.nil ?_
         obtain rfl := si ht421
         exact ⟨rfl, ⟨rfl, rfl, rfl, rfl, trivial⟩, rfl, rfl⟩
       have ht421 := cf hc422 ht421
       refine J.run rfl rfl rfl hc422 <| jm (.slice adxa_0 xa.length cpxa_0) rfl <| J.run rfl rfl rfl hc422 <| jm (ii i361) rfl <| J.run rfl rfl rfl hc422 ?_
       obtain ⟨x423, hx424, ht421⟩ := ob ht421
       obtain ⟨p425, p426, p427⟩ := getI_some hx424
       obtain ⟨b428, o429, e430, a431⟩ := (fxa_0).at p426
       refine jv _ (V.iad Try.underlying52 sz3 rfl e430 rfl p425 p427) <| J.run rfl rfl rfl hc422 <| jv (ii x423) (V.ld rfl (Ld.sc sc3 (Rd.k (a431).int (Hp.le_refl _)))) <| J.run rfl rfl rfl hc422 <| jm (ii xb) rfl <| J.run rfl rfl rfl hc422 <| jv (.bool (decide (xb ≤ x423))) (V.geq rfl rfl) ?_
       refine jv (.bool (decide (xb ≤ x423))) (V.pickF rfl hc422 rfl) <| J.nil ?_
       obtain rfl := si ht421
       exact ⟨rfl, ⟨rfl, rfl, rfl, rfl, trivial⟩, rfl, rfl⟩
     intro ρ
     refine J.nil <| cc rfl h396 (fun hc432 h396 => ?_) fun hc432 h396 => ?_
     · refine cr <| ja (.bool false) rfl <| J.nil <| CJ.ret ?_
       obtain rfl := si h396
       refine ⟨nofun, fun e => ?_⟩
       subst e
       refine .inr ⟨nofun, ?_⟩
       obtain rfl := si h
       exact ⟨_, _, Res.one rfl rfl, ⟨false, rfl, rfl, rfl⟩, (Hp.le_refl _), fun w hs => hs⟩
     refine CJ.skip <| CJ.region <| jm (ii i361) rfl <| jv (ii (IntKind.wrap .i64 (i361 + 1))) (V.add rfl rfl) <| ja (ii (IntKind.wrap .i64 (i361 + 1))) rfl <| J.nil ?_
     obtain rfl := si h396
     exact ⟨rfl, ⟨IntKind.wrap .i64 (i361 + 1), rfl, ⟨rfl, rfl, rfl, trivial⟩, rfl, rfl⟩⟩
   refine CJ.exit ?_
   obtain rfl := si h396
   refine ⟨nofun, fun e => ?_⟩
   subst e
   exact .inl ⟨rfl, _, rfl, ⟨rfl, trivial, rfl, rfl⟩⟩
 rintro s ρ _ _ ho433 ⟨rfl, hf434, rfl, rfl⟩
 subst ho433
 obtain ⟨ρ, rfl⟩ := hf434.ex
 refine PJ.done <| cr <| ja (.bool true) rfl <| J.nil <| CJ.ret ?_
 obtain rfl := si h
 exact ⟨_, _, Res.one rfl rfl, ⟨true, rfl, rfl, rfl⟩, (Hp.le_refl _), fun w hs => hs⟩
noncomputable def fn_ref15_Subst_l1 (xa : (List (Int × Bool))) (xb : (List Int)) : ((List (Int × Bool)) × Int) → Option (((List (Int × Bool)) × Int) ⊕ ((List (Int × Bool)) ⊕ ((List (Int × Bool)) × Int))) := fun ((l726, i731) : ((List (Int × Bool)) × Int)) => cond (decide (i731 < (((xa.length : Nat) : Int)))) ((getI xa i731).bind fun x805 => cond ((decide (x805.1 < 0)) || (decide ((((xb.length : Nat) : Int)) ≤ x805.1))) (some (.inr ((.inr (([], 7)))))) ((getI xb x805.1).bind fun x840 => (getI xa i731).bind fun x849 => (app l726 (([(x840, x849.2)] : List (Int × Bool)))).bind fun z861 => some (.inl ((z861, IntKind.wrap .i64 (i731 + 1)))))) (some (.inr (.inl l726)))
noncomputable def fn_ref15_Subst (xa : (List (Int × Bool))) (xb : (List Int)) : Option (((List (Int × Bool)) × Int)) :=
  (loop (fn_ref15_Subst_l1 xa xb) ((([] : List (Int × Bool)), 0)) : Option ((List (Int × Bool)) ⊕ ((List (Int × Bool)) × Int))).bind fun o => match o with | .inr r => some r | .inl l651 => some ((l651, 0))
set_option maxRecDepth 100000 in
set_option maxHeartbeats 4000000 in
theorem ref15_Subst_ok {K : Hp} {xa : (List (Int × Bool))} {xb : (List Int)} {adxa_0 : Option Addr} {cpxa_0 : Nat} {adxb_0 : Option Addr} {cpxb_0 : Nat} (fxa_0 : Is K (.sl (.cons (.int .i64) (.one .bool))) [.slice adxa_0 xa.length cpxa_0] xa) (fxb_0 : Is K (.sl (.int .i64)) [.slice adxb_0 xb.length cpxb_0] xb) {r : ((List (Int × Bool)) × Int)} (h : fn_ref15_Subst xa xb = some r) :
    Tr Try.prog 71 #[.agg #[.slice adxa_0 xa.length cpxa_0], .slice adxb_0 xb.length cpxb_0] K [] (fun v K' L' => (∃ (l432 : (List (Int × Bool))) (i437 : Int) (ad433 : Option Addr) (cp434 : Nat), (l432, i437) = r ∧ .tuple #[.agg #[.slice ad433 l432.length cp434], ii i437] = v ∧ L' = [Row Hp.nil 86 (.cons (.int .i64) (.one .bool)) (.slice ad433 l432.length cp434) l432]) ∧ K = K') := by
 refine Tr.k <| Tr.of Try.func71 rfl Try.ntmps71 rfl fun E F => ?_
 unfold fn_ref15_Subst at h
 refine cr <| jbx [.slice adxa_0 xa.length cpxa_0] rfl rfl fun b438 => jal inf26 [nos] rfl fun b439 => ja (ii 0) rfl <| J.nil <| CJ.seq ?_
 refine CJ.region ?_
 refine J.op rfl (A.lit (K0 := Hp.nil) (ty := (.cons (.int .i64) (.one .bool))) (xs := ([] : List (Int × Bool))) Try.underlying24 inf86 rfl (by decide) rfl rfl rfl rfl rfl (by decide)) ?_
 rintro _ _ _ ⟨b440, rfl, rfl, rfl⟩
 have hn441 : ([] : List (Int × Bool)) ≠ [] → ∃ g, (some ⟨b440, 0, none⟩ : Option Addr) = some ⟨g, 0, none⟩ := fun _ => ⟨b440, rfl⟩
 refine ja (.slice (some ⟨b440, 0, none⟩) ((([] : List (Int × Bool))).length) 0) rfl <| J.nil <| CJ.seq <| cr <| ja (ii 0) rfl <| J.nil ?_
 obtain ⟨o656, ho657, h⟩ := ob h
 refine CJ.joinN (o := o656) (fun s ρ K' L' => ∃ (l651 : (List (Int × Bool))) (ad652 : Option Addr) (cp653 : Nat), l651 = s ∧ Fits [(4, .pointer (some ⟨b439, 0, none⟩)), (6, .slice ad652 l651.length cp653)] ρ ∧ K = K' ∧ L' = Cl b439 26 [nos] :: Row Hp.nil 86 (.cons (.int .i64) (.one .bool)) (.slice ad652 l651.length cp653) l651 :: F) ?_ ?_
 · refine CJ.block <| CJ.front 1 rfl <| CJ.front 2 rfl <| CJ.loop (fun s ρ K' L' => ∃ (l726 : (List (Int × Bool))) (i731 : Int) (ad727 : Option Addr) (cp728 : Nat), (l726, i731) = s ∧ Fits [(1, .slice adxb_0 xb.length cpxb_0), (2, .pointer (some ⟨b438, 0, none⟩)), (4, .pointer (some ⟨b439, 0, none⟩)), (6, .slice ad727 l726.length cp728), (7, ii i731)] ρ ∧ K = K' ∧ L' = Cl b438 26 [.slice adxa_0 xa.length cpxa_0] :: Cl b439 26 [nos] :: Row Hp.nil 86 (.cons (.int .i64) (.one .bool)) (.slice ad727 l726.length cp728) l726 :: F) ho657 ⟨([] : List (Int × Bool)), 0, (some ⟨b440, 0, none⟩), 0, rfl, ⟨rfl, rfl, rfl, rfl, rfl, trivial⟩, rfl, rfl⟩ ?_
   rintro s ρ _ _ r803 ⟨l726, i731, ad727, cp728, rfl, hf801, rfl, rfl⟩ h800
   obtain ⟨ρ, rfl⟩ := hf801.ex
   refine CJ.front 2 rfl <| CJ.wit Row.hn fun hn730 => CJ.seq <| cr <| jm (ii i731) rfl <| jv _ (V.fad Try.underlying26 rfl nz24 rfl) ?_
   refine jv (.slice adxa_0 xa.length cpxa_0) (V.ld rfl (Ld.sc sc24 (Rd.cl 1 rfl rfl))) <| jv (ii (((xa.length : Nat) : Int))) (V.len Try.underlying24 rfl) <| jv (.bool (decide (i731 < (((xa.length : Nat) : Int))))) (V.lss rfl rfl) <| J.nil <| cc rfl h800 (fun hc804 h800 => ?_) fun hc804 h800 => ?_
   · refine CJ.skip <| CJ.seq <| CJ.block <| cr <| jv _ (V.fad Try.underlying26 rfl nz24 rfl) <| jv (.slice adxa_0 xa.length cpxa_0) (V.ld rfl (Ld.sc sc24 (Rd.cl 1 rfl rfl))) ?_
     refine jm (ii i731) rfl ?_
     obtain ⟨x805, hx806, h800⟩ := ob h800
     obtain ⟨p807, p808, p809⟩ := getI_some hx806
     obtain ⟨b810, o811, e812, a813⟩ := (fxa_0).at p808
     refine jv _ (V.iad Try.underlying24 sz86 rfl e812 rfl p807 p809) <| jv _ (V.fad Try.underlying86 rfl nz3 rfl) <| jv (ii x805.1) (V.ld rfl (Ld.sc sc3 (Rd.k ((a813).fst).int (Hp.le_refl _)))) <| ja (ii x805.1) rfl <| J.nil <| CJ.seq <| CJ.seq ?_
     refine CJ.region <| jm (ii x805.1) rfl <| jv (.bool (decide (x805.1 < 0))) (V.lss rfl rfl) <| jm (.bool (decide (x805.1 < 0))) rfl <| J.cut 5 <| jmeet [(30, .bool ((decide (x805.1 < 0)) || (decide ((((xb.length : Nat) : Int)) ≤ x805.1)))), (1, .slice adxb_0 xb.length cpxb_0), (2, .pointer (some ⟨b438, 0, none⟩)), (4, .pointer (some ⟨b439, 0, none⟩)), (6, .slice ad727 l726.length cp728), (7, ii i731), (8, ii x805.1)] ?_ ?_
     · rcases bt (decide (x805.1 < 0)) with hc816 | hc816
       · refine J.skip rfl rfl rfl rfl hc816 <| J.skip rfl rfl rfl rfl hc816 <| J.skip rfl rfl rfl rfl hc816 <| J.skip rfl rfl rfl rfl hc816 <| jv (.bool true) (V.pickT rfl hc816 rfl) <| J.nil ?_
         exact ⟨rfl, ⟨(by simp only [hc816]; rfl), rfl, rfl, rfl, rfl, rfl, rfl, trivial⟩, rfl, rfl⟩
       refine J.run rfl rfl rfl hc816 <| jm (ii x805.1) rfl <| J.run rfl rfl rfl hc816 <| jm (.slice adxb_0 xb.length cpxb_0) rfl <| J.run rfl rfl rfl hc816 <| jv (ii (((xb.length : Nat) : Int))) (V.len Try.underlying52 rfl) <| J.run rfl rfl rfl hc816 ?_
       refine jv (.bool (decide ((((xb.length : Nat) : Int)) ≤ x805.1))) (V.geq rfl rfl) <| jv (.bool (decide ((((xb.length : Nat) : Int)) ≤ x805.1))) (V.pickF rfl hc816 rfl) <| J.nil ?_
       exact ⟨rfl, ⟨(by simp only [hc816]; rfl), rfl, rfl, rfl, rfl, rfl, rfl, trivial⟩, rfl, rfl⟩
     intro ρ
     refine J.nil <| cc rfl h800 (fun hc817 h800 => ?_) fun hc817 h800 => ?_
     · refine cr <| jv (.agg #[nos]) (V.build inf26 places26 rfl rfl) <| J.front 2 rfl <| js [nos] sz26 rfl rfl rfl rfl rfl rfl <| ja (ii 7) rfl <| J.nil ?_
       refine CJ.by (fun w hs => Sep.rowNil (e := 86) (t := (.cons (.int .i64) (.one .bool))) hs) <| CJ.ret ?_
       obtain rfl := si h800
       refine ⟨nofun, fun e => ?_⟩
       subst e
       refine .inr ⟨nofun, ?_⟩
       obtain rfl := si h
       exact ⟨_, _, Res.two rfl ⟨_, _, rfl, Ld.agg (cs := [nos]) Try.underlying26 sz26 rfl (Rd.cls 1 0 rfl rfl)⟩ rfl, ⟨[], 7, none, 0, rfl, rfl, rfl⟩, (Hp.le_refl _), fun w hs => (Sep.dropAt 1 rfl (Sep.dropAt 1 rfl (Sep.dropAt 1 rfl hs)))⟩
     refine CJ.skip <| CJ.mix [Row Hp.nil 86 (.cons (.int .i64) (.one .bool)) (.slice ad727 l726.length cp728) l726, Cl b438 26 [.slice adxa_0 xa.length cpxa_0], Cl b439 26 [nos]] [([0, 1, 2, 3, 4, 5, 6, 7, 8, 9, 10, 11], 12)] [] [13, 14] mixO (by decide +kernel) ⟨0, rfl, 0, rfl, 0, rfl, trivial⟩ rfl rfl rfl <| JM.cons <| qm (.slice ad727 l726.length cp728) rfl <| qm (.slice adxb_0 xb.length cpxb_0) rfl <| qm (ii x805.1) rfl ?_
     obtain ⟨x840, hx841, h800⟩ := ob h800
     obtain ⟨p842, p843, p844⟩ := getI_some hx841
     obtain ⟨b845, o846, e847, a848⟩ := (fxb_0).at p843
     refine qv _ (V.iad Try.underlying52 sz3 rfl e847 rfl p842 p844) <| qv (ii x840) (V.ld rfl (Ld.sc sc3 (Rd.k (a848).int (Hp.le_refl _)))) <| qv _ (V.fad Try.underlying26 rfl nz24 rfl) <| qv (.slice adxa_0 xa.length cpxa_0) (V.ld rfl (Ld.sc sc24 (Rd.cl 1 rfl rfl))) <| qm (ii i731) rfl ?_
     obtain ⟨x849, hx850, h800⟩ := ob h800
     obtain ⟨p851, p852, p853⟩ := getI_some hx850
     obtain ⟨b854, o855, e856, a857⟩ := (fxa_0).at p852
     refine qv _ (V.iad Try.underlying24 sz86 rfl e856 rfl p851 p853) <| qv _ (V.fad Try.underlying86 rfl nz4 rfl) <| qv (.bool x849.2) (V.ld rfl (Ld.sc sc4 (Rd.k (((a857).snd).one).bool (Hp.le_refl _)))) <| qv (.agg #[ii x840, .bool x849.2]) (V.build inf86 places86 rfl rfl) <| JQ.nil ?_
     refine JA.op rfl (A.lit (K0 := Hp.nil) (ty := (.cons (.int .i64) (.one .bool))) (xs := ([(x840, x849.2)] : List (Int × Bool))) Try.underlying24 inf86 rfl (by decide) rfl rfl rfl ⟨_, _, rfl, ⟨_, _, rfl, rfl, rfl, rfl⟩, rfl⟩ rfl (by decide)) ?_
     rintro _ _ _ ⟨b858, rfl, rfl, rfl⟩
     have hn859 : ([(x840, x849.2)] : List (Int × Bool)) ≠ [] → ∃ g, (some ⟨b858, 0, none⟩ : Option Addr) = some ⟨g, 0, none⟩ := fun _ => ⟨b858, rfl⟩
     refine ⟨fun w hs => Hold.sub (Hp.le_refl _) ⟨1, rfl, 1, rfl, 1, rfl, trivial⟩ hs, ?_⟩
     refine JM.nil <| JQ.nil ?_
     obtain ⟨z861, hz862, h800⟩ := ob h800
     refine J.front 1 rfl <| J.op rfl (A.appR (Kr := Hp.nil) Try.underlying24 inf86 rfl rfl (by decide) (by decide) rfl rfl (Els.flat rfl) (Els.flat rfl) hz862) ?_
     rintro _ _ _ ⟨v863, rfl, rfl, rfl⟩
     refine J.wit Row.form ?_
     rintro ⟨ad864, cp865, rfl, _, _, hn866⟩
     refine ja (.slice ad864 z861.length cp865) rfl <| J.nil <| CJ.region <| jm (ii i731) rfl <| jv (ii (IntKind.wrap .i64 (i731 + 1))) (V.add rfl rfl) <| ja (ii (IntKind.wrap .i64 (i731 + 1))) rfl <| J.front 2 rfl ?_
     refine J.front 2 rfl <| J.nil ?_
     obtain rfl := si h800
     exact ⟨rfl, ⟨z861, IntKind.wrap .i64 (i731 + 1), ad864, cp865, rfl, ⟨rfl, rfl, rfl, rfl, rfl, trivial⟩, rfl, rfl⟩⟩
   refine CJ.dropAt 1 rfl <| CJ.front 1 rfl <| CJ.exit ?_
   obtain rfl := si h800
   refine ⟨nofun, fun e => ?_⟩
   subst e
   exact .inl ⟨rfl, _, rfl, ⟨l726, ad727, cp728, rfl, ⟨rfl, rfl, trivial⟩, rfl, rfl⟩⟩
 rintro s ρ _ _ ho867 ⟨l651, ad652, cp653, rfl, hf868, rfl, rfl⟩
 subst ho867
 obtain ⟨ρ, rfl⟩ := hf868.ex
 refine PJ.front 1 rfl <| PJ.wit Row.hn fun hn655 => PJ.done <| cr <| jm (.slice ad652 l651.length cp653) rfl <| jv (.agg #[.slice ad652 l651.length cp653]) (V.build inf26 places26 rfl rfl) ?_
 refine J.front 1 rfl <| js [.slice ad652 l651.length cp653] sz26 rfl rfl rfl rfl rfl rfl <| ja (ii 0) rfl <| J.nil <| CJ.ret ?_
 obtain rfl := si h
 exact ⟨_, _, Res.two rfl ⟨_, _, rfl, Ld.agg (cs := [.slice ad652 l651.length cp653]) Try.underlying26 sz26 rfl (Rd.cls 0 0 rfl rfl)⟩ rfl, ⟨l651, 0, ad652, cp653, rfl, rfl, rfl⟩, (Hp.le_refl _), fun w hs => (Sep.dropAt 0 rfl hs)⟩
noncomputable def fn_ref17_Call_l1 (xa : (Int × (List (Int × Int)) × (List (List (Int × Bool))) × (List (Int × Bool)))) (xb : (List Int)) : ((List (Int × Int × Int × Int × Bool)) × Int) → Option (((List (Int × Int × Int × Int × Bool)) × Int) ⊕ (List (Int × Int × Int × Int × Bool))) := fun ((l1593, i1598) : ((List (Int × Int × Int × Int × Bool)) × Int)) => cond (decide (i1598 < (((xa.2.1.length : Nat) : Int)))) ((getI xa.2.1 i1598).bind fun x1734 => (getI xb x1734.1).bind fun x1743 => (getI xa.2.1 i1598).bind fun x1752 => (getI xb x1752.2).bind fun x1761 => (app l1593 (([(x1743, x1761, 4, i1598, false)] : List (Int × Int × Int × Int × Bool)))).bind fun z1773 => some (.inl ((z1773, IntKind.wrap .i64 (i1598 + 1))))) (some (.inr (l1593)))
noncomputable def fn_ref17_Call_l2 (xa : (Int × (List (Int × Int)) × (List (List (Int × Bool))) × (List (Int × Bool)))) (xb : (List Int)) (xc : (List (List (Int × Bool)))) : ((List (Int × Int × Int × Int × Bool)) × Int) → Option (((List (Int × Int × Int × Int × Bool)) × Int) ⊕ ((List (Int × Int × Int × Int × Bool)) ⊕ ((List (Int × Int × Int × Int × Bool)) × Int))) := fun ((l2168, i2173) : ((List (Int × Int × Int × Int × Bool)) × Int)) => cond (decide (i2173 < (((xa.2.2.1.length : Nat) : Int)))) ((getI xa.2.2.1 i2173).bind fun x2273 => (fn_ref15_Subst x2273 xb).bind fun (l2288, i2289) => (getI xc i2173).bind fun x2325 => (fn_ref16_Flow x2325 l2288 5 (IntKind.wrap .i64 (16 * i2173))).bind fun (l2343, i2344) => cond (!decide (i2344 = 0)) (some (.inr ((.inr (([], i2344)))))) ((app l2168 l2343).bind fun z2354 => some (.inl ((z2354, IntKind.wrap .i64 (i2173 + 1)))))) (some (.inr (.inl l2168)))
noncomputable def fn_ref17_Call (xa : (Int × (List (Int × Int)) × (List (List (Int × Bool))) × (List (Int × Bool)))) (xb : (List Int)) (xc : (List (List (Int × Bool)))) (xd : (List (Int × Bool))) : Option (((List (Int × Int × Int × Int × Bool)) × Int)) :=
  (fn_ref17_Check (xa.1, xa.2.1, xa.2.2.1, xa.2.2.2)).bind fun i1204 => cond (!decide (i1204 = 0)) (some (([], i1204))) (cond ((!decide ((((xb.length : Nat) : Int)) = xa.1)) || (!decide ((((xc.length : Nat) : Int)) = (((xa.2.2.1.length : Nat) : Int))))) (some (([], 2))) ((loop (fn_ref17_Call_l1 xa xb) ((([] : List (Int × Int × Int × Int × Bool)), 0)) : Option ((List (Int × Int × Int × Int × Bool)))).bind fun l1495 => (loop (fn_ref17_Call_l2 xa xb xc) (l1495, 0) : Option ((List (Int × Int × Int × Int × Bool)) ⊕ ((List (Int × Int × Int × Int × Bool)) × Int))).bind fun o => match o with | .inr r => some r | .inl l2067 => (fn_ref15_Subst xa.2.2.2 xb).bind fun (l2365, i2366) => (fn_ref16_Flow l2365 xd 6 0).bind fun (l2380, i2381) => cond (!decide (i2381 = 0)) (some (([], i2381))) ((app l2067 l2380).bind fun z2391 => some ((z2391, 0)))))
set_option maxRecDepth 100000 in
set_option maxHeartbeats 4000000 in
theorem ref17_Call_ok {K : Hp} {xa : (Int × (List (Int × Int)) × (List (List (Int × Bool))) × (List (Int × Bool)))} {xb : (List Int)} {xc : (List (List (Int × Bool)))} {xd : (List (Int × Bool))} {adxa_1 : Option Addr} {cpxa_1 : Nat} {adxa_2 : Option Addr} {cpxa_2 : Nat} {adxa_3 : Option Addr} {cpxa_3 : Nat} {adxb_0 : Option Addr} {cpxb_0 : Nat} {adxc_0 : Option Addr} {cpxc_0 : Nat} {adxd_0 : Option Addr} {cpxd_0 : Nat} (fxa_1 : Is K (.sl (.cons (.int .i64) (.one (.int .i64)))) [.slice adxa_1 xa.2.1.length cpxa_1] xa.2.1) (fxa_2 : Is K (.sl (.one (.sl (.cons (.int .i64) (.one .bool))))) [.slice adxa_2 xa.2.2.1.length cpxa_2] xa.2.2.1) (fxa_3 : Is K (.sl (.cons (.int .i64) (.one .bool))) [.slice adxa_3 xa.2.2.2.length cpxa_3] xa.2.2.2) (fxb_0 : Is K (.sl (.int .i64)) [.slice adxb_0 xb.length cpxb_0] xb) (fxc_0 : Is K (.sl (.one (.sl (.cons (.int .i64) (.one .bool))))) [.slice adxc_0 xc.length cpxc_0] xc) (fxd_0 : Is K (.sl (.cons (.int .i64) (.one .bool))) [.slice adxd_0 xd.length cpxd_0] xd) {r : ((List (Int × Int × Int × Int × Bool)) × Int)} (h : fn_ref17_Call xa xb xc xd = some r) :
    Tr Try.prog 58 #[.agg #[ii xa.1, .slice adxa_1 xa.2.1.length cpxa_1, .slice adxa_2 xa.2.2.1.length cpxa_2, .slice adxa_3 xa.2.2.2.length cpxa_3], .slice adxb_0 xb.length cpxb_0, .slice adxc_0 xc.length cpxc_0, .agg #[.slice adxd_0 xd.length cpxd_0]] K [] (fun v K' L' => (∃ (l1194 : (List (Int × Int × Int × Int × Bool))) (i1199 : Int) (ad1195 : Option Addr) (cp1196 : Nat), (l1194, i1199) = r ∧ .tuple #[.slice ad1195 l1194.length cp1196, ii i1199] = v ∧ L' = [Row Hp.nil 111 (.cons (.int .i64) (.cons (.int .i64) (.cons (.int .i64) (.cons (.int .i64) (.one .bool))))) (.slice ad1195 l1194.length cp1196) l1194]) ∧ K = K') := by
 refine Tr.k <| Tr.of Try.func58 rfl Try.ntmps58 rfl fun E F => ?_
 unfold fn_ref17_Call at h
 refine cr <| jbx [ii xa.1, .slice adxa_1 xa.2.1.length cpxa_1, .slice adxa_2 xa.2.2.1.length cpxa_2, .slice adxa_3 xa.2.2.2.length cpxa_3] rfl rfl fun b1200 => jbx [.slice adxd_0 xd.length cpxd_0] rfl rfl fun b1201 => ja (nos) rfl <| ja (ii 0) rfl <| J.nil ?_
 refine cr <| jv (.agg #[ii xa.1, .slice adxa_1 xa.2.1.length cpxa_1, .slice adxa_2 xa.2.2.1.length cpxa_2, .slice adxa_3 xa.2.2.2.length cpxa_3]) (V.ld rfl (Ld.agg (cs := [ii xa.1, .slice adxa_1 xa.2.1.length cpxa_1, .slice adxa_2 xa.2.2.1.length cpxa_2, .slice adxa_3 xa.2.2.2.length cpxa_3]) Try.underlying62 sz62 rfl (Rd.cls 1 0 rfl rfl))) ?_
 obtain ⟨r1202, hr1203, h⟩ := ob h
 refine J.op rfl (A.call (L1 := []) Try.call40 rfl (ref17_Check_ok fxa_1 fxa_2 fxa_3 hr1203) rfl rfl) ?_
 rintro _ _ _ ⟨v1205, _, rfl, ⟨⟨i1204, rfl, rfl, rfl⟩, rfl⟩, _, rfl⟩
 refine ja (ii i1204) rfl <| J.nil <| CJ.seq <| cr <| jm (ii i1204) rfl <| jv (.bool (!decide (i1204 = 0))) (V.neq rfl rfl) ?_
 refine J.nil <| cc rfl h (fun hc1208 h => ?_) fun hc1208 h => ?_
 · refine cr <| jm (ii i1204) rfl <| ja (nos) rfl <| ja (ii i1204) rfl <| J.nil <| CJ.by (fun w hs => Sep.rowNil (e := 111) (t := (.cons (.int .i64) (.cons (.int .i64) (.cons (.int .i64) (.cons (.int .i64) (.one .bool)))))) hs) ?_
   refine CJ.ret ?_
   obtain rfl := si h
   exact ⟨_, _, Res.two rfl rfl rfl, ⟨[], i1204, none, 0, rfl, rfl, rfl⟩, (Hp.le_refl _), fun w hs => (Sep.dropAt 1 rfl (Sep.dropAt 1 rfl hs))⟩
 refine CJ.skip <| CJ.seq <| cr <| jm (.slice adxb_0 xb.length cpxb_0) rfl <| jv (ii (((xb.length : Nat) : Int))) (V.len Try.underlying52 rfl) <| jv _ (V.fad Try.underlying62 rfl nz3 rfl) ?_
 refine jv (ii xa.1) (V.ld rfl (Ld.sc sc3 (Rd.cl 1 rfl rfl))) <| jv (.bool (!decide ((((xb.length : Nat) : Int)) = xa.1))) (V.neq rfl rfl) <| jm (.bool (!decide ((((xb.length : Nat) : Int)) = xa.1))) rfl <| J.cut 7 <| jmeet [(39, .bool ((!decide ((((xb.length : Nat) : Int)) = xa.1)) || (!decide ((((xc.length : Nat) : Int)) = (((xa.2.2.1.length : Nat) : Int)))))), (1, .slice adxb_0 xb.length cpxb_0), (2, .slice adxc_0 xc.length cpxc_0), (4, .pointer (some ⟨b1200, 0, none⟩)), (7, .pointer (some ⟨b1201, 0, none⟩))] ?_ ?_
 · rcases bt (!decide ((((xb.length : Nat) : Int)) = xa.1)) with hc1212 | hc1212
   · refine J.skip rfl rfl rfl rfl hc1212 <| J.skip rfl rfl rfl rfl hc1212 <| J.skip rfl rfl rfl rfl hc1212 <| J.skip rfl rfl rfl rfl hc1212 <| J.skip rfl rfl rfl rfl hc1212 <| J.skip rfl rfl rfl rfl hc1212 <| jv (.bool true) (V.pickT rfl hc1212 rfl) ?_
     refine J.nil ?_
     exact ⟨rfl, ⟨(by simp only [hc1212]; rfl), rfl, rfl, rfl, rfl, trivial⟩, rfl, rfl⟩
   refine J.run rfl rfl rfl hc1212 <| jm (.slice adxc_0 xc.length cpxc_0) rfl <| J.run rfl rfl rfl hc1212 <| jv (ii (((xc.length : Nat) : Int))) (V.len Try.underlying23 rfl) <| J.run rfl rfl rfl hc1212 <| jv _ (V.fad Try.underlying62 rfl nz23 rfl) <| J.run rfl rfl rfl hc1212 ?_
   refine jv (.slice adxa_2 xa.2.2.1.length cpxa_2) (V.ld rfl (Ld.sc sc23 (Rd.cl 1 rfl rfl))) <| J.run rfl rfl rfl hc1212 <| jv (ii (((xa.2.2.1.length : Nat) : Int))) (V.len Try.underlying23 rfl) <| J.run rfl rfl rfl hc1212 <| jv (.bool (!decide ((((xc.length : Nat) : Int)) = (((xa.2.2.1.length : Nat) : Int))))) (V.neq rfl rfl) <| jv (.bool (!decide ((((xc.length : Nat) : Int)) = (((xa.2.2.1.length : Nat) : Int))))) (V.pickF rfl hc1212 rfl) <| J.nil ?_
   exact ⟨rfl, ⟨(by simp only [hc1212]; rfl), rfl, rfl, rfl, rfl, trivial⟩, rfl, rfl⟩
 intro ρ
 refine J.nil <| cc rfl h (fun hc1213 h => ?_) fun hc1213 h => ?_
 · refine cr <| ja (nos) rfl <| ja (ii 2) rfl <| J.nil <| CJ.by (fun w hs => Sep.rowNil (e := 111) (t := (.cons (.int .i64) (.cons (.int .i64) (.cons (.int .i64) (.cons (.int .i64) (.one .bool)))))) hs) <| CJ.ret ?_
   obtain rfl := si h
   exact ⟨_, _, Res.two rfl rfl rfl, ⟨[], 2, none, 0, rfl, rfl, rfl⟩, (Hp.le_refl _), fun w hs => (Sep.dropAt 1 rfl (Sep.dropAt 1 rfl hs))⟩
 refine CJ.skip <| CJ.seq <| CJ.region ?_
 refine J.op rfl (A.lit (K0 := Hp.nil) (ty := (.cons (.int .i64) (.cons (.int .i64) (.cons (.int .i64) (.cons (.int .i64) (.one .bool)))))) (xs := ([] : List (Int × Int × Int × Int × Bool))) Try.underlying80 inf111 rfl (by decide) rfl rfl rfl rfl rfl (by decide)) ?_
 rintro _ _ _ ⟨b1215, rfl, rfl, rfl⟩
 have hn1216 : ([] : List (Int × Int × Int × Int × Bool)) ≠ [] → ∃ g, (some ⟨b1215, 0, none⟩ : Option Addr) = some ⟨g, 0, none⟩ := fun _ => ⟨b1215, rfl⟩
 refine ja (.slice (some ⟨b1215, 0, none⟩) ((([] : List (Int × Int × Int × Int × Bool))).length) 0) rfl <| J.nil <| CJ.seq <| cr <| ja (ii 0) rfl <| J.nil ?_
 obtain ⟨o1500, ho1501, h⟩ := ob h
 refine CJ.meetN (fun ρ K' L' => ∃ (l1495 : (List (Int × Int × Int × Int × Bool))) (ad1496 : Option Addr) (cp1497 : Nat), l1495 = o1500 ∧ Fits [(1, .slice adxb_0 xb.length cpxb_0), (2, .slice adxc_0 xc.length cpxc_0), (4, .pointer (some ⟨b1200, 0, none⟩)), (7, .pointer (some ⟨b1201, 0, none⟩)), (11, .slice ad1496 l1495.length cp1497)] ρ ∧ K = K' ∧ L' = Cl b1200 62 [ii xa.1, .slice adxa_1 xa.2.1.length cpxa_1, .slice adxa_2 xa.2.2.1.length cpxa_2, .slice adxa_3 xa.2.2.2.length cpxa_3] :: Cl b1201 26 [.slice adxd_0 xd.length cpxd_0] :: Row Hp.nil 111 (.cons (.int .i64) (.cons (.int .i64) (.cons (.int .i64) (.cons (.int .i64) (.one .bool))))) (.slice ad1496 l1495.length cp1497) l1495 :: F) ?_ ?_
 · refine CJ.block <| CJ.front 1 rfl <| CJ.front 2 rfl <| CJ.loop (fun s ρ K' L' => ∃ (l1593 : (List (Int × Int × Int × Int × Bool))) (i1598 : Int) (ad1594 : Option Addr) (cp1595 : Nat), (l1593, i1598) = s ∧ Fits [(1, .slice adxb_0 xb.length cpxb_0), (2, .slice adxc_0 xc.length cpxc_0), (4, .pointer (some ⟨b1200, 0, none⟩)), (7, .pointer (some ⟨b1201, 0, none⟩)), (11, .slice ad1594 l1593.length cp1595), (12, ii i1598)] ρ ∧ K = K' ∧ L' = Cl b1200 62 [ii xa.1, .slice adxa_1 xa.2.1.length cpxa_1, .slice adxa_2 xa.2.2.1.length cpxa_2, .slice adxa_3 xa.2.2.2.length cpxa_3] :: Cl b1201 26 [.slice adxd_0 xd.length cpxd_0] :: Row Hp.nil 111 (.cons (.int .i64) (.cons (.int .i64) (.cons (.int .i64) (.cons (.int .i64) (.one .bool))))) (.slice ad1594 l1593.length cp1595) l1593 :: F) ho1501 ⟨([] : List (Int × Int × Int × Int × Bool)), 0, (some ⟨b1215, 0, none⟩), 0, rfl, ⟨rfl, rfl, rfl, rfl, rfl, rfl, trivial⟩, rfl, rfl⟩ ?_
   rintro s ρ _ _ r1693 ⟨l1593, i1598, ad1594, cp1595, rfl, hf1691, rfl, rfl⟩ h1690
   obtain ⟨ρ, rfl⟩ := hf1691.ex
   refine CJ.front 2 rfl <| CJ.wit Row.hn fun hn1597 => CJ.seq <| cr <| jm (ii i1598) rfl <| jv _ (V.fad Try.underlying62 rfl nz22 rfl) ?_
   refine jv (.slice adxa_1 xa.2.1.length cpxa_1) (V.ld rfl (Ld.sc sc22 (Rd.cl 1 rfl rfl))) <| jv (ii (((xa.2.1.length : Nat) : Int))) (V.len Try.underlying22 rfl) <| jv (.bool (decide (i1598 < (((xa.2.1.length : Nat) : Int))))) (V.lss rfl rfl) <| J.nil <| cc rfl h1690 (fun hc1694 h1690 => ?_) fun hc1694 h1690 => ?_
   · refine CJ.skip <| CJ.seq <| CJ.block <| CJ.mix [Row Hp.nil 111 (.cons (.int .i64) (.cons (.int .i64) (.cons (.int .i64) (.cons (.int .i64) (.one .bool))))) (.slice ad1594 l1593.length cp1595) l1593, Cl b1200 62 [ii xa.1, .slice adxa_1 xa.2.1.length cpxa_1, .slice adxa_2 xa.2.2.1.length cpxa_2, .slice adxa_3 xa.2.2.2.length cpxa_3], Cl b1201 26 [.slice adxd_0 xd.length cpxd_0]] [([0, 1, 2, 3, 4, 5, 6, 7, 8, 9, 10, 11, 12, 13, 14, 15, 16, 17, 18, 19, 20], 21)] [] [22, 23] mixO (by decide +kernel) ⟨0, rfl, 0, rfl, 0, rfl, trivial⟩ rfl rfl rfl <| JM.cons <| qm (.slice ad1594 l1593.length cp1595) rfl <| qm (.slice adxb_0 xb.length cpxb_0) rfl ?_
     refine qv _ (V.fad Try.underlying62 rfl nz22 rfl) <| qv (.slice adxa_1 xa.2.1.length cpxa_1) (V.ld rfl (Ld.sc sc22 (Rd.cl 1 rfl rfl))) <| qm (ii i1598) rfl ?_
     obtain ⟨x1734, hx1735, h1690⟩ := ob h1690
     obtain ⟨p1736, p1737, p1738⟩ := getI_some hx1735
     obtain ⟨b1739, o1740, e1741, a1742⟩ := (fxa_1).at p1737
     refine qv _ (V.iad Try.underlying22 sz50 rfl e1741 rfl p1736 p1738) <| qv _ (V.fad Try.underlying50 rfl nz3 rfl) <| qv (ii x1734.1) (V.ld rfl (Ld.sc sc3 (Rd.k ((a1742).fst).int (Hp.le_refl _)))) ?_
     obtain ⟨x1743, hx1744, h1690⟩ := ob h1690
     obtain ⟨p1745, p1746, p1747⟩ := getI_some hx1744
     obtain ⟨b1748, o1749, e1750, a1751⟩ := (fxb_0).at p1746
     refine qv _ (V.iad Try.underlying52 sz3 rfl e1750 rfl p1745 p1747) <| qv (ii x1743) (V.ld rfl (Ld.sc sc3 (Rd.k (a1751).int (Hp.le_refl _)))) <| qm (.slice adxb_0 xb.length cpxb_0) rfl <| qv _ (V.fad Try.underlying62 rfl nz22 rfl) <| qv (.slice adxa_1 xa.2.1.length cpxa_1) (V.ld rfl (Ld.sc sc22 (Rd.cl 1 rfl rfl))) <| qm (ii i1598) rfl ?_
     obtain ⟨x1752, hx1753, h1690⟩ := ob h1690
     obtain ⟨p1754, p1755, p1756⟩ := getI_some hx1753
     obtain ⟨b1757, o1758, e1759, a1760⟩ := (fxa_1).at p1755
     refine qv _ (V.iad Try.underlying22 sz50 rfl e1759 rfl p1754 p1756) <| qv _ (V.fad Try.underlying50 rfl nz3 rfl) <| qv (ii x1752.2) (V.ld rfl (Ld.sc sc3 (Rd.k (((a1760).snd).one).int (Hp.le_refl _)))) ?_
     obtain ⟨x1761, hx1762, h1690⟩ := ob h1690
     obtain ⟨p1763, p1764, p1765⟩ := getI_some hx1762
     obtain ⟨b1766, o1767, e1768, a1769⟩ := (fxb_0).at p1764
     refine qv _ (V.iad Try.underlying52 sz3 rfl e1768 rfl p1763 p1765) <| qv (ii x1761) (V.ld rfl (Ld.sc sc3 (Rd.k (a1769).int (Hp.le_refl _)))) <| qm (ii i1598) rfl <| qv (.agg #[ii x1743, ii x1761, ii 4, ii i1598, .bool false]) (V.build inf111 places111 rfl rfl) <| JQ.nil ?_
     refine JA.op rfl (A.lit (K0 := Hp.nil) (ty := (.cons (.int .i64) (.cons (.int .i64) (.cons (.int .i64) (.cons (.int .i64) (.one .bool)))))) (xs := ([(x1743, x1761, 4, i1598, false)] : List (Int × Int × Int × Int × Bool))) Try.underlying80 inf111 rfl (by decide) rfl rfl rfl ⟨_, _, rfl, ⟨_, _, rfl, rfl, rfl, ⟨_, _, rfl, rfl, rfl, ⟨_, _, rfl, rfl, rfl, ⟨_, _, rfl, rfl, rfl, rfl⟩⟩⟩⟩, rfl⟩ rfl (by decide)) ?_
     rintro _ _ _ ⟨b1770, rfl, rfl, rfl⟩
     have hn1771 : ([(x1743, x1761, 4, i1598, false)] : List (Int × Int × Int × Int × Bool)) ≠ [] → ∃ g, (some ⟨b1770, 0, none⟩ : Option Addr) = some ⟨g, 0, none⟩ := fun _ => ⟨b1770, rfl⟩
     refine ⟨fun w hs => Hold.sub (Hp.le_refl _) ⟨1, rfl, 1, rfl, 1, rfl, trivial⟩ hs, ?_⟩
     refine JM.nil <| JQ.nil ?_
     obtain ⟨z1773, hz1774, h1690⟩ := ob h1690
     refine J.front 1 rfl <| J.op rfl (A.appR (Kr := Hp.nil) Try.underlying80 inf111 rfl rfl (by decide) (by decide) rfl rfl (Els.flat rfl) (Els.flat rfl) hz1774) ?_
     rintro _ _ _ ⟨v1775, rfl, rfl, rfl⟩
     refine J.wit Row.form ?_
     rintro ⟨ad1776, cp1777, rfl, _, _, hn1778⟩
     refine ja (.slice ad1776 z1773.length cp1777) rfl <| J.nil <| CJ.region <| jm (ii i1598) rfl <| jv (ii (IntKind.wrap .i64 (i1598 + 1))) (V.add rfl rfl) <| ja (ii (IntKind.wrap .i64 (i1598 + 1))) rfl <| J.front 2 rfl ?_
     refine J.front 2 rfl <| J.nil ?_
     obtain rfl := si h1690
     exact ⟨rfl, ⟨z1773, IntKind.wrap .i64 (i1598 + 1), ad1776, cp1777, rfl, ⟨rfl, rfl, rfl, rfl, rfl, rfl, trivial⟩, rfl, rfl⟩⟩
   refine CJ.front 2 rfl <| CJ.front 2 rfl <| CJ.exit ?_
   obtain rfl := si h1690
   refine ⟨nofun, fun e => ?_⟩
   subst e
   exact ⟨rfl, ⟨l1593, ad1594, cp1595, rfl, ⟨rfl, rfl, rfl, rfl, rfl, trivial⟩, rfl, rfl⟩⟩
 rintro ρ _ _ ⟨l1495, ad1496, cp1497, rfl, hf1779, rfl, rfl⟩
 obtain ⟨ρ, rfl⟩ := hf1779.ex
 refine PJ.front 2 rfl <| PJ.wit Row.hn fun hn1499 => PJ.done <| CJ.seq <| cr <| ja (ii 0) rfl ?_
 refine J.nil ?_
 obtain ⟨o2072, ho2073, h⟩ := ob h
 refine CJ.joinN (o := o2072) (fun s ρ K' L' => ∃ (l2067 : (List (Int × Int × Int × Int × Bool))) (ad2068 : Option Addr) (cp2069 : Nat), l2067 = s ∧ Fits [(1, .slice adxb_0 xb.length cpxb_0), (4, .pointer (some ⟨b1200, 0, none⟩)), (7, .pointer (some ⟨b1201, 0, none⟩)), (11, .slice ad2068 l2067.length cp2069)] ρ ∧ Hp.le K K' ∧ L' = Cl b1200 62 [ii xa.1, .slice adxa_1 xa.2.1.length cpxa_1, .slice adxa_2 xa.2.2.1.length cpxa_2, .slice adxa_3 xa.2.2.2.length cpxa_3] :: Cl b1201 26 [.slice adxd_0 xd.length cpxd_0] :: Row Hp.nil 111 (.cons (.int .i64) (.cons (.int .i64) (.cons (.int .i64) (.cons (.int .i64) (.one .bool))))) (.slice ad2068 l2067.length cp2069) l2067 :: F) ?_ ?_
 · refine CJ.block <| CJ.front 2 rfl <| CJ.front 2 rfl <| CJ.loop (fun s ρ K' L' => ∃ (l2168 : (List (Int × Int × Int × Int × Bool))) (i2173 : Int) (ad2169 : Option Addr) (cp2170 : Nat), (l2168, i2173) = s ∧ Fits [(1, .slice adxb_0 xb.length cpxb_0), (2, .slice adxc_0 xc.length cpxc_0), (4, .pointer (some ⟨b1200, 0, none⟩)), (7, .pointer (some ⟨b1201, 0, none⟩)), (11, .slice ad2169 l2168.length cp2170), (13, ii i2173)] ρ ∧ Hp.le K K' ∧ L' = Cl b1200 62 [ii xa.1, .slice adxa_1 xa.2.1.length cpxa_1, .slice adxa_2 xa.2.2.1.length cpxa_2, .slice adxa_3 xa.2.2.2.length cpxa_3] :: Cl b1201 26 [.slice adxd_0 xd.length cpxd_0] :: Row Hp.nil 111 (.cons (.int .i64) (.cons (.int .i64) (.cons (.int .i64) (.cons (.int .i64) (.one .bool))))) (.slice ad2169 l2168.length cp2170) l2168 :: F) ho2073 ⟨l1495, 0, ad1496, cp1497, rfl, ⟨rfl, rfl, rfl, rfl, rfl, rfl, trivial⟩, (Hp.le_refl _), rfl⟩ ?_
   rintro s ρ K2167 _ r2271 ⟨l2168, i2173, ad2169, cp2170, rfl, hf2269, hk2270, rfl⟩ h2268
   obtain ⟨ρ, rfl⟩ := hf2269.ex
   refine CJ.front 2 rfl <| CJ.wit Row.hn fun hn2172 => CJ.seq <| cr <| jm (ii i2173) rfl <| jv _ (V.fad Try.underlying62 rfl nz23 rfl) ?_
   refine jv (.slice adxa_2 xa.2.2.1.length cpxa_2) (V.ld rfl (Ld.sc sc23 (Rd.cl 1 rfl rfl))) <| jv (ii (((xa.2.2.1.length : Nat) : Int))) (V.len Try.underlying23 rfl) <| jv (.bool (decide (i2173 < (((xa.2.2.1.length : Nat) : Int))))) (V.lss rfl rfl) <| J.nil <| cc rfl h2268 (fun hc2272 h2268 => ?_) fun hc2272 h2268 => ?_
   · refine CJ.skip <| CJ.seq <| CJ.block <| cr <| jv _ (V.fad Try.underlying62 rfl nz23 rfl) <| jv (.slice adxa_2 xa.2.2.1.length cpxa_2) (V.ld rfl (Ld.sc sc23 (Rd.cl 1 rfl rfl))) ?_
     refine jm (ii i2173) rfl ?_
     obtain ⟨x2273, hx2274, h2268⟩ := ob h2268
     obtain ⟨p2275, p2276, p2277⟩ := getI_some hx2274
     obtain ⟨b2278, o2279, e2280, a2281⟩ := ((fxa_2.mono hk2270)).at p2276
     refine jv _ (V.iad Try.underlying23 sz26 rfl e2280 rfl p2275 p2277) ?_
     obtain ⟨ad2282, cp2283, c2284, f2285⟩ := ((a2281).one).sl
     refine jv (.agg #[.slice ad2282 x2273.length cp2283]) (V.ld rfl (Ld.aggK (cs := [.slice ad2282 x2273.length cp2283]) Try.underlying26 sz26 rfl ⟨c2284, trivial⟩ (Hp.le_refl _))) <| jm (.slice adxb_0 xb.length cpxb_0) rfl ?_
     obtain ⟨r2286, hr2287, h2268⟩ := ob h2268
     refine J.op rfl (A.call (L1 := []) Try.call71 rfl (ref15_Subst_ok f2285 (fxb_0.mono hk2270) hr2287) rfl rfl) ?_
     rintro _ _ _ ⟨v2293, _, rfl, ⟨⟨l2288, i2289, ad2290, cp2291, rfl, rfl, rfl⟩, rfl⟩, _, rfl⟩
     refine J.wit Row.hn fun hn2292 => jm (.tuple #[.agg #[.slice ad2290 l2288.length cp2291], ii i2289]) rfl <| jx (.agg #[.slice ad2290 l2288.length cp2291]) rfl rfl <| jx (ii i2289) rfl rfl <| jal inf26 [nos] rfl fun b2297 => js [.slice ad2290 l2288.length cp2291] sz26 rfl rfl rfl rfl rfl rfl <| ja (ii i2289) rfl ?_
     refine J.nil <| CJ.seq <| CJ.mix [Cl b2297 26 [.slice ad2290 l2288.length cp2291], Row Hp.nil 111 (.cons (.int .i64) (.cons (.int .i64) (.cons (.int .i64) (.cons (.int .i64) (.one .bool))))) (.slice ad2169 l2168.length cp2170) l2168, Cl b1200 62 [ii xa.1, .slice adxa_1 xa.2.1.length cpxa_1, .slice adxa_2 xa.2.2.1.length cpxa_2, .slice adxa_3 xa.2.2.2.length cpxa_3], Cl b1201 26 [.slice adxd_0 xd.length cpxd_0]] [([0, 1, 2, 3, 4, 5, 6], 7)] [8, 9, 10, 11, 12] [] mixO (by decide +kernel) ⟨0, rfl, 1, rfl, 1, rfl, 1, rfl, trivial⟩ rfl rfl rfl <| JM.cons <| qm (.slice adxc_0 xc.length cpxc_0) rfl <| qm (ii i2173) rfl ?_
     obtain ⟨x2325, hx2326, h2268⟩ := ob h2268
     obtain ⟨p2327, p2328, p2329⟩ := getI_some hx2326
     obtain ⟨b2330, o2331, e2332, a2333⟩ := ((fxc_0.mono hk2270)).at p2328
     refine qv _ (V.iad Try.underlying23 sz26 rfl e2332 rfl p2327 p2329) ?_
     obtain ⟨ad2334, cp2335, c2336, f2337⟩ := ((a2333).one).sl
     refine qv (.agg #[.slice ad2334 x2325.length cp2335]) (V.ld rfl (Ld.aggK (cs := [.slice ad2334 x2325.length cp2335]) Try.underlying26 sz26 rfl ⟨c2336, trivial⟩ (Hp.le_refl _))) <| qv (.agg #[.slice ad2290 l2288.length cp2291]) (V.ld rfl (Ld.agg (cs := [.slice ad2290 l2288.length cp2291]) Try.underlying26 sz26 rfl (Rd.cls 0 0 rfl rfl))) <| qm (ii i2173) rfl <| qv (ii (IntKind.wrap .i64 (16 * i2173))) (V.mul rfl rfl) <| JQ.nil <| JA.front 1 rfl <| JA.persist (Hp.nil_le _) (by decide) fun K2338 hK2339 f2340 => ?_
     obtain ⟨r2341, hr2342, h2268⟩ := ob h2268
     refine JA.op rfl (A.call (L1 := []) Try.call53 rfl (ref16_Flow_ok (f2337.mono hK2339) f2340 hr2342) rfl rfl) ?_
     rintro _ _ _ ⟨v2348, _, rfl, ⟨⟨l2343, i2344, ad2345, cp2346, rfl, rfl, rfl⟩, rfl⟩, _, rfl⟩
     refine ⟨fun w hs => Hold.sub hK2339 ⟨1, rfl, 1, rfl, 1, rfl, 1, rfl, trivial⟩ hs, ?_⟩
     refine JM.wit Row.hn fun hn2347 => JM.nil <| qm (.tuple #[.slice ad2345 l2343.length cp2346, ii i2344]) rfl <| qv (.slice ad2345 l2343.length cp2346) (V.ext rfl rfl) <| qv (ii i2344) (V.ext rfl rfl) <| qa (.slice ad2345 l2343.length cp2346) rfl <| qa (ii i2344) rfl ?_
     refine JQ.nil <| J.nil <| CJ.seq <| cr <| jm (ii i2344) rfl <| jv (.bool (!decide (i2344 = 0))) (V.neq rfl rfl) ?_
     refine J.nil <| cc rfl h2268 (fun hc2352 h2268 => ?_) fun hc2352 h2268 => ?_
     · refine cr <| jm (ii i2344) rfl <| ja (nos) rfl <| ja (ii i2344) rfl <| J.nil <| CJ.by (fun w hs => Sep.rowNil (e := 111) (t := (.cons (.int .i64) (.cons (.int .i64) (.cons (.int .i64) (.cons (.int .i64) (.one .bool)))))) hs) ?_
       refine CJ.ret ?_
       obtain rfl := si h2268
       refine ⟨nofun, fun e => ?_⟩
       subst e
       refine .inr ⟨nofun, ?_⟩
       obtain rfl := si h
       exact ⟨_, _, Res.two rfl rfl rfl, ⟨[], i2344, none, 0, rfl, rfl, rfl⟩, (hk2270.trans hK2339), fun w hs => (Sep.dropAt 1 rfl (Sep.dropAt 1 rfl (Sep.dropAt 1 rfl (Sep.dropAt 1 rfl (Sep.dropAt 1 rfl hs)))))⟩
     refine CJ.skip <| CJ.region <| jm (.slice ad2169 l2168.length cp2170) rfl <| jm (.slice ad2345 l2343.length cp2346) rfl ?_
     obtain ⟨z2354, hz2355, h2268⟩ := ob h2268
     refine J.front 2 rfl <| J.op rfl (A.appR (Kr := Hp.nil) Try.underlying80 inf111 rfl rfl (by decide) (by decide) rfl rfl (Els.flat rfl) (Els.flat rfl) hz2355) ?_
     rintro _ _ _ ⟨v2356, rfl, rfl, rfl⟩
     refine J.wit Row.form ?_
     rintro ⟨ad2357, cp2358, rfl, _, _, hn2359⟩
     refine ja (.slice ad2357 z2354.length cp2358) rfl <| J.nil <| CJ.region <| jm (ii i2173) rfl <| jv (ii (IntKind.wrap .i64 (i2173 + 1))) (V.add rfl rfl) <| ja (ii (IntKind.wrap .i64 (i2173 + 1))) rfl <| J.dropAt 1 rfl ?_
     refine J.front 2 rfl <| J.front 2 rfl <| J.nil ?_
     obtain rfl := si h2268
     exact ⟨rfl, ⟨z2354, IntKind.wrap .i64 (i2173 + 1), ad2357, cp2358, rfl, ⟨rfl, rfl, rfl, rfl, rfl, rfl, trivial⟩, (hk2270.trans hK2339), rfl⟩⟩
   refine CJ.front 2 rfl <| CJ.front 2 rfl <| CJ.exit ?_
   obtain rfl := si h2268
   refine ⟨nofun, fun e => ?_⟩
   subst e
   exact .inl ⟨rfl, _, rfl, ⟨l2168, ad2169, cp2170, rfl, ⟨rfl, rfl, rfl, rfl, trivial⟩, hk2270, rfl⟩⟩
 rintro s ρ K2066 _ ho2360 ⟨l2067, ad2068, cp2069, rfl, hf2361, hk2362, rfl⟩
 subst ho2360
 obtain ⟨ρ, rfl⟩ := hf2361.ex
 refine PJ.front 2 rfl <| PJ.wit Row.hn fun hn2071 => PJ.done <| cr <| jv _ (V.fad Try.underlying62 rfl nz26 rfl) <| jv (.agg #[.slice adxa_3 xa.2.2.2.length cpxa_3]) (V.ld rfl (Ld.agg (cs := [.slice adxa_3 xa.2.2.2.length cpxa_3]) Try.underlying26 sz26 rfl (Rd.cls 1 3 rfl rfl))) ?_
 refine jm (.slice adxb_0 xb.length cpxb_0) rfl ?_
 obtain ⟨r2363, hr2364, h⟩ := ob h
 refine J.op rfl (A.call (L1 := []) Try.call71 rfl (ref15_Subst_ok (fxa_3.mono hk2362) (fxb_0.mono hk2362) hr2364) rfl rfl) ?_
 rintro _ _ _ ⟨v2370, _, rfl, ⟨⟨l2365, i2366, ad2367, cp2368, rfl, rfl, rfl⟩, rfl⟩, _, rfl⟩
 refine J.wit Row.hn fun hn2369 => jm (.tuple #[.agg #[.slice ad2367 l2365.length cp2368], ii i2366]) rfl <| jx (.agg #[.slice ad2367 l2365.length cp2368]) rfl rfl <| jx (ii i2366) rfl rfl <| jal inf26 [nos] rfl fun b2374 => js [.slice ad2367 l2365.length cp2368] sz26 rfl rfl rfl rfl rfl rfl <| ja (ii i2366) rfl ?_
 refine J.nil <| cr <| jv (.agg #[.slice ad2367 l2365.length cp2368]) (V.ld rfl (Ld.agg (cs := [.slice ad2367 l2365.length cp2368]) Try.underlying26 sz26 rfl (Rd.cls 0 0 rfl rfl))) <| jv (.agg #[.slice adxd_0 xd.length cpxd_0]) (V.ld rfl (Ld.agg (cs := [.slice adxd_0 xd.length cpxd_0]) Try.underlying26 sz26 rfl (Rd.cls 4 0 rfl rfl))) <| J.front 1 rfl <| J.persist (Hp.nil_le _) (by decide) fun K2375 hK2376 f2377 => ?_
 obtain ⟨r2378, hr2379, h⟩ := ob h
 refine J.op rfl (A.call (L1 := []) Try.call53 rfl (ref16_Flow_ok f2377 (fxd_0.mono (hk2362.trans hK2376)) hr2379) rfl rfl) ?_
 rintro _ _ _ ⟨v2385, _, rfl, ⟨⟨l2380, i2381, ad2382, cp2383, rfl, rfl, rfl⟩, rfl⟩, _, rfl⟩
 refine J.wit Row.hn fun hn2384 => jm (.tuple #[.slice ad2382 l2380.length cp2383, ii i2381]) rfl <| jx (.slice ad2382 l2380.length cp2383) rfl rfl <| jx (ii i2381) rfl rfl <| ja (.slice ad2382 l2380.length cp2383) rfl <| ja (ii i2381) rfl <| J.nil ?_
 refine CJ.seq <| cr <| jm (ii i2381) rfl <| jv (.bool (!decide (i2381 = 0))) (V.neq rfl rfl) <| J.nil <| cc rfl h (fun hc2389 h => ?_) fun hc2389 h => ?_
 · refine cr <| jm (ii i2381) rfl <| ja (nos) rfl <| ja (ii i2381) rfl <| J.nil <| CJ.by (fun w hs => Sep.rowNil (e := 111) (t := (.cons (.int .i64) (.cons (.int .i64) (.cons (.int .i64) (.cons (.int .i64) (.one .bool)))))) hs) ?_
   refine CJ.ret ?_
   obtain rfl := si h
   exact ⟨_, _, Res.two rfl rfl rfl, ⟨[], i2381, none, 0, rfl, rfl, rfl⟩, (hk2362.trans hK2376), fun w hs => (Sep.dropAt 1 rfl (Sep.dropAt 1 rfl (Sep.dropAt 1 rfl (Sep.dropAt 1 rfl (Sep.dropAt 1 rfl hs)))))⟩
 refine CJ.skip <| cr <| jm (.slice ad2068 l2067.length cp2069) rfl <| jm (.slice ad2382 l2380.length cp2383) rfl ?_
 obtain ⟨z2391, hz2392, h⟩ := ob h
 refine J.front 2 rfl <| J.op rfl (A.appR (Kr := Hp.nil) Try.underlying80 inf111 rfl rfl (by decide) (by decide) rfl rfl (Els.flat rfl) (Els.flat rfl) hz2392) ?_
 rintro _ _ _ ⟨v2393, rfl, rfl, rfl⟩
 refine J.wit Row.form ?_
 rintro ⟨ad2394, cp2395, rfl, _, _, hn2396⟩
 refine ja (.slice ad2394 z2391.length cp2395) rfl <| ja (ii 0) rfl <| J.nil <| CJ.ret ?_
 obtain rfl := si h
 exact ⟨_, _, Res.two rfl rfl rfl, ⟨z2391, 0, ad2394, cp2395, rfl, rfl, rfl⟩, (hk2362.trans hK2376), fun w hs => (Sep.dropAt 1 rfl (Sep.dropAt 1 rfl (Sep.dropAt 1 rfl hs)))⟩
noncomputable def fn_ref19_Needs_l1 (xa : (Int × Int × Int × (List Int) × (List Int) × (List Int))) (xb : (Int × Int × (List (List (Int × Bool))) × (List (Int × Bool)) × (List (Int × (List (Int × Int)) × (List (List (Int × Bool))) × (List (Int × Bool)))))) : ((List (List (Int × Bool))) × Int) → Option (((List (List (Int × Bool))) × Int) ⊕ (List (List (Int × Bool)))) := fun ((l1145, i1150) : ((List (List (Int × Bool))) × Int)) => cond (decide (i1150 < (((xa.2.2.2.2.1.length : Nat) : Int)))) ((getI xa.2.2.2.2.1 i1150).bind fun x1244 => (getI xb.2.2.1 x1244).bind fun x1253 => (app l1145 (([x1253] : List (List (Int × Bool))))).bind fun z1269 => some (.inl ((z1269, IntKind.wrap .i64 (i1150 + 1))))) (some (.inr (l1145)))
noncomputable def fn_ref19_Needs (xa : (Int × Int × Int × (List Int) × (List Int) × (List Int))) (xb : (Int × Int × (List (List (Int × Bool))) × (List (Int × Bool)) × (List (Int × (List (Int × Int)) × (List (List (Int × Bool))) × (List (Int × Bool)))))) : Option (((List (Int × Int × Int × Int × Bool)) × Int)) :=
  (fn_ref19_Form (xa.1, xa.2.1, xa.2.2.1, xa.2.2.2.1, xa.2.2.2.2.1, xa.2.2.2.2.2)).bind fun i692 => cond (!decide (i692 = 0)) (some (([], i692))) ((fn_ref19_within xa.2.2.2.1 xb.1).bind fun t700 => (cond (!t700) (some (true)) ((fn_ref19_within xa.2.2.2.2.1 (((xb.2.2.1.length : Nat) : Int))).bind fun t716 => some (!t716))).bind fun t711 => (cond (t711) (some (true)) ((fn_ref19_within xa.2.2.2.2.2 xb.2.1).bind fun t732 => some (!t732))).bind fun t727 => cond (t727) (some (([], 7))) ((cond (decide (xa.1 = 4)) ((fn_ref19_within ([xa.2.2.1] : List Int) (((xb.2.2.1.length : Nat) : Int))).bind fun t790 => (cond (!t790) (some (true)) ((fn_ref19_within ([xa.2.1] : List Int) (((xb.2.2.2.2.length : Nat) : Int))).bind fun t818 => some (!t818))).bind fun t807 => some (t807)) (some (false))).bind fun t779 => cond (t779) (some (([], 7))) (cond ((decide (xa.1 = 3)) && (decide ((((xb.2.2.1.length : Nat) : Int)) = 0))) (some (([], 14))) (cond (decide (xa.1 = 3)) ((getI xb.2.2.1 0).bind fun x854 => (fn_ref16_Flow x854 xb.2.2.2.1 7 0).bind fun (l869, i870) => some ((l869, i870))) (cond (decide (xa.1 = 4)) ((loop (fn_ref19_Needs_l1 xa xb) ((([] : List (List (Int × Bool))), 0)) : Option ((List (List (Int × Bool))))).bind fun l1075 => (getI xb.2.2.2.2 xa.2.1).bind fun x1325 => (getI xb.2.2.1 xa.2.2.1).bind fun x1346 => (fn_ref17_Call (x1325.1, x1325.2.1, x1325.2.2.1, x1325.2.2.2) xa.2.2.2.2.2 l1075 x1346).bind fun (l1364, i1365) => some ((l1364, i1365))) (some (([], 0))))))))
set_option maxRecDepth 100000 in
set_option maxHeartbeats 4000000 in
theorem ref19_Needs_ok {K : Hp} {xa : (Int × Int × Int × (List Int) × (List Int) × (List Int))} {xb : (Int × Int × (List (List (Int × Bool))) × (List (Int × Bool)) × (List (Int × (List (Int × Int)) × (List (List (Int × Bool))) × (List (Int × Bool)))))} {adxa_3 : Option Addr} {cpxa_3 : Nat} {adxa_4 : Option Addr} {cpxa_4 : Nat} {adxa_5 : Option Addr} {cpxa_5 : Nat} {adxb_2 : Option Addr} {cpxb_2 : Nat} {adxb_3 : Option Addr} {cpxb_3 : Nat} {adxb_4 : Option Addr} {cpxb_4 : Nat} (fxa_3 : Is K (.sl (.int .i64)) [.slice adxa_3 xa.2.2.2.1.length cpxa_3] xa.2.2.2.1) (fxa_4 : Is K (.sl (.int .i64)) [.slice adxa_4 xa.2.2.2.2.1.length cpxa_4] xa.2.2.2.2.1) (fxa_5 : Is K (.sl (.int .i64)) [.slice adxa_5 xa.2.2.2.2.2.length cpxa_5] xa.2.2.2.2.2) (fxb_2 : Is K (.sl (.one (.sl (.cons (.int .i64) (.one .bool))))) [.slice adxb_2 xb.2.2.1.length cpxb_2] xb.2.2.1) (fxb_3 : Is K (.sl (.cons (.int .i64) (.one .bool))) [.slice adxb_3 xb.2.2.2.1.length cpxb_3] xb.2.2.2.1) (fxb_4 : Is K (.sl (.cons (.int .i64) (.cons (.sl (.cons (.int .i64) (.one (.int .i64)))) (.cons (.sl (.one (.sl (.cons (.int .i64) (.one .bool))))) (.one (.one (.sl (.cons (.int .i64) (.one .bool))))))))) [.slice adxb_4 xb.2.2.2.2.length cpxb_4] xb.2.2.2.2) {r : ((List (Int × Int × Int × Int × Bool)) × Int)} (h : fn_ref19_Needs xa xb = some r) :
    Tr Try.prog 42 #[.agg #[ii xa.1, ii xa.2.1, ii xa.2.2.1, .slice adxa_3 xa.2.2.2.1.length cpxa_3, .slice adxa_4 xa.2.2.2.2.1.length cpxa_4, .slice adxa_5 xa.2.2.2.2.2.length cpxa_5], .agg #[ii xb.1, ii xb.2.1, .slice adxb_2 xb.2.2.1.length cpxb_2, .slice adxb_3 xb.2.2.2.1.length cpxb_3, .slice adxb_4 xb.2.2.2.2.length cpxb_4]] K [] (fun v K' L' => (∃ (l682 : (List (Int × Int × Int × Int × Bool))) (i687 : Int) (ad683 : Option Addr) (cp684 : Nat), (l682, i687) = r ∧ .tuple #[.slice ad683 l682.length cp684, ii i687] = v ∧ L' = [Row Hp.nil 111 (.cons (.int .i64) (.cons (.int .i64) (.cons (.int .i64) (.cons (.int .i64) (.one .bool))))) (.slice ad683 l682.length cp684) l682]) ∧ K = K') := by
 refine Tr.k <| Tr.of Try.func42 rfl Try.ntmps42 rfl fun E F => ?_
 unfold fn_ref19_Needs at h
 refine cr <| jbx [ii xa.1, ii xa.2.1, ii xa.2.2.1, .slice adxa_3 xa.2.2.2.1.length cpxa_3, .slice adxa_4 xa.2.2.2.2.1.length cpxa_4, .slice adxa_5 xa.2.2.2.2.2.length cpxa_5] rfl rfl fun b688 => jbx [ii xb.1, ii xb.2.1, .slice adxb_2 xb.2.2.1.length cpxb_2, .slice adxb_3 xb.2.2.2.1.length cpxb_3, .slice adxb_4 xb.2.2.2.2.length cpxb_4] rfl rfl fun b689 => ja (nos) rfl <| ja (ii 0) rfl <| J.nil ?_
 refine cr <| jv (.agg #[ii xa.1, ii xa.2.1, ii xa.2.2.1, .slice adxa_3 xa.2.2.2.1.length cpxa_3, .slice adxa_4 xa.2.2.2.2.1.length cpxa_4, .slice adxa_5 xa.2.2.2.2.2.length cpxa_5]) (V.ld rfl (Ld.agg (cs := [ii xa.1, ii xa.2.1, ii xa.2.2.1, .slice adxa_3 xa.2.2.2.1.length cpxa_3, .slice adxa_4 xa.2.2.2.2.1.length cpxa_4, .slice adxa_5 xa.2.2.2.2.2.length cpxa_5]) Try.underlying54 sz54 rfl (Rd.cls 1 0 rfl rfl))) ?_
 obtain ⟨r690, hr691, h⟩ := ob h
 refine J.op rfl (A.call (L1 := []) Try.call56 rfl (ref19_Form_ok fxa_3 fxa_4 fxa_5 hr691) rfl rfl) ?_
 rintro _ _ _ ⟨v693, _, rfl, ⟨⟨i692, rfl, rfl, rfl⟩, rfl⟩, _, rfl⟩
 refine ja (ii i692) rfl <| J.nil <| CJ.seq <| cr <| jm (ii i692) rfl <| jv (.bool (!decide (i692 = 0))) (V.neq rfl rfl) ?_
 refine J.nil <| cc rfl h (fun hc696 h => ?_) fun hc696 h => ?_
 · refine cr <| jm (ii i692) rfl <| ja (nos) rfl <| ja (ii i692) rfl <| J.nil <| CJ.by (fun w hs => Sep.rowNil (e := 111) (t := (.cons (.int .i64) (.cons (.int .i64) (.cons (.int .i64) (.cons (.int .i64) (.one .bool)))))) hs) ?_
   refine CJ.ret ?_
   obtain rfl := si h
   exact ⟨_, _, Res.two rfl rfl rfl, ⟨[], i692, none, 0, rfl, rfl, rfl⟩, (Hp.le_refl _), fun w hs => (Sep.dropAt 1 rfl (Sep.dropAt 1 rfl hs))⟩
 refine CJ.skip <| CJ.seq <| cr <| jv _ (V.fad Try.underlying54 rfl nz52 rfl) <| jv (.slice adxa_3 xa.2.2.2.1.length cpxa_3) (V.ld rfl (Ld.sc sc52 (Rd.cl 1 rfl rfl))) <| jv _ (V.fad Try.underlying79 rfl nz3 rfl) ?_
 refine jv (ii xb.1) (V.ld rfl (Ld.sc sc3 (Rd.cl 0 rfl rfl))) ?_
 obtain ⟨r698, hr699, h⟩ := ob h
 refine J.op rfl (A.call (L1 := []) Try.call57 rfl (ref19_within_ok fxa_3 hr699) rfl rfl) ?_
 rintro _ _ _ ⟨v701, _, rfl, ⟨⟨t700, rfl, rfl, rfl⟩, rfl⟩, _, rfl⟩
 refine jv (.bool (!t700)) (V.not rfl) <| jm (.bool (!t700)) rfl <| J.cut 8 ?_
 obtain ⟨t711, ht712, h⟩ := ob h
 refine jmeet [(28, .bool t711), (2, .pointer (some ⟨b688, 0, none⟩)), (3, .pointer (some ⟨b689, 0, none⟩))] ?_ ?_
 · rcases bt (!t700) with hc713 | hc713
   · have ht712 := ct hc713 ht712
     refine J.skip rfl rfl rfl rfl hc713 <| J.skip rfl rfl rfl rfl hc713 <| J.skip rfl rfl rfl rfl hc713 <| J.skip rfl rfl rfl rfl hc713 <| J.skip rfl rfl rfl rfl hc713 <| J.skip rfl rfl rfl rfl hc713 <| J.skip rfl rfl rfl rfl hc713 ?_
     refine jv (.bool true) (V.pickT rfl hc713 rfl) <| J.nil ?_
     obtain rfl := si ht712
     exact ⟨rfl, ⟨rfl, rfl, rfl, trivial⟩, rfl, rfl⟩
   have ht712 := cf hc713 ht712
   refine J.run rfl rfl rfl hc713 <| jv _ (V.fad Try.underlying54 rfl nz52 rfl) <| J.run rfl rfl rfl hc713 <| jv (.slice adxa_4 xa.2.2.2.2.1.length cpxa_4) (V.ld rfl (Ld.sc sc52 (Rd.cl 1 rfl rfl))) <| J.run rfl rfl rfl hc713 <| jv _ (V.fad Try.underlying79 rfl nz23 rfl) <| J.run rfl rfl rfl hc713 ?_
   refine jv (.slice adxb_2 xb.2.2.1.length cpxb_2) (V.ld rfl (Ld.sc sc23 (Rd.cl 0 rfl rfl))) <| J.run rfl rfl rfl hc713 <| jv (ii (((xb.2.2.1.length : Nat) : Int))) (V.len Try.underlying23 rfl) <| J.run rfl rfl rfl hc713 ?_
   obtain ⟨r714, hr715, ht712⟩ := ob ht712
   refine J.op rfl (A.call (L1 := []) Try.call57 rfl (ref19_within_ok fxa_4 hr715) rfl rfl) ?_
   rintro _ _ _ ⟨v717, _, rfl, ⟨⟨t716, rfl, rfl, rfl⟩, rfl⟩, _, rfl⟩
   refine J.run rfl rfl rfl hc713 <| jv (.bool (!t716)) (V.not rfl) <| jv (.bool (!t716)) (V.pickF rfl hc713 rfl) <| J.nil ?_
   obtain rfl := si ht712
   exact ⟨rfl, ⟨rfl, rfl, rfl, trivial⟩, rfl, rfl⟩
 intro ρ
 refine jm (.bool t711) rfl <| J.cut 7 ?_
 obtain ⟨t727, ht728, h⟩ := ob h
 refine jmeet [(36, .bool t727), (2, .pointer (some ⟨b688, 0, none⟩)), (3, .pointer (some ⟨b689, 0, none⟩))] ?_ ?_
 · rcases bt (t711) with hc729 | hc729
   · have ht728 := ct hc729 ht728
     refine J.skip rfl rfl rfl rfl hc729 <| J.skip rfl rfl rfl rfl hc729 <| J.skip rfl rfl rfl rfl hc729 <| J.skip rfl rfl rfl rfl hc729 <| J.skip rfl rfl rfl rfl hc729 <| J.skip rfl rfl rfl rfl hc729 <| jv (.bool true) (V.pickT rfl hc729 rfl) ?_
     refine J.nil ?_
     obtain rfl := si ht728
     exact ⟨rfl, ⟨rfl, rfl, rfl, trivial⟩, rfl, rfl⟩
   have ht728 := cf hc729 ht728
   refine J.run rfl rfl rfl hc729 <| jv _ (V.fad Try.underlying54 rfl nz52 rfl) <| J.run rfl rfl rfl hc729 <| jv (.slice adxa_5 xa.2.2.2.2.2.length cpxa_5) (V.ld rfl (Ld.sc sc52 (Rd.cl 1 rfl rfl))) <| J.run rfl rfl rfl hc729 <| jv _ (V.fad Try.underlying79 rfl nz3 rfl) <| J.run rfl rfl rfl hc729 ?_
   refine jv (ii xb.2.1) (V.ld rfl (Ld.sc sc3 (Rd.cl 0 rfl rfl))) <| J.run rfl rfl rfl hc729 ?_
   obtain ⟨r730, hr731, ht728⟩ := ob ht728
   refine J.op rfl (A.call (L1 := []) Try.call57 rfl (ref19_within_ok fxa_5 hr731) rfl rfl) ?_
   rintro _ _ _ ⟨v733, _, rfl, ⟨⟨t732, rfl, rfl, rfl⟩, rfl⟩, _, rfl⟩
   refine J.run rfl rfl rfl hc729 <| jv (.bool (!t732)) (V.not rfl) <| jv (.bool (!t732)) (V.pickF rfl hc729 rfl) <| J.nil ?_
   obtain rfl := si ht728
   exact ⟨rfl, ⟨rfl, rfl, rfl, trivial⟩, rfl, rfl⟩
 intro ρ
 refine J.nil <| cc rfl h (fun hc736 h => ?_) fun hc736 h => ?_
 · refine cr <| ja (nos) rfl <| ja (ii 7) rfl <| J.nil <| CJ.by (fun w hs => Sep.rowNil (e := 111) (t := (.cons (.int .i64) (.cons (.int .i64) (.cons (.int .i64) (.cons (.int .i64) (.one .bool)))))) hs) <| CJ.ret ?_
   obtain rfl := si h
   exact ⟨_, _, Res.two rfl rfl rfl, ⟨[], 7, none, 0, rfl, rfl, rfl⟩, (Hp.le_refl _), fun w hs => (Sep.dropAt 1 rfl (Sep.dropAt 1 rfl hs))⟩
 refine CJ.skip <| CJ.seq <| cr <| jv _ (V.fad Try.underlying54 rfl nz3 rfl) <| jv (ii xa.1) (V.ld rfl (Ld.sc sc3 (Rd.cl 1 rfl rfl))) <| jv (.bool (decide (xa.1 = 4))) (V.eql rfl rfl) ?_
 refine jm (.bool (decide (xa.1 = 4))) rfl <| J.cut 19 ?_
 obtain ⟨t779, ht780, h⟩ := ob h
 refine jmeet [(59, .bool t779), (2, .pointer (some ⟨b688, 0, none⟩)), (3, .pointer (some ⟨b689, 0, none⟩))] ?_ ?_
 · rcases bt (decide (xa.1 = 4)) with hc781 | hc781
   · have ht780 := ct hc781 ht780
     refine J.run rfl rfl rfl hc781 <| jv _ (V.fad Try.underlying54 rfl nz3 rfl) <| J.run rfl rfl rfl hc781 <| jv (ii xa.2.2.1) (V.ld rfl (Ld.sc sc3 (Rd.cl 1 rfl rfl))) <| J.run rfl rfl rfl hc781 ?_
     refine J.op rfl (A.lit (K0 := Hp.nil) (ty := (.int .i64)) (xs := ([xa.2.2.1] : List Int)) Try.underlying52 inf3 rfl (by decide) rfl rfl rfl ⟨_, _, rfl, rfl, rfl⟩ rfl (by decide)) ?_
     rintro _ _ _ ⟨b782, rfl, rfl, rfl⟩
     have hn783 : ([xa.2.2.1] : List Int) ≠ [] → ∃ g, (some ⟨b782, 0, none⟩ : Option Addr) = some ⟨g, 0, none⟩ := fun _ => ⟨b782, rfl⟩
     refine J.run rfl rfl rfl hc781 <| jv _ (V.fad Try.underlying79 rfl nz23 rfl) <| J.run rfl rfl rfl hc781 <| jv (.slice adxb_2 xb.2.2.1.length cpxb_2) (V.ld rfl (Ld.sc sc23 (Rd.cl 1 rfl rfl))) <| J.run rfl rfl rfl hc781 <| jv (ii (((xb.2.2.1.length : Nat) : Int))) (V.len Try.underlying23 rfl) <| J.run rfl rfl rfl hc781 ?_
     obtain ⟨r785, hr786, ht780⟩ := ob ht780
     refine J.op rfl (A.call (L1 := [Row Hp.nil 3 (.int .i64) (.slice (some ⟨b782, 0, none⟩) (([xa.2.2.1] : List Int).length) 1) ([xa.2.2.1] : List Int)]) Try.call57 rfl (Tr.lend (Hp.nil_le _) (by decide) (fun K787 hK788 f789 => ref19_within_ok f789 hr786)) rfl rfl) ?_
     rintro _ _ _ ⟨v791, _, rfl, ⟨⟨_, ⟨t790, rfl, rfl, rfl⟩, rfl⟩, rfl⟩, _, rfl⟩
     refine J.run rfl rfl rfl hc781 <| jv (.bool (!t790)) (V.not rfl) <| J.run rfl rfl rfl hc781 <| jm (.bool (!t790)) rfl <| J.cut 9 ?_
     obtain ⟨t807, ht808, ht780⟩ := ob ht780
     refine jmeet [(58, .bool t807), (2, .pointer (some ⟨b688, 0, none⟩)), (3, .pointer (some ⟨b689, 0, none⟩)), (40, .bool (decide (xa.1 = 4)))] ?_ ?_
     · rcases bt (!t790) with hc809 | hc809
       · have ht808 := ct hc809 ht808
         refine J.skip rfl rfl rfl rfl hc809 <| J.skip rfl rfl rfl rfl hc809 <| J.skip rfl rfl rfl rfl hc809 <| J.skip rfl rfl rfl rfl hc809 <| J.skip rfl rfl rfl rfl hc809 <| J.skip rfl rfl rfl rfl hc809 <| J.skip rfl rfl rfl rfl hc809 ?_
         refine J.skip rfl rfl rfl rfl hc809 <| J.run rfl rfl rfl hc781 <| jv (.bool true) (V.pickT rfl hc809 rfl) <| J.nil ?_
         obtain rfl := si ht808
         exact ⟨rfl, ⟨rfl, rfl, rfl, rfl, trivial⟩, rfl, rfl⟩
       have ht808 := cf hc809 ht808
       refine J.run rfl rfl rfl hc809 <| jv _ (V.fad Try.underlying54 rfl nz3 rfl) <| J.run rfl rfl rfl hc809 <| jv (ii xa.2.1) (V.ld rfl (Ld.sc sc3 (Rd.cl 2 rfl rfl))) <| J.run rfl rfl rfl hc809 ?_
       refine J.op rfl (A.lit (K0 := Hp.nil) (ty := (.int .i64)) (xs := ([xa.2.1] : List Int)) Try.underlying52 inf3 rfl (by decide) rfl rfl rfl ⟨_, _, rfl, rfl, rfl⟩ rfl (by decide)) ?_
       rintro _ _ _ ⟨b810, rfl, rfl, rfl⟩
       have hn811 : ([xa.2.1] : List Int) ≠ [] → ∃ g, (some ⟨b810, 0, none⟩ : Option Addr) = some ⟨g, 0, none⟩ := fun _ => ⟨b810, rfl⟩
       refine J.run rfl rfl rfl hc809 <| jv _ (V.fad Try.underlying79 rfl nz27 rfl) <| J.run rfl rfl rfl hc809 <| jv (.slice adxb_4 xb.2.2.2.2.length cpxb_4) (V.ld rfl (Ld.sc sc27 (Rd.cl 2 rfl rfl))) <| J.run rfl rfl rfl hc809 <| jv (ii (((xb.2.2.2.2.length : Nat) : Int))) (V.len Try.underlying27 rfl) <| J.run rfl rfl rfl hc809 ?_
       obtain ⟨r813, hr814, ht808⟩ := ob ht808
       refine J.op rfl (A.call (L1 := [Row Hp.nil 3 (.int .i64) (.slice (some ⟨b810, 0, none⟩) (([xa.2.1] : List Int).length) 1) ([xa.2.1] : List Int)]) Try.call57 rfl (Tr.lend (Hp.nil_le _) (by decide) (fun K815 hK816 f817 => ref19_within_ok f817 hr814)) rfl rfl) ?_
       rintro _ _ _ ⟨v819, _, rfl, ⟨⟨_, ⟨t818, rfl, rfl, rfl⟩, rfl⟩, rfl⟩, _, rfl⟩
       refine J.run rfl rfl rfl hc809 <| jv (.bool (!t818)) (V.not rfl) <| J.run rfl rfl rfl hc781 <| jv (.bool (!t818)) (V.pickF rfl hc809 rfl) <| J.dropAt 0 rfl <| J.nil ?_
       obtain rfl := si ht808
       exact ⟨rfl, ⟨rfl, rfl, rfl, rfl, trivial⟩, rfl, rfl⟩
     intro ρ
     refine jv (.bool t807) (V.pickT rfl hc781 rfl) <| J.dropAt 0 rfl <| J.nil ?_
     obtain rfl := si ht780
     exact ⟨rfl, ⟨rfl, rfl, rfl, trivial⟩, rfl, rfl⟩
   have ht780 := cf hc781 ht780
   refine J.skip rfl rfl rfl rfl hc781 <| J.skip rfl rfl rfl rfl hc781 <| J.skip rfl rfl rfl rfl hc781 <| J.skip rfl rfl rfl rfl hc781 <| J.skip rfl rfl rfl rfl hc781 <| J.skip rfl rfl rfl rfl hc781 <| J.skip rfl rfl rfl rfl hc781 ?_
   refine J.skip rfl rfl rfl rfl hc781 <| J.skip rfl rfl rfl rfl hc781 <| J.skipu rfl rfl rfl rfl <| J.skipu rfl rfl rfl rfl <| J.skipu rfl rfl rfl rfl <| J.skipu rfl rfl rfl rfl <| J.skipu rfl rfl rfl rfl ?_
   refine J.skipu rfl rfl rfl rfl <| J.skipu rfl rfl rfl rfl <| J.skipu rfl rfl rfl rfl <| J.skip rfl rfl rfl rfl hc781 <| jv (.bool false) (V.pickF rfl hc781 rfl) <| J.nil ?_
   obtain rfl := si ht780
   exact ⟨rfl, ⟨rfl, rfl, rfl, trivial⟩, rfl, rfl⟩
 intro ρ
 refine J.nil <| cc rfl h (fun hc822 h => ?_) fun hc822 h => ?_
 · refine cr <| ja (nos) rfl <| ja (ii 7) rfl <| J.nil <| CJ.by (fun w hs => Sep.rowNil (e := 111) (t := (.cons (.int .i64) (.cons (.int .i64) (.cons (.int .i64) (.cons (.int .i64) (.one .bool)))))) hs) <| CJ.ret ?_
   obtain rfl := si h
   exact ⟨_, _, Res.two rfl rfl rfl, ⟨[], 7, none, 0, rfl, rfl, rfl⟩, (Hp.le_refl _), fun w hs => (Sep.dropAt 1 rfl (Sep.dropAt 1 rfl hs))⟩
 refine CJ.skip <| CJ.seq <| cr <| jv _ (V.fad Try.underlying54 rfl nz3 rfl) <| jv (ii xa.1) (V.ld rfl (Ld.sc sc3 (Rd.cl 1 rfl rfl))) <| jv (.bool (decide (xa.1 = 3))) (V.eql rfl rfl) ?_
 refine jm (.bool (decide (xa.1 = 3))) rfl <| J.cut 5 <| jmeet [(68, .bool ((decide (xa.1 = 3)) && (decide ((((xb.2.2.1.length : Nat) : Int)) = 0)))), (2, .pointer (some ⟨b688, 0, none⟩)), (3, .pointer (some ⟨b689, 0, none⟩))] ?_ ?_
 · rcases bt (decide (xa.1 = 3)) with hc826 | hc826
   · refine J.run rfl rfl rfl hc826 <| jv _ (V.fad Try.underlying79 rfl nz23 rfl) <| J.run rfl rfl rfl hc826 <| jv (.slice adxb_2 xb.2.2.1.length cpxb_2) (V.ld rfl (Ld.sc sc23 (Rd.cl 0 rfl rfl))) <| J.run rfl rfl rfl hc826 <| jv (ii (((xb.2.2.1.length : Nat) : Int))) (V.len Try.underlying23 rfl) <| J.run rfl rfl rfl hc826 ?_
     refine jv (.bool (decide ((((xb.2.2.1.length : Nat) : Int)) = 0))) (V.eql rfl rfl) <| jv (.bool (decide ((((xb.2.2.1.length : Nat) : Int)) = 0))) (V.pickT rfl hc826 rfl) <| J.nil ?_
     exact ⟨rfl, ⟨(by simp only [hc826]; rfl), rfl, rfl, trivial⟩, rfl, rfl⟩
   refine J.skip rfl rfl rfl rfl hc826 <| J.skip rfl rfl rfl rfl hc826 <| J.skip rfl rfl rfl rfl hc826 <| J.skip rfl rfl rfl rfl hc826 <| jv (.bool false) (V.pickF rfl hc826 rfl) <| J.nil ?_
   exact ⟨rfl, ⟨(by simp only [hc826]; rfl), rfl, rfl, trivial⟩, rfl, rfl⟩
 intro ρ
 refine J.nil <| cc rfl h (fun hc827 h => ?_) fun hc827 h => ?_
 · refine cr <| ja (nos) rfl <| ja (ii 14) rfl <| J.nil <| CJ.by (fun w hs => Sep.rowNil (e := 111) (t := (.cons (.int .i64) (.cons (.int .i64) (.cons (.int .i64) (.cons (.int .i64) (.one .bool)))))) hs) <| CJ.ret ?_
   obtain rfl := si h
   exact ⟨_, _, Res.two rfl rfl rfl, ⟨[], 14, none, 0, rfl, rfl, rfl⟩, (Hp.le_refl _), fun w hs => (Sep.dropAt 1 rfl (Sep.dropAt 1 rfl hs))⟩
 refine CJ.skip <| CJ.seq <| cr <| jv _ (V.fad Try.underlying54 rfl nz3 rfl) <| jv (ii xa.1) (V.ld rfl (Ld.sc sc3 (Rd.cl 1 rfl rfl))) <| jv (.bool (decide (xa.1 = 3))) (V.eql rfl rfl) ?_
 refine J.nil <| cc rfl h (fun hc829 h => ?_) fun hc829 h => ?_
 · refine CJ.seq <| CJ.mix [Cl b689 79 [ii xb.1, ii xb.2.1, .slice adxb_2 xb.2.2.1.length cpxb_2, .slice adxb_3 xb.2.2.2.1.length cpxb_3, .slice adxb_4 xb.2.2.2.2.length cpxb_4], Cl b688 54 [ii xa.1, ii xa.2.1, ii xa.2.2.1, .slice adxa_3 xa.2.2.2.1.length cpxa_3, .slice adxa_4 xa.2.2.2.2.1.length cpxa_4, .slice adxa_5 xa.2.2.2.2.2.length cpxa_5]] [([0, 1, 2, 3, 4, 5], 6)] [7, 8, 9, 10] [] mixO (by decide +kernel) ⟨0, rfl, 0, rfl, trivial⟩ rfl rfl rfl <| JM.cons <| qv _ (V.fad Try.underlying79 rfl nz23 rfl) <| qv (.slice adxb_2 xb.2.2.1.length cpxb_2) (V.ld rfl (Ld.sc sc23 (Rd.cl 0 rfl rfl))) ?_
   obtain ⟨x854, hx855, h⟩ := ob h
   obtain ⟨p856, p857, p858⟩ := getI_some hx855
   obtain ⟨b859, o860, e861, a862⟩ := (fxb_2).at p857
   refine qv _ (V.iad Try.underlying23 sz26 rfl e861 rfl p856 p858) ?_
   obtain ⟨ad863, cp864, c865, f866⟩ := ((a862).one).sl
   refine qv (.agg #[.slice ad863 x854.length cp864]) (V.ld rfl (Ld.aggK (cs := [.slice ad863 x854.length cp864]) Try.underlying26 sz26 rfl ⟨c865, trivial⟩ (Hp.le_refl _))) <| qv _ (V.fad Try.underlying79 rfl nz26 rfl) <| qv (.agg #[.slice adxb_3 xb.2.2.2.1.length cpxb_3]) (V.ld rfl (Ld.agg (cs := [.slice adxb_3 xb.2.2.2.1.length cpxb_3]) Try.underlying26 sz26 rfl (Rd.cls 0 3 rfl rfl))) <| JQ.nil ?_
   obtain ⟨r867, hr868, h⟩ := ob h
   refine JA.op rfl (A.call (L1 := []) Try.call53 rfl (ref16_Flow_ok f866 fxb_3 hr868) rfl rfl) ?_
   rintro _ _ _ ⟨v874, _, rfl, ⟨⟨l869, i870, ad871, cp872, rfl, rfl, rfl⟩, rfl⟩, _, rfl⟩
   refine ⟨fun w hs => Hold.sub (Hp.le_refl _) ⟨1, rfl, 1, rfl, trivial⟩ hs, ?_⟩
   refine JM.wit Row.hn fun hn873 => JM.nil <| qv (.slice ad871 l869.length cp872) (V.ext rfl rfl) <| qv (ii i870) (V.ext rfl rfl) <| qa (.slice ad871 l869.length cp872) rfl <| qa (ii i870) rfl <| JQ.nil ?_
   refine J.nil <| CJ.ret ?_
   obtain rfl := si h
   exact ⟨_, _, Res.two rfl rfl rfl, ⟨l869, i870, ad871, cp872, rfl, rfl, rfl⟩, (Hp.le_refl _), fun w hs => (Sep.dropAt 1 rfl (Sep.dropAt 1 rfl hs))⟩
 refine CJ.skip <| CJ.seq <| cr <| jv _ (V.fad Try.underlying54 rfl nz3 rfl) <| jv (ii xa.1) (V.ld rfl (Ld.sc sc3 (Rd.cl 1 rfl rfl))) <| jv (.bool (decide (xa.1 = 4))) (V.eql rfl rfl) ?_
 refine J.nil <| cc rfl h (fun hc878 h => ?_) fun hc878 h => ?_
 · refine CJ.seq <| CJ.region ?_
   refine J.op rfl (A.lit (K0 := K) (ty := (.one (.sl (.cons (.int .i64) (.one .bool))))) (xs := ([] : List (List (Int × Bool)))) Try.underlying23 inf26 rfl (by decide) rfl rfl rfl rfl rfl (by decide)) ?_
   rintro _ _ _ ⟨b879, rfl, rfl, rfl⟩
   have hn880 : ([] : List (List (Int × Bool))) ≠ [] → ∃ g, (some ⟨b879, 0, none⟩ : Option Addr) = some ⟨g, 0, none⟩ := fun _ => ⟨b879, rfl⟩
   refine ja (.slice (some ⟨b879, 0, none⟩) ((([] : List (List (Int × Bool)))).length) 0) rfl <| J.nil <| CJ.seq <| cr <| ja (ii 0) rfl <| J.nil ?_
   obtain ⟨o1080, ho1081, h⟩ := ob h
   refine CJ.meetN (fun ρ K' L' => ∃ (l1075 : (List (List (Int × Bool)))) (ad1076 : Option Addr) (cp1077 : Nat), l1075 = o1080 ∧ Fits [(2, .pointer (some ⟨b688, 0, none⟩)), (3, .pointer (some ⟨b689, 0, none⟩)), (7, .slice ad1076 l1075.length cp1077)] ρ ∧ K = K' ∧ L' = Cl b688 54 [ii xa.1, ii xa.2.1, ii xa.2.2.1, .slice adxa_3 xa.2.2.2.1.length cpxa_3, .slice adxa_4 xa.2.2.2.2.1.length cpxa_4, .slice adxa_5 xa.2.2.2.2.2.length cpxa_5] :: Cl b689 79 [ii xb.1, ii xb.2.1, .slice adxb_2 xb.2.2.1.length cpxb_2, .slice adxb_3 xb.2.2.2.1.length cpxb_3, .slice adxb_4 xb.2.2.2.2.length cpxb_4] :: Row K 26 (.one (.sl (.cons (.int .i64) (.one .bool)))) (.slice ad1076 l1075.length cp1077) l1075 :: F) ?_ ?_
   · refine CJ.block <| CJ.front 1 rfl <| CJ.front 2 rfl <| CJ.loop (fun s ρ K' L' => ∃ (l1145 : (List (List (Int × Bool)))) (i1150 : Int) (ad1146 : Option Addr) (cp1147 : Nat), (l1145, i1150) = s ∧ Fits [(2, .pointer (some ⟨b688, 0, none⟩)), (3, .pointer (some ⟨b689, 0, none⟩)), (7, .slice ad1146 l1145.length cp1147), (8, ii i1150)] ρ ∧ K = K' ∧ L' = Cl b688 54 [ii xa.1, ii xa.2.1, ii xa.2.2.1, .slice adxa_3 xa.2.2.2.1.length cpxa_3, .slice adxa_4 xa.2.2.2.2.1.length cpxa_4, .slice adxa_5 xa.2.2.2.2.2.length cpxa_5] :: Cl b689 79 [ii xb.1, ii xb.2.1, .slice adxb_2 xb.2.2.1.length cpxb_2, .slice adxb_3 xb.2.2.2.1.length cpxb_3, .slice adxb_4 xb.2.2.2.2.length cpxb_4] :: Row K 26 (.one (.sl (.cons (.int .i64) (.one .bool)))) (.slice ad1146 l1145.length cp1147) l1145 :: F) ho1081 ⟨([] : List (List (Int × Bool))), 0, (some ⟨b879, 0, none⟩), 0, rfl, ⟨rfl, rfl, rfl, rfl, trivial⟩, rfl, rfl⟩ ?_
     rintro s ρ _ _ r1217 ⟨l1145, i1150, ad1146, cp1147, rfl, hf1215, rfl, rfl⟩ h1214
     obtain ⟨ρ, rfl⟩ := hf1215.ex
     refine CJ.front 2 rfl <| CJ.wit Row.hn fun hn1149 => CJ.seq <| cr <| jm (ii i1150) rfl <| jv _ (V.fad Try.underlying54 rfl nz52 rfl) ?_
     refine jv (.slice adxa_4 xa.2.2.2.2.1.length cpxa_4) (V.ld rfl (Ld.sc sc52 (Rd.cl 1 rfl rfl))) <| jv (ii (((xa.2.2.2.2.1.length : Nat) : Int))) (V.len Try.underlying52 rfl) <| jv (.bool (decide (i1150 < (((xa.2.2.2.2.1.length : Nat) : Int))))) (V.lss rfl rfl) <| J.nil <| cc rfl h1214 (fun hc1218 h1214 => ?_) fun hc1218 h1214 => ?_
     · refine CJ.skip <| CJ.seq <| CJ.block <| CJ.mix [Row K 26 (.one (.sl (.cons (.int .i64) (.one .bool)))) (.slice ad1146 l1145.length cp1147) l1145, Cl b688 54 [ii xa.1, ii xa.2.1, ii xa.2.2.1, .slice adxa_3 xa.2.2.2.1.length cpxa_3, .slice adxa_4 xa.2.2.2.2.1.length cpxa_4, .slice adxa_5 xa.2.2.2.2.2.length cpxa_5], Cl b689 79 [ii xb.1, ii xb.2.1, .slice adxb_2 xb.2.2.1.length cpxb_2, .slice adxb_3 xb.2.2.2.1.length cpxb_3, .slice adxb_4 xb.2.2.2.2.length cpxb_4]] [([0, 1, 2, 3, 4, 5, 6, 7, 8, 9], 10)] [] [11, 12] mixO (by decide +kernel) ⟨0, rfl, 0, rfl, 0, rfl, trivial⟩ rfl rfl rfl <| JM.cons <| qm (.slice ad1146 l1145.length cp1147) rfl <| qv _ (V.fad Try.underlying79 rfl nz23 rfl) ?_
       refine qv (.slice adxb_2 xb.2.2.1.length cpxb_2) (V.ld rfl (Ld.sc sc23 (Rd.cl 2 rfl rfl))) <| qv _ (V.fad Try.underlying54 rfl nz52 rfl) <| qv (.slice adxa_4 xa.2.2.2.2.1.length cpxa_4) (V.ld rfl (Ld.sc sc52 (Rd.cl 1 rfl rfl))) <| qm (ii i1150) rfl ?_
       obtain ⟨x1244, hx1245, h1214⟩ := ob h1214
       obtain ⟨p1246, p1247, p1248⟩ := getI_some hx1245
       obtain ⟨b1249, o1250, e1251, a1252⟩ := (fxa_4).at p1247
       refine qv _ (V.iad Try.underlying52 sz3 rfl e1251 rfl p1246 p1248) <| qv (ii x1244) (V.ld rfl (Ld.sc sc3 (Rd.k (a1252).int (Hp.le_refl _)))) ?_
       obtain ⟨x1253, hx1254, h1214⟩ := ob h1214
       obtain ⟨p1255, p1256, p1257⟩ := getI_some hx1254
       obtain ⟨b1258, o1259, e1260, a1261⟩ := (fxb_2).at p1256
       refine qv _ (V.iad Try.underlying23 sz26 rfl e1260 rfl p1255 p1257) ?_
       obtain ⟨ad1262, cp1263, c1264, f1265⟩ := ((a1261).one).sl
       refine qv (.agg #[.slice ad1262 x1253.length cp1263]) (V.ld rfl (Ld.aggK (cs := [.slice ad1262 x1253.length cp1263]) Try.underlying26 sz26 rfl ⟨c1264, trivial⟩ (Hp.le_refl _))) <| JQ.nil ?_
       refine JA.op rfl (A.lit (K0 := K) (ty := (.one (.sl (.cons (.int .i64) (.one .bool))))) (xs := ([x1253] : List (List (Int × Bool)))) Try.underlying23 inf26 rfl (by decide) rfl rfl rfl ⟨_, _, rfl, f1265, rfl⟩ rfl (by decide)) ?_
       rintro _ _ _ ⟨b1266, rfl, rfl, rfl⟩
       have hn1267 : ([x1253] : List (List (Int × Bool))) ≠ [] → ∃ g, (some ⟨b1266, 0, none⟩ : Option Addr) = some ⟨g, 0, none⟩ := fun _ => ⟨b1266, rfl⟩
       refine ⟨fun w hs => Hold.sub (Hp.le_refl _) ⟨1, rfl, 1, rfl, 1, rfl, trivial⟩ hs, ?_⟩
       refine JM.nil <| JQ.nil ?_
       obtain ⟨z1269, hz1270, h1214⟩ := ob h1214
       refine J.front 1 rfl <| J.op rfl (A.appR (Kr := K) Try.underlying23 inf26 rfl rfl (by decide) (by decide) rfl rfl (Els.mono (Hp.le_refl _)) (Els.mono (Hp.le_refl _)) hz1270) ?_
       rintro _ _ _ ⟨v1271, rfl, rfl, rfl⟩
       refine J.wit Row.form ?_
       rintro ⟨ad1272, cp1273, rfl, _, _, hn1274⟩
       refine ja (.slice ad1272 z1269.length cp1273) rfl <| J.nil <| CJ.region <| jm (ii i1150) rfl <| jv (ii (IntKind.wrap .i64 (i1150 + 1))) (V.add rfl rfl) <| ja (ii (IntKind.wrap .i64 (i1150 + 1))) rfl <| J.front 2 rfl ?_
       refine J.front 2 rfl <| J.nil ?_
       obtain rfl := si h1214
       exact ⟨rfl, ⟨z1269, IntKind.wrap .i64 (i1150 + 1), ad1272, cp1273, rfl, ⟨rfl, rfl, rfl, rfl, trivial⟩, rfl, rfl⟩⟩
     refine CJ.front 2 rfl <| CJ.front 2 rfl <| CJ.exit ?_
     obtain rfl := si h1214
     refine ⟨nofun, fun e => ?_⟩
     subst e
     exact ⟨rfl, ⟨l1145, ad1146, cp1147, rfl, ⟨rfl, rfl, rfl, trivial⟩, rfl, rfl⟩⟩
   rintro ρ _ _ ⟨l1075, ad1076, cp1077, rfl, hf1275, rfl, rfl⟩
   obtain ⟨ρ, rfl⟩ := hf1275.ex
   refine PJ.front 2 rfl <| PJ.wit Row.hn fun hn1079 => PJ.done <| CJ.seq <| CJ.mix [Cl b688 54 [ii xa.1, ii xa.2.1, ii xa.2.2.1, .slice adxa_3 xa.2.2.2.1.length cpxa_3, .slice adxa_4 xa.2.2.2.2.1.length cpxa_4, .slice adxa_5 xa.2.2.2.2.2.length cpxa_5], Cl b689 79 [ii xb.1, ii xb.2.1, .slice adxb_2 xb.2.2.1.length cpxb_2, .slice adxb_3 xb.2.2.2.1.length cpxb_3, .slice adxb_4 xb.2.2.2.2.length cpxb_4]] [([0, 1, 2, 3, 4, 5, 6, 7, 8, 9, 10, 11, 12, 13, 14], 15)] [16, 17, 18, 19] [] mixO (by decide +kernel) ⟨1, rfl, 1, rfl, trivial⟩ rfl rfl rfl <| JM.cons <| qv _ (V.fad Try.underlying79 rfl nz27 rfl) ?_
   refine qv (.slice adxb_4 xb.2.2.2.2.length cpxb_4) (V.ld rfl (Ld.sc sc27 (Rd.cl 1 rfl rfl))) <| qv _ (V.fad Try.underlying54 rfl nz3 rfl) <| qv (ii xa.2.1) (V.ld rfl (Ld.sc sc3 (Rd.cl 0 rfl rfl))) ?_
   obtain ⟨x1325, hx1326, h⟩ := ob h
   obtain ⟨p1327, p1328, p1329⟩ := getI_some hx1326
   obtain ⟨b1330, o1331, e1332, a1333⟩ := (fxb_4).at p1328
   refine qv _ (V.iad Try.underlying27 sz62 rfl e1332 rfl p1327 p1329) ?_
   obtain ⟨ad1334, cp1335, c1336, f1337⟩ := (((a1333).snd).fst).sl
   obtain ⟨ad1338, cp1339, c1340, f1341⟩ := ((((a1333).snd).snd).fst).sl
   obtain ⟨ad1342, cp1343, c1344, f1345⟩ := ((((((a1333).snd).snd).snd).one).one).sl
   refine qv (.agg #[ii x1325.1, .slice ad1334 x1325.2.1.length cp1335, .slice ad1338 x1325.2.2.1.length cp1339, .slice ad1342 x1325.2.2.2.length cp1343]) (V.ld rfl (Ld.aggK (cs := [ii x1325.1, .slice ad1334 x1325.2.1.length cp1335, .slice ad1338 x1325.2.2.1.length cp1339, .slice ad1342 x1325.2.2.2.length cp1343]) Try.underlying62 sz62 rfl ⟨((a1333).fst).int, c1336, c1340, c1344, trivial⟩ (Hp.le_refl _))) <| qv _ (V.fad Try.underlying54 rfl nz52 rfl) <| qv (.slice adxa_5 xa.2.2.2.2.2.length cpxa_5) (V.ld rfl (Ld.sc sc52 (Rd.cl 0 rfl rfl))) <| qm (.slice ad1076 l1075.length cp1077) rfl <| qv _ (V.fad Try.underlying79 rfl nz23 rfl) <| qv (.slice adxb_2 xb.2.2.1.length cpxb_2) (V.ld rfl (Ld.sc sc23 (Rd.cl 1 rfl rfl))) <| qv _ (V.fad Try.underlying54 rfl nz3 rfl) ?_
   refine qv (ii xa.2.2.1) (V.ld rfl (Ld.sc sc3 (Rd.cl 0 rfl rfl))) ?_
   obtain ⟨x1346, hx1347, h⟩ := ob h
   obtain ⟨p1348, p1349, p1350⟩ := getI_some hx1347
   obtain ⟨b1351, o1352, e1353, a1354⟩ := (fxb_2).at p1349
   refine qv _ (V.iad Try.underlying23 sz26 rfl e1353 rfl p1348 p1350) ?_
   obtain ⟨ad1355, cp1356, c1357, f1358⟩ := ((a1354).one).sl
   refine qv (.agg #[.slice ad1355 x1346.length cp1356]) (V.ld rfl (Ld.aggK (cs := [.slice ad1355 x1346.length cp1356]) Try.underlying26 sz26 rfl ⟨c1357, trivial⟩ (Hp.le_refl _))) <| JQ.nil <| JA.persist (Hp.le_refl _) (by decide) fun K1359 hK1360 f1361 => ?_
   obtain ⟨r1362, hr1363, h⟩ := ob h
   refine JA.op rfl (A.call (L1 := []) Try.call58 rfl (ref17_Call_ok (f1337.mono hK1360) (f1341.mono hK1360) (f1345.mono hK1360) (fxa_5.mono hK1360) f1361 (f1358.mono hK1360) hr1363) rfl rfl) ?_
   rintro _ _ _ ⟨v1369, _, rfl, ⟨⟨l1364, i1365, ad1366, cp1367, rfl, rfl, rfl⟩, rfl⟩, _, rfl⟩
   refine ⟨fun w hs => Hold.sub hK1360 ⟨1, rfl, 1, rfl, trivial⟩ hs, ?_⟩
   refine JM.wit Row.hn fun hn1368 => JM.nil <| qv (.slice ad1366 l1364.length cp1367) (V.ext rfl rfl) <| qv (ii i1365) (V.ext rfl rfl) <| qa (.slice ad1366 l1364.length cp1367) rfl <| qa (ii i1365) rfl <| JQ.nil ?_
   refine J.nil <| CJ.ret ?_
   obtain rfl := si h
   exact ⟨_, _, Res.two rfl rfl rfl, ⟨l1364, i1365, ad1366, cp1367, rfl, rfl, rfl⟩, hK1360, fun w hs => (Sep.dropAt 1 rfl (Sep.dropAt 1 rfl hs))⟩
 refine CJ.skip <| cr <| ja (nos) rfl <| ja (ii 0) rfl <| J.nil <| CJ.by (fun w hs => Sep.rowNil (e := 111) (t := (.cons (.int .i64) (.cons (.int .i64) (.cons (.int .i64) (.cons (.int .i64) (.one .bool)))))) hs) ?_
 refine CJ.ret ?_
 obtain rfl := si h
 exact ⟨_, _, Res.two rfl rfl rfl, ⟨[], 0, none, 0, rfl, rfl, rfl⟩, (Hp.le_refl _), fun w hs => (Sep.dropAt 1 rfl (Sep.dropAt 1 rfl hs))⟩
noncomputable def fn_ref21_blocks_l1 (xa : (Int × Int × (List (Int × Int)) × (List (List (Int × Bool))) × (List (Int × Bool)) × (List (Int × (List (Int × Int)) × (List (List (Int × Bool))) × (List (Int × Bool)))) × (List ((List (Int × Int × Int × Int × Bool)) × (Int × Int × Int × (List Int) × (List Int) × (List Int)))))) : (Int × Int) → Option ((Int × Int) ⊕ (Unit ⊕ (Int × Int × Int × Int))) := fun ((i2322, i2323) : (Int × Int)) => cond (decide (i2323 < (((xa.2.2.2.2.2.2.length : Nat) : Int)))) ((getI xa.2.2.2.2.2.2 i2323).bind fun x2346 => cond (decide (65536 < (IntKind.wrap .i64 (i2322 + (((x2346.1.length : Nat) : Int)))))) (some (.inr ((.inr ((6, 5, i2323, 0)))))) (some (.inl ((IntKind.wrap .i64 (i2322 + (((x2346.1.length : Nat) : Int))), IntKind.wrap .i64 (i2323 + 1)))))) (some (.inr ((.inl ()))))
noncomputable def fn_ref21_blocks_l2 (xa : (Int × Int × (List (Int × Int)) × (List (List (Int × Bool))) × (List (Int × Bool)) × (List (Int × (List (Int × Int)) × (List (List (Int × Bool))) × (List (Int × Bool)))) × (List ((List (Int × Int × Int × Int × Bool)) × (Int × Int × Int × (List Int) × (List Int) × (List Int)))))) (i3774 : Int) (x4131 : ((List (Int × Int × Int × Int × Bool)) × (Int × Int × Int × (List Int) × (List Int) × (List Int)))) : Int → Option (Int ⊕ (Unit ⊕ (Int ⊕ (Unit ⊕ (Int × Int × Int × Int))))) := fun (i4322 : Int) => cond (decide (i4322 < (((x4131.1.length : Nat) : Int)))) ((getI x4131.1 i4322).bind fun x4391 => (fn_ref18_Needs (x4391.1, x4391.2.1, x4391.2.2.1, x4391.2.2.2.1, x4391.2.2.2.2) xa.2.2.2.1 xa.2.1).bind fun (l4402, i4403) => cond (!decide (i4403 = 0)) (some (.inr ((.inr (.inr ((.inr ((i4403, 6, i3774, i4322))))))))) (some (.inl (IntKind.wrap .i64 (i4322 + 1))))) (some (.inr ((.inl ()))))
noncomputable def fn_ref21_blocks_l3 (xa : (Int × Int × (List (Int × Int)) × (List (List (Int × Bool))) × (List (Int × Bool)) × (List (Int × (List (Int × Int)) × (List (List (Int × Bool))) × (List (Int × Bool)))) × (List ((List (Int × Int × Int × Int × Bool)) × (Int × Int × Int × (List Int) × (List Int) × (List Int)))))) : Int → Option (Int ⊕ (Unit ⊕ (Int × Int × Int × Int))) := fun (i3774 : Int) => cond (decide (i3774 < (((xa.2.2.2.2.2.2.length : Nat) : Int)))) ((getI xa.2.2.2.2.2.2 i3774).bind fun x4131 => (loop (fn_ref21_blocks_l2 xa i3774 x4131) 0 : Option (Unit ⊕ (Int ⊕ (Unit ⊕ (Int × Int × Int × Int))))).bind fun o => match o with | .inr r => some r | .inl () => (getI xa.2.2.2.2.2.2 i3774).bind fun x4447 => (fn_ref19_Needs (x4447.2.1, x4447.2.2.1, x4447.2.2.2.1, x4447.2.2.2.2.1, x4447.2.2.2.2.2.1, x4447.2.2.2.2.2.2) ((((xa.2.2.2.2.2.2.length : Nat) : Int), xa.2.1, xa.2.2.2.1, xa.2.2.2.2.1, xa.2.2.2.2.2.1))).bind fun (l4470, i4471) => cond (!decide (i4471 = 0)) (some (.inr ((.inr ((i4471, 7, i3774, 0)))))) (some (.inl (IntKind.wrap .i64 (i3774 + 1))))) (some (.inr ((.inl ()))))
noncomputable def fn_ref21_blocks (xa : (Int × Int × (List (Int × Int)) × (List (List (Int × Bool))) × (List (Int × Bool)) × (List (Int × (List (Int × Int)) × (List (List (Int × Bool))) × (List (Int × Bool)))) × (List ((List (Int × Int × Int × Int × Bool)) × (Int × Int × Int × (List Int) × (List Int) × (List Int)))))) : Option (Int × Int × Int × Int) :=
  cond (decide ((((xa.2.2.2.2.2.2.length : Nat) : Int)) = 0)) (some ((14, 5, 0, 0))) (cond (decide (65536 < (((xa.2.2.2.2.2.2.length : Nat) : Int)))) (some ((6, 5, 0, 0))) ((loop (fn_ref21_blocks_l1 xa) (0, 0) : Option (Unit ⊕ (Int × Int × Int × Int))).bind fun o => match o with | .inr r => some r | .inl () => (loop (fn_ref21_blocks_l3 xa) 0 : Option (Unit ⊕ (Int × Int × Int × Int))).bind fun o => match o with | .inr r => some r | .inl () => some ((0, 0, 0, 0))))
set_option maxRecDepth 100000 in
set_option maxHeartbeats 4000000 in
theorem ref21_blocks_ok {K : Hp} {xa : (Int × Int × (List (Int × Int)) × (List (List (Int × Bool))) × (List (Int × Bool)) × (List (Int × (List (Int × Int)) × (List (List (Int × Bool))) × (List (Int × Bool)))) × (List ((List (Int × Int × Int × Int × Bool)) × (Int × Int × Int × (List Int) × (List Int) × (List Int)))))} {adxa_2 : Option Addr} {cpxa_2 : Nat} {adxa_3 : Option Addr} {cpxa_3 : Nat} {adxa_4 : Option Addr} {cpxa_4 : Nat} {adxa_5 : Option Addr} {cpxa_5 : Nat} {adxa_6 : Option Addr} {cpxa_6 : Nat} (fxa_2 : Is K (.sl (.cons (.int .i64) (.one (.int .i64)))) [.slice adxa_2 xa.2.2.1.length cpxa_2] xa.2.2.1) (fxa_3 : Is K (.sl (.one (.sl (.cons (.int .i64) (.one .bool))))) [.slice adxa_3 xa.2.2.2.1.length cpxa_3] xa.2.2.2.1) (fxa_4 : Is K (.sl (.cons (.int .i64) (.one .bool))) [.slice adxa_4 xa.2.2.2.2.1.length cpxa_4] xa.2.2.2.2.1) (fxa_5 : Is K (.sl (.cons (.int .i64) (.cons (.sl (.cons (.int .i64) (.one (.int .i64)))) (.cons (.sl (.one (.sl (.cons (.int .i64) (.one .bool))))) (.one (.one (.sl (.cons (.int .i64) (.one .bool))))))))) [.slice adxa_5 xa.2.2.2.2.2.1.length cpxa_5] xa.2.2.2.2.2.1) (fxa_6 : Is K (.sl (.cons (.sl (.cons (.int .i64) (.cons (.int .i64) (.cons (.int .i64) (.cons (.int .i64) (.one .bool)))))) (.one (.cons (.int .i64) (.cons (.int .i64) (.cons (.int .i64) (.cons (.sl (.int .i64)) (.cons (.sl (.int .i64)) (.one (.sl (.int .i64))))))))))) [.slice adxa_6 xa.2.2.2.2.2.2.length cpxa_6] xa.2.2.2.2.2.2) {r : (Int × Int × Int × Int)} (h : fn_ref21_blocks xa = some r) :
    Tr Try.prog 29 #[.agg #[ii xa.1, ii xa.2.1, .slice adxa_2 xa.2.2.1.length cpxa_2, .slice adxa_3 xa.2.2.2.1.length cpxa_3, .slice adxa_4 xa.2.2.2.2.1.length cpxa_4, .slice adxa_5 xa.2.2.2.2.2.1.length cpxa_5, .slice adxa_6 xa.2.2.2.2.2.2.length cpxa_6]] K [] (fun v K' L' => (∃ (i2240 : Int) (i2241 : Int) (i2242 : Int) (i2243 : Int), (i2240, i2241, i2242, i2243) = r ∧ .agg #[ii i2240, ii i2241, ii i2242, ii i2243] = v ∧ L' = []) ∧ K = K') := by
 refine Tr.k <| Tr.of Try.func29 rfl Try.ntmps29 rfl fun E F => ?_
 unfold fn_ref21_blocks at h
 refine cr <| jbx [ii xa.1, ii xa.2.1, .slice adxa_2 xa.2.2.1.length cpxa_2, .slice adxa_3 xa.2.2.2.1.length cpxa_3, .slice adxa_4 xa.2.2.2.2.1.length cpxa_4, .slice adxa_5 xa.2.2.2.2.2.1.length cpxa_5, .slice adxa_6 xa.2.2.2.2.2.2.length cpxa_6] rfl rfl fun b2244 => jal inf33 [ii 0, ii 0, ii 0, ii 0] rfl fun b2245 => J.nil <| CJ.seq <| CJ.seq ?_
 refine CJ.region <| jv _ (V.fad Try.underlying30 rfl nz28 rfl) <| jv (.slice adxa_6 xa.2.2.2.2.2.2.length cpxa_6) (V.ld rfl (Ld.sc sc28 (Rd.cl 1 rfl rfl))) <| jv (ii (((xa.2.2.2.2.2.2.length : Nat) : Int))) (V.len Try.underlying28 rfl) <| jv (.bool (decide ((((xa.2.2.2.2.2.2.length : Nat) : Int)) = 0))) (V.eql rfl rfl) <| J.nil <| cc rfl h (fun hc2246 h => ?_) fun hc2246 h => ?_
 · refine cr <| jv (.agg #[ii 14, ii 5, ii 0, ii 0]) (V.build inf33 places33 rfl rfl) <| js [ii 14, ii 5, ii 0, ii 0] sz33 rfl rfl rfl rfl rfl rfl <| J.nil <| CJ.ret ?_
   obtain rfl := si h
   exact ⟨_, _, Res.one rfl ⟨_, _, rfl, Ld.agg (cs := [ii 14, ii 5, ii 0, ii 0]) Try.underlying33 sz33 rfl (Rd.cls 0 0 rfl rfl)⟩, ⟨14, 5, 0, 0, rfl, rfl, rfl⟩, (Hp.le_refl _), fun w hs => (Sep.dropAt 0 rfl (Sep.dropAt 0 rfl hs))⟩
 refine CJ.skip <| CJ.seq <| cr <| jv _ (V.fad Try.underlying30 rfl nz28 rfl) <| jv (.slice adxa_6 xa.2.2.2.2.2.2.length cpxa_6) (V.ld rfl (Ld.sc sc28 (Rd.cl 1 rfl rfl))) <| jv (ii (((xa.2.2.2.2.2.2.length : Nat) : Int))) (V.len Try.underlying28 rfl) ?_
 refine jv (.bool (decide (65536 < (((xa.2.2.2.2.2.2.length : Nat) : Int))))) (V.gtr rfl rfl) <| J.nil <| cc rfl h (fun hc2247 h => ?_) fun hc2247 h => ?_
 · refine cr <| jv (.agg #[ii 6, ii 5, ii 0, ii 0]) (V.build inf33 places33 rfl rfl) <| js [ii 6, ii 5, ii 0, ii 0] sz33 rfl rfl rfl rfl rfl rfl <| J.nil <| CJ.ret ?_
   obtain rfl := si h
   exact ⟨_, _, Res.one rfl ⟨_, _, rfl, Ld.agg (cs := [ii 6, ii 5, ii 0, ii 0]) Try.underlying33 sz33 rfl (Rd.cls 0 0 rfl rfl)⟩, ⟨6, 5, 0, 0, rfl, rfl, rfl⟩, (Hp.le_refl _), fun w hs => (Sep.dropAt 0 rfl (Sep.dropAt 0 rfl hs))⟩
 refine CJ.skip <| cr <| ja (ii 0) rfl <| J.nil <| CJ.seq <| CJ.seq ?_
 refine CJ.region <| ja (ii 0) rfl <| J.nil ?_
 obtain ⟨o2303, ho2304, h⟩ := ob h
 refine CJ.joinN (o := o2303) (fun s ρ K' L' => () = s ∧ Fits [(1, .pointer (some ⟨b2244, 0, none⟩)), (2, .pointer (some ⟨b2245, 0, none⟩))] ρ ∧ K = K' ∧ L' = Cl b2244 30 [ii xa.1, ii xa.2.1, .slice adxa_2 xa.2.2.1.length cpxa_2, .slice adxa_3 xa.2.2.2.1.length cpxa_3, .slice adxa_4 xa.2.2.2.2.1.length cpxa_4, .slice adxa_5 xa.2.2.2.2.2.1.length cpxa_5, .slice adxa_6 xa.2.2.2.2.2.2.length cpxa_6] :: Cl b2245 33 [ii 0, ii 0, ii 0, ii 0] :: F) ?_ ?_
 · refine CJ.block <| CJ.front 1 rfl <| CJ.loop (fun s ρ K' L' => ∃ (i2322 : Int) (i2323 : Int), (i2322, i2323) = s ∧ Fits [(1, .pointer (some ⟨b2244, 0, none⟩)), (2, .pointer (some ⟨b2245, 0, none⟩)), (3, ii i2322), (4, ii i2323)] ρ ∧ K = K' ∧ L' = Cl b2244 30 [ii xa.1, ii xa.2.1, .slice adxa_2 xa.2.2.1.length cpxa_2, .slice adxa_3 xa.2.2.2.1.length cpxa_3, .slice adxa_4 xa.2.2.2.2.1.length cpxa_4, .slice adxa_5 xa.2.2.2.2.2.1.length cpxa_5, .slice adxa_6 xa.2.2.2.2.2.2.length cpxa_6] :: Cl b2245 33 [ii 0, ii 0, ii 0, ii 0] :: F) ho2304 ⟨0, 0, rfl, ⟨rfl, rfl, rfl, rfl, trivial⟩, rfl, rfl⟩ ?_
   rintro s ρ _ _ r2344 ⟨i2322, i2323, rfl, hf2342, rfl, rfl⟩ h2341
   obtain ⟨ρ, rfl⟩ := hf2342.ex
   refine CJ.seq <| cr <| jm (ii i2323) rfl <| jv _ (V.fad Try.underlying30 rfl nz28 rfl) <| jv (.slice adxa_6 xa.2.2.2.2.2.2.length cpxa_6) (V.ld rfl (Ld.sc sc28 (Rd.cl 0 rfl rfl))) <| jv (ii (((xa.2.2.2.2.2.2.length : Nat) : Int))) (V.len Try.underlying28 rfl) ?_
   refine jv (.bool (decide (i2323 < (((xa.2.2.2.2.2.2.length : Nat) : Int))))) (V.lss rfl rfl) <| J.nil <| cc rfl h2341 (fun hc2345 h2341 => ?_) fun hc2345 h2341 => ?_
   · refine CJ.skip <| CJ.seq <| CJ.block <| cr <| jm (ii i2322) rfl <| jv _ (V.fad Try.underlying30 rfl nz28 rfl) ?_
     refine jv (.slice adxa_6 xa.2.2.2.2.2.2.length cpxa_6) (V.ld rfl (Ld.sc sc28 (Rd.cl 0 rfl rfl))) <| jm (ii i2323) rfl ?_
     obtain ⟨x2346, hx2347, h2341⟩ := ob h2341
     obtain ⟨p2348, p2349, p2350⟩ := getI_some hx2347
     obtain ⟨b2351, o2352, e2353, a2354⟩ := (fxa_6).at p2349
     refine jv _ (V.iad Try.underlying28 sz56 rfl e2353 rfl p2348 p2350) <| jv _ (V.fad Try.underlying56 rfl nz51 rfl) ?_
     obtain ⟨ad2355, cp2356, c2357, f2358⟩ := ((a2354).fst).sl
     refine jv (.slice ad2355 x2346.1.length cp2356) (V.ld rfl (Ld.sc sc51 (Rd.k c2357 (Hp.le_refl _)))) <| jv (ii (((x2346.1.length : Nat) : Int))) (V.len Try.underlying51 rfl) <| jv (ii (IntKind.wrap .i64 (i2322 + (((x2346.1.length : Nat) : Int))))) (V.add rfl rfl) <| ja (ii (IntKind.wrap .i64 (i2322 + (((x2346.1.length : Nat) : Int))))) rfl <| J.nil <| CJ.seq <| CJ.region ?_
     refine jm (ii (IntKind.wrap .i64 (i2322 + (((x2346.1.length : Nat) : Int))))) rfl <| jv (.bool (decide (65536 < (IntKind.wrap .i64 (i2322 + (((x2346.1.length : Nat) : Int))))))) (V.gtr rfl rfl) <| J.nil <| cc rfl h2341 (fun hc2359 h2341 => ?_) fun hc2359 h2341 => ?_
     · refine cr <| jm (ii i2323) rfl <| jv (.agg #[ii 6, ii 5, ii i2323, ii 0]) (V.build inf33 places33 rfl rfl) <| J.front 1 rfl <| js [ii 6, ii 5, ii i2323, ii 0] sz33 rfl rfl rfl rfl rfl rfl <| J.nil ?_
       refine CJ.ret ?_
       obtain rfl := si h2341
       refine ⟨nofun, fun e => ?_⟩
       subst e
       refine .inr ⟨nofun, ?_⟩
       obtain rfl := si h
       exact ⟨_, _, Res.one rfl ⟨_, _, rfl, Ld.agg (cs := [ii 6, ii 5, ii i2323, ii 0]) Try.underlying33 sz33 rfl (Rd.cls 0 0 rfl rfl)⟩, ⟨6, 5, i2323, 0, rfl, rfl, rfl⟩, (Hp.le_refl _), fun w hs => (Sep.dropAt 0 rfl (Sep.dropAt 0 rfl hs))⟩
     refine CJ.skip <| CJ.region <| jm (ii i2323) rfl <| jv (ii (IntKind.wrap .i64 (i2323 + 1))) (V.add rfl rfl) <| ja (ii (IntKind.wrap .i64 (i2323 + 1))) rfl <| J.nil ?_
     obtain rfl := si h2341
     exact ⟨rfl, ⟨IntKind.wrap .i64 (i2322 + (((x2346.1.length : Nat) : Int))), IntKind.wrap .i64 (i2323 + 1), rfl, ⟨rfl, rfl, rfl, rfl, trivial⟩, rfl, rfl⟩⟩
   refine CJ.exit ?_
   obtain rfl := si h2341
   refine ⟨nofun, fun e => ?_⟩
   subst e
   exact .inl ⟨rfl, _, rfl, ⟨rfl, ⟨rfl, rfl, trivial⟩, rfl, rfl⟩⟩
 rintro s ρ _ _ ho2360 ⟨rfl, hf2361, rfl, rfl⟩
 subst ho2360
 obtain ⟨ρ, rfl⟩ := hf2361.ex
 refine PJ.done <| cr <| jv _ (V.fad Try.underlying30 rfl nz28 rfl) <| jv (.slice adxa_6 xa.2.2.2.2.2.2.length cpxa_6) (V.ld rfl (Ld.sc sc28 (Rd.cl 0 rfl rfl))) <| jv (ii (((xa.2.2.2.2.2.2.length : Nat) : Int))) (V.len Try.underlying28 rfl) <| jv _ (V.fad Try.underlying30 rfl nz3 rfl) ?_
 refine jv (ii xa.2.1) (V.ld rfl (Ld.sc sc3 (Rd.cl 0 rfl rfl))) <| jv _ (V.fad Try.underlying30 rfl nz23 rfl) <| jv (.slice adxa_3 xa.2.2.2.1.length cpxa_3) (V.ld rfl (Ld.sc sc23 (Rd.cl 0 rfl rfl))) <| jv _ (V.fad Try.underlying30 rfl nz26 rfl) <| jv (.agg #[.slice adxa_4 xa.2.2.2.2.1.length cpxa_4]) (V.ld rfl (Ld.agg (cs := [.slice adxa_4 xa.2.2.2.2.1.length cpxa_4]) Try.underlying26 sz26 rfl (Rd.cls 0 4 rfl rfl))) <| jv _ (V.fad Try.underlying30 rfl nz27 rfl) <| jv (.slice adxa_5 xa.2.2.2.2.2.1.length cpxa_5) (V.ld rfl (Ld.sc sc27 (Rd.cl 0 rfl rfl))) ?_
 refine jv (.agg #[ii (((xa.2.2.2.2.2.2.length : Nat) : Int)), ii xa.2.1, .slice adxa_3 xa.2.2.2.1.length cpxa_3, .slice adxa_4 xa.2.2.2.2.1.length cpxa_4, .slice adxa_5 xa.2.2.2.2.2.1.length cpxa_5]) (V.build inf79 places79 rfl rfl) <| jal inf79 [ii 0, ii 0, nos, nos, nos] rfl fun b2363 => js [ii (((xa.2.2.2.2.2.2.length : Nat) : Int)), ii xa.2.1, .slice adxa_3 xa.2.2.2.1.length cpxa_3, .slice adxa_4 xa.2.2.2.2.1.length cpxa_4, .slice adxa_5 xa.2.2.2.2.2.1.length cpxa_5] sz79 rfl rfl rfl rfl rfl rfl <| J.nil <| CJ.seq <| CJ.seq <| CJ.region ?_
 refine ja (ii 0) rfl <| J.nil ?_
 obtain ⟨o3421, ho3422, h⟩ := ob h
 refine CJ.joinN (o := o3421) (fun s ρ K' L' => () = s ∧ Fits [(2, .pointer (some ⟨b2245, 0, none⟩))] ρ ∧ K = K' ∧ L' = Cl b2245 33 [ii 0, ii 0, ii 0, ii 0] :: F) ?_ ?_
 · refine CJ.block <| CJ.front 2 rfl <| CJ.front 2 rfl <| CJ.loop (fun s ρ K' L' => ∃ (i3774 : Int), i3774 = s ∧ Fits [(1, .pointer (some ⟨b2244, 0, none⟩)), (2, .pointer (some ⟨b2245, 0, none⟩)), (5, .pointer (some ⟨b2363, 0, none⟩)), (6, ii i3774)] ρ ∧ K = K' ∧ L' = Cl b2244 30 [ii xa.1, ii xa.2.1, .slice adxa_2 xa.2.2.1.length cpxa_2, .slice adxa_3 xa.2.2.2.1.length cpxa_3, .slice adxa_4 xa.2.2.2.2.1.length cpxa_4, .slice adxa_5 xa.2.2.2.2.2.1.length cpxa_5, .slice adxa_6 xa.2.2.2.2.2.2.length cpxa_6] :: Cl b2245 33 [ii 0, ii 0, ii 0, ii 0] :: Cl b2363 79 [ii (((xa.2.2.2.2.2.2.length : Nat) : Int)), ii xa.2.1, .slice adxa_3 xa.2.2.2.1.length cpxa_3, .slice adxa_4 xa.2.2.2.2.1.length cpxa_4, .slice adxa_5 xa.2.2.2.2.2.1.length cpxa_5] :: F) ho3422 ⟨0, rfl, ⟨rfl, rfl, rfl, rfl, trivial⟩, rfl, rfl⟩ ?_
   rintro s ρ _ _ r4129 ⟨i3774, rfl, hf4127, rfl, rfl⟩ h4126
   obtain ⟨ρ, rfl⟩ := hf4127.ex
   refine CJ.seq <| cr <| jm (ii i3774) rfl <| jv _ (V.fad Try.underlying30 rfl nz28 rfl) <| jv (.slice adxa_6 xa.2.2.2.2.2.2.length cpxa_6) (V.ld rfl (Ld.sc sc28 (Rd.cl 0 rfl rfl))) <| jv (ii (((xa.2.2.2.2.2.2.length : Nat) : Int))) (V.len Try.underlying28 rfl) ?_
   refine jv (.bool (decide (i3774 < (((xa.2.2.2.2.2.2.length : Nat) : Int))))) (V.lss rfl rfl) <| J.nil <| cc rfl h4126 (fun hc4130 h4126 => ?_) fun hc4130 h4126 => ?_
   · refine CJ.skip <| CJ.seq <| CJ.block <| cr <| jv _ (V.fad Try.underlying30 rfl nz28 rfl) <| jv (.slice adxa_6 xa.2.2.2.2.2.2.length cpxa_6) (V.ld rfl (Ld.sc sc28 (Rd.cl 0 rfl rfl))) ?_
     refine jm (ii i3774) rfl ?_
     obtain ⟨x4131, hx4132, h4126⟩ := ob h4126
     obtain ⟨p4133, p4134, p4135⟩ := getI_some hx4132
     obtain ⟨b4136, o4137, e4138, a4139⟩ := (fxa_6).at p4134
     refine jv _ (V.iad Try.underlying28 sz56 rfl e4138 rfl p4133 p4135) <| jv _ (V.fad Try.underlying56 rfl nz51 rfl) ?_
     obtain ⟨ad4140, cp4141, c4142, f4143⟩ := ((a4139).fst).sl
     refine jv (.slice ad4140 x4131.1.length cp4141) (V.ld rfl (Ld.sc sc51 (Rd.k c4142 (Hp.le_refl _)))) <| ja (.slice ad4140 x4131.1.length cp4141) rfl <| J.nil <| CJ.seq <| cr <| ja (ii 0) rfl ?_
     refine J.nil ?_
     obtain ⟨o4277, ho4278, h4126⟩ := ob h4126
     refine CJ.joinN (o := o4277) (fun s ρ K' L' => () = s ∧ Fits [(1, .pointer (some ⟨b2244, 0, none⟩)), (2, .pointer (some ⟨b2245, 0, none⟩)), (5, .pointer (some ⟨b2363, 0, none⟩)), (6, ii i3774)] ρ ∧ K = K' ∧ L' = Cl b2244 30 [ii xa.1, ii xa.2.1, .slice adxa_2 xa.2.2.1.length cpxa_2, .slice adxa_3 xa.2.2.2.1.length cpxa_3, .slice adxa_4 xa.2.2.2.2.1.length cpxa_4, .slice adxa_5 xa.2.2.2.2.2.1.length cpxa_5, .slice adxa_6 xa.2.2.2.2.2.2.length cpxa_6] :: Cl b2245 33 [ii 0, ii 0, ii 0, ii 0] :: Cl b2363 79 [ii (((xa.2.2.2.2.2.2.length : Nat) : Int)), ii xa.2.1, .slice adxa_3 xa.2.2.2.1.length cpxa_3, .slice adxa_4 xa.2.2.2.2.1.length cpxa_4, .slice adxa_5 xa.2.2.2.2.2.1.length cpxa_5] :: F) ?_ ?_
     · refine CJ.block <| CJ.loop (fun s ρ K' L' => ∃ (i4322 : Int), i4322 = s ∧ Fits [(1, .pointer (some ⟨b2244, 0, none⟩)), (2, .pointer (some ⟨b2245, 0, none⟩)), (5, .pointer (some ⟨b2363, 0, none⟩)), (6, ii i3774), (7, .slice ad4140 x4131.1.length cp4141), (8, ii i4322)] ρ ∧ K = K' ∧ L' = Cl b2244 30 [ii xa.1, ii xa.2.1, .slice adxa_2 xa.2.2.1.length cpxa_2, .slice adxa_3 xa.2.2.2.1.length cpxa_3, .slice adxa_4 xa.2.2.2.2.1.length cpxa_4, .slice adxa_5 xa.2.2.2.2.2.1.length cpxa_5, .slice adxa_6 xa.2.2.2.2.2.2.length cpxa_6] :: Cl b2245 33 [ii 0, ii 0, ii 0, ii 0] :: Cl b2363 79 [ii (((xa.2.2.2.2.2.2.length : Nat) : Int)), ii xa.2.1, .slice adxa_3 xa.2.2.2.1.length cpxa_3, .slice adxa_4 xa.2.2.2.2.1.length cpxa_4, .slice adxa_5 xa.2.2.2.2.2.1.length cpxa_5] :: F) ho4278 ⟨0, rfl, ⟨rfl, rfl, rfl, rfl, rfl, rfl, trivial⟩, rfl, rfl⟩ ?_
       rintro s ρ _ _ r4369 ⟨i4322, rfl, hf4367, rfl, rfl⟩ h4366
       obtain ⟨ρ, rfl⟩ := hf4367.ex
       refine CJ.seq <| cr <| jm (ii i4322) rfl <| jm (.slice ad4140 x4131.1.length cp4141) rfl <| jv (ii (((x4131.1.length : Nat) : Int))) (V.len Try.underlying51 rfl) <| jv (.bool (decide (i4322 < (((x4131.1.length : Nat) : Int))))) (V.lss rfl rfl) ?_
       refine J.nil <| cc rfl h4366 (fun hc4370 h4366 => ?_) fun hc4370 h4366 => ?_
       · refine CJ.skip <| CJ.seq <| CJ.block <| CJ.seq <| CJ.mix [Cl b2244 30 [ii xa.1, ii xa.2.1, .slice adxa_2 xa.2.2.1.length cpxa_2, .slice adxa_3 xa.2.2.2.1.length cpxa_3, .slice adxa_4 xa.2.2.2.2.1.length cpxa_4, .slice adxa_5 xa.2.2.2.2.2.1.length cpxa_5, .slice adxa_6 xa.2.2.2.2.2.2.length cpxa_6], Cl b2245 33 [ii 0, ii 0, ii 0, ii 0], Cl b2363 79 [ii (((xa.2.2.2.2.2.2.length : Nat) : Int)), ii xa.2.1, .slice adxa_3 xa.2.2.2.1.length cpxa_3, .slice adxa_4 xa.2.2.2.2.1.length cpxa_4, .slice adxa_5 xa.2.2.2.2.2.1.length cpxa_5]] [([0, 1, 2, 3, 4, 5, 6, 7], 8)] [9, 10, 11, 12, 13] [] mixO (by decide +kernel) ⟨0, rfl, 0, rfl, 0, rfl, trivial⟩ rfl rfl rfl <| JM.cons <| qm (.slice ad4140 x4131.1.length cp4141) rfl ?_
         refine qm (ii i4322) rfl ?_
         obtain ⟨x4391, hx4392, h4366⟩ := ob h4366
         obtain ⟨p4393, p4394, p4395⟩ := getI_some hx4392
         obtain ⟨b4396, o4397, e4398, a4399⟩ := (f4143).at p4394
         refine qv _ (V.iad Try.underlying51 sz76 rfl e4398 rfl p4393 p4395) <| qv (.agg #[ii x4391.1, ii x4391.2.1, ii x4391.2.2.1, ii x4391.2.2.2.1, .bool x4391.2.2.2.2]) (V.ld rfl (Ld.aggK (cs := [ii x4391.1, ii x4391.2.1, ii x4391.2.2.1, ii x4391.2.2.2.1, .bool x4391.2.2.2.2]) Try.underlying76 sz76 rfl ⟨((a4399).fst).int, (((a4399).snd).fst).int, ((((a4399).snd).snd).fst).int, (((((a4399).snd).snd).snd).fst).int, ((((((a4399).snd).snd).snd).snd).one).bool, trivial⟩ (Hp.le_refl _))) <| qv _ (V.fad Try.underlying30 rfl nz23 rfl) <| qv (.slice adxa_3 xa.2.2.2.1.length cpxa_3) (V.ld rfl (Ld.sc sc23 (Rd.cl 0 rfl rfl))) <| qv _ (V.fad Try.underlying30 rfl nz3 rfl) <| qv (ii xa.2.1) (V.ld rfl (Ld.sc sc3 (Rd.cl 0 rfl rfl))) <| JQ.nil ?_
         obtain ⟨r4400, hr4401, h4366⟩ := ob h4366
         refine JA.op rfl (A.call (L1 := []) Try.call41 rfl (ref18_Needs_ok fxa_3 hr4401) rfl rfl) ?_
         rintro _ _ _ ⟨v4407, _, rfl, ⟨⟨l4402, i4403, ad4404, cp4405, rfl, rfl, rfl⟩, rfl⟩, _, rfl⟩
         refine ⟨fun w hs => Hold.sub (Hp.le_refl _) ⟨1, rfl, 1, rfl, 1, rfl, trivial⟩ hs, ?_⟩
         refine JM.wit Row.hn fun hn4406 => JM.nil <| qm (.tuple #[.slice ad4404 l4402.length cp4405, ii i4403]) rfl <| qv (.slice ad4404 l4402.length cp4405) (V.ext rfl rfl) <| qv (ii i4403) (V.ext rfl rfl) <| qa (.slice ad4404 l4402.length cp4405) rfl <| qa (ii i4403) rfl ?_
         refine JQ.nil <| J.nil <| cr <| jm (ii i4403) rfl <| jv (.bool (!decide (i4403 = 0))) (V.neq rfl rfl) <| J.nil ?_
         refine cc rfl h4366 (fun hc4411 h4366 => ?_) fun hc4411 h4366 => ?_
         · refine cr <| jm (ii i4403) rfl <| jm (ii i3774) rfl <| jm (ii i4322) rfl <| jv (.agg #[ii i4403, ii 6, ii i3774, ii i4322]) (V.build inf33 places33 rfl rfl) <| J.front 2 rfl ?_
           refine js [ii i4403, ii 6, ii i3774, ii i4322] sz33 rfl rfl rfl rfl rfl rfl <| J.nil <| CJ.ret ?_
           obtain rfl := si h4366
           refine ⟨nofun, fun e => ?_⟩
           subst e
           refine .inr ⟨nofun, ?_⟩
           obtain rfl := si h4126
           refine ⟨nofun, fun e => ?_⟩
           subst e
           refine .inr ⟨nofun, ?_⟩
           obtain rfl := si h
           exact ⟨_, _, Res.one rfl ⟨_, _, rfl, Ld.agg (cs := [ii i4403, ii 6, ii i3774, ii i4322]) Try.underlying33 sz33 rfl (Rd.cls 0 0 rfl rfl)⟩, ⟨i4403, 6, i3774, i4322, rfl, rfl, rfl⟩, (Hp.le_refl _), fun w hs => (Sep.dropAt 0 rfl (Sep.dropAt 0 rfl (Sep.dropAt 0 rfl (Sep.dropAt 0 rfl hs))))⟩
         refine CJ.skip <| CJ.region <| jm (ii i4322) rfl <| jv (ii (IntKind.wrap .i64 (i4322 + 1))) (V.add rfl rfl) <| ja (ii (IntKind.wrap .i64 (i4322 + 1))) rfl <| J.dropAt 0 rfl <| J.nil ?_
         obtain rfl := si h4366
         exact ⟨rfl, ⟨IntKind.wrap .i64 (i4322 + 1), rfl, ⟨rfl, rfl, rfl, rfl, rfl, rfl, trivial⟩, rfl, rfl⟩⟩
       refine CJ.exit ?_
       obtain rfl := si h4366
       refine ⟨nofun, fun e => ?_⟩
       subst e
       exact .inl ⟨rfl, _, rfl, ⟨rfl, ⟨rfl, rfl, rfl, rfl, trivial⟩, rfl, rfl⟩⟩
     rintro s ρ _ _ ho4412 ⟨rfl, hf4413, rfl, rfl⟩
     subst ho4412
     obtain ⟨ρ, rfl⟩ := hf4413.ex
     refine PJ.done <| CJ.seq <| CJ.mix [Cl b2244 30 [ii xa.1, ii xa.2.1, .slice adxa_2 xa.2.2.1.length cpxa_2, .slice adxa_3 xa.2.2.2.1.length cpxa_3, .slice adxa_4 xa.2.2.2.2.1.length cpxa_4, .slice adxa_5 xa.2.2.2.2.2.1.length cpxa_5, .slice adxa_6 xa.2.2.2.2.2.2.length cpxa_6], Cl b2245 33 [ii 0, ii 0, ii 0, ii 0], Cl b2363 79 [ii (((xa.2.2.2.2.2.2.length : Nat) : Int)), ii xa.2.1, .slice adxa_3 xa.2.2.2.1.length cpxa_3, .slice adxa_4 xa.2.2.2.2.1.length cpxa_4, .slice adxa_5 xa.2.2.2.2.2.1.length cpxa_5]] [([0, 1, 2, 3, 4, 5, 6], 7)] [8, 9, 10, 11, 12] [] mixO (by decide +kernel) ⟨0, rfl, 0, rfl, 0, rfl, trivial⟩ rfl rfl rfl <| JM.cons <| qv _ (V.fad Try.underlying30 rfl nz28 rfl) <| qv (.slice adxa_6 xa.2.2.2.2.2.2.length cpxa_6) (V.ld rfl (Ld.sc sc28 (Rd.cl 0 rfl rfl))) <| qm (ii i3774) rfl ?_
     obtain ⟨x4447, hx4448, h4126⟩ := ob h4126
     obtain ⟨p4449, p4450, p4451⟩ := getI_some hx4448
     obtain ⟨b4452, o4453, e4454, a4455⟩ := (fxa_6).at p4450
     refine qv _ (V.iad Try.underlying28 sz56 rfl e4454 rfl p4449 p4451) <| qv _ (V.fad Try.underlying56 rfl nz54 rfl) ?_
     obtain ⟨ad4456, cp4457, c4458, f4459⟩ := (((((((a4455).snd).one).snd).snd).snd).fst).sl
     obtain ⟨ad4460, cp4461, c4462, f4463⟩ := ((((((((a4455).snd).one).snd).snd).snd).snd).fst).sl
     obtain ⟨ad4464, cp4465, c4466, f4467⟩ := (((((((((a4455).snd).one).snd).snd).snd).snd).snd).one).sl
     refine qv (.agg #[ii x4447.2.1, ii x4447.2.2.1, ii x4447.2.2.2.1, .slice ad4456 x4447.2.2.2.2.1.length cp4457, .slice ad4460 x4447.2.2.2.2.2.1.length cp4461, .slice ad4464 x4447.2.2.2.2.2.2.length cp4465]) (V.ld rfl (Ld.aggK (cs := [ii x4447.2.1, ii x4447.2.2.1, ii x4447.2.2.2.1, .slice ad4456 x4447.2.2.2.2.1.length cp4457, .slice ad4460 x4447.2.2.2.2.2.1.length cp4461, .slice ad4464 x4447.2.2.2.2.2.2.length cp4465]) Try.underlying54 sz54 rfl ⟨((((a4455).snd).one).fst).int, (((((a4455).snd).one).snd).fst).int, ((((((a4455).snd).one).snd).snd).fst).int, c4458, c4462, c4466, trivial⟩ (Hp.le_refl _))) <| qv (.agg #[ii (((xa.2.2.2.2.2.2.length : Nat) : Int)), ii xa.2.1, .slice adxa_3 xa.2.2.2.1.length cpxa_3, .slice adxa_4 xa.2.2.2.2.1.length cpxa_4, .slice adxa_5 xa.2.2.2.2.2.1.length cpxa_5]) (V.ld rfl (Ld.agg (cs := [ii (((xa.2.2.2.2.2.2.length : Nat) : Int)), ii xa.2.1, .slice adxa_3 xa.2.2.2.1.length cpxa_3, .slice adxa_4 xa.2.2.2.2.1.length cpxa_4, .slice adxa_5 xa.2.2.2.2.2.1.length cpxa_5]) Try.underlying79 sz79 rfl (Rd.cls 2 0 rfl rfl))) <| JQ.nil ?_
     obtain ⟨r4468, hr4469, h4126⟩ := ob h4126
     refine JA.op rfl (A.call (L1 := []) Try.call42 rfl (ref19_Needs_ok f4459 f4463 f4467 fxa_3 fxa_4 fxa_5 hr4469) rfl rfl) ?_
     rintro _ _ _ ⟨v4475, _, rfl, ⟨⟨l4470, i4471, ad4472, cp4473, rfl, rfl, rfl⟩, rfl⟩, _, rfl⟩
     refine ⟨fun w hs => Hold.sub (Hp.le_refl _) ⟨1, rfl, 1, rfl, 1, rfl, trivial⟩ hs, ?_⟩
     refine JM.wit Row.hn fun hn4474 => JM.nil <| qm (.tuple #[.slice ad4472 l4470.length cp4473, ii i4471]) rfl <| qv (.slice ad4472 l4470.length cp4473) (V.ext rfl rfl) <| qv (ii i4471) (V.ext rfl rfl) <| qa (.slice ad4472 l4470.length cp4473) rfl <| qa (ii i4471) rfl ?_
     refine JQ.nil <| J.nil <| cr <| jm (ii i4471) rfl <| jv (.bool (!decide (i4471 = 0))) (V.neq rfl rfl) <| J.nil ?_
     refine cc rfl h4126 (fun hc4479 h4126 => ?_) fun hc4479 h4126 => ?_
     · refine cr <| jm (ii i4471) rfl <| jm (ii i3774) rfl <| jv (.agg #[ii i4471, ii 7, ii i3774, ii 0]) (V.build inf33 places33 rfl rfl) <| J.front 2 rfl <| js [ii i4471, ii 7, ii i3774, ii 0] sz33 rfl rfl rfl rfl rfl rfl ?_
       refine J.nil <| CJ.ret ?_
       obtain rfl := si h4126
       refine ⟨nofun, fun e => ?_⟩
       subst e
       refine .inr ⟨nofun, ?_⟩
       obtain rfl := si h
       exact ⟨_, _, Res.one rfl ⟨_, _, rfl, Ld.agg (cs := [ii i4471, ii 7, ii i3774, ii 0]) Try.underlying33 sz33 rfl (Rd.cls 0 0 rfl rfl)⟩, ⟨i4471, 7, i3774, 0, rfl, rfl, rfl⟩, (Hp.le_refl _), fun w hs => (Sep.dropAt 0 rfl (Sep.dropAt 0 rfl (Sep.dropAt 0 rfl (Sep.dropAt 0 rfl hs))))⟩
     refine CJ.skip <| CJ.region <| jm (ii i3774) rfl <| jv (ii (IntKind.wrap .i64 (i3774 + 1))) (V.add rfl rfl) <| ja (ii (IntKind.wrap .i64 (i3774 + 1))) rfl <| J.dropAt 0 rfl <| J.nil ?_
     obtain rfl := si h4126
     exact ⟨rfl, ⟨IntKind.wrap .i64 (i3774 + 1), rfl, ⟨rfl, rfl, rfl, rfl, trivial⟩, rfl, rfl⟩⟩
   refine CJ.dropAt 0 rfl <| CJ.dropAt 1 rfl <| CJ.exit ?_
   obtain rfl := si h4126
   refine ⟨nofun, fun e => ?_⟩
   subst e
   exact .inl ⟨rfl, _, rfl, ⟨rfl, ⟨rfl, trivial⟩, rfl, rfl⟩⟩
 rintro s ρ _ _ ho4480 ⟨rfl, hf4481, rfl, rfl⟩
 subst ho4480
 obtain ⟨ρ, rfl⟩ := hf4481.ex
 refine PJ.done <| cr <| jv (.agg #[ii 0, ii 0, ii 0, ii 0]) (V.build inf33 places33 rfl rfl) <| js [ii 0, ii 0, ii 0, ii 0] sz33 rfl rfl rfl rfl rfl rfl <| J.nil <| CJ.ret ?_
 obtain rfl := si h
 exact ⟨_, _, Res.one rfl ⟨_, _, rfl, Ld.agg (cs := [ii 0, ii 0, ii 0, ii 0]) Try.underlying33 sz33 rfl (Rd.cls 0 0 rfl rfl)⟩, ⟨0, 0, 0, 0, rfl, rfl, rfl⟩, (Hp.le_refl _), fun w hs => (Sep.dropAt 0 rfl hs)⟩

noncomputable def fn_ref21_Check (xa : (Int × Int × (List (Int × Int)) × (List (List (Int × Bool))) × (List (Int × Bool)) × (List (Int × (List (Int × Int)) × (List (List (Int × Bool))) × (List (Int × Bool)))) × (List ((List (Int × Int × Int × Int × Bool)) × (Int × Int × Int × (List Int) × (List Int) × (List Int)))))) : Option (Int × Int × Int × Int) :=
  (fn_ref21_head (xa.1, xa.2.1, xa.2.2.1, xa.2.2.2.1, xa.2.2.2.2.1, xa.2.2.2.2.2.1, xa.2.2.2.2.2.2)).bind fun (i42, i43, i44, i45) => cond (!decide (i42 = 0)) (some ((i42, i43, i44, i45))) ((fn_ref21_types (xa.1, xa.2.1, xa.2.2.1, xa.2.2.2.1, xa.2.2.2.2.1, xa.2.2.2.2.2.1, xa.2.2.2.2.2.2)).bind fun (i53, i54, i55, i56) => cond (!decide (i53 = 0)) (some ((i53, i54, i55, i56))) ((fn_ref21_blocks (xa.1, xa.2.1, xa.2.2.1, xa.2.2.2.1, xa.2.2.2.2.1, xa.2.2.2.2.2.1, xa.2.2.2.2.2.2)).bind fun (i63, i65, i66, i67) => some ((i63, i65, i66, i67))))
set_option maxRecDepth 100000 in
set_option maxHeartbeats 4000000 in
theorem ref21_Check_ok {K : Hp} {xa : (Int × Int × (List (Int × Int)) × (List (List (Int × Bool))) × (List (Int × Bool)) × (List (Int × (List (Int × Int)) × (List (List (Int × Bool))) × (List (Int × Bool)))) × (List ((List (Int × Int × Int × Int × Bool)) × (Int × Int × Int × (List Int) × (List Int) × (List Int)))))} {adxa_2 : Option Addr} {cpxa_2 : Nat} {adxa_3 : Option Addr} {cpxa_3 : Nat} {adxa_4 : Option Addr} {cpxa_4 : Nat} {adxa_5 : Option Addr} {cpxa_5 : Nat} {adxa_6 : Option Addr} {cpxa_6 : Nat} (fxa_2 : Is K (.sl (.cons (.int .i64) (.one (.int .i64)))) [.slice adxa_2 xa.2.2.1.length cpxa_2] xa.2.2.1) (fxa_3 : Is K (.sl (.one (.sl (.cons (.int .i64) (.one .bool))))) [.slice adxa_3 xa.2.2.2.1.length cpxa_3] xa.2.2.2.1) (fxa_4 : Is K (.sl (.cons (.int .i64) (.one .bool))) [.slice adxa_4 xa.2.2.2.2.1.length cpxa_4] xa.2.2.2.2.1) (fxa_5 : Is K (.sl (.cons (.int .i64) (.cons (.sl (.cons (.int .i64) (.one (.int .i64)))) (.cons (.sl (.one (.sl (.cons (.int .i64) (.one .bool))))) (.one (.one (.sl (.cons (.int .i64) (.one .bool))))))))) [.slice adxa_5 xa.2.2.2.2.2.1.length cpxa_5] xa.2.2.2.2.2.1) (fxa_6 : Is K (.sl (.cons (.sl (.cons (.int .i64) (.cons (.int .i64) (.cons (.int .i64) (.cons (.int .i64) (.one .bool)))))) (.one (.cons (.int .i64) (.cons (.int .i64) (.cons (.int .i64) (.cons (.sl (.int .i64)) (.cons (.sl (.int .i64)) (.one (.sl (.int .i64))))))))))) [.slice adxa_6 xa.2.2.2.2.2.2.length cpxa_6] xa.2.2.2.2.2.2) {r : (Int × Int × Int × Int)} (h : fn_ref21_Check xa = some r) :
    Tr Try.prog 9 #[.agg #[ii xa.1, ii xa.2.1, .slice adxa_2 xa.2.2.1.length cpxa_2, .slice adxa_3 xa.2.2.2.1.length cpxa_3, .slice adxa_4 xa.2.2.2.2.1.length cpxa_4, .slice adxa_5 xa.2.2.2.2.2.1.length cpxa_5, .slice adxa_6 xa.2.2.2.2.2.2.length cpxa_6]] K [] (fun v K' L' => (∃ (i34 : Int) (i35 : Int) (i36 : Int) (i37 : Int), (i34, i35, i36, i37) = r ∧ .agg #[ii i34, ii i35, ii i36, ii i37] = v ∧ L' = []) ∧ K = K') := by
 refine Tr.k <| Tr.of Try.func9 rfl Try.ntmps9 rfl fun E F => ?_
 unfold fn_ref21_Check at h
 refine cr <| jbx [ii xa.1, ii xa.2.1, .slice adxa_2 xa.2.2.1.length cpxa_2, .slice adxa_3 xa.2.2.2.1.length cpxa_3, .slice adxa_4 xa.2.2.2.2.1.length cpxa_4, .slice adxa_5 xa.2.2.2.2.2.1.length cpxa_5, .slice adxa_6 xa.2.2.2.2.2.2.length cpxa_6] rfl rfl fun b38 => jal inf33 [ii 0, ii 0, ii 0, ii 0] rfl fun b39 => J.nil <| CJ.seq <| CJ.region ?_
 refine jv (.agg #[ii xa.1, ii xa.2.1, .slice adxa_2 xa.2.2.1.length cpxa_2, .slice adxa_3 xa.2.2.2.1.length cpxa_3, .slice adxa_4 xa.2.2.2.2.1.length cpxa_4, .slice adxa_5 xa.2.2.2.2.2.1.length cpxa_5, .slice adxa_6 xa.2.2.2.2.2.2.length cpxa_6]) (V.ld rfl (Ld.agg (cs := [ii xa.1, ii xa.2.1, .slice adxa_2 xa.2.2.1.length cpxa_2, .slice adxa_3 xa.2.2.2.1.length cpxa_3, .slice adxa_4 xa.2.2.2.2.1.length cpxa_4, .slice adxa_5 xa.2.2.2.2.2.1.length cpxa_5, .slice adxa_6 xa.2.2.2.2.2.2.length cpxa_6]) Try.underlying30 sz30 rfl (Rd.cls 1 0 rfl rfl))) ?_
 obtain ⟨r40, hr41, h⟩ := ob h
 refine J.op rfl (A.call (L1 := []) Try.call27 rfl (ref21_head_ok fxa_2 fxa_3 fxa_4 fxa_5 fxa_6 hr41) rfl rfl) ?_
 rintro _ _ _ ⟨v46, _, rfl, ⟨⟨i42, i43, i44, i45, rfl, rfl, rfl⟩, rfl⟩, _, rfl⟩
 refine jal inf33 [ii 0, ii 0, ii 0, ii 0] rfl fun b49 => js [ii i42, ii i43, ii i44, ii i45] sz33 rfl rfl rfl rfl rfl rfl <| J.nil <| CJ.seq <| cr <| jv _ (V.fad Try.underlying33 rfl nz31 rfl) ?_
 refine jv (ii i42) (V.ld rfl (Ld.sc sc31 (Rd.cl 0 rfl rfl))) <| jv (.bool (!decide (i42 = 0))) (V.neq rfl rfl) <| J.nil <| cc rfl h (fun hc50 h => ?_) fun hc50 h => ?_
 · refine cr <| jv (.agg #[ii i42, ii i43, ii i44, ii i45]) (V.ld rfl (Ld.agg (cs := [ii i42, ii i43, ii i44, ii i45]) Try.underlying33 sz33 rfl (Rd.cls 0 0 rfl rfl))) <| J.front 1 rfl <| js [ii i42, ii i43, ii i44, ii i45] sz33 rfl rfl rfl rfl rfl rfl <| J.nil <| CJ.ret ?_
   obtain rfl := si h
   exact ⟨_, _, Res.one rfl ⟨_, _, rfl, Ld.agg (cs := [ii i42, ii i43, ii i44, ii i45]) Try.underlying33 sz33 rfl (Rd.cls 0 0 rfl rfl)⟩, ⟨i42, i43, i44, i45, rfl, rfl, rfl⟩, (Hp.le_refl _), fun w hs => (Sep.dropAt 0 rfl (Sep.dropAt 0 rfl (Sep.dropAt 0 rfl hs)))⟩
 refine CJ.skip <| cr <| jv (.agg #[ii xa.1, ii xa.2.1, .slice adxa_2 xa.2.2.1.length cpxa_2, .slice adxa_3 xa.2.2.2.1.length cpxa_3, .slice adxa_4 xa.2.2.2.2.1.length cpxa_4, .slice adxa_5 xa.2.2.2.2.2.1.length cpxa_5, .slice adxa_6 xa.2.2.2.2.2.2.length cpxa_6]) (V.ld rfl (Ld.agg (cs := [ii xa.1, ii xa.2.1, .slice adxa_2 xa.2.2.1.length cpxa_2, .slice adxa_3 xa.2.2.2.1.length cpxa_3, .slice adxa_4 xa.2.2.2.2.1.length cpxa_4, .slice adxa_5 xa.2.2.2.2.2.1.length cpxa_5, .slice adxa_6 xa.2.2.2.2.2.2.length cpxa_6]) Try.underlying30 sz30 rfl (Rd.cls 2 0 rfl rfl))) ?_
 obtain ⟨r51, hr52, h⟩ := ob h
 refine J.op rfl (A.call (L1 := []) Try.call28 rfl (ref21_types_ok fxa_2 fxa_3 fxa_4 fxa_5 fxa_6 hr52) rfl rfl) ?_
 rintro _ _ _ ⟨v57, _, rfl, ⟨⟨i53, i54, i55, i56, rfl, rfl, rfl⟩, rfl⟩, _, rfl⟩
 refine js [ii i53, ii i54, ii i55, ii i56] sz33 rfl rfl rfl rfl rfl rfl <| J.nil <| CJ.seq <| cr <| jv _ (V.fad Try.underlying33 rfl nz31 rfl) <| jv (ii i53) (V.ld rfl (Ld.sc sc31 (Rd.cl 0 rfl rfl))) ?_
 refine jv (.bool (!decide (i53 = 0))) (V.neq rfl rfl) <| J.nil <| cc rfl h (fun hc60 h => ?_) fun hc60 h => ?_
 · refine cr <| jv (.agg #[ii i53, ii i54, ii i55, ii i56]) (V.ld rfl (Ld.agg (cs := [ii i53, ii i54, ii i55, ii i56]) Try.underlying33 sz33 rfl (Rd.cls 0 0 rfl rfl))) <| J.front 1 rfl <| js [ii i53, ii i54, ii i55, ii i56] sz33 rfl rfl rfl rfl rfl rfl <| J.nil <| CJ.ret ?_
   obtain rfl := si h
   exact ⟨_, _, Res.one rfl ⟨_, _, rfl, Ld.agg (cs := [ii i53, ii i54, ii i55, ii i56]) Try.underlying33 sz33 rfl (Rd.cls 0 0 rfl rfl)⟩, ⟨i53, i54, i55, i56, rfl, rfl, rfl⟩, (Hp.le_refl _), fun w hs => (Sep.dropAt 0 rfl (Sep.dropAt 0 rfl (Sep.dropAt 0 rfl hs)))⟩
 refine CJ.skip <| cr <| jv (.agg #[ii xa.1, ii xa.2.1, .slice adxa_2 xa.2.2.1.length cpxa_2, .slice adxa_3 xa.2.2.2.1.length cpxa_3, .slice adxa_4 xa.2.2.2.2.1.length cpxa_4, .slice adxa_5 xa.2.2.2.2.2.1.length cpxa_5, .slice adxa_6 xa.2.2.2.2.2.2.length cpxa_6]) (V.ld rfl (Ld.agg (cs := [ii xa.1, ii xa.2.1, .slice adxa_2 xa.2.2.1.length cpxa_2, .slice adxa_3 xa.2.2.2.1.length cpxa_3, .slice adxa_4 xa.2.2.2.2.1.length cpxa_4, .slice adxa_5 xa.2.2.2.2.2.1.length cpxa_5, .slice adxa_6 xa.2.2.2.2.2.2.length cpxa_6]) Try.underlying30 sz30 rfl (Rd.cls 2 0 rfl rfl))) ?_
 obtain ⟨r61, hr62, h⟩ := ob h
 refine J.op rfl (A.call (L1 := []) Try.call29 rfl (ref21_blocks_ok fxa_2 fxa_3 fxa_4 fxa_5 fxa_6 hr62) rfl rfl) ?_
 rintro _ _ _ ⟨v68, _, rfl, ⟨⟨i63, i65, i66, i67, rfl, rfl, rfl⟩, rfl⟩, _, rfl⟩
 refine J.front 1 rfl <| js [ii i63, ii i65, ii i66, ii i67] sz33 rfl rfl rfl rfl rfl rfl <| J.nil <| CJ.ret ?_
 obtain rfl := si h
 exact ⟨_, _, Res.one rfl ⟨_, _, rfl, Ld.agg (cs := [ii i63, ii i65, ii i66, ii i67]) Try.underlying33 sz33 rfl (Rd.cls 0 0 rfl rfl)⟩, ⟨i63, i65, i66, i67, rfl, rfl, rfl⟩, (Hp.le_refl _), fun w hs => (Sep.dropAt 0 rfl (Sep.dropAt 0 rfl (Sep.dropAt 0 rfl hs)))⟩

noncomputable def fn_ref21_OK (xa : (Int × Int × (List (Int × Int)) × (List (List (Int × Bool))) × (List (Int × Bool)) × (List (Int × (List (Int × Int)) × (List (List (Int × Bool))) × (List (Int × Bool)))) × (List ((List (Int × Int × Int × Int × Bool)) × (Int × Int × Int × (List Int) × (List Int) × (List Int)))))) : Option Bool :=
  (fn_ref21_Check (xa.1, xa.2.1, xa.2.2.1, xa.2.2.2.1, xa.2.2.2.2.1, xa.2.2.2.2.2.1, xa.2.2.2.2.2.2)).bind fun (i15, i17, i18, i19) => some (decide (i15 = 0))
set_option maxRecDepth 100000 in
set_option maxHeartbeats 4000000 in
theorem ref21_OK_ok {K : Hp} {xa : (Int × Int × (List (Int × Int)) × (List (List (Int × Bool))) × (List (Int × Bool)) × (List (Int × (List (Int × Int)) × (List (List (Int × Bool))) × (List (Int × Bool)))) × (List ((List (Int × Int × Int × Int × Bool)) × (Int × Int × Int × (List Int) × (List Int) × (List Int)))))} {adxa_2 : Option Addr} {cpxa_2 : Nat} {adxa_3 : Option Addr} {cpxa_3 : Nat} {adxa_4 : Option Addr} {cpxa_4 : Nat} {adxa_5 : Option Addr} {cpxa_5 : Nat} {adxa_6 : Option Addr} {cpxa_6 : Nat} (fxa_2 : Is K (.sl (.cons (.int .i64) (.one (.int .i64)))) [.slice adxa_2 xa.2.2.1.length cpxa_2] xa.2.2.1) (fxa_3 : Is K (.sl (.one (.sl (.cons (.int .i64) (.one .bool))))) [.slice adxa_3 xa.2.2.2.1.length cpxa_3] xa.2.2.2.1) (fxa_4 : Is K (.sl (.cons (.int .i64) (.one .bool))) [.slice adxa_4 xa.2.2.2.2.1.length cpxa_4] xa.2.2.2.2.1) (fxa_5 : Is K (.sl (.cons (.int .i64) (.cons (.sl (.cons (.int .i64) (.one (.int .i64)))) (.cons (.sl (.one (.sl (.cons (.int .i64) (.one .bool))))) (.one (.one (.sl (.cons (.int .i64) (.one .bool))))))))) [.slice adxa_5 xa.2.2.2.2.2.1.length cpxa_5] xa.2.2.2.2.2.1) (fxa_6 : Is K (.sl (.cons (.sl (.cons (.int .i64) (.cons (.int .i64) (.cons (.int .i64) (.cons (.int .i64) (.one .bool)))))) (.one (.cons (.int .i64) (.cons (.int .i64) (.cons (.int .i64) (.cons (.sl (.int .i64)) (.cons (.sl (.int .i64)) (.one (.sl (.int .i64))))))))))) [.slice adxa_6 xa.2.2.2.2.2.2.length cpxa_6] xa.2.2.2.2.2.2) {r : Bool} (h : fn_ref21_OK xa = some r) :
    Tr Try.prog 16 #[.agg #[ii xa.1, ii xa.2.1, .slice adxa_2 xa.2.2.1.length cpxa_2, .slice adxa_3 xa.2.2.2.1.length cpxa_3, .slice adxa_4 xa.2.2.2.2.1.length cpxa_4, .slice adxa_5 xa.2.2.2.2.2.1.length cpxa_5, .slice adxa_6 xa.2.2.2.2.2.2.length cpxa_6]] K [] (fun v K' L' => (∃ (t11 : Bool), t11 = r ∧ .bool t11 = v ∧ L' = []) ∧ K = K') := by
 refine Tr.k <| Tr.of Try.func16 rfl Try.ntmps16 rfl fun E F => ?_
 unfold fn_ref21_OK at h
 refine cr <| jbx [ii xa.1, ii xa.2.1, .slice adxa_2 xa.2.2.1.length cpxa_2, .slice adxa_3 xa.2.2.2.1.length cpxa_3, .slice adxa_4 xa.2.2.2.2.1.length cpxa_4, .slice adxa_5 xa.2.2.2.2.2.1.length cpxa_5, .slice adxa_6 xa.2.2.2.2.2.2.length cpxa_6] rfl rfl fun b12 => ja (.bool false) rfl <| J.nil <| CJ.seq <| CJ.region ?_
 refine jv (.agg #[ii xa.1, ii xa.2.1, .slice adxa_2 xa.2.2.1.length cpxa_2, .slice adxa_3 xa.2.2.2.1.length cpxa_3, .slice adxa_4 xa.2.2.2.2.1.length cpxa_4, .slice adxa_5 xa.2.2.2.2.2.1.length cpxa_5, .slice adxa_6 xa.2.2.2.2.2.2.length cpxa_6]) (V.ld rfl (Ld.agg (cs := [ii xa.1, ii xa.2.1, .slice adxa_2 xa.2.2.1.length cpxa_2, .slice adxa_3 xa.2.2.2.1.length cpxa_3, .slice adxa_4 xa.2.2.2.2.1.length cpxa_4, .slice adxa_5 xa.2.2.2.2.2.1.length cpxa_5, .slice adxa_6 xa.2.2.2.2.2.2.length cpxa_6]) Try.underlying30 sz30 rfl (Rd.cls 0 0 rfl rfl))) ?_
 obtain ⟨r13, hr14, h⟩ := ob h
 refine J.op rfl (A.call (L1 := []) Try.call9 rfl (ref21_Check_ok fxa_2 fxa_3 fxa_4 fxa_5 fxa_6 hr14) rfl rfl) ?_
 rintro _ _ _ ⟨v20, _, rfl, ⟨⟨i15, i17, i18, i19, rfl, rfl, rfl⟩, rfl⟩, _, rfl⟩
 refine jv (ii i15) (V.fld (ft := 0) Try.underlying33 rfl (Ld0.sc sc31 rfl) rfl) <| jv (.bool (decide (i15 = 0))) (V.eql rfl rfl) <| ja (.bool (decide (i15 = 0))) rfl <| J.nil <| CJ.ret ?_
 obtain rfl := si h
 exact ⟨_, _, Res.one rfl rfl, ⟨decide (i15 = 0), rfl, rfl, rfl⟩, (Hp.le_refl _), fun w hs => (Sep.dropAt 0 rfl hs)⟩

noncomputable def fn_tick_Counter_Add_zii (xb : Int) (xc : Int) : Option Unit :=
  some (())
set_option maxRecDepth 100000 in
set_option maxHeartbeats 4000000 in
theorem tick_Counter_Add_zii_ok {K : Hp} {xb : Int} {xc : Int}   {r : Unit} (h : fn_tick_Counter_Add_zii xb xc = some r) :
    Tr Try.prog 19 #[.pointer none, ii xb, ii xc] K [] (fun v K' L' => (() = r ∧ .tuple #[] = v ∧ L' = []) ∧ K = K') := by
 refine Tr.k <| Tr.of Try.func19 rfl Try.ntmps19 rfl fun E F => ?_
 unfold fn_tick_Counter_Add_zii at h
 refine cr <| jm (.pointer none) rfl <| jv (.bool false) (Val.eq (V.pn_neq Try.underlying41 rfl rfl) rfl) <| jm (.bool false) rfl <| J.skip rfl rfl rfl rfl rfl <| J.skip rfl rfl rfl rfl rfl ?_
 refine jv (.bool false) (V.pickF rfl rfl rfl) <| jm (.bool false) rfl <| J.skip rfl rfl rfl rfl rfl <| J.skip rfl rfl rfl rfl rfl <| jv (.bool false) (V.pickF rfl rfl rfl) <| J.nil <| CJ.condK (b := false) rfl rfl ?_
 refine CJ.skip ?_
 obtain rfl := si h
 exact ⟨_, _, Res.zero rfl, ⟨rfl, rfl, rfl⟩, (Hp.le_refl _), fun w hs => hs⟩

noncomputable def fn_valid_head_az (xa : (Int × Int × (List (Int × Int)) × (List (List (Int × Bool))) × (List (Int × Bool)) × (List (Int × (List (Int × Int)) × (List (List (Int × Bool))) × (List (Int × Bool)))) × (List ((List (Int × Int × Int × Int × Bool)) × (Int × Int × Int × (List Int) × (List Int) × (List Int)))))) : Option (Int × Int × Int × Int) :=
  cond ((decide (xa.1 < 1)) || (decide (xa.2.1 < xa.1))) (some ((7, 0, 0, 0))) (cond (decide (65536 < xa.2.1)) (some ((6, 0, 0, 0))) (some ((0, 0, 0, 0))))
set_option maxRecDepth 100000 in
set_option maxHeartbeats 4000000 in
theorem valid_head_az_ok {K : Hp} {xa : (Int × Int × (List (Int × Int)) × (List (List (Int × Bool))) × (List (Int × Bool)) × (List (Int × (List (Int × Int)) × (List (List (Int × Bool))) × (List (Int × Bool)))) × (List ((List (Int × Int × Int × Int × Bool)) × (Int × Int × Int × (List Int) × (List Int) × (List Int)))))} {adxa_2 : Option Addr} {cpxa_2 : Nat} {adxa_3 : Option Addr} {cpxa_3 : Nat} {adxa_4 : Option Addr} {cpxa_4 : Nat} {adxa_5 : Option Addr} {cpxa_5 : Nat} {adxa_6 : Option Addr} {cpxa_6 : Nat} (fxa_2 : Is K (.sl (.cons (.int .i64) (.one (.int .i64)))) [.slice adxa_2 xa.2.2.1.length cpxa_2] xa.2.2.1) (fxa_3 : Is K (.sl (.one (.sl (.cons (.int .i64) (.one .bool))))) [.slice adxa_3 xa.2.2.2.1.length cpxa_3] xa.2.2.2.1) (fxa_4 : Is K (.sl (.cons (.int .i64) (.one .bool))) [.slice adxa_4 xa.2.2.2.2.1.length cpxa_4] xa.2.2.2.2.1) (fxa_5 : Is K (.sl (.cons (.int .i64) (.cons (.sl (.cons (.int .i64) (.one (.int .i64)))) (.cons (.sl (.one (.sl (.cons (.int .i64) (.one .bool))))) (.one (.one (.sl (.cons (.int .i64) (.one .bool))))))))) [.slice adxa_5 xa.2.2.2.2.2.1.length cpxa_5] xa.2.2.2.2.2.1) (fxa_6 : Is K (.sl (.cons (.sl (.cons (.int .i64) (.cons (.int .i64) (.cons (.int .i64) (.cons (.int .i64) (.one .bool)))))) (.one (.cons (.int .i64) (.cons (.int .i64) (.cons (.int .i64) (.cons (.sl (.int .i64)) (.cons (.sl (.int .i64)) (.one (.sl (.int .i64))))))))))) [.slice adxa_6 xa.2.2.2.2.2.2.length cpxa_6] xa.2.2.2.2.2.2) {r : (Int × Int × Int × Int)} (h : fn_valid_head_az xa = some r) :
    Tr Try.prog 20 #[.agg #[ii xa.1, ii xa.2.1, .slice adxa_2 xa.2.2.1.length cpxa_2, .slice adxa_3 xa.2.2.2.1.length cpxa_3, .slice adxa_4 xa.2.2.2.2.1.length cpxa_4, .slice adxa_5 xa.2.2.2.2.2.1.length cpxa_5, .slice adxa_6 xa.2.2.2.2.2.2.length cpxa_6], .pointer none] K [] (fun v K' L' => (∃ (i9 : Int) (i10 : Int) (i11 : Int) (i12 : Int), (i9, i10, i11, i12) = r ∧ .agg #[ii i9, ii i10, ii i11, ii i12] = v ∧ L' = []) ∧ K = K') := by
 refine Tr.k <| Tr.of Try.func20 rfl Try.ntmps20 rfl fun E F => ?_
 unfold fn_valid_head_az at h
 refine cr <| jbx [ii xa.1, ii xa.2.1, .slice adxa_2 xa.2.2.1.length cpxa_2, .slice adxa_3 xa.2.2.2.1.length cpxa_3, .slice adxa_4 xa.2.2.2.2.1.length cpxa_4, .slice adxa_5 xa.2.2.2.2.2.1.length cpxa_5, .slice adxa_6 xa.2.2.2.2.2.2.length cpxa_6] rfl rfl fun b13 => jal inf39 [ii 0, ii 0, ii 0, ii 0] rfl fun b14 => J.nil <| CJ.seq <| CJ.region ?_
 refine jv (.agg #[ii 0, ii 0, ii 0, ii 0]) (V.build inf39 places39 rfl rfl) <| jal inf39 [ii 0, ii 0, ii 0, ii 0] rfl fun b15 => js [ii 0, ii 0, ii 0, ii 0] sz39 rfl rfl rfl rfl rfl rfl <| J.nil <| CJ.seq <| CJ.block <| CJ.seq ?_
 refine CJ.region <| jv _ (V.fad Try.underlying30 rfl nz3 rfl) <| jv (ii xa.1) (V.ld rfl (Ld.sc sc3 (Rd.cl 2 rfl rfl))) <| jv (.bool (decide (xa.1 < 1))) (V.lss rfl rfl) <| jm (.bool (decide (xa.1 < 1))) rfl <| J.cut 6 <| jmeet [(17, .bool ((decide (xa.1 < 1)) || (decide (xa.2.1 < xa.1)))), (2, .pointer (some ⟨b13, 0, none⟩)), (4, .pointer (some ⟨b14, 0, none⟩)), (5, .pointer (some ⟨b15, 0, none⟩))] ?_ ?_
 · rcases bt (decide (xa.1 < 1)) with hc18 | hc18
   · refine J.skip rfl rfl rfl rfl hc18 <| J.skip rfl rfl rfl rfl hc18 <| J.skip rfl rfl rfl rfl hc18 <| J.skip rfl rfl rfl rfl hc18 <| J.skip rfl rfl rfl rfl hc18 <| jv (.bool true) (V.pickT rfl hc18 rfl) <| J.nil ?_
     exact ⟨rfl, ⟨(by simp only [hc18]; rfl), rfl, rfl, rfl, trivial⟩, rfl, rfl⟩
   refine J.run rfl rfl rfl hc18 <| jv _ (V.fad Try.underlying30 rfl nz3 rfl) <| J.run rfl rfl rfl hc18 <| jv (ii xa.2.1) (V.ld rfl (Ld.sc sc3 (Rd.cl 2 rfl rfl))) <| J.run rfl rfl rfl hc18 <| jv _ (V.fad Try.underlying30 rfl nz3 rfl) <| J.run rfl rfl rfl hc18 ?_
   refine jv (ii xa.1) (V.ld rfl (Ld.sc sc3 (Rd.cl 2 rfl rfl))) <| J.run rfl rfl rfl hc18 <| jv (.bool (decide (xa.2.1 < xa.1))) (V.lss rfl rfl) <| jv (.bool (decide (xa.2.1 < xa.1))) (V.pickF rfl hc18 rfl) <| J.nil ?_
   exact ⟨rfl, ⟨(by simp only [hc18]; rfl), rfl, rfl, rfl, trivial⟩, rfl, rfl⟩
 intro ρ
 refine ja (.bool ((decide (xa.1 < 1)) || (decide (xa.2.1 < xa.1)))) rfl <| J.nil <| cc rfl h (fun hc19 h => ?_) fun hc19 h => ?_
 · refine CJ.region <| jv _ (V.fad Try.underlying39 rfl nz31 rfl) <| js1 [ii 7, ii 0, ii 0, ii 0] sz31 rfl rfl rfl rfl rfl rfl <| J.nil <| cr <| jv (.agg #[ii 7, ii 0, ii 0, ii 0]) (V.ld rfl (Ld.agg (cs := [ii 7, ii 0, ii 0, ii 0]) Try.underlying39 sz39 rfl (Rd.cls 0 0 rfl rfl))) ?_
   refine J.front 1 rfl <| js [ii 7, ii 0, ii 0, ii 0] sz39 rfl rfl rfl rfl rfl rfl <| J.nil <| CJ.ret ?_
   obtain rfl := si h
   exact ⟨_, _, Res.one rfl ⟨_, _, rfl, Ld.agg (cs := [ii 7, ii 0, ii 0, ii 0]) Try.underlying39 sz39 rfl (Rd.cls 0 0 rfl rfl)⟩, ⟨7, 0, 0, 0, rfl, rfl, rfl⟩, (Hp.le_refl _), fun w hs => (Sep.dropAt 0 rfl (Sep.dropAt 0 rfl (Sep.dropAt 0 rfl hs)))⟩
 refine cr <| jv _ (V.fad Try.underlying30 rfl nz3 rfl) <| jv (ii xa.2.1) (V.ld rfl (Ld.sc sc3 (Rd.cl 2 rfl rfl))) <| jv (.bool (decide (65536 < xa.2.1))) (V.gtr rfl rfl) <| ja (.bool (decide (65536 < xa.2.1))) rfl <| J.nil ?_
 refine cc rfl h (fun hc20 h => ?_) fun hc20 h => ?_
 · refine CJ.region <| jv _ (V.fad Try.underlying39 rfl nz31 rfl) <| js1 [ii 6, ii 0, ii 0, ii 0] sz31 rfl rfl rfl rfl rfl rfl <| J.nil <| cr <| jv (.agg #[ii 6, ii 0, ii 0, ii 0]) (V.ld rfl (Ld.agg (cs := [ii 6, ii 0, ii 0, ii 0]) Try.underlying39 sz39 rfl (Rd.cls 0 0 rfl rfl))) ?_
   refine J.front 1 rfl <| js [ii 6, ii 0, ii 0, ii 0] sz39 rfl rfl rfl rfl rfl rfl <| J.nil <| CJ.ret ?_
   obtain rfl := si h
   exact ⟨_, _, Res.one rfl ⟨_, _, rfl, Ld.agg (cs := [ii 6, ii 0, ii 0, ii 0]) Try.underlying39 sz39 rfl (Rd.cls 0 0 rfl rfl)⟩, ⟨6, 0, 0, 0, rfl, rfl, rfl⟩, (Hp.le_refl _), fun w hs => (Sep.dropAt 0 rfl (Sep.dropAt 0 rfl (Sep.dropAt 0 rfl hs)))⟩
 refine CJ.skip <| cr <| jv (.agg #[ii 0, ii 0, ii 0, ii 0]) (V.ld rfl (Ld.agg (cs := [ii 0, ii 0, ii 0, ii 0]) Try.underlying39 sz39 rfl (Rd.cls 0 0 rfl rfl))) <| J.front 1 rfl <| js [ii 0, ii 0, ii 0, ii 0] sz39 rfl rfl rfl rfl rfl rfl <| J.nil ?_
 refine CJ.ret ?_
 obtain rfl := si h
 exact ⟨_, _, Res.one rfl ⟨_, _, rfl, Ld.agg (cs := [ii 0, ii 0, ii 0, ii 0]) Try.underlying39 sz39 rfl (Rd.cls 0 0 rfl rfl)⟩, ⟨0, 0, 0, 0, rfl, rfl, rfl⟩, (Hp.le_refl _), fun w hs => (Sep.dropAt 0 rfl (Sep.dropAt 0 rfl (Sep.dropAt 0 rfl hs)))⟩

noncomputable def fn_valid_bounds_1_ip0_iikkkkk (xa : Int) (qa0 : Int) (qa1 : Int) (qa2 : (List (Int × Int))) (qa3 : (List (List (Int × Bool)))) (qa4 : (List (Int × Bool))) (qa5 : (List (Int × (List (Int × Int)) × (List (List (Int × Bool))) × (List (Int × Bool))))) (qa6 : (List ((List (Int × Int × Int × Int × Bool)) × (Int × Int × Int × (List Int) × (List Int) × (List Int))))) : Option Bool :=
  some ((decide (0 ≤ xa)) && (decide (xa < qa0)))
set_option maxRecDepth 100000 in
set_option maxHeartbeats 4000000 in
theorem valid_bounds_1_ip0_iikkkkk_ok {K : Hp} {xa : Int} {qa0 : Int} {qa1 : Int} {qa2 : (List (Int × Int))} {qa3 : (List (List (Int × Bool)))} {qa4 : (List (Int × Bool))} {qa5 : (List (Int × (List (Int × Int)) × (List (List (Int × Bool))) × (List (Int × Bool))))} {qa6 : (List ((List (Int × Int × Int × Int × Bool)) × (Int × Int × Int × (List Int) × (List Int) × (List Int))))} {pba : Nat} {adqa2 : Option Addr} {cpqa2 : Nat} {adqa3 : Option Addr} {cpqa3 : Nat} {adqa4 : Option Addr} {cpqa4 : Nat} {adqa5 : Option Addr} {cpqa5 : Nat} {adqa6 : Option Addr} {cpqa6 : Nat} (fqa2 : Is K (.sl (.cons (.int .i64) (.one (.int .i64)))) [.slice adqa2 qa2.length cpqa2] qa2) (fqa3 : Is K (.sl (.one (.sl (.cons (.int .i64) (.one .bool))))) [.slice adqa3 qa3.length cpqa3] qa3) (fqa4 : Is K (.sl (.cons (.int .i64) (.one .bool))) [.slice adqa4 qa4.length cpqa4] qa4) (fqa5 : Is K (.sl (.cons (.int .i64) (.cons (.sl (.cons (.int .i64) (.one (.int .i64)))) (.cons (.sl (.one (.sl (.cons (.int .i64) (.one .bool))))) (.one (.one (.sl (.cons (.int .i64) (.one .bool))))))))) [.slice adqa5 qa5.length cpqa5] qa5) (fqa6 : Is K (.sl (.cons (.sl (.cons (.int .i64) (.cons (.int .i64) (.cons (.int .i64) (.cons (.int .i64) (.one .bool)))))) (.one (.cons (.int .i64) (.cons (.int .i64) (.cons (.int .i64) (.cons (.sl (.int .i64)) (.cons (.sl (.int .i64)) (.one (.sl (.int .i64))))))))))) [.slice adqa6 qa6.length cpqa6] qa6) {r : Bool} (h : fn_valid_bounds_1_ip0_iikkkkk xa qa0 qa1 qa2 qa3 qa4 qa5 qa6 = some r) :
    Tr Try.prog 32 #[ii xa, .pointer (some ⟨pba, 0, none⟩)] K [Cl pba 30 [ii qa0, ii qa1, .slice adqa2 qa2.length cpqa2, .slice adqa3 qa3.length cpqa3, .slice adqa4 qa4.length cpqa4, .slice adqa5 qa5.length cpqa5, .slice adqa6 qa6.length cpqa6]] (fun v K' L' => (∃ (t4 : Bool), t4 = r ∧ .bool t4 = v ∧ L' = [Cl pba 30 [ii qa0, ii qa1, .slice adqa2 qa2.length cpqa2, .slice adqa3 qa3.length cpqa3, .slice adqa4 qa4.length cpqa4, .slice adqa5 qa5.length cpqa5, .slice adqa6 qa6.length cpqa6]]) ∧ K = K') := by
 refine Tr.k <| Tr.of Try.func32 rfl Try.ntmps32 rfl fun E F => ?_
 unfold fn_valid_bounds_1_ip0_iikkkkk at h
 refine cr <| ja (.bool false) rfl <| J.nil <| cr <| jm (ii xa) rfl ?_
 refine jv (.bool (decide (0 ≤ xa))) (V.geq rfl rfl) <| jm (.bool (decide (0 ≤ xa))) rfl <| J.cut 5 <| jmeet [(11, .bool ((decide (0 ≤ xa)) && (decide (xa < qa0))))] ?_ ?_
 · rcases bt (decide (0 ≤ xa)) with hc7 | hc7
   · refine J.run rfl rfl rfl hc7 <| jm (ii xa) rfl <| J.run rfl rfl rfl hc7 <| jv _ (V.fad Try.underlying30 rfl nz3 rfl) <| J.run rfl rfl rfl hc7 <| jv (ii qa0) (V.ld rfl (Ld.sc sc3 (Rd.cl 0 rfl rfl))) <| J.run rfl rfl rfl hc7 ?_
     refine jv (.bool (decide (xa < qa0))) (V.lss rfl rfl) <| jv (.bool (decide (xa < qa0))) (V.pickT rfl hc7 rfl) <| J.nil ?_
     exact ⟨rfl, ⟨(by simp only [hc7]; rfl), trivial⟩, rfl, rfl⟩
   refine J.skip rfl rfl rfl rfl hc7 <| J.skip rfl rfl rfl rfl hc7 <| J.skip rfl rfl rfl rfl hc7 <| J.skip rfl rfl rfl rfl hc7 <| jv (.bool false) (V.pickF rfl hc7 rfl) <| J.nil ?_
   exact ⟨rfl, ⟨(by simp only [hc7]; rfl), trivial⟩, rfl, rfl⟩
 intro ρ
 refine ja (.bool ((decide (0 ≤ xa)) && (decide (xa < qa0)))) rfl <| J.nil <| CJ.ret ?_
 obtain rfl := si h
 exact ⟨_, _, Res.one rfl rfl, ⟨(decide (0 ≤ xa)) && (decide (xa < qa0)), rfl, rfl, rfl⟩, (Hp.le_refl _), fun w hs => hs⟩
noncomputable def fn_valid_bounds_az_l1 (xa : (Int × Int × (List (Int × Int)) × (List (List (Int × Bool))) × (List (Int × Bool)) × (List (Int × (List (Int × Int)) × (List (List (Int × Bool))) × (List (Int × Bool)))) × (List ((List (Int × Int × Int × Int × Bool)) × (Int × Int × Int × (List Int) × (List Int) × (List Int)))))) : Int → Option (Int ⊕ (Unit ⊕ (Int × Int × Int × Int))) := fun (i430 : Int) => cond (decide (i430 < (((xa.2.2.1.length : Nat) : Int)))) ((getI xa.2.2.1 i430).bind fun x476 => (fn_tick_Counter_Add_zii 1 1).bind fun _ => (fn_valid_bounds_1_ip0_iikkkkk x476.1 xa.1 xa.2.1 xa.2.2.1 xa.2.2.2.1 xa.2.2.2.2.1 xa.2.2.2.2.2.1 xa.2.2.2.2.2.2).bind fun t493 => (cond (!t493) (some (true)) ((fn_valid_bounds_1_ip0_iikkkkk x476.2 xa.1 xa.2.1 xa.2.2.1 xa.2.2.2.1 xa.2.2.2.2.1 xa.2.2.2.2.2.1 xa.2.2.2.2.2.2).bind fun t509 => some (!t509))).bind fun t504 => cond (t504) (some (.inr ((.inr ((7, 1, i430, 0)))))) (some (.inl (IntKind.wrap .i64 (i430 + 1))))) (some (.inr ((.inl ()))))
noncomputable def fn_valid_bounds_az (xa : (Int × Int × (List (Int × Int)) × (List (List (Int × Bool))) × (List (Int × Bool)) × (List (Int × (List (Int × Int)) × (List (List (Int × Bool))) × (List (Int × Bool)))) × (List ((List (Int × Int × Int × Int × Bool)) × (Int × Int × Int × (List Int) × (List Int) × (List Int)))))) : Option (Int × Int × Int × Int) :=
  cond (decide (65536 < (((xa.2.2.1.length : Nat) : Int)))) (some ((6, 1, 0, 0))) ((loop (fn_valid_bounds_az_l1 xa) 0 : Option (Unit ⊕ (Int × Int × Int × Int))).bind fun o => match o with | .inr r => some r | .inl () => some ((0, 0, 0, 0)))
set_option maxRecDepth 100000 in
set_option maxHeartbeats 4000000 in
theorem valid_bounds_az_ok {K : Hp} {xa : (Int × Int × (List (Int × Int)) × (List (List (Int × Bool))) × (List (Int × Bool)) × (List (Int × (List (Int × Int)) × (List (List (Int × Bool))) × (List (Int × Bool)))) × (List ((List (Int × Int × Int × Int × Bool)) × (Int × Int × Int × (List Int) × (List Int) × (List Int)))))} {adxa_2 : Option Addr} {cpxa_2 : Nat} {adxa_3 : Option Addr} {cpxa_3 : Nat} {adxa_4 : Option Addr} {cpxa_4 : Nat} {adxa_5 : Option Addr} {cpxa_5 : Nat} {adxa_6 : Option Addr} {cpxa_6 : Nat} (fxa_2 : Is K (.sl (.cons (.int .i64) (.one (.int .i64)))) [.slice adxa_2 xa.2.2.1.length cpxa_2] xa.2.2.1) (fxa_3 : Is K (.sl (.one (.sl (.cons (.int .i64) (.one .bool))))) [.slice adxa_3 xa.2.2.2.1.length cpxa_3] xa.2.2.2.1) (fxa_4 : Is K (.sl (.cons (.int .i64) (.one .bool))) [.slice adxa_4 xa.2.2.2.2.1.length cpxa_4] xa.2.2.2.2.1) (fxa_5 : Is K (.sl (.cons (.int .i64) (.cons (.sl (.cons (.int .i64) (.one (.int .i64)))) (.cons (.sl (.one (.sl (.cons (.int .i64) (.one .bool))))) (.one (.one (.sl (.cons (.int .i64) (.one .bool))))))))) [.slice adxa_5 xa.2.2.2.2.2.1.length cpxa_5] xa.2.2.2.2.2.1) (fxa_6 : Is K (.sl (.cons (.sl (.cons (.int .i64) (.cons (.int .i64) (.cons (.int .i64) (.cons (.int .i64) (.one .bool)))))) (.one (.cons (.int .i64) (.cons (.int .i64) (.cons (.int .i64) (.cons (.sl (.int .i64)) (.cons (.sl (.int .i64)) (.one (.sl (.int .i64))))))))))) [.slice adxa_6 xa.2.2.2.2.2.2.length cpxa_6] xa.2.2.2.2.2.2) {r : (Int × Int × Int × Int)} (h : fn_valid_bounds_az xa = some r) :
    Tr Try.prog 21 #[.agg #[ii xa.1, ii xa.2.1, .slice adxa_2 xa.2.2.1.length cpxa_2, .slice adxa_3 xa.2.2.2.1.length cpxa_3, .slice adxa_4 xa.2.2.2.2.1.length cpxa_4, .slice adxa_5 xa.2.2.2.2.2.1.length cpxa_5, .slice adxa_6 xa.2.2.2.2.2.2.length cpxa_6], .pointer none] K [] (fun v K' L' => (∃ (i257 : Int) (i258 : Int) (i259 : Int) (i260 : Int), (i257, i258, i259, i260) = r ∧ .agg #[ii i257, ii i258, ii i259, ii i260] = v ∧ L' = []) ∧ K = K') := by
 refine Tr.k <| Tr.of Try.func21 rfl Try.ntmps21 rfl fun E F => ?_
 unfold fn_valid_bounds_az at h
 refine cr <| jbx [ii xa.1, ii xa.2.1, .slice adxa_2 xa.2.2.1.length cpxa_2, .slice adxa_3 xa.2.2.2.1.length cpxa_3, .slice adxa_4 xa.2.2.2.2.1.length cpxa_4, .slice adxa_5 xa.2.2.2.2.2.1.length cpxa_5, .slice adxa_6 xa.2.2.2.2.2.2.length cpxa_6] rfl rfl fun b261 => jal inf39 [ii 0, ii 0, ii 0, ii 0] rfl fun b262 => J.nil <| CJ.seq <| CJ.seq ?_
 refine CJ.region <| jv _ (V.fad Try.underlying30 rfl nz22 rfl) <| jv (.slice adxa_2 xa.2.2.1.length cpxa_2) (V.ld rfl (Ld.sc sc22 (Rd.cl 1 rfl rfl))) <| jv (ii (((xa.2.2.1.length : Nat) : Int))) (V.len Try.underlying22 rfl) <| jv (.bool (decide (65536 < (((xa.2.2.1.length : Nat) : Int))))) (V.gtr rfl rfl) <| J.nil <| cc rfl h (fun hc263 h => ?_) fun hc263 h => ?_
 · refine cr <| jv (.agg #[ii 6, ii 1, ii 0, ii 0]) (V.build inf39 places39 rfl rfl) <| js [ii 6, ii 1, ii 0, ii 0] sz39 rfl rfl rfl rfl rfl rfl <| J.nil <| CJ.ret ?_
   obtain rfl := si h
   exact ⟨_, _, Res.one rfl ⟨_, _, rfl, Ld.agg (cs := [ii 6, ii 1, ii 0, ii 0]) Try.underlying39 sz39 rfl (Rd.cls 0 0 rfl rfl)⟩, ⟨6, 1, 0, 0, rfl, rfl, rfl⟩, (Hp.le_refl _), fun w hs => (Sep.dropAt 0 rfl (Sep.dropAt 0 rfl hs))⟩
 refine CJ.skip <| cr <| jv (.func (.func 32) #[] #[.pointer (some ⟨b261, 0, none⟩)]) (V.mkf rfl) <| ja (.func (.func 32) #[] #[.pointer (some ⟨b261, 0, none⟩)]) rfl <| J.nil <| CJ.seq ?_
 refine cr <| jv _ (V.fad Try.underlying30 rfl nz22 rfl) <| jv (.slice adxa_2 xa.2.2.1.length cpxa_2) (V.ld rfl (Ld.sc sc22 (Rd.cl 1 rfl rfl))) <| jv (ii (((xa.2.2.1.length : Nat) : Int))) (V.len Try.underlying22 rfl) <| jm (ii 0) rfl <| J.nil ?_
 obtain ⟨o388, ho389, h⟩ := ob h
 refine CJ.joinN (o := o388) (fun s ρ K' L' => () = s ∧ Fits [(4, .pointer (some ⟨b262, 0, none⟩))] ρ ∧ K = K' ∧ L' = Cl b262 39 [ii 0, ii 0, ii 0, ii 0] :: F) ?_ ?_
 · refine CJ.block <| CJ.loop (fun s ρ K' L' => ∃ (i430 : Int), i430 = s ∧ Fits [(1, .pointer none), (4, .pointer (some ⟨b262, 0, none⟩)), (5, .func (.func 32) #[] #[.pointer (some ⟨b261, 0, none⟩)]), (15, .slice adxa_2 xa.2.2.1.length cpxa_2), (16, ii (((xa.2.2.1.length : Nat) : Int))), (17, ii i430)] ρ ∧ K = K' ∧ L' = Cl b262 39 [ii 0, ii 0, ii 0, ii 0] :: Cl b261 30 [ii xa.1, ii xa.2.1, .slice adxa_2 xa.2.2.1.length cpxa_2, .slice adxa_3 xa.2.2.2.1.length cpxa_3, .slice adxa_4 xa.2.2.2.2.1.length cpxa_4, .slice adxa_5 xa.2.2.2.2.2.1.length cpxa_5, .slice adxa_6 xa.2.2.2.2.2.2.length cpxa_6] :: F) ho389 ⟨0, rfl, ⟨rfl, rfl, rfl, rfl, rfl, rfl, trivial⟩, rfl, rfl⟩ ?_
   rintro s ρ _ _ r474 ⟨i430, rfl, hf472, rfl, rfl⟩ h471
   obtain ⟨ρ, rfl⟩ := hf472.ex
   refine cr <| jv (.bool (decide (i430 < (((xa.2.2.1.length : Nat) : Int))))) (V.lss rfl rfl) <| J.nil <| CJ.seq <| cc rfl h471 (fun hc475 h471 => ?_) fun hc475 h471 => ?_
   · refine CJ.skip <| CJ.seq <| CJ.block <| cr <| jm (ii i430) rfl ?_
     obtain ⟨x476, hx477, h471⟩ := ob h471
     obtain ⟨p478, p479, p480⟩ := getI_some hx477
     obtain ⟨b481, o482, e483, a484⟩ := (fxa_2).at p479
     refine jv _ (V.iad Try.underlying22 sz50 rfl e483 rfl p478 p480) <| jv (.agg #[ii x476.1, ii x476.2]) (V.ld rfl (Ld.aggK (cs := [ii x476.1, ii x476.2]) Try.underlying50 sz50 rfl ⟨((a484).fst).int, (((a484).snd).one).int, trivial⟩ (Hp.le_refl _))) <| jal inf50 [ii 0, ii 0] rfl fun b485 => ja (ii i430) rfl <| js [ii x476.1, ii x476.2] sz50 rfl rfl rfl rfl rfl rfl <| J.nil <| CJ.seq ?_
     refine CJ.region <| jm (.pointer none) rfl ?_
     obtain ⟨r486, hr487, h471⟩ := ob h471
     refine J.op rfl (A.call (L1 := []) Try.call19 rfl (tick_Counter_Add_zii_ok hr487) rfl rfl) ?_
     rintro _ _ _ ⟨v488, _, rfl, ⟨⟨rfl, rfl, rfl⟩, rfl⟩, _, rfl⟩
     refine J.nil <| cr <| jm (.func (.func 32) #[] #[.pointer (some ⟨b261, 0, none⟩)]) rfl <| jv _ (V.fad Try.underlying50 rfl nz3 rfl) <| jv (ii x476.1) (V.ld rfl (Ld.sc sc3 (Rd.cl 0 rfl rfl))) ?_
     obtain ⟨r491, hr492, h471⟩ := ob h471
     refine J.front 2 rfl <| J.op rfl (A.call (L1 := [Cl b261 30 [ii xa.1, ii xa.2.1, .slice adxa_2 xa.2.2.1.length cpxa_2, .slice adxa_3 xa.2.2.2.1.length cpxa_3, .slice adxa_4 xa.2.2.2.2.1.length cpxa_4, .slice adxa_5 xa.2.2.2.2.2.1.length cpxa_5, .slice adxa_6 xa.2.2.2.2.2.2.length cpxa_6]]) Try.call32 rfl (valid_bounds_1_ip0_iikkkkk_ok fxa_2 fxa_3 fxa_4 fxa_5 fxa_6 hr492) rfl rfl) ?_
     rintro _ _ _ ⟨v494, _, rfl, ⟨⟨t493, rfl, rfl, rfl⟩, rfl⟩, _, rfl⟩
     refine jv (.bool (!t493)) (V.not rfl) <| jm (.bool (!t493)) rfl <| J.cut 6 ?_
     obtain ⟨t504, ht505, h471⟩ := ob h471
     refine jmeet [(35, .bool t504), (1, .pointer none), (4, .pointer (some ⟨b262, 0, none⟩)), (5, .func (.func 32) #[] #[.pointer (some ⟨b261, 0, none⟩)]), (6, ii i430), (15, .slice adxa_2 xa.2.2.1.length cpxa_2), (16, ii (((xa.2.2.1.length : Nat) : Int))), (17, ii i430)] ?_ ?_
     · rcases bt (!t493) with hc506 | hc506
       · have ht505 := ct hc506 ht505
         refine J.skip rfl rfl rfl rfl hc506 <| J.skip rfl rfl rfl rfl hc506 <| J.skip rfl rfl rfl rfl hc506 <| J.skip rfl rfl rfl rfl hc506 <| J.skip rfl rfl rfl rfl hc506 <| jv (.bool true) (V.pickT rfl hc506 rfl) <| J.nil ?_
         obtain rfl := si ht505
         exact ⟨rfl, ⟨rfl, rfl, rfl, rfl, rfl, rfl, rfl, rfl, trivial⟩, rfl, rfl⟩
       have ht505 := cf hc506 ht505
       refine J.run rfl rfl rfl hc506 <| jm (.func (.func 32) #[] #[.pointer (some ⟨b261, 0, none⟩)]) rfl <| J.run rfl rfl rfl hc506 <| jv _ (V.fad Try.underlying50 rfl nz3 rfl) <| J.run rfl rfl rfl hc506 <| jv (ii x476.2) (V.ld rfl (Ld.sc sc3 (Rd.cl 1 rfl rfl))) <| J.run rfl rfl rfl hc506 ?_
       obtain ⟨r507, hr508, ht505⟩ := ob ht505
       refine J.op rfl (A.call (L1 := [Cl b261 30 [ii xa.1, ii xa.2.1, .slice adxa_2 xa.2.2.1.length cpxa_2, .slice adxa_3 xa.2.2.2.1.length cpxa_3, .slice adxa_4 xa.2.2.2.2.1.length cpxa_4, .slice adxa_5 xa.2.2.2.2.2.1.length cpxa_5, .slice adxa_6 xa.2.2.2.2.2.2.length cpxa_6]]) Try.call32 rfl (valid_bounds_1_ip0_iikkkkk_ok fxa_2 fxa_3 fxa_4 fxa_5 fxa_6 hr508) rfl rfl) ?_
       rintro _ _ _ ⟨v510, _, rfl, ⟨⟨t509, rfl, rfl, rfl⟩, rfl⟩, _, rfl⟩
       refine J.run rfl rfl rfl hc506 <| jv (.bool (!t509)) (V.not rfl) <| jv (.bool (!t509)) (V.pickF rfl hc506 rfl) <| J.nil ?_
       obtain rfl := si ht505
       exact ⟨rfl, ⟨rfl, rfl, rfl, rfl, rfl, rfl, rfl, rfl, trivial⟩, rfl, rfl⟩
     intro ρ
     refine J.nil <| cc rfl h471 (fun hc513 h471 => ?_) fun hc513 h471 => ?_
     · refine cr <| jm (ii i430) rfl <| jv (.agg #[ii 7, ii 1, ii i430, ii 0]) (V.build inf39 places39 rfl rfl) <| J.front 2 rfl <| js [ii 7, ii 1, ii i430, ii 0] sz39 rfl rfl rfl rfl rfl rfl <| J.nil ?_
       refine CJ.ret ?_
       obtain rfl := si h471
       refine ⟨nofun, fun e => ?_⟩
       subst e
       refine .inr ⟨nofun, ?_⟩
       obtain rfl := si h
       exact ⟨_, _, Res.one rfl ⟨_, _, rfl, Ld.agg (cs := [ii 7, ii 1, ii i430, ii 0]) Try.underlying39 sz39 rfl (Rd.cls 0 0 rfl rfl)⟩, ⟨7, 1, i430, 0, rfl, rfl, rfl⟩, (Hp.le_refl _), fun w hs => (Sep.dropAt 0 rfl (Sep.dropAt 0 rfl (Sep.dropAt 0 rfl hs)))⟩
     refine CJ.skip <| CJ.region <| jv (ii (IntKind.wrap .i64 (i430 + 1))) (V.add rfl rfl) <| jm (ii (IntKind.wrap .i64 (i430 + 1))) rfl <| J.dropAt 1 rfl <| J.front 1 rfl <| J.nil ?_
     obtain rfl := si h471
     exact ⟨rfl, ⟨IntKind.wrap .i64 (i430 + 1), rfl, ⟨rfl, rfl, rfl, rfl, rfl, rfl, trivial⟩, rfl, rfl⟩⟩
   refine CJ.dropAt 1 rfl <| CJ.exit ?_
   obtain rfl := si h471
   refine ⟨nofun, fun e => ?_⟩
   subst e
   exact .inl ⟨rfl, _, rfl, ⟨rfl, ⟨rfl, trivial⟩, rfl, rfl⟩⟩
 rintro s ρ _ _ ho514 ⟨rfl, hf515, rfl, rfl⟩
 subst ho514
 obtain ⟨ρ, rfl⟩ := hf515.ex
 refine PJ.done <| cr <| jv (.agg #[ii 0, ii 0, ii 0, ii 0]) (V.build inf39 places39 rfl rfl) <| js [ii 0, ii 0, ii 0, ii 0] sz39 rfl rfl rfl rfl rfl rfl <| J.nil <| CJ.ret ?_
 obtain rfl := si h
 exact ⟨_, _, Res.one rfl ⟨_, _, rfl, Ld.agg (cs := [ii 0, ii 0, ii 0, ii 0]) Try.underlying39 sz39 rfl (Rd.cls 0 0 rfl rfl)⟩, ⟨0, 0, 0, 0, rfl, rfl, rfl⟩, (Hp.le_refl _), fun w hs => (Sep.dropAt 0 rfl hs)⟩

noncomputable def fn_row_within_1_ap0_i (xa : (Int × Bool)) (qa0 : Int) : Option Bool :=
  some ((decide (xa.1 < 0)) || (decide (qa0 ≤ xa.1)))
set_option maxRecDepth 100000 in
set_option maxHeartbeats 4000000 in
theorem row_within_1_ap0_i_ok {K : Hp} {xa : (Int × Bool)} {qa0 : Int} {pba : Nat}  {r : Bool} (h : fn_row_within_1_ap0_i xa qa0 = some r) :
    Tr Try.prog 60 #[.agg #[ii xa.1, .bool xa.2], .pointer (some ⟨pba, 0, none⟩)] K [Cl pba 3 [ii qa0]] (fun v K' L' => (∃ (t5 : Bool), t5 = r ∧ .bool t5 = v ∧ L' = [Cl pba 3 [ii qa0]]) ∧ K = K') := by
 refine Tr.k <| Tr.of Try.func60 rfl Try.ntmps60 rfl fun E F => ?_
 unfold fn_row_within_1_ap0_i at h
 refine cr <| jbx [ii xa.1, .bool xa.2] rfl rfl fun b6 => ja (.bool false) rfl <| J.nil <| CJ.seq <| CJ.region ?_
 refine jv _ (V.fad Try.underlying86 rfl nz3 rfl) <| jv (ii xa.1) (V.ld rfl (Ld.sc sc3 (Rd.cl 0 rfl rfl))) <| jv (.bool (decide (xa.1 < 0))) (V.lss rfl rfl) <| jm (.bool (decide (xa.1 < 0))) rfl <| J.cut 5 <| jmeet [(12, .bool ((decide (xa.1 < 0)) || (decide (qa0 ≤ xa.1))))] ?_ ?_
 · rcases bt (decide (xa.1 < 0)) with hc9 | hc9
   · refine J.skip rfl rfl rfl rfl hc9 <| J.skip rfl rfl rfl rfl hc9 <| J.skip rfl rfl rfl rfl hc9 <| J.skip rfl rfl rfl rfl hc9 <| jv (.bool true) (V.pickT rfl hc9 rfl) <| J.nil ?_
     exact ⟨rfl, ⟨(by simp only [hc9]; rfl), trivial⟩, rfl, rfl⟩
   refine J.run rfl rfl rfl hc9 <| jv _ (V.fad Try.underlying86 rfl nz3 rfl) <| J.run rfl rfl rfl hc9 <| jv (ii xa.1) (V.ld rfl (Ld.sc sc3 (Rd.cl 0 rfl rfl))) <| J.run rfl rfl rfl hc9 <| jv (ii qa0) (V.ld rfl (Ld.sc sc3 (Rd.cl 1 rfl rfl))) <| J.run rfl rfl rfl hc9 ?_
   refine jv (.bool (decide (qa0 ≤ xa.1))) (V.geq rfl rfl) <| jv (.bool (decide (qa0 ≤ xa.1))) (V.pickF rfl hc9 rfl) <| J.nil ?_
   exact ⟨rfl, ⟨(by simp only [hc9]; rfl), trivial⟩, rfl, rfl⟩
 intro ρ
 refine ja (.bool ((decide (xa.1 < 0)) || (decide (qa0 ≤ xa.1)))) rfl <| J.nil <| CJ.ret ?_
 obtain rfl := si h
 exact ⟨_, _, Res.one rfl rfl, ⟨(decide (xa.1 < 0)) || (decide (qa0 ≤ xa.1)), rfl, rfl, rfl⟩, (Hp.le_refl _), fun w hs => (Sep.dropAt 0 rfl hs)⟩
noncomputable def fn_slices_IndexFunc_api_Slot_api_Slot_k_row_within_1_p0_i_l1 (xa : (List (Int × Bool))) (qa0 : Int) : Int → Option (Int ⊕ (Unit ⊕ Int)) := fun (i201 : Int) => cond (decide (i201 < (((xa.length : Nat) : Int)))) ((getI xa i201).bind fun x225 => (fn_row_within_1_ap0_i (x225.1, x225.2) qa0).bind fun t236 => cond (t236) (some (.inr ((.inr (i201))))) (some (.inl (IntKind.wrap .i64 (i201 + 1))))) (some (.inr ((.inl ()))))
noncomputable def fn_slices_IndexFunc_api_Slot_api_Slot_k_row_within_1_p0_i (xa : (List (Int × Bool))) (qa0 : Int) : Option Int :=
  (loop (fn_slices_IndexFunc_api_Slot_api_Slot_k_row_within_1_p0_i_l1 xa qa0) 0 : Option (Unit ⊕ Int)).bind fun o => match o with | .inr r => some r | .inl () => some ((-1))
set_option maxRecDepth 100000 in
set_option maxHeartbeats 4000000 in
theorem slices_IndexFunc_api_Slot_api_Slot_k_row_within_1_p0_i_ok {K : Hp} {xa : (List (Int × Bool))} {qa0 : Int} {pba : Nat} {adxa_0 : Option Addr} {cpxa_0 : Nat} (fxa_0 : Is K (.sl (.cons (.int .i64) (.one .bool))) [.slice adxa_0 xa.length cpxa_0] xa) {r : Int} (h : fn_slices_IndexFunc_api_Slot_api_Slot_k_row_within_1_p0_i xa qa0 = some r) :
    Tr Try.prog 72 #[.slice adxa_0 xa.length cpxa_0, .func (.func 60) #[] #[.pointer (some ⟨pba, 0, none⟩)]] K [Cl pba 3 [ii qa0]] (fun v K' L' => (∃ (i122 : Int), i122 = r ∧ ii i122 = v ∧ L' = [Cl pba 3 [ii qa0]]) ∧ K = K') := by
 refine Tr.k <| Tr.of Try.func72 rfl Try.ntmps72 rfl fun E F => ?_
 unfold fn_slices_IndexFunc_api_Slot_api_Slot_k_row_within_1_p0_i at h
 refine cr <| ja (ii 0) rfl <| J.nil <| CJ.seq <| CJ.seq <| CJ.region ?_
 refine jm (.slice adxa_0 xa.length cpxa_0) rfl <| jv (ii (((xa.length : Nat) : Int))) (V.len Try.underlying24 rfl) <| jm (ii 0) rfl <| J.nil ?_
 obtain ⟨o181, ho182, h⟩ := ob h
 refine CJ.joinN (o := o181) (fun s ρ K' L' => () = s ∧ Fits [] ρ ∧ K = K' ∧ L' = Cl pba 3 [ii qa0] :: F) ?_ ?_
 · refine CJ.block <| CJ.loop (fun s ρ K' L' => ∃ (i201 : Int), i201 = s ∧ Fits [(0, .slice adxa_0 xa.length cpxa_0), (1, .func (.func 60) #[] #[.pointer (some ⟨pba, 0, none⟩)]), (7, ii (((xa.length : Nat) : Int))), (8, ii i201)] ρ ∧ K = K' ∧ L' = Cl pba 3 [ii qa0] :: F) ho182 ⟨0, rfl, ⟨rfl, rfl, rfl, rfl, trivial⟩, rfl, rfl⟩ ?_
   rintro s ρ _ _ r223 ⟨i201, rfl, hf221, rfl, rfl⟩ h220
   obtain ⟨ρ, rfl⟩ := hf221.ex
   refine cr <| jv (.bool (decide (i201 < (((xa.length : Nat) : Int))))) (V.lss rfl rfl) <| J.nil <| CJ.seq <| cc rfl h220 (fun hc224 h220 => ?_) fun hc224 h220 => ?_
   · refine CJ.skip <| CJ.seq <| CJ.block <| cr <| jm (ii i201) rfl <| ja (ii i201) rfl ?_
     refine J.nil <| cr <| jm (.func (.func 60) #[] #[.pointer (some ⟨pba, 0, none⟩)]) rfl <| jm (.slice adxa_0 xa.length cpxa_0) rfl <| jm (ii i201) rfl ?_
     obtain ⟨x225, hx226, h220⟩ := ob h220
     obtain ⟨p227, p228, p229⟩ := getI_some hx226
     obtain ⟨b230, o231, e232, a233⟩ := (fxa_0).at p228
     refine jv _ (V.iad Try.underlying24 sz86 rfl e232 rfl p227 p229) <| jv (.agg #[ii x225.1, .bool x225.2]) (V.ld rfl (Ld.aggK (cs := [ii x225.1, .bool x225.2]) Try.underlying86 sz86 rfl ⟨((a233).fst).int, (((a233).snd).one).bool, trivial⟩ (Hp.le_refl _))) ?_
     obtain ⟨r234, hr235, h220⟩ := ob h220
     refine J.op rfl (A.call (L1 := [Cl pba 3 [ii qa0]]) Try.call60 rfl (row_within_1_ap0_i_ok hr235) rfl rfl) ?_
     rintro _ _ _ ⟨v237, _, rfl, ⟨⟨t236, rfl, rfl, rfl⟩, rfl⟩, _, rfl⟩
     refine J.nil <| cc rfl h220 (fun hc240 h220 => ?_) fun hc240 h220 => ?_
     · refine cr <| jm (ii i201) rfl <| ja (ii i201) rfl <| J.nil <| CJ.ret ?_
       obtain rfl := si h220
       refine ⟨nofun, fun e => ?_⟩
       subst e
       refine .inr ⟨nofun, ?_⟩
       obtain rfl := si h
       exact ⟨_, _, Res.one rfl rfl, ⟨i201, rfl, rfl, rfl⟩, (Hp.le_refl _), fun w hs => hs⟩
     refine CJ.skip <| CJ.region <| jv (ii (IntKind.wrap .i64 (i201 + 1))) (V.add rfl rfl) <| jm (ii (IntKind.wrap .i64 (i201 + 1))) rfl <| J.nil ?_
     obtain rfl := si h220
     exact ⟨rfl, ⟨IntKind.wrap .i64 (i201 + 1), rfl, ⟨rfl, rfl, rfl, rfl, trivial⟩, rfl, rfl⟩⟩
   refine CJ.exit ?_
   obtain rfl := si h220
   refine ⟨nofun, fun e => ?_⟩
   subst e
   exact .inl ⟨rfl, _, rfl, ⟨rfl, trivial, rfl, rfl⟩⟩
 rintro s ρ _ _ ho241 ⟨rfl, hf242, rfl, rfl⟩
 subst ho241
 obtain ⟨ρ, rfl⟩ := hf242.ex
 refine PJ.done <| cr <| ja (ii (-1)) rfl <| J.nil <| CJ.ret ?_
 obtain rfl := si h
 exact ⟨_, _, Res.one rfl rfl, ⟨(-1), rfl, rfl, rfl⟩, (Hp.le_refl _), fun w hs => hs⟩

noncomputable def fn_slices_ContainsFunc_api_Slot_api_Slot_k_row_within_1_p0_i (xa : (List (Int × Bool))) (qa0 : Int) : Option Bool :=
  (fn_slices_IndexFunc_api_Slot_api_Slot_k_row_within_1_p0_i xa qa0).bind fun i10 => some (decide (0 ≤ i10))
set_option maxRecDepth 100000 in
set_option maxHeartbeats 4000000 in
theorem slices_ContainsFunc_api_Slot_api_Slot_k_row_within_1_p0_i_ok {K : Hp} {xa : (List (Int × Bool))} {qa0 : Int} {pba : Nat} {adxa_0 : Option Addr} {cpxa_0 : Nat} (fxa_0 : Is K (.sl (.cons (.int .i64) (.one .bool))) [.slice adxa_0 xa.length cpxa_0] xa) {r : Bool} (h : fn_slices_ContainsFunc_api_Slot_api_Slot_k_row_within_1_p0_i xa qa0 = some r) :
    Tr Try.prog 59 #[.slice adxa_0 xa.length cpxa_0, .func (.func 60) #[] #[.pointer (some ⟨pba, 0, none⟩)]] K [Cl pba 3 [ii qa0]] (fun v K' L' => (∃ (t7 : Bool), t7 = r ∧ .bool t7 = v ∧ L' = [Cl pba 3 [ii qa0]]) ∧ K = K') := by
 refine Tr.k <| Tr.of Try.func59 rfl Try.ntmps59 rfl fun E F => ?_
 unfold fn_slices_ContainsFunc_api_Slot_api_Slot_k_row_within_1_p0_i at h
 refine cr <| ja (.bool false) rfl <| J.nil <| cr <| jm (.slice adxa_0 xa.length cpxa_0) rfl ?_
 refine jm (.func (.func 60) #[] #[.pointer (some ⟨pba, 0, none⟩)]) rfl ?_
 obtain ⟨r8, hr9, h⟩ := ob h
 refine J.op rfl (A.call (L1 := [Cl pba 3 [ii qa0]]) Try.call72 rfl (slices_IndexFunc_api_Slot_api_Slot_k_row_within_1_p0_i_ok fxa_0 hr9) rfl rfl) ?_
 rintro _ _ _ ⟨v11, _, rfl, ⟨⟨i10, rfl, rfl, rfl⟩, rfl⟩, _, rfl⟩
 refine jv (.bool (decide (0 ≤ i10))) (V.geq rfl rfl) <| ja (.bool (decide (0 ≤ i10))) rfl <| J.nil <| CJ.ret ?_
 obtain rfl := si h
 exact ⟨_, _, Res.one rfl rfl, ⟨decide (0 ≤ i10), rfl, rfl, rfl⟩, (Hp.le_refl _), fun w hs => hs⟩

noncomputable def fn_row_within (xa : (List (Int × Bool))) (xb : Int) : Option Bool :=
  (fn_slices_ContainsFunc_api_Slot_api_Slot_k_row_within_1_p0_i xa xb).bind fun t14 => some (!t14)
set_option maxRecDepth 100000 in
set_option maxHeartbeats 4000000 in
theorem row_within_ok {K : Hp} {xa : (List (Int × Bool))} {xb : Int} {adxa_0 : Option Addr} {cpxa_0 : Nat} (fxa_0 : Is K (.sl (.cons (.int .i64) (.one .bool))) [.slice adxa_0 xa.length cpxa_0] xa) {r : Bool} (h : fn_row_within xa xb = some r) :
    Tr Try.prog 43 #[.agg #[.slice adxa_0 xa.length cpxa_0], ii xb] K [] (fun v K' L' => (∃ (t9 : Bool), t9 = r ∧ .bool t9 = v ∧ L' = []) ∧ K = K') := by
 refine Tr.k <| Tr.of Try.func43 rfl Try.ntmps43 rfl fun E F => ?_
 unfold fn_row_within at h
 refine cr <| jbx [.slice adxa_0 xa.length cpxa_0] rfl rfl fun b10 => jbx [ii xb] rfl rfl fun b11 => ja (.bool false) rfl <| J.nil <| CJ.seq ?_
 refine CJ.region <| jv _ (V.fad Try.underlying26 rfl nz24 rfl) <| jv (.slice adxa_0 xa.length cpxa_0) (V.ld rfl (Ld.sc sc24 (Rd.cl 1 rfl rfl))) <| jv (.func (.func 60) #[] #[.pointer (some ⟨b11, 0, none⟩)]) (V.mkf rfl) ?_
 obtain ⟨r12, hr13, h⟩ := ob h
 refine J.op rfl (A.call (L1 := [Cl b11 3 [ii xb]]) Try.call59 rfl (slices_ContainsFunc_api_Slot_api_Slot_k_row_within_1_p0_i_ok fxa_0 hr13) rfl rfl) ?_
 rintro _ _ _ ⟨v15, _, rfl, ⟨⟨t14, rfl, rfl, rfl⟩, rfl⟩, _, rfl⟩
 refine jv (.bool (!t14)) (V.not rfl) <| ja (.bool (!t14)) rfl <| J.nil <| CJ.ret ?_
 obtain rfl := si h
 exact ⟨_, _, Res.one rfl rfl, ⟨!t14, rfl, rfl, rfl⟩, (Hp.le_refl _), fun w hs => (Sep.dropAt 0 rfl (Sep.dropAt 0 rfl hs))⟩

noncomputable def fn_row_Check (xa : (List (Int × Bool))) (xb : Int) : Option Int :=
  cond (decide (16 < (((xa.length : Nat) : Int)))) (some (6)) ((fn_row_within xa xb).bind fun t15 => cond (!t15) (some (7)) (some (0)))
set_option maxRecDepth 100000 in
set_option maxHeartbeats 4000000 in
theorem row_Check_ok {K : Hp} {xa : (List (Int × Bool))} {xb : Int} {adxa_0 : Option Addr} {cpxa_0 : Nat} (fxa_0 : Is K (.sl (.cons (.int .i64) (.one .bool))) [.slice adxa_0 xa.length cpxa_0] xa) {r : Int} (h : fn_row_Check xa xb = some r) :
    Tr Try.prog 33 #[.agg #[.slice adxa_0 xa.length cpxa_0], ii xb] K [] (fun v K' L' => (∃ (i10 : Int), i10 = r ∧ ii i10 = v ∧ L' = []) ∧ K = K') := by
 refine Tr.k <| Tr.of Try.func33 rfl Try.ntmps33 rfl fun E F => ?_
 unfold fn_row_Check at h
 refine cr <| jbx [.slice adxa_0 xa.length cpxa_0] rfl rfl fun b11 => ja (ii 0) rfl <| J.nil <| CJ.seq <| CJ.seq ?_
 refine CJ.region <| jv _ (V.fad Try.underlying26 rfl nz24 rfl) <| jv (.slice adxa_0 xa.length cpxa_0) (V.ld rfl (Ld.sc sc24 (Rd.cl 0 rfl rfl))) <| jv (ii (((xa.length : Nat) : Int))) (V.len Try.underlying24 rfl) <| jv (.bool (decide (16 < (((xa.length : Nat) : Int))))) (V.gtr rfl rfl) <| J.nil <| cc rfl h (fun hc12 h => ?_) fun hc12 h => ?_
 · refine cr <| ja (ii 6) rfl <| J.nil <| CJ.ret ?_
   obtain rfl := si h
   exact ⟨_, _, Res.one rfl rfl, ⟨6, rfl, rfl, rfl⟩, (Hp.le_refl _), fun w hs => (Sep.dropAt 0 rfl hs)⟩
 refine CJ.skip <| CJ.seq <| cr <| jv (.agg #[.slice adxa_0 xa.length cpxa_0]) (V.ld rfl (Ld.agg (cs := [.slice adxa_0 xa.length cpxa_0]) Try.underlying26 sz26 rfl (Rd.cls 0 0 rfl rfl))) <| jm (ii xb) rfl ?_
 obtain ⟨r13, hr14, h⟩ := ob h
 refine J.op rfl (A.call (L1 := []) Try.call43 rfl (row_within_ok fxa_0 hr14) rfl rfl) ?_
 rintro _ _ _ ⟨v16, _, rfl, ⟨⟨t15, rfl, rfl, rfl⟩, rfl⟩, _, rfl⟩
 refine jv (.bool (!t15)) (V.not rfl) <| J.nil <| cc rfl h (fun hc19 h => ?_) fun hc19 h => ?_
 · refine cr <| ja (ii 7) rfl <| J.nil <| CJ.ret ?_
   obtain rfl := si h
   exact ⟨_, _, Res.one rfl rfl, ⟨7, rfl, rfl, rfl⟩, (Hp.le_refl _), fun w hs => (Sep.dropAt 0 rfl hs)⟩
 refine CJ.skip <| cr <| ja (ii 0) rfl <| J.nil <| CJ.ret ?_
 obtain rfl := si h
 exact ⟨_, _, Res.one rfl rfl, ⟨0, rfl, rfl, rfl⟩, (Hp.le_refl _), fun w hs => (Sep.dropAt 0 rfl hs)⟩
noncomputable def fn_valid_locals_az_l1 (xa : (Int × Int × (List (Int × Int)) × (List (List (Int × Bool))) × (List (Int × Bool)) × (List (Int × (List (Int × Int)) × (List (List (Int × Bool))) × (List (Int × Bool)))) × (List ((List (Int × Int × Int × Int × Bool)) × (Int × Int × Int × (List Int) × (List Int) × (List Int)))))) : Int → Option (Int ⊕ (Unit ⊕ (Int × Int × Int × Int))) := fun (i313 : Int) => cond (decide (i313 < (((xa.2.2.2.1.length : Nat) : Int)))) ((getI xa.2.2.2.1 i313).bind fun x347 => (fn_tick_Counter_Add_zii 1 1).bind fun _ => (fn_row_Check x347 xa.2.1).bind fun i368 => cond (!decide (i368 = 0)) (some (.inr ((.inr ((i368, 2, i313, 0)))))) (some (.inl (IntKind.wrap .i64 (i313 + 1))))) (some (.inr ((.inl ()))))
noncomputable def fn_valid_locals_az (xa : (Int × Int × (List (Int × Int)) × (List (List (Int × Bool))) × (List (Int × Bool)) × (List (Int × (List (Int × Int)) × (List (List (Int × Bool))) × (List (Int × Bool)))) × (List ((List (Int × Int × Int × Int × Bool)) × (Int × Int × Int × (List Int) × (List Int) × (List Int)))))) : Option (Int × Int × Int × Int) :=
  cond (decide ((((xa.2.2.2.1.length : Nat) : Int)) = 0)) (some ((14, 2, 0, 0))) (cond (decide (65536 < (((xa.2.2.2.1.length : Nat) : Int)))) (some ((6, 2, 0, 0))) ((loop (fn_valid_locals_az_l1 xa) 0 : Option (Unit ⊕ (Int × Int × Int × Int))).bind fun o => match o with | .inr r => some r | .inl () => some ((0, 0, 0, 0))))
set_option maxRecDepth 100000 in
set_option maxHeartbeats 4000000 in
theorem valid_locals_az_ok {K : Hp} {xa : (Int × Int × (List (Int × Int)) × (List (List (Int × Bool))) × (List (Int × Bool)) × (List (Int × (List (Int × Int)) × (List (List (Int × Bool))) × (List (Int × Bool)))) × (List ((List (Int × Int × Int × Int × Bool)) × (Int × Int × Int × (List Int) × (List Int) × (List Int)))))} {adxa_2 : Option Addr} {cpxa_2 : Nat} {adxa_3 : Option Addr} {cpxa_3 : Nat} {adxa_4 : Option Addr} {cpxa_4 : Nat} {adxa_5 : Option Addr} {cpxa_5 : Nat} {adxa_6 : Option Addr} {cpxa_6 : Nat} (fxa_2 : Is K (.sl (.cons (.int .i64) (.one (.int .i64)))) [.slice adxa_2 xa.2.2.1.length cpxa_2] xa.2.2.1) (fxa_3 : Is K (.sl (.one (.sl (.cons (.int .i64) (.one .bool))))) [.slice adxa_3 xa.2.2.2.1.length cpxa_3] xa.2.2.2.1) (fxa_4 : Is K (.sl (.cons (.int .i64) (.one .bool))) [.slice adxa_4 xa.2.2.2.2.1.length cpxa_4] xa.2.2.2.2.1) (fxa_5 : Is K (.sl (.cons (.int .i64) (.cons (.sl (.cons (.int .i64) (.one (.int .i64)))) (.cons (.sl (.one (.sl (.cons (.int .i64) (.one .bool))))) (.one (.one (.sl (.cons (.int .i64) (.one .bool))))))))) [.slice adxa_5 xa.2.2.2.2.2.1.length cpxa_5] xa.2.2.2.2.2.1) (fxa_6 : Is K (.sl (.cons (.sl (.cons (.int .i64) (.cons (.int .i64) (.cons (.int .i64) (.cons (.int .i64) (.one .bool)))))) (.one (.cons (.int .i64) (.cons (.int .i64) (.cons (.int .i64) (.cons (.sl (.int .i64)) (.cons (.sl (.int .i64)) (.one (.sl (.int .i64))))))))))) [.slice adxa_6 xa.2.2.2.2.2.2.length cpxa_6] xa.2.2.2.2.2.2) {r : (Int × Int × Int × Int)} (h : fn_valid_locals_az xa = some r) :
    Tr Try.prog 22 #[.agg #[ii xa.1, ii xa.2.1, .slice adxa_2 xa.2.2.1.length cpxa_2, .slice adxa_3 xa.2.2.2.1.length cpxa_3, .slice adxa_4 xa.2.2.2.2.1.length cpxa_4, .slice adxa_5 xa.2.2.2.2.2.1.length cpxa_5, .slice adxa_6 xa.2.2.2.2.2.2.length cpxa_6], .pointer none] K [] (fun v K' L' => (∃ (i187 : Int) (i188 : Int) (i189 : Int) (i190 : Int), (i187, i188, i189, i190) = r ∧ .agg #[ii i187, ii i188, ii i189, ii i190] = v ∧ L' = []) ∧ K = K') := by
 refine Tr.k <| Tr.of Try.func22 rfl Try.ntmps22 rfl fun E F => ?_
 unfold fn_valid_locals_az at h
 refine cr <| jbx [ii xa.1, ii xa.2.1, .slice adxa_2 xa.2.2.1.length cpxa_2, .slice adxa_3 xa.2.2.2.1.length cpxa_3, .slice adxa_4 xa.2.2.2.2.1.length cpxa_4, .slice adxa_5 xa.2.2.2.2.2.1.length cpxa_5, .slice adxa_6 xa.2.2.2.2.2.2.length cpxa_6] rfl rfl fun b191 => jal inf39 [ii 0, ii 0, ii 0, ii 0] rfl fun b192 => J.nil <| CJ.seq <| CJ.seq ?_
 refine CJ.region <| jv _ (V.fad Try.underlying30 rfl nz23 rfl) <| jv (.slice adxa_3 xa.2.2.2.1.length cpxa_3) (V.ld rfl (Ld.sc sc23 (Rd.cl 1 rfl rfl))) <| jv (ii (((xa.2.2.2.1.length : Nat) : Int))) (V.len Try.underlying23 rfl) <| jv (.bool (decide ((((xa.2.2.2.1.length : Nat) : Int)) = 0))) (V.eql rfl rfl) <| J.nil <| cc rfl h (fun hc193 h => ?_) fun hc193 h => ?_
 · refine cr <| jv (.agg #[ii 14, ii 2, ii 0, ii 0]) (V.build inf39 places39 rfl rfl) <| js [ii 14, ii 2, ii 0, ii 0] sz39 rfl rfl rfl rfl rfl rfl <| J.nil <| CJ.ret ?_
   obtain rfl := si h
   exact ⟨_, _, Res.one rfl ⟨_, _, rfl, Ld.agg (cs := [ii 14, ii 2, ii 0, ii 0]) Try.underlying39 sz39 rfl (Rd.cls 0 0 rfl rfl)⟩, ⟨14, 2, 0, 0, rfl, rfl, rfl⟩, (Hp.le_refl _), fun w hs => (Sep.dropAt 0 rfl (Sep.dropAt 0 rfl hs))⟩
 refine CJ.skip <| CJ.seq <| cr <| jv _ (V.fad Try.underlying30 rfl nz23 rfl) <| jv (.slice adxa_3 xa.2.2.2.1.length cpxa_3) (V.ld rfl (Ld.sc sc23 (Rd.cl 1 rfl rfl))) <| jv (ii (((xa.2.2.2.1.length : Nat) : Int))) (V.len Try.underlying23 rfl) ?_
 refine jv (.bool (decide (65536 < (((xa.2.2.2.1.length : Nat) : Int))))) (V.gtr rfl rfl) <| J.nil <| cc rfl h (fun hc194 h => ?_) fun hc194 h => ?_
 · refine cr <| jv (.agg #[ii 6, ii 2, ii 0, ii 0]) (V.build inf39 places39 rfl rfl) <| js [ii 6, ii 2, ii 0, ii 0] sz39 rfl rfl rfl rfl rfl rfl <| J.nil <| CJ.ret ?_
   obtain rfl := si h
   exact ⟨_, _, Res.one rfl ⟨_, _, rfl, Ld.agg (cs := [ii 6, ii 2, ii 0, ii 0]) Try.underlying39 sz39 rfl (Rd.cls 0 0 rfl rfl)⟩, ⟨6, 2, 0, 0, rfl, rfl, rfl⟩, (Hp.le_refl _), fun w hs => (Sep.dropAt 0 rfl (Sep.dropAt 0 rfl hs))⟩
 refine CJ.skip <| CJ.seq <| cr <| jv _ (V.fad Try.underlying30 rfl nz23 rfl) <| jv (.slice adxa_3 xa.2.2.2.1.length cpxa_3) (V.ld rfl (Ld.sc sc23 (Rd.cl 1 rfl rfl))) <| jv (ii (((xa.2.2.2.1.length : Nat) : Int))) (V.len Try.underlying23 rfl) ?_
 refine jm (ii 0) rfl <| J.nil ?_
 obtain ⟨o283, ho284, h⟩ := ob h
 refine CJ.joinN (o := o283) (fun s ρ K' L' => () = s ∧ Fits [(4, .pointer (some ⟨b192, 0, none⟩))] ρ ∧ K = K' ∧ L' = Cl b192 39 [ii 0, ii 0, ii 0, ii 0] :: F) ?_ ?_
 · refine CJ.block <| CJ.front 1 rfl <| CJ.loop (fun s ρ K' L' => ∃ (i313 : Int), i313 = s ∧ Fits [(1, .pointer none), (2, .pointer (some ⟨b191, 0, none⟩)), (4, .pointer (some ⟨b192, 0, none⟩)), (19, .slice adxa_3 xa.2.2.2.1.length cpxa_3), (20, ii (((xa.2.2.2.1.length : Nat) : Int))), (21, ii i313)] ρ ∧ K = K' ∧ L' = Cl b191 30 [ii xa.1, ii xa.2.1, .slice adxa_2 xa.2.2.1.length cpxa_2, .slice adxa_3 xa.2.2.2.1.length cpxa_3, .slice adxa_4 xa.2.2.2.2.1.length cpxa_4, .slice adxa_5 xa.2.2.2.2.2.1.length cpxa_5, .slice adxa_6 xa.2.2.2.2.2.2.length cpxa_6] :: Cl b192 39 [ii 0, ii 0, ii 0, ii 0] :: F) ho284 ⟨0, rfl, ⟨rfl, rfl, rfl, rfl, rfl, rfl, trivial⟩, rfl, rfl⟩ ?_
   rintro s ρ _ _ r345 ⟨i313, rfl, hf343, rfl, rfl⟩ h342
   obtain ⟨ρ, rfl⟩ := hf343.ex
   refine cr <| jv (.bool (decide (i313 < (((xa.2.2.2.1.length : Nat) : Int))))) (V.lss rfl rfl) <| J.nil <| CJ.seq <| cc rfl h342 (fun hc346 h342 => ?_) fun hc346 h342 => ?_
   · refine CJ.skip <| CJ.seq <| CJ.block <| cr <| jm (ii i313) rfl ?_
     obtain ⟨x347, hx348, h342⟩ := ob h342
     obtain ⟨p349, p350, p351⟩ := getI_some hx348
     obtain ⟨b352, o353, e354, a355⟩ := (fxa_3).at p350
     refine jv _ (V.iad Try.underlying23 sz26 rfl e354 rfl p349 p351) ?_
     obtain ⟨ad356, cp357, c358, f359⟩ := ((a355).one).sl
     refine jv (.agg #[.slice ad356 x347.length cp357]) (V.ld rfl (Ld.aggK (cs := [.slice ad356 x347.length cp357]) Try.underlying26 sz26 rfl ⟨c358, trivial⟩ (Hp.le_refl _))) <| jal inf26 [nos] rfl fun b360 => ja (ii i313) rfl <| js [.slice ad356 x347.length cp357] sz26 rfl rfl rfl rfl rfl rfl <| J.nil <| CJ.seq <| CJ.region ?_
     refine jm (.pointer none) rfl ?_
     obtain ⟨r361, hr362, h342⟩ := ob h342
     refine J.op rfl (A.call (L1 := []) Try.call19 rfl (tick_Counter_Add_zii_ok hr362) rfl rfl) ?_
     rintro _ _ _ ⟨v363, _, rfl, ⟨⟨rfl, rfl, rfl⟩, rfl⟩, _, rfl⟩
     refine J.nil <| cr <| jv (.agg #[.slice ad356 x347.length cp357]) (V.ld rfl (Ld.agg (cs := [.slice ad356 x347.length cp357]) Try.underlying26 sz26 rfl (Rd.cls 0 0 rfl rfl))) <| jv _ (V.fad Try.underlying30 rfl nz3 rfl) <| jv (ii xa.2.1) (V.ld rfl (Ld.sc sc3 (Rd.cl 1 rfl rfl))) ?_
     obtain ⟨r366, hr367, h342⟩ := ob h342
     refine J.op rfl (A.call (L1 := []) Try.call33 rfl (row_Check_ok f359 hr367) rfl rfl) ?_
     rintro _ _ _ ⟨v369, _, rfl, ⟨⟨i368, rfl, rfl, rfl⟩, rfl⟩, _, rfl⟩
     refine ja (ii i368) rfl <| J.nil <| cr <| jm (ii i368) rfl <| jv (.bool (!decide (i368 = 0))) (V.neq rfl rfl) <| J.nil ?_
     refine cc rfl h342 (fun hc372 h342 => ?_) fun hc372 h342 => ?_
     · refine cr <| jm (ii i368) rfl <| jm (ii i313) rfl <| jv (.agg #[ii i368, ii 2, ii i313, ii 0]) (V.build inf39 places39 rfl rfl) <| J.front 2 rfl <| js [ii i368, ii 2, ii i313, ii 0] sz39 rfl rfl rfl rfl rfl rfl ?_
       refine J.nil <| CJ.ret ?_
       obtain rfl := si h342
       refine ⟨nofun, fun e => ?_⟩
       subst e
       refine .inr ⟨nofun, ?_⟩
       obtain rfl := si h
       exact ⟨_, _, Res.one rfl ⟨_, _, rfl, Ld.agg (cs := [ii i368, ii 2, ii i313, ii 0]) Try.underlying39 sz39 rfl (Rd.cls 0 0 rfl rfl)⟩, ⟨i368, 2, i313, 0, rfl, rfl, rfl⟩, (Hp.le_refl _), fun w hs => (Sep.dropAt 0 rfl (Sep.dropAt 0 rfl (Sep.dropAt 0 rfl hs)))⟩
     refine CJ.skip <| CJ.region <| jv (ii (IntKind.wrap .i64 (i313 + 1))) (V.add rfl rfl) <| jm (ii (IntKind.wrap .i64 (i313 + 1))) rfl <| J.dropAt 0 rfl <| J.nil ?_
     obtain rfl := si h342
     exact ⟨rfl, ⟨IntKind.wrap .i64 (i313 + 1), rfl, ⟨rfl, rfl, rfl, rfl, rfl, rfl, trivial⟩, rfl, rfl⟩⟩
   refine CJ.dropAt 0 rfl <| CJ.exit ?_
   obtain rfl := si h342
   refine ⟨nofun, fun e => ?_⟩
   subst e
   exact .inl ⟨rfl, _, rfl, ⟨rfl, ⟨rfl, trivial⟩, rfl, rfl⟩⟩
 rintro s ρ _ _ ho373 ⟨rfl, hf374, rfl, rfl⟩
 subst ho373
 obtain ⟨ρ, rfl⟩ := hf374.ex
 refine PJ.done <| cr <| jv (.agg #[ii 0, ii 0, ii 0, ii 0]) (V.build inf39 places39 rfl rfl) <| js [ii 0, ii 0, ii 0, ii 0] sz39 rfl rfl rfl rfl rfl rfl <| J.nil <| CJ.ret ?_
 obtain rfl := si h
 exact ⟨_, _, Res.one rfl ⟨_, _, rfl, Ld.agg (cs := [ii 0, ii 0, ii 0, ii 0]) Try.underlying39 sz39 rfl (Rd.cls 0 0 rfl rfl)⟩, ⟨0, 0, 0, 0, rfl, rfl, rfl⟩, (Hp.le_refl _), fun w hs => (Sep.dropAt 0 rfl hs)⟩

noncomputable def fn_row_Shape_1 (xa : (Int × Bool)) (xb : (Int × Bool)) : Option Bool :=
  some (xa.2 == xb.2)
set_option maxRecDepth 100000 in
set_option maxHeartbeats 4000000 in
theorem row_Shape_1_ok {K : Hp} {xa : (Int × Bool)} {xb : (Int × Bool)}   {r : Bool} (h : fn_row_Shape_1 xa xb = some r) :
    Tr Try.prog 45 #[.agg #[ii xa.1, .bool xa.2], .agg #[ii xb.1, .bool xb.2]] K [] (fun v K' L' => (∃ (t3 : Bool), t3 = r ∧ .bool t3 = v ∧ L' = []) ∧ K = K') := by
 refine Tr.k <| Tr.of Try.func45 rfl Try.ntmps45 rfl fun E F => ?_
 unfold fn_row_Shape_1 at h
 refine cr <| jbx [ii xa.1, .bool xa.2] rfl rfl fun b4 => jbx [ii xb.1, .bool xb.2] rfl rfl fun b5 => ja (.bool false) rfl <| J.nil <| CJ.seq ?_
 refine CJ.region <| jv _ (V.fad Try.underlying86 rfl nz4 rfl) <| jv (.bool xa.2) (V.ld rfl (Ld.sc sc4 (Rd.cl 1 rfl rfl))) <| jv _ (V.fad Try.underlying86 rfl nz4 rfl) <| jv (.bool xb.2) (V.ld rfl (Ld.sc sc4 (Rd.cl 0 rfl rfl))) <| jv (.bool (xa.2 == xb.2)) (V.eqb Try.underlying4 rfl rfl) <| ja (.bool (xa.2 == xb.2)) rfl ?_
 refine J.nil <| CJ.ret ?_
 obtain rfl := si h
 exact ⟨_, _, Res.one rfl rfl, ⟨xa.2 == xb.2, rfl, rfl, rfl⟩, (Hp.le_refl _), fun w hs => (Sep.dropAt 0 rfl (Sep.dropAt 0 rfl hs))⟩
noncomputable def fn_slices_EqualFunc_api_Slot_api_Slot_api_Slot_api_Slot_kk_row_Shape_1_l1 (xa : (List (Int × Bool))) (xb : (List (Int × Bool))) : Int → Option (Int ⊕ (Unit ⊕ Bool)) := fun (i313 : Int) => cond (decide (i313 < (((xa.length : Nat) : Int)))) ((getI xa i313).bind fun x348 => (getI xb i313).bind fun x358 => (fn_row_Shape_1 (x348.1, x348.2) (x358.1, x358.2)).bind fun t370 => cond (!t370) (some (.inr ((.inr (false))))) (some (.inl (IntKind.wrap .i64 (i313 + 1))))) (some (.inr ((.inl ()))))
noncomputable def fn_slices_EqualFunc_api_Slot_api_Slot_api_Slot_api_Slot_kk_row_Shape_1 (xa : (List (Int × Bool))) (xb : (List (Int × Bool))) : Option Bool :=
  cond (!decide ((((xa.length : Nat) : Int)) = (((xb.length : Nat) : Int)))) (some (false)) ((loop (fn_slices_EqualFunc_api_Slot_api_Slot_api_Slot_api_Slot_kk_row_Shape_1_l1 xa xb) 0 : Option (Unit ⊕ Bool)).bind fun o => match o with | .inr r => some r | .inl () => some (true))
set_option maxRecDepth 100000 in
set_option maxHeartbeats 4000000 in
theorem slices_EqualFunc_api_Slot_api_Slot_api_Slot_api_Slot_kk_row_Shape_1_ok {K : Hp} {xa : (List (Int × Bool))} {xb : (List (Int × Bool))} {adxa_0 : Option Addr} {cpxa_0 : Nat} {adxb_0 : Option Addr} {cpxb_0 : Nat} (fxa_0 : Is K (.sl (.cons (.int .i64) (.one .bool))) [.slice adxa_0 xa.length cpxa_0] xa) (fxb_0 : Is K (.sl (.cons (.int .i64) (.one .bool))) [.slice adxb_0 xb.length cpxb_0] xb) {r : Bool} (h : fn_slices_EqualFunc_api_Slot_api_Slot_api_Slot_api_Slot_kk_row_Shape_1 xa xb = some r) :
    Tr Try.prog 44 #[.slice adxa_0 xa.length cpxa_0, .slice adxb_0 xb.length cpxb_0, .func (.func 45) #[] #[]] K [] (fun v K' L' => (∃ (t189 : Bool), t189 = r ∧ .bool t189 = v ∧ L' = []) ∧ K = K') := by
 refine Tr.k <| Tr.of Try.func44 rfl Try.ntmps44 rfl fun E F => ?_
 unfold fn_slices_EqualFunc_api_Slot_api_Slot_api_Slot_api_Slot_kk_row_Shape_1 at h
 refine cr <| ja (.bool false) rfl <| J.nil <| CJ.seq <| CJ.seq <| CJ.region ?_
 refine jm (.slice adxa_0 xa.length cpxa_0) rfl <| jv (ii (((xa.length : Nat) : Int))) (V.len Try.underlying24 rfl) <| jm (.slice adxb_0 xb.length cpxb_0) rfl <| jv (ii (((xb.length : Nat) : Int))) (V.len Try.underlying24 rfl) <| jv (.bool (!decide ((((xa.length : Nat) : Int)) = (((xb.length : Nat) : Int))))) (V.neq rfl rfl) <| J.nil <| cc rfl h (fun hc190 h => ?_) fun hc190 h => ?_
 · refine cr <| ja (.bool false) rfl <| J.nil <| CJ.ret ?_
   obtain rfl := si h
   exact ⟨_, _, Res.one rfl rfl, ⟨false, rfl, rfl, rfl⟩, (Hp.le_refl _), fun w hs => hs⟩
 refine CJ.skip <| CJ.seq <| cr <| jm (.slice adxa_0 xa.length cpxa_0) rfl <| jv (ii (((xa.length : Nat) : Int))) (V.len Try.underlying24 rfl) <| jm (ii 0) rfl ?_
 refine J.nil ?_
 obtain ⟨o282, ho283, h⟩ := ob h
 refine CJ.joinN (o := o282) (fun s ρ K' L' => () = s ∧ Fits [] ρ ∧ K = K' ∧ F = L') ?_ ?_
 · refine CJ.block <| CJ.loop (fun s ρ K' L' => ∃ (i313 : Int), i313 = s ∧ Fits [(1, .slice adxb_0 xb.length cpxb_0), (2, .func (.func 45) #[] #[]), (15, .slice adxa_0 xa.length cpxa_0), (16, ii (((xa.length : Nat) : Int))), (17, ii i313)] ρ ∧ K = K' ∧ F = L') ho283 ⟨0, rfl, ⟨rfl, rfl, rfl, rfl, rfl, trivial⟩, rfl, rfl⟩ ?_
   rintro s ρ _ _ r346 ⟨i313, rfl, hf344, rfl, rfl⟩ h343
   obtain ⟨ρ, rfl⟩ := hf344.ex
   refine cr <| jv (.bool (decide (i313 < (((xa.length : Nat) : Int))))) (V.lss rfl rfl) <| J.nil <| CJ.seq <| cc rfl h343 (fun hc347 h343 => ?_) fun hc347 h343 => ?_
   · refine CJ.skip <| CJ.seq <| CJ.block <| cr <| jm (ii i313) rfl ?_
     obtain ⟨x348, hx349, h343⟩ := ob h343
     obtain ⟨p350, p351, p352⟩ := getI_some hx349
     obtain ⟨b353, o354, e355, a356⟩ := (fxa_0).at p351
     refine jv _ (V.iad Try.underlying24 sz86 rfl e355 rfl p350 p352) <| jv (.agg #[ii x348.1, .bool x348.2]) (V.ld rfl (Ld.aggK (cs := [ii x348.1, .bool x348.2]) Try.underlying86 sz86 rfl ⟨((a356).fst).int, (((a356).snd).one).bool, trivial⟩ (Hp.le_refl _))) <| jal inf86 [ii 0, .bool false] rfl fun b357 => ja (ii i313) rfl <| js [ii x348.1, .bool x348.2] sz86 rfl rfl rfl rfl rfl rfl <| J.nil <| CJ.seq ?_
     refine CJ.region <| jm (.slice adxb_0 xb.length cpxb_0) rfl <| jm (ii i313) rfl ?_
     obtain ⟨x358, hx359, h343⟩ := ob h343
     obtain ⟨p360, p361, p362⟩ := getI_some hx359
     obtain ⟨b363, o364, e365, a366⟩ := (fxb_0).at p361
     refine jv _ (V.iad Try.underlying24 sz86 rfl e365 rfl p360 p362) <| jv (.agg #[ii x358.1, .bool x358.2]) (V.ld rfl (Ld.aggK (cs := [ii x358.1, .bool x358.2]) Try.underlying86 sz86 rfl ⟨((a366).fst).int, (((a366).snd).one).bool, trivial⟩ (Hp.le_refl _))) <| jal inf86 [ii 0, .bool false] rfl fun b367 => js [ii x358.1, .bool x358.2] sz86 rfl rfl rfl rfl rfl rfl <| J.nil <| CJ.seq <| CJ.region ?_
     refine jm (.func (.func 45) #[] #[]) rfl <| jv (.agg #[ii x348.1, .bool x348.2]) (V.ld rfl (Ld.agg (cs := [ii x348.1, .bool x348.2]) Try.underlying86 sz86 rfl (Rd.cls 1 0 rfl rfl))) <| jv (.agg #[ii x358.1, .bool x358.2]) (V.ld rfl (Ld.agg (cs := [ii x358.1, .bool x358.2]) Try.underlying86 sz86 rfl (Rd.cls 0 0 rfl rfl))) ?_
     obtain ⟨r368, hr369, h343⟩ := ob h343
     refine J.op rfl (A.call (L1 := []) Try.call45 rfl (row_Shape_1_ok hr369) rfl rfl) ?_
     rintro _ _ _ ⟨v371, _, rfl, ⟨⟨t370, rfl, rfl, rfl⟩, rfl⟩, _, rfl⟩
     refine jv (.bool (!t370)) (V.not rfl) <| J.nil <| cc rfl h343 (fun hc374 h343 => ?_) fun hc374 h343 => ?_
     · refine cr <| ja (.bool false) rfl <| J.nil <| CJ.ret ?_
       obtain rfl := si h343
       refine ⟨nofun, fun e => ?_⟩
       subst e
       refine .inr ⟨nofun, ?_⟩
       obtain rfl := si h
       exact ⟨_, _, Res.one rfl rfl, ⟨false, rfl, rfl, rfl⟩, (Hp.le_refl _), fun w hs => (Sep.dropAt 0 rfl (Sep.dropAt 0 rfl hs))⟩
     refine CJ.skip <| CJ.region <| jv (ii (IntKind.wrap .i64 (i313 + 1))) (V.add rfl rfl) <| jm (ii (IntKind.wrap .i64 (i313 + 1))) rfl <| J.dropAt 0 rfl <| J.dropAt 0 rfl <| J.nil ?_
     obtain rfl := si h343
     exact ⟨rfl, ⟨IntKind.wrap .i64 (i313 + 1), rfl, ⟨rfl, rfl, rfl, rfl, rfl, trivial⟩, rfl, rfl⟩⟩
   refine CJ.exit ?_
   obtain rfl := si h343
   refine ⟨nofun, fun e => ?_⟩
   subst e
   exact .inl ⟨rfl, _, rfl, ⟨rfl, trivial, rfl, rfl⟩⟩
 rintro s ρ _ _ ho375 ⟨rfl, hf376, rfl, rfl⟩
 subst ho375
 obtain ⟨ρ, rfl⟩ := hf376.ex
 refine PJ.done <| cr <| ja (.bool true) rfl <| J.nil <| CJ.ret ?_
 obtain rfl := si h
 exact ⟨_, _, Res.one rfl rfl, ⟨true, rfl, rfl, rfl⟩, (Hp.le_refl _), fun w hs => hs⟩

noncomputable def fn_row_Shape (xa : (List (Int × Bool))) (xb : (List (Int × Bool))) : Option Bool :=
  (fn_slices_EqualFunc_api_Slot_api_Slot_api_Slot_api_Slot_kk_row_Shape_1 xa xb).bind fun t14 => some (t14)
set_option maxRecDepth 100000 in
set_option maxHeartbeats 4000000 in
theorem row_Shape_ok {K : Hp} {xa : (List (Int × Bool))} {xb : (List (Int × Bool))} {adxa_0 : Option Addr} {cpxa_0 : Nat} {adxb_0 : Option Addr} {cpxb_0 : Nat} (fxa_0 : Is K (.sl (.cons (.int .i64) (.one .bool))) [.slice adxa_0 xa.length cpxa_0] xa) (fxb_0 : Is K (.sl (.cons (.int .i64) (.one .bool))) [.slice adxb_0 xb.length cpxb_0] xb) {r : Bool} (h : fn_row_Shape xa xb = some r) :
    Tr Try.prog 34 #[.agg #[.slice adxa_0 xa.length cpxa_0], .agg #[.slice adxb_0 xb.length cpxb_0]] K [] (fun v K' L' => (∃ (t9 : Bool), t9 = r ∧ .bool t9 = v ∧ L' = []) ∧ K = K') := by
 refine Tr.k <| Tr.of Try.func34 rfl Try.ntmps34 rfl fun E F => ?_
 unfold fn_row_Shape at h
 refine cr <| jbx [.slice adxa_0 xa.length cpxa_0] rfl rfl fun b10 => jbx [.slice adxb_0 xb.length cpxb_0] rfl rfl fun b11 => ja (.bool false) rfl <| J.nil <| CJ.seq ?_
 refine CJ.region <| jv _ (V.fad Try.underlying26 rfl nz24 rfl) <| jv (.slice adxa_0 xa.length cpxa_0) (V.ld rfl (Ld.sc sc24 (Rd.cl 1 rfl rfl))) <| jv _ (V.fad Try.underlying26 rfl nz24 rfl) <| jv (.slice adxb_0 xb.length cpxb_0) (V.ld rfl (Ld.sc sc24 (Rd.cl 0 rfl rfl))) ?_
 obtain ⟨r12, hr13, h⟩ := ob h
 refine J.op rfl (A.call (L1 := []) Try.call44 rfl (slices_EqualFunc_api_Slot_api_Slot_api_Slot_api_Slot_kk_row_Shape_1_ok fxa_0 fxb_0 hr13) rfl rfl) ?_
 rintro _ _ _ ⟨v15, _, rfl, ⟨⟨t14, rfl, rfl, rfl⟩, rfl⟩, _, rfl⟩
 refine ja (.bool t14) rfl <| J.nil <| CJ.ret ?_
 obtain rfl := si h
 exact ⟨_, _, Res.one rfl rfl, ⟨t14, rfl, rfl, rfl⟩, (Hp.le_refl _), fun w hs => (Sep.dropAt 0 rfl (Sep.dropAt 0 rfl hs))⟩
end Go.Proofs.Ytbaaamdljojknaa
