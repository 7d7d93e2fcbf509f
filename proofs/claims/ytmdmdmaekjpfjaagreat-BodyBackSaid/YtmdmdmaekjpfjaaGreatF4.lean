import Derived.Test.YtmdmdmaekjpfjaaGreatF3
namespace Go.Proofs.YtmdmdmaekjpfjaaGreat
open Go.RowKit
set_option linter.unusedVariables false
set_option linter.unnecessarySimpa false
set_option linter.unusedSimpArgs false
set_option maxRecDepth 20000

noncomputable def fn_ref18_Put (xa : (Int × Int × Int × Int × Bool)) : Option (List UInt8 × Int) :=
  (fn_ref18_Form (xa.1, xa.2.1, xa.2.2.1, xa.2.2.2.1, xa.2.2.2.2)).bind fun t149 => cond (!t149) (some ((([] : List UInt8), 3))) ((fn_ref02_Put xa.1).bind fun s156 => ((fn_ref18_Dst xa.1).bind fun t180 => cond (t180) ((fn_ref02_Put xa.2.1).bind fun s187 => (app s156 s187).bind fun z191 => some (z191)) (some (s156)) : Option (List UInt8)).bind fun s175 => ((fn_ref18_Src xa.1).bind fun t215 => cond (t215) ((fn_ref02_Put xa.2.2.1).bind fun s222 => (app s175 s222).bind fun z226 => some (z226)) (some (s175)) : Option (List UInt8)).bind fun s210 => ((fn_ref18_Region xa.1).bind fun t253 => cond (t253 && xa.2.2.2.2) ((fn_ref02_Put (IntKind.wrap .i64 ((IntKind.wrap .i64 (2 * xa.2.2.2.1)) + 1))).bind fun s263 => (app s210 s263).bind fun z267 => some (z267)) (some (s210)) : Option (List UInt8)).bind fun s248 => (fn_ref18_Region xa.1).bind fun t273 => cond (t273 && (!xa.2.2.2.2)) ((fn_ref02_Put (IntKind.wrap .i64 (2 * xa.2.2.2.1))).bind fun s283 => (app s248 s283).bind fun z287 => some ((z287, 0))) (some ((s248, 0))))
set_option maxRecDepth 100000 in
set_option maxHeartbeats 4000000 in
theorem ref18_Put_ok {K : Hp} {xa : (Int × Int × Int × Int × Bool)}   {r : (List UInt8 × Int)} (h : fn_ref18_Put xa = some r) :
    Tr Tryz.prog 96 #[.agg #[ii xa.1, ii xa.2.1, ii xa.2.2.1, ii xa.2.2.2.1, .bool xa.2.2.2.2]] K [] (fun v K' L' => (∃ (s144 : List UInt8) (i145 : Int), (s144, i145) = r ∧ .tuple #[.string ⟨s144.toArray⟩, ii i145] = v ∧ L' = []) ∧ K = K') := by
 refine Tr.k <| Tr.of Tryz.func96 rfl Tryz.ntmps96 rfl fun E F => ?_
 unfold fn_ref18_Put at h
 refine cr <| jbx [ii xa.1, ii xa.2.1, ii xa.2.2.1, ii xa.2.2.2.1, .bool xa.2.2.2.2] rfl rfl fun b146 => ja (.string ⟨([] : List UInt8).toArray⟩) rfl <| ja (ii 0) rfl <| J.nil <| CJ.seq ?_
 refine cr <| jv (.agg #[ii xa.1, ii xa.2.1, ii xa.2.2.1, ii xa.2.2.2.1, .bool xa.2.2.2.2]) (V.ld rfl (Ld.agg (cs := [ii xa.1, ii xa.2.1, ii xa.2.2.1, ii xa.2.2.2.1, .bool xa.2.2.2.2]) Tryz.underlying73 sz73 rfl (Rd.cls 0 0 rfl rfl))) ?_
 obtain ⟨r147, hr148, h⟩ := ob h
 refine J.op rfl (A.call (L1 := []) Tryz.call110 rfl (ref18_Form_ok hr148) rfl rfl) ?_
 rintro _ _ _ ⟨v150, _, rfl, ⟨⟨t149, rfl, rfl, rfl⟩, rfl⟩, _, rfl⟩
 refine jv (.bool (!t149)) (V.not rfl) <| J.nil <| cc rfl h (fun hc153 h => ?_) fun hc153 h => ?_
 · refine cr <| ja (.string ⟨([] : List UInt8).toArray⟩) rfl <| ja (ii 3) rfl <| J.nil <| CJ.ret ?_
   obtain rfl := si h
   exact ⟨_, _, Res.two rfl rfl rfl, ⟨([] : List UInt8), 3, rfl, rfl, rfl⟩, (Hp.le_refl _), fun w hs => (Sep.dropAt 0 rfl hs)⟩
 refine CJ.skip <| cr <| jv _ (V.fad Tryz.underlying73 rfl nz3 rfl) <| jv (ii xa.1) (V.ld rfl (Ld.sc sc3 (Rd.cl 0 rfl rfl))) ?_
 obtain ⟨r154, hr155, h⟩ := ob h
 refine J.op rfl (A.call (L1 := []) Tryz.call92 rfl (ref02_Put_ok hr155) rfl rfl) ?_
 rintro _ _ _ ⟨v157, _, rfl, ⟨⟨s156, rfl, rfl, rfl⟩, rfl⟩, _, rfl⟩
 refine ja (.string ⟨s156.toArray⟩) rfl <| J.nil <| CJ.seq ?_
 obtain ⟨o176, ho177, h⟩ := ob h
 refine CJ.meetN (fun ρ K' L' => ∃ (s175 : List UInt8), s175 = o176 ∧ Fits [(1, .pointer (some ⟨b146, 0, none⟩)), (4, .string ⟨s175.toArray⟩)] ρ ∧ K = K' ∧ L' = Cl b146 73 [ii xa.1, ii xa.2.1, ii xa.2.2.1, ii xa.2.2.2.1, .bool xa.2.2.2.2] :: F) ?_ ?_
 · refine cr <| jv _ (V.fad Tryz.underlying73 rfl nz3 rfl) <| jv (ii xa.1) (V.ld rfl (Ld.sc sc3 (Rd.cl 0 rfl rfl))) ?_
   obtain ⟨r178, hr179, ho177⟩ := ob ho177
   refine J.op rfl (A.call (L1 := []) Tryz.call111 rfl (ref18_Dst_ok hr179) rfl rfl) ?_
   rintro _ _ _ ⟨v181, _, rfl, ⟨⟨t180, rfl, rfl, rfl⟩, rfl⟩, _, rfl⟩
   refine J.nil <| cc rfl ho177 (fun hc184 ho177 => ?_) fun hc184 ho177 => ?_
   · refine CJ.region <| jm (.string ⟨s156.toArray⟩) rfl <| jv _ (V.fad Tryz.underlying73 rfl nz3 rfl) <| jv (ii xa.2.1) (V.ld rfl (Ld.sc sc3 (Rd.cl 0 rfl rfl))) ?_
     obtain ⟨r185, hr186, ho177⟩ := ob ho177
     refine J.op rfl (A.call (L1 := []) Tryz.call92 rfl (ref02_Put_ok hr186) rfl rfl) ?_
     rintro _ _ _ ⟨v188, _, rfl, ⟨⟨s187, rfl, rfl, rfl⟩, rfl⟩, _, rfl⟩
     obtain ⟨z191, hz192, ho177⟩ := ob ho177
     refine jv (.string ⟨z191.toArray⟩) (V.cat rfl rfl hz192) <| ja (.string ⟨z191.toArray⟩) rfl <| J.nil ?_
     obtain rfl := si ho177
     exact ⟨rfl, ⟨z191, rfl, ⟨rfl, rfl, trivial⟩, rfl, rfl⟩⟩
   refine CJ.skip ?_
   obtain rfl := si ho177
   exact ⟨rfl, ⟨s156, rfl, ⟨rfl, rfl, trivial⟩, rfl, rfl⟩⟩
 rintro ρ _ _ ⟨s175, rfl, hf193, rfl, rfl⟩
 obtain ⟨ρ, rfl⟩ := hf193.ex
 refine PJ.done <| CJ.seq ?_
 obtain ⟨o211, ho212, h⟩ := ob h
 refine CJ.meetN (fun ρ K' L' => ∃ (s210 : List UInt8), s210 = o211 ∧ Fits [(1, .pointer (some ⟨b146, 0, none⟩)), (4, .string ⟨s210.toArray⟩)] ρ ∧ K = K' ∧ L' = Cl b146 73 [ii xa.1, ii xa.2.1, ii xa.2.2.1, ii xa.2.2.2.1, .bool xa.2.2.2.2] :: F) ?_ ?_
 · refine cr <| jv _ (V.fad Tryz.underlying73 rfl nz3 rfl) <| jv (ii xa.1) (V.ld rfl (Ld.sc sc3 (Rd.cl 0 rfl rfl))) ?_
   obtain ⟨r213, hr214, ho212⟩ := ob ho212
   refine J.op rfl (A.call (L1 := []) Tryz.call112 rfl (ref18_Src_ok hr214) rfl rfl) ?_
   rintro _ _ _ ⟨v216, _, rfl, ⟨⟨t215, rfl, rfl, rfl⟩, rfl⟩, _, rfl⟩
   refine J.nil <| cc rfl ho212 (fun hc219 ho212 => ?_) fun hc219 ho212 => ?_
   · refine CJ.region <| jm (.string ⟨s175.toArray⟩) rfl <| jv _ (V.fad Tryz.underlying73 rfl nz3 rfl) <| jv (ii xa.2.2.1) (V.ld rfl (Ld.sc sc3 (Rd.cl 0 rfl rfl))) ?_
     obtain ⟨r220, hr221, ho212⟩ := ob ho212
     refine J.op rfl (A.call (L1 := []) Tryz.call92 rfl (ref02_Put_ok hr221) rfl rfl) ?_
     rintro _ _ _ ⟨v223, _, rfl, ⟨⟨s222, rfl, rfl, rfl⟩, rfl⟩, _, rfl⟩
     obtain ⟨z226, hz227, ho212⟩ := ob ho212
     refine jv (.string ⟨z226.toArray⟩) (V.cat rfl rfl hz227) <| ja (.string ⟨z226.toArray⟩) rfl <| J.nil ?_
     obtain rfl := si ho212
     exact ⟨rfl, ⟨z226, rfl, ⟨rfl, rfl, trivial⟩, rfl, rfl⟩⟩
   refine CJ.skip ?_
   obtain rfl := si ho212
   exact ⟨rfl, ⟨s175, rfl, ⟨rfl, rfl, trivial⟩, rfl, rfl⟩⟩
 rintro ρ _ _ ⟨s210, rfl, hf228, rfl, rfl⟩
 obtain ⟨ρ, rfl⟩ := hf228.ex
 refine PJ.done <| CJ.seq ?_
 obtain ⟨o249, ho250, h⟩ := ob h
 refine CJ.meetN (fun ρ K' L' => ∃ (s248 : List UInt8), s248 = o249 ∧ Fits [(1, .pointer (some ⟨b146, 0, none⟩)), (4, .string ⟨s248.toArray⟩)] ρ ∧ K = K' ∧ L' = Cl b146 73 [ii xa.1, ii xa.2.1, ii xa.2.2.1, ii xa.2.2.2.1, .bool xa.2.2.2.2] :: F) ?_ ?_
 · refine cr <| jv _ (V.fad Tryz.underlying73 rfl nz3 rfl) <| jv (ii xa.1) (V.ld rfl (Ld.sc sc3 (Rd.cl 0 rfl rfl))) ?_
   obtain ⟨r251, hr252, ho250⟩ := ob ho250
   refine J.op rfl (A.call (L1 := []) Tryz.call113 rfl (ref18_Region_ok hr252) rfl rfl) ?_
   rintro _ _ _ ⟨v254, _, rfl, ⟨⟨t253, rfl, rfl, rfl⟩, rfl⟩, _, rfl⟩
   refine jm (.bool t253) rfl <| J.cut 3 <| jmeet [(33, .bool (t253 && xa.2.2.2.2)), (1, .pointer (some ⟨b146, 0, none⟩)), (4, .string ⟨s210.toArray⟩)] ?_ ?_
   · rcases bt (t253) with hc259 | hc259
     · refine J.run rfl rfl rfl hc259 <| jv _ (V.fad Tryz.underlying73 rfl nz4 rfl) <| J.run rfl rfl rfl hc259 <| jv (.bool xa.2.2.2.2) (V.ld rfl (Ld.sc sc4 (Rd.cl 0 rfl rfl))) <| jv (.bool xa.2.2.2.2) (V.pickT rfl hc259 rfl) <| J.nil ?_
       exact ⟨rfl, ⟨(by simp only [hc259]; rfl), rfl, rfl, trivial⟩, rfl, rfl⟩
     refine J.skip rfl rfl rfl rfl hc259 <| J.skip rfl rfl rfl rfl hc259 <| jv (.bool false) (V.pickF rfl hc259 rfl) <| J.nil ?_
     exact ⟨rfl, ⟨(by simp only [hc259]; rfl), rfl, rfl, trivial⟩, rfl, rfl⟩
   intro ρ
   refine J.nil <| cc rfl ho250 (fun hc260 ho250 => ?_) fun hc260 ho250 => ?_
   · refine CJ.region <| jm (.string ⟨s210.toArray⟩) rfl <| jv _ (V.fad Tryz.underlying73 rfl nz3 rfl) <| jv (ii xa.2.2.2.1) (V.ld rfl (Ld.sc sc3 (Rd.cl 0 rfl rfl))) <| jv (ii (IntKind.wrap .i64 (2 * xa.2.2.2.1))) (V.mul rfl rfl) <| jv (ii (IntKind.wrap .i64 ((IntKind.wrap .i64 (2 * xa.2.2.2.1)) + 1))) (V.add rfl rfl) ?_
     obtain ⟨r261, hr262, ho250⟩ := ob ho250
     refine J.op rfl (A.call (L1 := []) Tryz.call92 rfl (ref02_Put_ok hr262) rfl rfl) ?_
     rintro _ _ _ ⟨v264, _, rfl, ⟨⟨s263, rfl, rfl, rfl⟩, rfl⟩, _, rfl⟩
     obtain ⟨z267, hz268, ho250⟩ := ob ho250
     refine jv (.string ⟨z267.toArray⟩) (V.cat rfl rfl hz268) <| ja (.string ⟨z267.toArray⟩) rfl <| J.nil ?_
     obtain rfl := si ho250
     exact ⟨rfl, ⟨z267, rfl, ⟨rfl, rfl, trivial⟩, rfl, rfl⟩⟩
   refine CJ.skip ?_
   obtain rfl := si ho250
   exact ⟨rfl, ⟨s210, rfl, ⟨rfl, rfl, trivial⟩, rfl, rfl⟩⟩
 rintro ρ _ _ ⟨s248, rfl, hf269, rfl, rfl⟩
 obtain ⟨ρ, rfl⟩ := hf269.ex
 refine PJ.done <| CJ.seq <| cr <| jv _ (V.fad Tryz.underlying73 rfl nz3 rfl) <| jv (ii xa.1) (V.ld rfl (Ld.sc sc3 (Rd.cl 0 rfl rfl))) ?_
 obtain ⟨r271, hr272, h⟩ := ob h
 refine J.op rfl (A.call (L1 := []) Tryz.call113 rfl (ref18_Region_ok hr272) rfl rfl) ?_
 rintro _ _ _ ⟨v274, _, rfl, ⟨⟨t273, rfl, rfl, rfl⟩, rfl⟩, _, rfl⟩
 refine jm (.bool t273) rfl <| J.cut 4 <| jmeet [(48, .bool (t273 && (!xa.2.2.2.2))), (1, .pointer (some ⟨b146, 0, none⟩)), (4, .string ⟨s248.toArray⟩)] ?_ ?_
 · rcases bt (t273) with hc279 | hc279
   · refine J.run rfl rfl rfl hc279 <| jv _ (V.fad Tryz.underlying73 rfl nz4 rfl) <| J.run rfl rfl rfl hc279 <| jv (.bool xa.2.2.2.2) (V.ld rfl (Ld.sc sc4 (Rd.cl 0 rfl rfl))) <| J.run rfl rfl rfl hc279 <| jv (.bool (!xa.2.2.2.2)) (V.not rfl) <| jv (.bool (!xa.2.2.2.2)) (V.pickT rfl hc279 rfl) ?_
     refine J.nil ?_
     exact ⟨rfl, ⟨(by simp only [hc279]; rfl), rfl, rfl, trivial⟩, rfl, rfl⟩
   refine J.skip rfl rfl rfl rfl hc279 <| J.skip rfl rfl rfl rfl hc279 <| J.skip rfl rfl rfl rfl hc279 <| jv (.bool false) (V.pickF rfl hc279 rfl) <| J.nil ?_
   exact ⟨rfl, ⟨(by simp only [hc279]; rfl), rfl, rfl, trivial⟩, rfl, rfl⟩
 intro ρ
 refine J.nil <| cc rfl h (fun hc280 h => ?_) fun hc280 h => ?_
 · refine CJ.region <| jm (.string ⟨s248.toArray⟩) rfl <| jv _ (V.fad Tryz.underlying73 rfl nz3 rfl) <| jv (ii xa.2.2.2.1) (V.ld rfl (Ld.sc sc3 (Rd.cl 0 rfl rfl))) <| jv (ii (IntKind.wrap .i64 (2 * xa.2.2.2.1))) (V.mul rfl rfl) ?_
   obtain ⟨r281, hr282, h⟩ := ob h
   refine J.op rfl (A.call (L1 := []) Tryz.call92 rfl (ref02_Put_ok hr282) rfl rfl) ?_
   rintro _ _ _ ⟨v284, _, rfl, ⟨⟨s283, rfl, rfl, rfl⟩, rfl⟩, _, rfl⟩
   obtain ⟨z287, hz288, h⟩ := ob h
   refine jv (.string ⟨z287.toArray⟩) (V.cat rfl rfl hz288) <| ja (.string ⟨z287.toArray⟩) rfl <| J.nil <| cr <| jm (.string ⟨z287.toArray⟩) rfl <| ja (.string ⟨z287.toArray⟩) rfl ?_
   refine ja (ii 0) rfl <| J.nil <| CJ.ret ?_
   obtain rfl := si h
   exact ⟨_, _, Res.two rfl rfl rfl, ⟨z287, 0, rfl, rfl, rfl⟩, (Hp.le_refl _), fun w hs => (Sep.dropAt 0 rfl hs)⟩
 refine CJ.skip <| cr <| jm (.string ⟨s248.toArray⟩) rfl <| ja (.string ⟨s248.toArray⟩) rfl <| ja (ii 0) rfl <| J.nil ?_
 refine CJ.ret ?_
 obtain rfl := si h
 exact ⟨_, _, Res.two rfl rfl rfl, ⟨s248, 0, rfl, rfl, rfl⟩, (Hp.le_refl _), fun w hs => (Sep.dropAt 0 rfl hs)⟩

noncomputable def fn_ref19_Form (xa : (Int × Int × Int × (List Int) × (List Int) × (List Int))) : Option Int :=
  cond ((decide (xa.1 < 1)) || (decide (4 < xa.1))) (some (3)) (cond (((((decide (xa.1 = 1)) || (decide (xa.1 = 4))) && (!decide ((((xa.2.2.2.1.length : Nat) : Int)) = 1))) || ((decide (xa.1 = 2)) && (decide ((((xa.2.2.2.1.length : Nat) : Int)) = 0)))) || ((decide (xa.1 = 3)) && (!decide ((((xa.2.2.2.1.length : Nat) : Int)) = 0)))) (some (3)) (cond ((!decide (xa.1 = 4)) && (((!decide (xa.2.1 = 0)) || (!decide (xa.2.2.1 = 0))) || (!decide ((((xa.2.2.2.2.2.length : Nat) : Int)) = 0)))) (some (3)) (cond (((decide (xa.1 = 1)) || (decide (xa.1 = 3))) && (!decide ((((xa.2.2.2.2.1.length : Nat) : Int)) = 0))) (some (3)) (cond (((decide (16 < (((xa.2.2.2.1.length : Nat) : Int)))) || (decide (16 < (((xa.2.2.2.2.1.length : Nat) : Int))))) || (decide (16 < (((xa.2.2.2.2.2.length : Nat) : Int))))) (some (6)) (some (0))))))
set_option maxRecDepth 100000 in
set_option maxHeartbeats 4000000 in
theorem ref19_Form_ok {K : Hp} {xa : (Int × Int × Int × (List Int) × (List Int) × (List Int))} {adxa_3 : Option Addr} {cpxa_3 : Nat} {adxa_4 : Option Addr} {cpxa_4 : Nat} {adxa_5 : Option Addr} {cpxa_5 : Nat} (fxa_3 : Is K (.sl (.int .i64)) [.slice adxa_3 xa.2.2.2.1.length cpxa_3] xa.2.2.2.1) (fxa_4 : Is K (.sl (.int .i64)) [.slice adxa_4 xa.2.2.2.2.1.length cpxa_4] xa.2.2.2.2.1) (fxa_5 : Is K (.sl (.int .i64)) [.slice adxa_5 xa.2.2.2.2.2.length cpxa_5] xa.2.2.2.2.2) {r : Int} (h : fn_ref19_Form xa = some r) :
    Tr Tryz.prog 114 #[.agg #[ii xa.1, ii xa.2.1, ii xa.2.2.1, .slice adxa_3 xa.2.2.2.1.length cpxa_3, .slice adxa_4 xa.2.2.2.2.1.length cpxa_4, .slice adxa_5 xa.2.2.2.2.2.length cpxa_5]] K [] (fun v K' L' => (∃ (i61 : Int), i61 = r ∧ ii i61 = v ∧ L' = []) ∧ K = K') := by
 refine Tr.k <| Tr.of Tryz.func114 rfl Tryz.ntmps114 rfl fun E F => ?_
 unfold fn_ref19_Form at h
 refine cr <| jbx [ii xa.1, ii xa.2.1, ii xa.2.2.1, .slice adxa_3 xa.2.2.2.1.length cpxa_3, .slice adxa_4 xa.2.2.2.2.1.length cpxa_4, .slice adxa_5 xa.2.2.2.2.2.length cpxa_5] rfl rfl fun b62 => ja (ii 0) rfl <| J.nil <| CJ.seq <| CJ.seq ?_
 refine CJ.region <| jv _ (V.fad Tryz.underlying68 rfl nz3 rfl) <| jv (ii xa.1) (V.ld rfl (Ld.sc sc3 (Rd.cl 0 rfl rfl))) <| jv (.bool (decide (xa.1 < 1))) (V.lss rfl rfl) <| jm (.bool (decide (xa.1 < 1))) rfl <| J.cut 4 <| jmeet [(10, .bool ((decide (xa.1 < 1)) || (decide (4 < xa.1)))), (1, .pointer (some ⟨b62, 0, none⟩))] ?_ ?_
 · rcases bt (decide (xa.1 < 1)) with hc65 | hc65
   · refine J.skip rfl rfl rfl rfl hc65 <| J.skip rfl rfl rfl rfl hc65 <| J.skip rfl rfl rfl rfl hc65 <| jv (.bool true) (V.pickT rfl hc65 rfl) <| J.nil ?_
     exact ⟨rfl, ⟨(by simp only [hc65]; rfl), rfl, trivial⟩, rfl, rfl⟩
   refine J.run rfl rfl rfl hc65 <| jv _ (V.fad Tryz.underlying68 rfl nz3 rfl) <| J.run rfl rfl rfl hc65 <| jv (ii xa.1) (V.ld rfl (Ld.sc sc3 (Rd.cl 0 rfl rfl))) <| J.run rfl rfl rfl hc65 <| jv (.bool (decide (4 < xa.1))) (V.gtr rfl rfl) <| jv (.bool (decide (4 < xa.1))) (V.pickF rfl hc65 rfl) ?_
   refine J.nil ?_
   exact ⟨rfl, ⟨(by simp only [hc65]; rfl), rfl, trivial⟩, rfl, rfl⟩
 intro ρ
 refine J.nil <| cc rfl h (fun hc66 h => ?_) fun hc66 h => ?_
 · refine cr <| ja (ii 3) rfl <| J.nil <| CJ.ret ?_
   obtain rfl := si h
   exact ⟨_, _, Res.one rfl rfl, ⟨3, rfl, rfl, rfl⟩, (Hp.le_refl _), fun w hs => (Sep.dropAt 0 rfl hs)⟩
 refine CJ.skip <| CJ.seq <| cr <| jv _ (V.fad Tryz.underlying68 rfl nz3 rfl) <| jv (ii xa.1) (V.ld rfl (Ld.sc sc3 (Rd.cl 0 rfl rfl))) <| jv (.bool (decide (xa.1 = 1))) (V.eql rfl rfl) ?_
 refine jm (.bool (decide (xa.1 = 1))) rfl <| J.cut 4 <| jmeet [(18, .bool ((decide (xa.1 = 1)) || (decide (xa.1 = 4)))), (1, .pointer (some ⟨b62, 0, none⟩))] ?_ ?_
 · rcases bt (decide (xa.1 = 1)) with hc69 | hc69
   · refine J.skip rfl rfl rfl rfl hc69 <| J.skip rfl rfl rfl rfl hc69 <| J.skip rfl rfl rfl rfl hc69 <| jv (.bool true) (V.pickT rfl hc69 rfl) <| J.nil ?_
     exact ⟨rfl, ⟨(by simp only [hc69]; rfl), rfl, trivial⟩, rfl, rfl⟩
   refine J.run rfl rfl rfl hc69 <| jv _ (V.fad Tryz.underlying68 rfl nz3 rfl) <| J.run rfl rfl rfl hc69 <| jv (ii xa.1) (V.ld rfl (Ld.sc sc3 (Rd.cl 0 rfl rfl))) <| J.run rfl rfl rfl hc69 <| jv (.bool (decide (xa.1 = 4))) (V.eql rfl rfl) <| jv (.bool (decide (xa.1 = 4))) (V.pickF rfl hc69 rfl) ?_
   refine J.nil ?_
   exact ⟨rfl, ⟨(by simp only [hc69]; rfl), rfl, trivial⟩, rfl, rfl⟩
 intro ρ
 refine jm (.bool ((decide (xa.1 = 1)) || (decide (xa.1 = 4)))) rfl <| J.cut 5 <| jmeet [(24, .bool (((decide (xa.1 = 1)) || (decide (xa.1 = 4))) && (!decide ((((xa.2.2.2.1.length : Nat) : Int)) = 1)))), (1, .pointer (some ⟨b62, 0, none⟩))] ?_ ?_
 · rcases bt ((decide (xa.1 = 1)) || (decide (xa.1 = 4))) with hc72 | hc72
   · refine J.run rfl rfl rfl hc72 <| jv _ (V.fad Tryz.underlying68 rfl nz66 rfl) <| J.run rfl rfl rfl hc72 <| jv (.slice adxa_3 xa.2.2.2.1.length cpxa_3) (V.ld rfl (Ld.sc sc66 (Rd.cl 0 rfl rfl))) <| J.run rfl rfl rfl hc72 <| jv (ii (((xa.2.2.2.1.length : Nat) : Int))) (V.len Tryz.underlying66 rfl) <| J.run rfl rfl rfl hc72 ?_
     refine jv (.bool (!decide ((((xa.2.2.2.1.length : Nat) : Int)) = 1))) (V.neq rfl rfl) <| jv (.bool (!decide ((((xa.2.2.2.1.length : Nat) : Int)) = 1))) (V.pickT rfl hc72 rfl) <| J.nil ?_
     exact ⟨rfl, ⟨(by simp only [hc72]; rfl), rfl, trivial⟩, rfl, rfl⟩
   refine J.skip rfl rfl rfl rfl hc72 <| J.skip rfl rfl rfl rfl hc72 <| J.skip rfl rfl rfl rfl hc72 <| J.skip rfl rfl rfl rfl hc72 <| jv (.bool false) (V.pickF rfl hc72 rfl) <| J.nil ?_
   exact ⟨rfl, ⟨(by simp only [hc72]; rfl), rfl, trivial⟩, rfl, rfl⟩
 intro ρ
 refine jm (.bool (((decide (xa.1 = 1)) || (decide (xa.1 = 4))) && (!decide ((((xa.2.2.2.1.length : Nat) : Int)) = 1)))) rfl <| J.cut 10 <| jmeet [(35, .bool ((((decide (xa.1 = 1)) || (decide (xa.1 = 4))) && (!decide ((((xa.2.2.2.1.length : Nat) : Int)) = 1))) || ((decide (xa.1 = 2)) && (decide ((((xa.2.2.2.1.length : Nat) : Int)) = 0))))), (1, .pointer (some ⟨b62, 0, none⟩))] ?_ ?_
 · rcases bt (((decide (xa.1 = 1)) || (decide (xa.1 = 4))) && (!decide ((((xa.2.2.2.1.length : Nat) : Int)) = 1))) with hc78 | hc78
   · refine J.skip rfl rfl rfl rfl hc78 <| J.skip rfl rfl rfl rfl hc78 <| J.skip rfl rfl rfl rfl hc78 <| J.skip rfl rfl rfl rfl hc78 <| J.skipu rfl rfl rfl rfl <| J.skipu rfl rfl rfl rfl <| J.skipu rfl rfl rfl rfl ?_
     refine J.skipu rfl rfl rfl rfl <| J.skip rfl rfl rfl rfl hc78 <| jv (.bool true) (V.pickT rfl hc78 rfl) <| J.nil ?_
     exact ⟨rfl, ⟨(by simp only [hc78]; rfl), rfl, trivial⟩, rfl, rfl⟩
   refine J.run rfl rfl rfl hc78 <| jv _ (V.fad Tryz.underlying68 rfl nz3 rfl) <| J.run rfl rfl rfl hc78 <| jv (ii xa.1) (V.ld rfl (Ld.sc sc3 (Rd.cl 0 rfl rfl))) <| J.run rfl rfl rfl hc78 <| jv (.bool (decide (xa.1 = 2))) (V.eql rfl rfl) <| J.run rfl rfl rfl hc78 ?_
   refine jm (.bool (decide (xa.1 = 2))) rfl <| J.cut 5 <| jmeet [(34, .bool ((decide (xa.1 = 2)) && (decide ((((xa.2.2.2.1.length : Nat) : Int)) = 0)))), (1, .pointer (some ⟨b62, 0, none⟩)), (25, .bool (((decide (xa.1 = 1)) || (decide (xa.1 = 4))) && (!decide ((((xa.2.2.2.1.length : Nat) : Int)) = 1))))] ?_ ?_
   · rcases bt (decide (xa.1 = 2)) with hc81 | hc81
     · refine J.run rfl rfl rfl hc81 <| jv _ (V.fad Tryz.underlying68 rfl nz66 rfl) <| J.run rfl rfl rfl hc81 <| jv (.slice adxa_3 xa.2.2.2.1.length cpxa_3) (V.ld rfl (Ld.sc sc66 (Rd.cl 0 rfl rfl))) <| J.run rfl rfl rfl hc81 <| jv (ii (((xa.2.2.2.1.length : Nat) : Int))) (V.len Tryz.underlying66 rfl) <| J.run rfl rfl rfl hc81 ?_
       refine jv (.bool (decide ((((xa.2.2.2.1.length : Nat) : Int)) = 0))) (V.eql rfl rfl) <| J.run rfl rfl rfl hc78 <| jv (.bool (decide ((((xa.2.2.2.1.length : Nat) : Int)) = 0))) (V.pickT rfl hc81 rfl) <| J.nil ?_
       exact ⟨rfl, ⟨(by simp only [hc81]; rfl), rfl, rfl, trivial⟩, rfl, rfl⟩
     refine J.skip rfl rfl rfl rfl hc81 <| J.skip rfl rfl rfl rfl hc81 <| J.skip rfl rfl rfl rfl hc81 <| J.skip rfl rfl rfl rfl hc81 <| J.run rfl rfl rfl hc78 <| jv (.bool false) (V.pickF rfl hc81 rfl) <| J.nil ?_
     exact ⟨rfl, ⟨(by simp only [hc81]; rfl), rfl, rfl, trivial⟩, rfl, rfl⟩
   intro ρ
   refine jv (.bool ((decide (xa.1 = 2)) && (decide ((((xa.2.2.2.1.length : Nat) : Int)) = 0)))) (V.pickF rfl hc78 rfl) <| J.nil ?_
   exact ⟨rfl, ⟨(by simp only [hc78]; rfl), rfl, trivial⟩, rfl, rfl⟩
 intro ρ
 refine jm (.bool ((((decide (xa.1 = 1)) || (decide (xa.1 = 4))) && (!decide ((((xa.2.2.2.1.length : Nat) : Int)) = 1))) || ((decide (xa.1 = 2)) && (decide ((((xa.2.2.2.1.length : Nat) : Int)) = 0))))) rfl <| J.cut 10 <| jmeet [(46, .bool (((((decide (xa.1 = 1)) || (decide (xa.1 = 4))) && (!decide ((((xa.2.2.2.1.length : Nat) : Int)) = 1))) || ((decide (xa.1 = 2)) && (decide ((((xa.2.2.2.1.length : Nat) : Int)) = 0)))) || ((decide (xa.1 = 3)) && (!decide ((((xa.2.2.2.1.length : Nat) : Int)) = 0))))), (1, .pointer (some ⟨b62, 0, none⟩))] ?_ ?_
 · rcases bt ((((decide (xa.1 = 1)) || (decide (xa.1 = 4))) && (!decide ((((xa.2.2.2.1.length : Nat) : Int)) = 1))) || ((decide (xa.1 = 2)) && (decide ((((xa.2.2.2.1.length : Nat) : Int)) = 0)))) with hc87 | hc87
   · refine J.skip rfl rfl rfl rfl hc87 <| J.skip rfl rfl rfl rfl hc87 <| J.skip rfl rfl rfl rfl hc87 <| J.skip rfl rfl rfl rfl hc87 <| J.skipu rfl rfl rfl rfl <| J.skipu rfl rfl rfl rfl <| J.skipu rfl rfl rfl rfl ?_
     refine J.skipu rfl rfl rfl rfl <| J.skip rfl rfl rfl rfl hc87 <| jv (.bool true) (V.pickT rfl hc87 rfl) <| J.nil ?_
     exact ⟨rfl, ⟨(by simp only [hc87]; rfl), rfl, trivial⟩, rfl, rfl⟩
   refine J.run rfl rfl rfl hc87 <| jv _ (V.fad Tryz.underlying68 rfl nz3 rfl) <| J.run rfl rfl rfl hc87 <| jv (ii xa.1) (V.ld rfl (Ld.sc sc3 (Rd.cl 0 rfl rfl))) <| J.run rfl rfl rfl hc87 <| jv (.bool (decide (xa.1 = 3))) (V.eql rfl rfl) <| J.run rfl rfl rfl hc87 ?_
   refine jm (.bool (decide (xa.1 = 3))) rfl <| J.cut 5 <| jmeet [(45, .bool ((decide (xa.1 = 3)) && (!decide ((((xa.2.2.2.1.length : Nat) : Int)) = 0)))), (1, .pointer (some ⟨b62, 0, none⟩)), (36, .bool ((((decide (xa.1 = 1)) || (decide (xa.1 = 4))) && (!decide ((((xa.2.2.2.1.length : Nat) : Int)) = 1))) || ((decide (xa.1 = 2)) && (decide ((((xa.2.2.2.1.length : Nat) : Int)) = 0)))))] ?_ ?_
   · rcases bt (decide (xa.1 = 3)) with hc90 | hc90
     · refine J.run rfl rfl rfl hc90 <| jv _ (V.fad Tryz.underlying68 rfl nz66 rfl) <| J.run rfl rfl rfl hc90 <| jv (.slice adxa_3 xa.2.2.2.1.length cpxa_3) (V.ld rfl (Ld.sc sc66 (Rd.cl 0 rfl rfl))) <| J.run rfl rfl rfl hc90 <| jv (ii (((xa.2.2.2.1.length : Nat) : Int))) (V.len Tryz.underlying66 rfl) <| J.run rfl rfl rfl hc90 ?_
       refine jv (.bool (!decide ((((xa.2.2.2.1.length : Nat) : Int)) = 0))) (V.neq rfl rfl) <| J.run rfl rfl rfl hc87 <| jv (.bool (!decide ((((xa.2.2.2.1.length : Nat) : Int)) = 0))) (V.pickT rfl hc90 rfl) <| J.nil ?_
       exact ⟨rfl, ⟨(by simp only [hc90]; rfl), rfl, rfl, trivial⟩, rfl, rfl⟩
     refine J.skip rfl rfl rfl rfl hc90 <| J.skip rfl rfl rfl rfl hc90 <| J.skip rfl rfl rfl rfl hc90 <| J.skip rfl rfl rfl rfl hc90 <| J.run rfl rfl rfl hc87 <| jv (.bool false) (V.pickF rfl hc90 rfl) <| J.nil ?_
     exact ⟨rfl, ⟨(by simp only [hc90]; rfl), rfl, rfl, trivial⟩, rfl, rfl⟩
   intro ρ
   refine jv (.bool ((decide (xa.1 = 3)) && (!decide ((((xa.2.2.2.1.length : Nat) : Int)) = 0)))) (V.pickF rfl hc87 rfl) <| J.nil ?_
   exact ⟨rfl, ⟨(by simp only [hc87]; rfl), rfl, trivial⟩, rfl, rfl⟩
 intro ρ
 refine J.nil <| cc rfl h (fun hc91 h => ?_) fun hc91 h => ?_
 · refine cr <| ja (ii 3) rfl <| J.nil <| CJ.ret ?_
   obtain rfl := si h
   exact ⟨_, _, Res.one rfl rfl, ⟨3, rfl, rfl, rfl⟩, (Hp.le_refl _), fun w hs => (Sep.dropAt 0 rfl hs)⟩
 refine CJ.skip <| CJ.seq <| cr <| jv _ (V.fad Tryz.underlying68 rfl nz3 rfl) <| jv (ii xa.1) (V.ld rfl (Ld.sc sc3 (Rd.cl 0 rfl rfl))) <| jv (.bool (!decide (xa.1 = 4))) (V.neq rfl rfl) ?_
 refine jm (.bool (!decide (xa.1 = 4))) rfl <| J.cut 15 <| jmeet [(65, .bool ((!decide (xa.1 = 4)) && (((!decide (xa.2.1 = 0)) || (!decide (xa.2.2.1 = 0))) || (!decide ((((xa.2.2.2.2.2.length : Nat) : Int)) = 0))))), (1, .pointer (some ⟨b62, 0, none⟩))] ?_ ?_
 · rcases bt (!decide (xa.1 = 4)) with hc100 | hc100
   · refine J.run rfl rfl rfl hc100 <| jv _ (V.fad Tryz.underlying68 rfl nz3 rfl) <| J.run rfl rfl rfl hc100 <| jv (ii xa.2.1) (V.ld rfl (Ld.sc sc3 (Rd.cl 0 rfl rfl))) <| J.run rfl rfl rfl hc100 <| jv (.bool (!decide (xa.2.1 = 0))) (V.neq rfl rfl) <| J.run rfl rfl rfl hc100 ?_
     refine jm (.bool (!decide (xa.2.1 = 0))) rfl <| J.cut 4 <| jmeet [(58, .bool ((!decide (xa.2.1 = 0)) || (!decide (xa.2.2.1 = 0)))), (1, .pointer (some ⟨b62, 0, none⟩)), (50, .bool (!decide (xa.1 = 4)))] ?_ ?_
     · rcases bt (!decide (xa.2.1 = 0)) with hc103 | hc103
       · refine J.skip rfl rfl rfl rfl hc103 <| J.skip rfl rfl rfl rfl hc103 <| J.skip rfl rfl rfl rfl hc103 <| J.run rfl rfl rfl hc100 <| jv (.bool true) (V.pickT rfl hc103 rfl) <| J.nil ?_
         exact ⟨rfl, ⟨(by simp only [hc103]; rfl), rfl, rfl, trivial⟩, rfl, rfl⟩
       refine J.run rfl rfl rfl hc103 <| jv _ (V.fad Tryz.underlying68 rfl nz3 rfl) <| J.run rfl rfl rfl hc103 <| jv (ii xa.2.2.1) (V.ld rfl (Ld.sc sc3 (Rd.cl 0 rfl rfl))) <| J.run rfl rfl rfl hc103 <| jv (.bool (!decide (xa.2.2.1 = 0))) (V.neq rfl rfl) <| J.run rfl rfl rfl hc100 ?_
       refine jv (.bool (!decide (xa.2.2.1 = 0))) (V.pickF rfl hc103 rfl) <| J.nil ?_
       exact ⟨rfl, ⟨(by simp only [hc103]; rfl), rfl, rfl, trivial⟩, rfl, rfl⟩
     intro ρ
     refine J.run rfl rfl rfl hc100 <| jm (.bool ((!decide (xa.2.1 = 0)) || (!decide (xa.2.2.1 = 0)))) rfl <| J.cut 5 <| jmeet [(64, .bool (((!decide (xa.2.1 = 0)) || (!decide (xa.2.2.1 = 0))) || (!decide ((((xa.2.2.2.2.2.length : Nat) : Int)) = 0)))), (1, .pointer (some ⟨b62, 0, none⟩)), (50, .bool (!decide (xa.1 = 4)))] ?_ ?_
     · rcases bt ((!decide (xa.2.1 = 0)) || (!decide (xa.2.2.1 = 0))) with hc106 | hc106
       · refine J.skip rfl rfl rfl rfl hc106 <| J.skip rfl rfl rfl rfl hc106 <| J.skip rfl rfl rfl rfl hc106 <| J.skip rfl rfl rfl rfl hc106 <| J.run rfl rfl rfl hc100 <| jv (.bool true) (V.pickT rfl hc106 rfl) <| J.nil ?_
         exact ⟨rfl, ⟨(by simp only [hc106]; rfl), rfl, rfl, trivial⟩, rfl, rfl⟩
       refine J.run rfl rfl rfl hc106 <| jv _ (V.fad Tryz.underlying68 rfl nz66 rfl) <| J.run rfl rfl rfl hc106 <| jv (.slice adxa_5 xa.2.2.2.2.2.length cpxa_5) (V.ld rfl (Ld.sc sc66 (Rd.cl 0 rfl rfl))) <| J.run rfl rfl rfl hc106 <| jv (ii (((xa.2.2.2.2.2.length : Nat) : Int))) (V.len Tryz.underlying66 rfl) <| J.run rfl rfl rfl hc106 ?_
       refine jv (.bool (!decide ((((xa.2.2.2.2.2.length : Nat) : Int)) = 0))) (V.neq rfl rfl) <| J.run rfl rfl rfl hc100 <| jv (.bool (!decide ((((xa.2.2.2.2.2.length : Nat) : Int)) = 0))) (V.pickF rfl hc106 rfl) <| J.nil ?_
       exact ⟨rfl, ⟨(by simp only [hc106]; rfl), rfl, rfl, trivial⟩, rfl, rfl⟩
     intro ρ
     refine jv (.bool (((!decide (xa.2.1 = 0)) || (!decide (xa.2.2.1 = 0))) || (!decide ((((xa.2.2.2.2.2.length : Nat) : Int)) = 0)))) (V.pickT rfl hc100 rfl) <| J.nil ?_
     exact ⟨rfl, ⟨(by simp only [hc100]; rfl), rfl, trivial⟩, rfl, rfl⟩
   refine J.skip rfl rfl rfl rfl hc100 <| J.skip rfl rfl rfl rfl hc100 <| J.skip rfl rfl rfl rfl hc100 <| J.skip rfl rfl rfl rfl hc100 <| J.skipu rfl rfl rfl rfl <| J.skipu rfl rfl rfl rfl <| J.skipu rfl rfl rfl rfl ?_
   refine J.skip rfl rfl rfl rfl hc100 <| J.skip rfl rfl rfl rfl hc100 <| J.skipu rfl rfl rfl rfl <| J.skipu rfl rfl rfl rfl <| J.skipu rfl rfl rfl rfl <| J.skipu rfl rfl rfl rfl <| J.skip rfl rfl rfl rfl hc100 ?_
   refine jv (.bool false) (V.pickF rfl hc100 rfl) <| J.nil ?_
   exact ⟨rfl, ⟨(by simp only [hc100]; rfl), rfl, trivial⟩, rfl, rfl⟩
 intro ρ
 refine J.nil <| cc rfl h (fun hc107 h => ?_) fun hc107 h => ?_
 · refine cr <| ja (ii 3) rfl <| J.nil <| CJ.ret ?_
   obtain rfl := si h
   exact ⟨_, _, Res.one rfl rfl, ⟨3, rfl, rfl, rfl⟩, (Hp.le_refl _), fun w hs => (Sep.dropAt 0 rfl hs)⟩
 refine CJ.skip <| CJ.seq <| cr <| jv _ (V.fad Tryz.underlying68 rfl nz3 rfl) <| jv (ii xa.1) (V.ld rfl (Ld.sc sc3 (Rd.cl 0 rfl rfl))) <| jv (.bool (decide (xa.1 = 1))) (V.eql rfl rfl) ?_
 refine jm (.bool (decide (xa.1 = 1))) rfl <| J.cut 4 <| jmeet [(73, .bool ((decide (xa.1 = 1)) || (decide (xa.1 = 3)))), (1, .pointer (some ⟨b62, 0, none⟩))] ?_ ?_
 · rcases bt (decide (xa.1 = 1)) with hc110 | hc110
   · refine J.skip rfl rfl rfl rfl hc110 <| J.skip rfl rfl rfl rfl hc110 <| J.skip rfl rfl rfl rfl hc110 <| jv (.bool true) (V.pickT rfl hc110 rfl) <| J.nil ?_
     exact ⟨rfl, ⟨(by simp only [hc110]; rfl), rfl, trivial⟩, rfl, rfl⟩
   refine J.run rfl rfl rfl hc110 <| jv _ (V.fad Tryz.underlying68 rfl nz3 rfl) <| J.run rfl rfl rfl hc110 <| jv (ii xa.1) (V.ld rfl (Ld.sc sc3 (Rd.cl 0 rfl rfl))) <| J.run rfl rfl rfl hc110 <| jv (.bool (decide (xa.1 = 3))) (V.eql rfl rfl) <| jv (.bool (decide (xa.1 = 3))) (V.pickF rfl hc110 rfl) ?_
   refine J.nil ?_
   exact ⟨rfl, ⟨(by simp only [hc110]; rfl), rfl, trivial⟩, rfl, rfl⟩
 intro ρ
 refine jm (.bool ((decide (xa.1 = 1)) || (decide (xa.1 = 3)))) rfl <| J.cut 5 <| jmeet [(79, .bool (((decide (xa.1 = 1)) || (decide (xa.1 = 3))) && (!decide ((((xa.2.2.2.2.1.length : Nat) : Int)) = 0)))), (1, .pointer (some ⟨b62, 0, none⟩))] ?_ ?_
 · rcases bt ((decide (xa.1 = 1)) || (decide (xa.1 = 3))) with hc113 | hc113
   · refine J.run rfl rfl rfl hc113 <| jv _ (V.fad Tryz.underlying68 rfl nz66 rfl) <| J.run rfl rfl rfl hc113 <| jv (.slice adxa_4 xa.2.2.2.2.1.length cpxa_4) (V.ld rfl (Ld.sc sc66 (Rd.cl 0 rfl rfl))) <| J.run rfl rfl rfl hc113 <| jv (ii (((xa.2.2.2.2.1.length : Nat) : Int))) (V.len Tryz.underlying66 rfl) <| J.run rfl rfl rfl hc113 ?_
     refine jv (.bool (!decide ((((xa.2.2.2.2.1.length : Nat) : Int)) = 0))) (V.neq rfl rfl) <| jv (.bool (!decide ((((xa.2.2.2.2.1.length : Nat) : Int)) = 0))) (V.pickT rfl hc113 rfl) <| J.nil ?_
     exact ⟨rfl, ⟨(by simp only [hc113]; rfl), rfl, trivial⟩, rfl, rfl⟩
   refine J.skip rfl rfl rfl rfl hc113 <| J.skip rfl rfl rfl rfl hc113 <| J.skip rfl rfl rfl rfl hc113 <| J.skip rfl rfl rfl rfl hc113 <| jv (.bool false) (V.pickF rfl hc113 rfl) <| J.nil ?_
   exact ⟨rfl, ⟨(by simp only [hc113]; rfl), rfl, trivial⟩, rfl, rfl⟩
 intro ρ
 refine J.nil <| cc rfl h (fun hc114 h => ?_) fun hc114 h => ?_
 · refine cr <| ja (ii 3) rfl <| J.nil <| CJ.ret ?_
   obtain rfl := si h
   exact ⟨_, _, Res.one rfl rfl, ⟨3, rfl, rfl, rfl⟩, (Hp.le_refl _), fun w hs => (Sep.dropAt 0 rfl hs)⟩
 refine CJ.skip <| CJ.seq <| cr <| jv _ (V.fad Tryz.underlying68 rfl nz66 rfl) <| jv (.slice adxa_3 xa.2.2.2.1.length cpxa_3) (V.ld rfl (Ld.sc sc66 (Rd.cl 0 rfl rfl))) <| jv (ii (((xa.2.2.2.1.length : Nat) : Int))) (V.len Tryz.underlying66 rfl) ?_
 refine jv (.bool (decide (16 < (((xa.2.2.2.1.length : Nat) : Int))))) (V.gtr rfl rfl) <| jm (.bool (decide (16 < (((xa.2.2.2.1.length : Nat) : Int))))) rfl <| J.cut 5 <| jmeet [(89, .bool ((decide (16 < (((xa.2.2.2.1.length : Nat) : Int)))) || (decide (16 < (((xa.2.2.2.2.1.length : Nat) : Int)))))), (1, .pointer (some ⟨b62, 0, none⟩))] ?_ ?_
 · rcases bt (decide (16 < (((xa.2.2.2.1.length : Nat) : Int)))) with hc117 | hc117
   · refine J.skip rfl rfl rfl rfl hc117 <| J.skip rfl rfl rfl rfl hc117 <| J.skip rfl rfl rfl rfl hc117 <| J.skip rfl rfl rfl rfl hc117 <| jv (.bool true) (V.pickT rfl hc117 rfl) <| J.nil ?_
     exact ⟨rfl, ⟨(by simp only [hc117]; rfl), rfl, trivial⟩, rfl, rfl⟩
   refine J.run rfl rfl rfl hc117 <| jv _ (V.fad Tryz.underlying68 rfl nz66 rfl) <| J.run rfl rfl rfl hc117 <| jv (.slice adxa_4 xa.2.2.2.2.1.length cpxa_4) (V.ld rfl (Ld.sc sc66 (Rd.cl 0 rfl rfl))) <| J.run rfl rfl rfl hc117 <| jv (ii (((xa.2.2.2.2.1.length : Nat) : Int))) (V.len Tryz.underlying66 rfl) <| J.run rfl rfl rfl hc117 ?_
   refine jv (.bool (decide (16 < (((xa.2.2.2.2.1.length : Nat) : Int))))) (V.gtr rfl rfl) <| jv (.bool (decide (16 < (((xa.2.2.2.2.1.length : Nat) : Int))))) (V.pickF rfl hc117 rfl) <| J.nil ?_
   exact ⟨rfl, ⟨(by simp only [hc117]; rfl), rfl, trivial⟩, rfl, rfl⟩
 intro ρ
 refine jm (.bool ((decide (16 < (((xa.2.2.2.1.length : Nat) : Int)))) || (decide (16 < (((xa.2.2.2.2.1.length : Nat) : Int)))))) rfl <| J.cut 5 <| jmeet [(95, .bool (((decide (16 < (((xa.2.2.2.1.length : Nat) : Int)))) || (decide (16 < (((xa.2.2.2.2.1.length : Nat) : Int))))) || (decide (16 < (((xa.2.2.2.2.2.length : Nat) : Int))))))] ?_ ?_
 · rcases bt ((decide (16 < (((xa.2.2.2.1.length : Nat) : Int)))) || (decide (16 < (((xa.2.2.2.2.1.length : Nat) : Int))))) with hc120 | hc120
   · refine J.skip rfl rfl rfl rfl hc120 <| J.skip rfl rfl rfl rfl hc120 <| J.skip rfl rfl rfl rfl hc120 <| J.skip rfl rfl rfl rfl hc120 <| jv (.bool true) (V.pickT rfl hc120 rfl) <| J.nil ?_
     exact ⟨rfl, ⟨(by simp only [hc120]; rfl), trivial⟩, rfl, rfl⟩
   refine J.run rfl rfl rfl hc120 <| jv _ (V.fad Tryz.underlying68 rfl nz66 rfl) <| J.run rfl rfl rfl hc120 <| jv (.slice adxa_5 xa.2.2.2.2.2.length cpxa_5) (V.ld rfl (Ld.sc sc66 (Rd.cl 0 rfl rfl))) <| J.run rfl rfl rfl hc120 <| jv (ii (((xa.2.2.2.2.2.length : Nat) : Int))) (V.len Tryz.underlying66 rfl) <| J.run rfl rfl rfl hc120 ?_
   refine jv (.bool (decide (16 < (((xa.2.2.2.2.2.length : Nat) : Int))))) (V.gtr rfl rfl) <| jv (.bool (decide (16 < (((xa.2.2.2.2.2.length : Nat) : Int))))) (V.pickF rfl hc120 rfl) <| J.nil ?_
   exact ⟨rfl, ⟨(by simp only [hc120]; rfl), trivial⟩, rfl, rfl⟩
 intro ρ
 refine J.nil <| cc rfl h (fun hc121 h => ?_) fun hc121 h => ?_
 · refine cr <| ja (ii 6) rfl <| J.nil <| CJ.ret ?_
   obtain rfl := si h
   exact ⟨_, _, Res.one rfl rfl, ⟨6, rfl, rfl, rfl⟩, (Hp.le_refl _), fun w hs => (Sep.dropAt 0 rfl hs)⟩
 refine CJ.skip <| cr <| ja (ii 0) rfl <| J.nil <| CJ.ret ?_
 obtain rfl := si h
 exact ⟨_, _, Res.one rfl rfl, ⟨0, rfl, rfl, rfl⟩, (Hp.le_refl _), fun w hs => (Sep.dropAt 0 rfl hs)⟩
noncomputable def fn_ref19_list_l1 (xa : (List Int)) : (List UInt8 × Int) → Option ((List UInt8 × Int) ⊕ List UInt8) := fun ((s234, i235) : (List UInt8 × Int)) => cond (decide (i235 < (((xa.length : Nat) : Int)))) ((getI xa i235).bind fun x261 => (fn_ref02_Put x261).bind fun s272 => (app s234 s272).bind fun z276 => some (.inl ((z276, IntKind.wrap .i64 (i235 + 1))))) (some (.inr (s234)))
noncomputable def fn_ref19_list (xa : (List Int)) : Option (List UInt8) :=
  (fn_ref02_Put (((xa.length : Nat) : Int))).bind fun s143 => (loop (fn_ref19_list_l1 xa) (s143, 0) : Option (List UInt8)).bind fun s211 => some (s211)
set_option maxRecDepth 100000 in
set_option maxHeartbeats 4000000 in
theorem ref19_list_ok {K : Hp} {xa : (List Int)} {adxa_0 : Option Addr} {cpxa_0 : Nat} (fxa_0 : Is K (.sl (.int .i64)) [.slice adxa_0 xa.length cpxa_0] xa) {r : List UInt8} (h : fn_ref19_list xa = some r) :
    Tr Tryz.prog 115 #[.slice adxa_0 xa.length cpxa_0] K [] (fun v K' L' => (∃ (s140 : List UInt8), s140 = r ∧ .string ⟨s140.toArray⟩ = v ∧ L' = []) ∧ K = K') := by
 refine Tr.k <| Tr.of Tryz.func115 rfl Tryz.ntmps115 rfl fun E F => ?_
 unfold fn_ref19_list at h
 refine cr <| ja (.string ⟨([] : List UInt8).toArray⟩) rfl <| J.nil <| cr <| jm (.slice adxa_0 xa.length cpxa_0) rfl ?_
 refine jv (ii (((xa.length : Nat) : Int))) (V.len Tryz.underlying66 rfl) ?_
 obtain ⟨r141, hr142, h⟩ := ob h
 refine J.op rfl (A.call (L1 := []) Tryz.call92 rfl (ref02_Put_ok hr142) rfl rfl) ?_
 rintro _ _ _ ⟨v144, _, rfl, ⟨⟨s143, rfl, rfl, rfl⟩, rfl⟩, _, rfl⟩
 refine ja (.string ⟨s143.toArray⟩) rfl <| J.nil <| CJ.seq <| cr <| ja (ii 0) rfl <| J.nil ?_
 obtain ⟨o212, ho213, h⟩ := ob h
 refine CJ.meetN (fun ρ K' L' => ∃ (s211 : List UInt8), s211 = o212 ∧ Fits [(3, .string ⟨s211.toArray⟩)] ρ ∧ K = K' ∧ F = L') ?_ ?_
 · refine CJ.block <| CJ.loop (fun s ρ K' L' => ∃ (s234 : List UInt8) (i235 : Int), (s234, i235) = s ∧ Fits [(0, .slice adxa_0 xa.length cpxa_0), (3, .string ⟨s234.toArray⟩), (4, ii i235)] ρ ∧ K = K' ∧ F = L') ho213 ⟨s143, 0, rfl, ⟨rfl, rfl, rfl, trivial⟩, rfl, rfl⟩ ?_
   rintro s ρ _ _ r259 ⟨s234, i235, rfl, hf257, rfl, rfl⟩ h256
   obtain ⟨ρ, rfl⟩ := hf257.ex
   refine CJ.seq <| cr <| jm (ii i235) rfl <| jm (.slice adxa_0 xa.length cpxa_0) rfl <| jv (ii (((xa.length : Nat) : Int))) (V.len Tryz.underlying66 rfl) <| jv (.bool (decide (i235 < (((xa.length : Nat) : Int))))) (V.lss rfl rfl) ?_
   refine J.nil <| cc rfl h256 (fun hc260 h256 => ?_) fun hc260 h256 => ?_
   · refine CJ.skip <| CJ.seq <| CJ.block <| CJ.region <| jm (.string ⟨s234.toArray⟩) rfl <| jm (.slice adxa_0 xa.length cpxa_0) rfl <| jm (ii i235) rfl ?_
     obtain ⟨x261, hx262, h256⟩ := ob h256
     obtain ⟨p263, p264, p265⟩ := getI_some hx262
     obtain ⟨b266, o267, e268, a269⟩ := (fxa_0).at p264
     refine jv _ (V.iad Tryz.underlying66 sz3 rfl e268 rfl p263 p265) <| jv (ii x261) (V.ld rfl (Ld.sc sc3 (Rd.k (a269).int (Hp.le_refl _)))) ?_
     obtain ⟨r270, hr271, h256⟩ := ob h256
     refine J.op rfl (A.call (L1 := []) Tryz.call92 rfl (ref02_Put_ok hr271) rfl rfl) ?_
     rintro _ _ _ ⟨v273, _, rfl, ⟨⟨s272, rfl, rfl, rfl⟩, rfl⟩, _, rfl⟩
     obtain ⟨z276, hz277, h256⟩ := ob h256
     refine jv (.string ⟨z276.toArray⟩) (V.cat rfl rfl hz277) <| ja (.string ⟨z276.toArray⟩) rfl <| J.nil <| CJ.region <| jm (ii i235) rfl <| jv (ii (IntKind.wrap .i64 (i235 + 1))) (V.add rfl rfl) <| ja (ii (IntKind.wrap .i64 (i235 + 1))) rfl ?_
     refine J.nil ?_
     obtain rfl := si h256
     exact ⟨rfl, ⟨z276, IntKind.wrap .i64 (i235 + 1), rfl, ⟨rfl, rfl, rfl, trivial⟩, rfl, rfl⟩⟩
   refine CJ.exit ?_
   obtain rfl := si h256
   refine ⟨nofun, fun e => ?_⟩
   subst e
   exact ⟨rfl, ⟨s234, rfl, ⟨rfl, trivial⟩, rfl, rfl⟩⟩
 rintro ρ _ _ ⟨s211, rfl, hf278, rfl, rfl⟩
 obtain ⟨ρ, rfl⟩ := hf278.ex
 refine PJ.done <| cr <| jm (.string ⟨s211.toArray⟩) rfl <| ja (.string ⟨s211.toArray⟩) rfl <| J.nil <| CJ.ret ?_
 obtain rfl := si h
 exact ⟨_, _, Res.one rfl rfl, ⟨s211, rfl, rfl, rfl⟩, (Hp.le_refl _), fun w hs => hs⟩

noncomputable def fn_ref19_Put (xa : (Int × Int × Int × (List Int) × (List Int) × (List Int))) : Option (List UInt8 × Int) :=
  (fn_ref19_Form (xa.1, xa.2.1, xa.2.2.1, xa.2.2.2.1, xa.2.2.2.2.1, xa.2.2.2.2.2)).bind fun i231 => cond (!decide (i231 = 0)) (some ((([] : List UInt8), i231))) ((fn_ref02_Put xa.1).bind fun s238 => (cond (decide (xa.1 = 1)) ((getI xa.2.2.2.1 0).bind fun x264 => (fn_ref02_Put x264).bind fun s275 => (app s238 s275).bind fun z279 => some (z279)) (some (s238)) : Option (List UInt8)).bind fun s260 => (cond (decide (xa.1 = 2)) ((fn_ref19_list xa.2.2.2.1).bind fun s338 => (app s260 s338).bind fun z342 => (fn_ref19_list xa.2.2.2.2.1).bind fun s346 => (app z342 s346).bind fun z350 => some (z350)) (some (s260)) : Option (List UInt8)).bind fun s316 => cond (decide (xa.1 = 4)) ((getI xa.2.2.2.1 0).bind fun x404 => (fn_ref02_Put xa.2.1).bind fun s415 => (app s316 s415).bind fun z419 => (fn_ref02_Put xa.2.2.1).bind fun s423 => (app z419 s423).bind fun z427 => (fn_ref02_Put x404).bind fun s431 => (app z427 s431).bind fun z435 => (fn_ref19_list xa.2.2.2.2.2).bind fun s439 => (app z435 s439).bind fun z443 => (fn_ref19_list xa.2.2.2.2.1).bind fun s447 => (app z443 s447).bind fun z451 => some ((z451, 0))) (some ((s316, 0))))
set_option maxRecDepth 100000 in
set_option maxHeartbeats 4000000 in
theorem ref19_Put_ok {K : Hp} {xa : (Int × Int × Int × (List Int) × (List Int) × (List Int))} {adxa_3 : Option Addr} {cpxa_3 : Nat} {adxa_4 : Option Addr} {cpxa_4 : Nat} {adxa_5 : Option Addr} {cpxa_5 : Nat} (fxa_3 : Is K (.sl (.int .i64)) [.slice adxa_3 xa.2.2.2.1.length cpxa_3] xa.2.2.2.1) (fxa_4 : Is K (.sl (.int .i64)) [.slice adxa_4 xa.2.2.2.2.1.length cpxa_4] xa.2.2.2.2.1) (fxa_5 : Is K (.sl (.int .i64)) [.slice adxa_5 xa.2.2.2.2.2.length cpxa_5] xa.2.2.2.2.2) {r : (List UInt8 × Int)} (h : fn_ref19_Put xa = some r) :
    Tr Tryz.prog 97 #[.agg #[ii xa.1, ii xa.2.1, ii xa.2.2.1, .slice adxa_3 xa.2.2.2.1.length cpxa_3, .slice adxa_4 xa.2.2.2.2.1.length cpxa_4, .slice adxa_5 xa.2.2.2.2.2.length cpxa_5]] K [] (fun v K' L' => (∃ (s226 : List UInt8) (i227 : Int), (s226, i227) = r ∧ .tuple #[.string ⟨s226.toArray⟩, ii i227] = v ∧ L' = []) ∧ K = K') := by
 refine Tr.k <| Tr.of Tryz.func97 rfl Tryz.ntmps97 rfl fun E F => ?_
 unfold fn_ref19_Put at h
 refine cr <| jbx [ii xa.1, ii xa.2.1, ii xa.2.2.1, .slice adxa_3 xa.2.2.2.1.length cpxa_3, .slice adxa_4 xa.2.2.2.2.1.length cpxa_4, .slice adxa_5 xa.2.2.2.2.2.length cpxa_5] rfl rfl fun b228 => ja (.string ⟨([] : List UInt8).toArray⟩) rfl <| ja (ii 0) rfl <| J.nil <| CJ.seq ?_
 refine CJ.region <| jv (.agg #[ii xa.1, ii xa.2.1, ii xa.2.2.1, .slice adxa_3 xa.2.2.2.1.length cpxa_3, .slice adxa_4 xa.2.2.2.2.1.length cpxa_4, .slice adxa_5 xa.2.2.2.2.2.length cpxa_5]) (V.ld rfl (Ld.agg (cs := [ii xa.1, ii xa.2.1, ii xa.2.2.1, .slice adxa_3 xa.2.2.2.1.length cpxa_3, .slice adxa_4 xa.2.2.2.2.1.length cpxa_4, .slice adxa_5 xa.2.2.2.2.2.length cpxa_5]) Tryz.underlying68 sz68 rfl (Rd.cls 0 0 rfl rfl))) ?_
 obtain ⟨r229, hr230, h⟩ := ob h
 refine J.op rfl (A.call (L1 := []) Tryz.call114 rfl (ref19_Form_ok fxa_3 fxa_4 fxa_5 hr230) rfl rfl) ?_
 rintro _ _ _ ⟨v232, _, rfl, ⟨⟨i231, rfl, rfl, rfl⟩, rfl⟩, _, rfl⟩
 refine ja (ii i231) rfl <| J.nil <| CJ.seq <| cr <| jm (ii i231) rfl <| jv (.bool (!decide (i231 = 0))) (V.neq rfl rfl) ?_
 refine J.nil <| cc rfl h (fun hc235 h => ?_) fun hc235 h => ?_
 · refine cr <| jm (ii i231) rfl <| ja (.string ⟨([] : List UInt8).toArray⟩) rfl <| ja (ii i231) rfl <| J.nil <| CJ.ret ?_
   obtain rfl := si h
   exact ⟨_, _, Res.two rfl rfl rfl, ⟨([] : List UInt8), i231, rfl, rfl, rfl⟩, (Hp.le_refl _), fun w hs => (Sep.dropAt 0 rfl hs)⟩
 refine CJ.skip <| cr <| jv _ (V.fad Tryz.underlying68 rfl nz3 rfl) <| jv (ii xa.1) (V.ld rfl (Ld.sc sc3 (Rd.cl 0 rfl rfl))) ?_
 obtain ⟨r236, hr237, h⟩ := ob h
 refine J.op rfl (A.call (L1 := []) Tryz.call92 rfl (ref02_Put_ok hr237) rfl rfl) ?_
 rintro _ _ _ ⟨v239, _, rfl, ⟨⟨s238, rfl, rfl, rfl⟩, rfl⟩, _, rfl⟩
 refine ja (.string ⟨s238.toArray⟩) rfl <| J.nil <| CJ.seq ?_
 obtain ⟨o261, ho262, h⟩ := ob h
 refine CJ.meetN (fun ρ K' L' => ∃ (s260 : List UInt8), s260 = o261 ∧ Fits [(1, .pointer (some ⟨b228, 0, none⟩)), (5, .string ⟨s260.toArray⟩)] ρ ∧ K = K' ∧ L' = Cl b228 68 [ii xa.1, ii xa.2.1, ii xa.2.2.1, .slice adxa_3 xa.2.2.2.1.length cpxa_3, .slice adxa_4 xa.2.2.2.2.1.length cpxa_4, .slice adxa_5 xa.2.2.2.2.2.length cpxa_5] :: F) ?_ ?_
 · refine cr <| jv _ (V.fad Tryz.underlying68 rfl nz3 rfl) <| jv (ii xa.1) (V.ld rfl (Ld.sc sc3 (Rd.cl 0 rfl rfl))) <| jv (.bool (decide (xa.1 = 1))) (V.eql rfl rfl) <| J.nil <| cc rfl ho262 (fun hc263 ho262 => ?_) fun hc263 ho262 => ?_
   · refine CJ.region <| jm (.string ⟨s238.toArray⟩) rfl <| jv _ (V.fad Tryz.underlying68 rfl nz66 rfl) <| jv (.slice adxa_3 xa.2.2.2.1.length cpxa_3) (V.ld rfl (Ld.sc sc66 (Rd.cl 0 rfl rfl))) ?_
     obtain ⟨x264, hx265, ho262⟩ := ob ho262
     obtain ⟨p266, p267, p268⟩ := getI_some hx265
     obtain ⟨b269, o270, e271, a272⟩ := (fxa_3).at p267
     refine jv _ (V.iad Tryz.underlying66 sz3 rfl e271 rfl p266 p268) <| jv (ii x264) (V.ld rfl (Ld.sc sc3 (Rd.k (a272).int (Hp.le_refl _)))) ?_
     obtain ⟨r273, hr274, ho262⟩ := ob ho262
     refine J.op rfl (A.call (L1 := []) Tryz.call92 rfl (ref02_Put_ok hr274) rfl rfl) ?_
     rintro _ _ _ ⟨v276, _, rfl, ⟨⟨s275, rfl, rfl, rfl⟩, rfl⟩, _, rfl⟩
     obtain ⟨z279, hz280, ho262⟩ := ob ho262
     refine jv (.string ⟨z279.toArray⟩) (V.cat rfl rfl hz280) <| ja (.string ⟨z279.toArray⟩) rfl <| J.nil ?_
     obtain rfl := si ho262
     exact ⟨rfl, ⟨z279, rfl, ⟨rfl, rfl, trivial⟩, rfl, rfl⟩⟩
   refine CJ.skip ?_
   obtain rfl := si ho262
   exact ⟨rfl, ⟨s238, rfl, ⟨rfl, rfl, trivial⟩, rfl, rfl⟩⟩
 rintro ρ _ _ ⟨s260, rfl, hf281, rfl, rfl⟩
 obtain ⟨ρ, rfl⟩ := hf281.ex
 refine PJ.done <| CJ.seq ?_
 obtain ⟨o317, ho318, h⟩ := ob h
 refine CJ.meetN (fun ρ K' L' => ∃ (s316 : List UInt8), s316 = o317 ∧ Fits [(1, .pointer (some ⟨b228, 0, none⟩)), (5, .string ⟨s316.toArray⟩)] ρ ∧ K = K' ∧ L' = Cl b228 68 [ii xa.1, ii xa.2.1, ii xa.2.2.1, .slice adxa_3 xa.2.2.2.1.length cpxa_3, .slice adxa_4 xa.2.2.2.2.1.length cpxa_4, .slice adxa_5 xa.2.2.2.2.2.length cpxa_5] :: F) ?_ ?_
 · refine cr <| jv _ (V.fad Tryz.underlying68 rfl nz3 rfl) <| jv (ii xa.1) (V.ld rfl (Ld.sc sc3 (Rd.cl 0 rfl rfl))) <| jv (.bool (decide (xa.1 = 2))) (V.eql rfl rfl) <| J.nil <| cc rfl ho318 (fun hc319 ho318 => ?_) fun hc319 ho318 => ?_
   · refine CJ.mix [Cl b228 68 [ii xa.1, ii xa.2.1, ii xa.2.2.1, .slice adxa_3 xa.2.2.2.1.length cpxa_3, .slice adxa_4 xa.2.2.2.2.1.length cpxa_4, .slice adxa_5 xa.2.2.2.2.2.length cpxa_5]] [([0, 1, 2, 5, 6], 3), ([4], 7)] [8, 9] [] mixO (by decide +kernel) ⟨0, rfl, trivial⟩ rfl rfl rfl <| JM.cons <| qm (.string ⟨s260.toArray⟩) rfl <| qv _ (V.fad Tryz.underlying68 rfl nz66 rfl) <| qv (.slice adxa_3 xa.2.2.2.1.length cpxa_3) (V.ld rfl (Ld.sc sc66 (Rd.cl 0 rfl rfl))) <| qv _ (V.fad Tryz.underlying68 rfl nz66 rfl) <| qv (.slice adxa_4 xa.2.2.2.2.1.length cpxa_4) (V.ld rfl (Ld.sc sc66 (Rd.cl 0 rfl rfl))) ?_
     refine JQ.nil ?_
     obtain ⟨r336, hr337, ho318⟩ := ob ho318
     refine JA.op rfl (A.call (L1 := []) Tryz.call115 rfl (ref19_list_ok fxa_3 hr337) rfl rfl) ?_
     rintro _ _ _ ⟨v339, _, rfl, ⟨⟨s338, rfl, rfl, rfl⟩, rfl⟩, _, rfl⟩
     refine ⟨fun w hs => Hold.sub (Hp.le_refl _) ⟨0, rfl, trivial⟩ hs, ?_⟩
     refine JM.cons ?_
     obtain ⟨z342, hz343, ho318⟩ := ob ho318
     refine qv (.string ⟨z342.toArray⟩) (V.cat rfl rfl hz343) <| JQ.nil ?_
     obtain ⟨r344, hr345, ho318⟩ := ob ho318
     refine JA.op rfl (A.call (L1 := []) Tryz.call115 rfl (ref19_list_ok fxa_4 hr345) rfl rfl) ?_
     rintro _ _ _ ⟨v347, _, rfl, ⟨⟨s346, rfl, rfl, rfl⟩, rfl⟩, _, rfl⟩
     refine ⟨fun w hs => Hold.sub (Hp.le_refl _) ⟨0, rfl, trivial⟩ hs, ?_⟩
     refine JM.nil ?_
     obtain ⟨z350, hz351, ho318⟩ := ob ho318
     refine qv (.string ⟨z350.toArray⟩) (V.cat rfl rfl hz351) <| qa (.string ⟨z350.toArray⟩) rfl <| JQ.nil <| J.nil ?_
     obtain rfl := si ho318
     exact ⟨rfl, ⟨z350, rfl, ⟨rfl, rfl, trivial⟩, rfl, rfl⟩⟩
   refine CJ.skip ?_
   obtain rfl := si ho318
   exact ⟨rfl, ⟨s260, rfl, ⟨rfl, rfl, trivial⟩, rfl, rfl⟩⟩
 rintro ρ _ _ ⟨s316, rfl, hf352, rfl, rfl⟩
 obtain ⟨ρ, rfl⟩ := hf352.ex
 refine PJ.done <| CJ.seq <| cr <| jv _ (V.fad Tryz.underlying68 rfl nz3 rfl) <| jv (ii xa.1) (V.ld rfl (Ld.sc sc3 (Rd.cl 0 rfl rfl))) <| jv (.bool (decide (xa.1 = 4))) (V.eql rfl rfl) ?_
 refine J.nil <| cc rfl h (fun hc354 h => ?_) fun hc354 h => ?_
 · refine CJ.mix [Cl b228 68 [ii xa.1, ii xa.2.1, ii xa.2.2.1, .slice adxa_3 xa.2.2.2.1.length cpxa_3, .slice adxa_4 xa.2.2.2.2.1.length cpxa_4, .slice adxa_5 xa.2.2.2.2.2.length cpxa_5]] [([0, 1, 2, 5, 6, 9, 10, 11, 12, 15, 16, 19, 20], 3), ([4], 7), ([8], 13), ([14], 17), ([18], 21)] [22, 23] [] mixO (by decide +kernel) ⟨0, rfl, trivial⟩ rfl rfl rfl <| JM.cons <| qm (.string ⟨s316.toArray⟩) rfl <| qv _ (V.fad Tryz.underlying68 rfl nz3 rfl) <| qv (ii xa.2.1) (V.ld rfl (Ld.sc sc3 (Rd.cl 0 rfl rfl))) <| qv _ (V.fad Tryz.underlying68 rfl nz3 rfl) <| qv (ii xa.2.2.1) (V.ld rfl (Ld.sc sc3 (Rd.cl 0 rfl rfl))) ?_
   refine qv _ (V.fad Tryz.underlying68 rfl nz66 rfl) <| qv (.slice adxa_3 xa.2.2.2.1.length cpxa_3) (V.ld rfl (Ld.sc sc66 (Rd.cl 0 rfl rfl))) ?_
   obtain ⟨x404, hx405, h⟩ := ob h
   obtain ⟨p406, p407, p408⟩ := getI_some hx405
   obtain ⟨b409, o410, e411, a412⟩ := (fxa_3).at p407
   refine qv _ (V.iad Tryz.underlying66 sz3 rfl e411 rfl p406 p408) <| qv (ii x404) (V.ld rfl (Ld.sc sc3 (Rd.k (a412).int (Hp.le_refl _)))) <| qv _ (V.fad Tryz.underlying68 rfl nz66 rfl) <| qv (.slice adxa_5 xa.2.2.2.2.2.length cpxa_5) (V.ld rfl (Ld.sc sc66 (Rd.cl 0 rfl rfl))) <| qv _ (V.fad Tryz.underlying68 rfl nz66 rfl) <| qv (.slice adxa_4 xa.2.2.2.2.1.length cpxa_4) (V.ld rfl (Ld.sc sc66 (Rd.cl 0 rfl rfl))) <| JQ.nil ?_
   obtain ⟨r413, hr414, h⟩ := ob h
   refine JA.op rfl (A.call (L1 := []) Tryz.call92 rfl (ref02_Put_ok hr414) rfl rfl) ?_
   rintro _ _ _ ⟨v416, _, rfl, ⟨⟨s415, rfl, rfl, rfl⟩, rfl⟩, _, rfl⟩
   refine ⟨fun w hs => Hold.sub (Hp.le_refl _) ⟨0, rfl, trivial⟩ hs, ?_⟩
   refine JM.cons ?_
   obtain ⟨z419, hz420, h⟩ := ob h
   refine qv (.string ⟨z419.toArray⟩) (V.cat rfl rfl hz420) <| JQ.nil ?_
   obtain ⟨r421, hr422, h⟩ := ob h
   refine JA.op rfl (A.call (L1 := []) Tryz.call92 rfl (ref02_Put_ok hr422) rfl rfl) ?_
   rintro _ _ _ ⟨v424, _, rfl, ⟨⟨s423, rfl, rfl, rfl⟩, rfl⟩, _, rfl⟩
   refine ⟨fun w hs => Hold.sub (Hp.le_refl _) ⟨0, rfl, trivial⟩ hs, ?_⟩
   refine JM.cons ?_
   obtain ⟨z427, hz428, h⟩ := ob h
   refine qv (.string ⟨z427.toArray⟩) (V.cat rfl rfl hz428) <| JQ.nil ?_
   obtain ⟨r429, hr430, h⟩ := ob h
   refine JA.op rfl (A.call (L1 := []) Tryz.call92 rfl (ref02_Put_ok hr430) rfl rfl) ?_
   rintro _ _ _ ⟨v432, _, rfl, ⟨⟨s431, rfl, rfl, rfl⟩, rfl⟩, _, rfl⟩
   refine ⟨fun w hs => Hold.sub (Hp.le_refl _) ⟨0, rfl, trivial⟩ hs, ?_⟩
   refine JM.cons ?_
   obtain ⟨z435, hz436, h⟩ := ob h
   refine qv (.string ⟨z435.toArray⟩) (V.cat rfl rfl hz436) <| JQ.nil ?_
   obtain ⟨r437, hr438, h⟩ := ob h
   refine JA.op rfl (A.call (L1 := []) Tryz.call115 rfl (ref19_list_ok fxa_5 hr438) rfl rfl) ?_
   rintro _ _ _ ⟨v440, _, rfl, ⟨⟨s439, rfl, rfl, rfl⟩, rfl⟩, _, rfl⟩
   refine ⟨fun w hs => Hold.sub (Hp.le_refl _) ⟨0, rfl, trivial⟩ hs, ?_⟩
   refine JM.cons ?_
   obtain ⟨z443, hz444, h⟩ := ob h
   refine qv (.string ⟨z443.toArray⟩) (V.cat rfl rfl hz444) <| JQ.nil ?_
   obtain ⟨r445, hr446, h⟩ := ob h
   refine JA.op rfl (A.call (L1 := []) Tryz.call115 rfl (ref19_list_ok fxa_4 hr446) rfl rfl) ?_
   rintro _ _ _ ⟨v448, _, rfl, ⟨⟨s447, rfl, rfl, rfl⟩, rfl⟩, _, rfl⟩
   refine ⟨fun w hs => Hold.sub (Hp.le_refl _) ⟨0, rfl, trivial⟩ hs, ?_⟩
   refine JM.nil ?_
   obtain ⟨z451, hz452, h⟩ := ob h
   refine qv (.string ⟨z451.toArray⟩) (V.cat rfl rfl hz452) <| qa (.string ⟨z451.toArray⟩) rfl <| JQ.nil <| J.nil <| cr <| jm (.string ⟨z451.toArray⟩) rfl ?_
   refine ja (.string ⟨z451.toArray⟩) rfl <| ja (ii 0) rfl <| J.nil <| CJ.ret ?_
   obtain rfl := si h
   exact ⟨_, _, Res.two rfl rfl rfl, ⟨z451, 0, rfl, rfl, rfl⟩, (Hp.le_refl _), fun w hs => (Sep.dropAt 0 rfl hs)⟩
 refine CJ.skip <| cr <| jm (.string ⟨s316.toArray⟩) rfl <| ja (.string ⟨s316.toArray⟩) rfl <| ja (ii 0) rfl <| J.nil ?_
 refine CJ.ret ?_
 obtain rfl := si h
 exact ⟨_, _, Res.two rfl rfl rfl, ⟨s316, 0, rfl, rfl, rfl⟩, (Hp.le_refl _), fun w hs => (Sep.dropAt 0 rfl hs)⟩
noncomputable def fn_ref20_Put_l1 (xa : (Int × Int × (List (Int × Int)) × (List (List (Int × Bool))) × (List (Int × Bool)) × (List (Int × (List (Int × Int)) × (List (List (Int × Bool))) × (List (Int × Bool)))) × (List ((List (Int × Int × Int × Int × Bool)) × (Int × Int × Int × (List Int) × (List Int) × (List Int)))))) : (List UInt8 × Int) → Option ((List UInt8 × Int) ⊕ List UInt8) := fun ((s1858, i1859) : (List UInt8 × Int)) => cond (decide (i1859 < (((xa.2.2.2.1.length : Nat) : Int)))) ((getI xa.2.2.2.1 i1859).bind fun x1889 => (fn_ref17_PutType x1889).bind fun s1904 => (app s1858 s1904).bind fun z1908 => some (.inl ((z1908, IntKind.wrap .i64 (i1859 + 1))))) (some (.inr (s1858)))
noncomputable def fn_ref20_Put_l2 (xa : (Int × Int × (List (Int × Int)) × (List (List (Int × Bool))) × (List (Int × Bool)) × (List (Int × (List (Int × Int)) × (List (List (Int × Bool))) × (List (Int × Bool)))) × (List ((List (Int × Int × Int × Int × Bool)) × (Int × Int × Int × (List Int) × (List Int) × (List Int)))))) : (List UInt8 × Int) → Option ((List UInt8 × Int) ⊕ List UInt8) := fun ((s2079, i2080) : (List UInt8 × Int)) => cond (decide (i2080 < (((xa.2.2.2.2.2.1.length : Nat) : Int)))) ((getI xa.2.2.2.2.2.1 i2080).bind fun x2118 => (fn_ref17_Put (x2118.1, x2118.2.1, x2118.2.2.1, x2118.2.2.2)).bind fun s2141 => (app s2079 s2141).bind fun z2145 => some (.inl ((z2145, IntKind.wrap .i64 (i2080 + 1))))) (some (.inr (s2079)))
noncomputable def fn_ref20_Put_l3 (x3176 : ((List (Int × Int × Int × Int × Bool)) × (Int × Int × Int × (List Int) × (List Int) × (List Int)))) : (List UInt8 × Int) → Option ((List UInt8 × Int) ⊕ (List UInt8 ⊕ ((List UInt8 × Int) ⊕ (List UInt8 ⊕ (List UInt8 × Int))))) := fun ((s3292, i3293) : (List UInt8 × Int)) => cond (decide (i3293 < (((x3176.1.length : Nat) : Int)))) ((getI x3176.1 i3293).bind fun x3321 => (fn_ref18_Put (x3321.1, x3321.2.1, x3321.2.2.1, x3321.2.2.2.1, x3321.2.2.2.2)).bind fun (s3332, i3333) => cond (!decide (i3333 = 0)) (some (.inr ((.inr (.inr ((.inr ((([] : List UInt8), i3333))))))))) ((app s3292 s3332).bind fun z3338 => some (.inl ((z3338, IntKind.wrap .i64 (i3293 + 1)))))) (some (.inr (.inl s3292)))
noncomputable def fn_ref20_Put_l4 (xa : (Int × Int × (List (Int × Int)) × (List (List (Int × Bool))) × (List (Int × Bool)) × (List (Int × (List (Int × Int)) × (List (List (Int × Bool))) × (List (Int × Bool)))) × (List ((List (Int × Int × Int × Int × Bool)) × (Int × Int × Int × (List Int) × (List Int) × (List Int)))))) : (List UInt8 × Int) → Option ((List UInt8 × Int) ⊕ (List UInt8 ⊕ (List UInt8 × Int))) := fun ((s2968, i2969) : (List UInt8 × Int)) => cond (decide (i2969 < (((xa.2.2.2.2.2.2.length : Nat) : Int)))) ((getI xa.2.2.2.2.2.2 i2969).bind fun x3176 => (fn_ref02_Put (((x3176.1.length : Nat) : Int))).bind fun s3191 => (app s2968 s3191).bind fun z3195 => (loop (fn_ref20_Put_l3 x3176) (z3195, 0) : Option (List UInt8 ⊕ ((List UInt8 × Int) ⊕ (List UInt8 ⊕ (List UInt8 × Int))))).bind fun o => match o with | .inr r => some r | .inl s3267 => (getI xa.2.2.2.2.2.2 i2969).bind fun x3343 => (fn_ref19_Put (x3343.2.1, x3343.2.2.1, x3343.2.2.2.1, x3343.2.2.2.2.1, x3343.2.2.2.2.2.1, x3343.2.2.2.2.2.2)).bind fun (s3366, i3367) => cond (!decide (i3367 = 0)) (some (.inr ((.inr ((([] : List UInt8), i3367)))))) ((app s3267 s3366).bind fun z3372 => some (.inl ((z3372, IntKind.wrap .i64 (i2969 + 1)))))) (some (.inr (.inl s2968)))
noncomputable def fn_ref20_Put (xa : (Int × Int × (List (Int × Int)) × (List (List (Int × Bool))) × (List (Int × Bool)) × (List (Int × (List (Int × Int)) × (List (List (Int × Bool))) × (List (Int × Bool)))) × (List ((List (Int × Int × Int × Int × Bool)) × (Int × Int × Int × (List Int) × (List Int) × (List Int)))))) : Option (List UInt8 × Int) :=
  (fn_ref02_Put xa.1).bind fun s1725 => (app ([109, 105, 114, 1] : List UInt8) s1725).bind fun z1729 => (fn_ref02_Put xa.2.1).bind fun s1733 => (app z1729 s1733).bind fun z1737 => (fn_ref17_PutBounds xa.2.2.1).bind fun s1741 => (app z1737 s1741).bind fun z1745 => (fn_ref02_Put (((xa.2.2.2.1.length : Nat) : Int))).bind fun s1749 => (app z1745 s1749).bind fun z1753 => (loop (fn_ref20_Put_l1 xa) (z1753, 0) : Option (List UInt8)).bind fun s1831 => (fn_ref17_PutType xa.2.2.2.2.1).bind fun s1930 => (app s1831 s1930).bind fun z1934 => (fn_ref02_Put (((xa.2.2.2.2.2.1.length : Nat) : Int))).bind fun s1938 => (app z1934 s1938).bind fun z1942 => (loop (fn_ref20_Put_l2 xa) (z1942, 0) : Option (List UInt8)).bind fun s2044 => (fn_ref02_Put (((xa.2.2.2.2.2.2.length : Nat) : Int))).bind fun s2151 => (app s2044 s2151).bind fun z2155 => (loop (fn_ref20_Put_l4 xa) (z2155, 0) : Option (List UInt8 ⊕ (List UInt8 × Int))).bind fun o => match o with | .inr r => some r | .inl s2764 => some ((s2764, 0))
set_option maxRecDepth 100000 in
set_option maxHeartbeats 4000000 in
theorem ref20_Put_ok {K : Hp} {xa : (Int × Int × (List (Int × Int)) × (List (List (Int × Bool))) × (List (Int × Bool)) × (List (Int × (List (Int × Int)) × (List (List (Int × Bool))) × (List (Int × Bool)))) × (List ((List (Int × Int × Int × Int × Bool)) × (Int × Int × Int × (List Int) × (List Int) × (List Int)))))} {adxa_2 : Option Addr} {cpxa_2 : Nat} {adxa_3 : Option Addr} {cpxa_3 : Nat} {adxa_4 : Option Addr} {cpxa_4 : Nat} {adxa_5 : Option Addr} {cpxa_5 : Nat} {adxa_6 : Option Addr} {cpxa_6 : Nat} (fxa_2 : Is K (.sl (.cons (.int .i64) (.one (.int .i64)))) [.slice adxa_2 xa.2.2.1.length cpxa_2] xa.2.2.1) (fxa_3 : Is K (.sl (.one (.sl (.cons (.int .i64) (.one .bool))))) [.slice adxa_3 xa.2.2.2.1.length cpxa_3] xa.2.2.2.1) (fxa_4 : Is K (.sl (.cons (.int .i64) (.one .bool))) [.slice adxa_4 xa.2.2.2.2.1.length cpxa_4] xa.2.2.2.2.1) (fxa_5 : Is K (.sl (.cons (.int .i64) (.cons (.sl (.cons (.int .i64) (.one (.int .i64)))) (.cons (.sl (.one (.sl (.cons (.int .i64) (.one .bool))))) (.one (.one (.sl (.cons (.int .i64) (.one .bool))))))))) [.slice adxa_5 xa.2.2.2.2.2.1.length cpxa_5] xa.2.2.2.2.2.1) (fxa_6 : Is K (.sl (.cons (.sl (.cons (.int .i64) (.cons (.int .i64) (.cons (.int .i64) (.cons (.int .i64) (.one .bool)))))) (.one (.cons (.int .i64) (.cons (.int .i64) (.cons (.int .i64) (.cons (.sl (.int .i64)) (.cons (.sl (.int .i64)) (.one (.sl (.int .i64))))))))))) [.slice adxa_6 xa.2.2.2.2.2.2.length cpxa_6] xa.2.2.2.2.2.2) {r : (List UInt8 × Int)} (h : fn_ref20_Put xa = some r) :
    Tr Tryz.prog 60 #[.agg #[ii xa.1, ii xa.2.1, .slice adxa_2 xa.2.2.1.length cpxa_2, .slice adxa_3 xa.2.2.2.1.length cpxa_3, .slice adxa_4 xa.2.2.2.2.1.length cpxa_4, .slice adxa_5 xa.2.2.2.2.2.1.length cpxa_5, .slice adxa_6 xa.2.2.2.2.2.2.length cpxa_6]] K [] (fun v K' L' => (∃ (s1688 : List UInt8) (i1689 : Int), (s1688, i1689) = r ∧ .tuple #[.string ⟨s1688.toArray⟩, ii i1689] = v ∧ L' = []) ∧ K = K') := by
 refine Tr.k <| Tr.of Tryz.func60 rfl Tryz.ntmps60 rfl fun E F => ?_
 unfold fn_ref20_Put at h
 refine cr <| jbx [ii xa.1, ii xa.2.1, .slice adxa_2 xa.2.2.1.length cpxa_2, .slice adxa_3 xa.2.2.2.1.length cpxa_3, .slice adxa_4 xa.2.2.2.2.1.length cpxa_4, .slice adxa_5 xa.2.2.2.2.2.1.length cpxa_5, .slice adxa_6 xa.2.2.2.2.2.2.length cpxa_6] rfl rfl fun b1690 => ja (.string ⟨([] : List UInt8).toArray⟩) rfl <| ja (ii 0) rfl <| J.nil <| CJ.seq ?_
 refine CJ.mix [Cl b1690 34 [ii xa.1, ii xa.2.1, .slice adxa_2 xa.2.2.1.length cpxa_2, .slice adxa_3 xa.2.2.2.1.length cpxa_3, .slice adxa_4 xa.2.2.2.2.1.length cpxa_4, .slice adxa_5 xa.2.2.2.2.2.1.length cpxa_5, .slice adxa_6 xa.2.2.2.2.2.2.length cpxa_6]] [([0, 1, 4, 5, 8, 9, 12, 13, 14], 2), ([3], 6), ([7], 10), ([11], 15)] [16, 17] [] mixO (by decide +kernel) ⟨0, rfl, trivial⟩ rfl rfl rfl <| JM.cons <| qv _ (V.fad Tryz.underlying34 rfl nz3 rfl) <| qv (ii xa.1) (V.ld rfl (Ld.sc sc3 (Rd.cl 0 rfl rfl))) <| qv _ (V.fad Tryz.underlying34 rfl nz3 rfl) <| qv (ii xa.2.1) (V.ld rfl (Ld.sc sc3 (Rd.cl 0 rfl rfl))) <| qv _ (V.fad Tryz.underlying34 rfl nz26 rfl) ?_
 refine qv (.slice adxa_2 xa.2.2.1.length cpxa_2) (V.ld rfl (Ld.sc sc26 (Rd.cl 0 rfl rfl))) <| qv _ (V.fad Tryz.underlying34 rfl nz27 rfl) <| qv (.slice adxa_3 xa.2.2.2.1.length cpxa_3) (V.ld rfl (Ld.sc sc27 (Rd.cl 0 rfl rfl))) <| qv (ii (((xa.2.2.2.1.length : Nat) : Int))) (V.len Tryz.underlying27 rfl) <| JQ.nil ?_
 obtain ⟨r1723, hr1724, h⟩ := ob h
 refine JA.op rfl (A.call (L1 := []) Tryz.call92 rfl (ref02_Put_ok hr1724) rfl rfl) ?_
 rintro _ _ _ ⟨v1726, _, rfl, ⟨⟨s1725, rfl, rfl, rfl⟩, rfl⟩, _, rfl⟩
 refine ⟨fun w hs => Hold.sub (Hp.le_refl _) ⟨0, rfl, trivial⟩ hs, ?_⟩
 refine JM.cons ?_
 obtain ⟨z1729, hz1730, h⟩ := ob h
 refine qv (.string ⟨z1729.toArray⟩) (V.cat rfl rfl hz1730) <| JQ.nil ?_
 obtain ⟨r1731, hr1732, h⟩ := ob h
 refine JA.op rfl (A.call (L1 := []) Tryz.call92 rfl (ref02_Put_ok hr1732) rfl rfl) ?_
 rintro _ _ _ ⟨v1734, _, rfl, ⟨⟨s1733, rfl, rfl, rfl⟩, rfl⟩, _, rfl⟩
 refine ⟨fun w hs => Hold.sub (Hp.le_refl _) ⟨0, rfl, trivial⟩ hs, ?_⟩
 refine JM.cons ?_
 obtain ⟨z1737, hz1738, h⟩ := ob h
 refine qv (.string ⟨z1737.toArray⟩) (V.cat rfl rfl hz1738) <| JQ.nil ?_
 obtain ⟨r1739, hr1740, h⟩ := ob h
 refine JA.op rfl (A.call (L1 := []) Tryz.call93 rfl (ref17_PutBounds_ok fxa_2 hr1740) rfl rfl) ?_
 rintro _ _ _ ⟨v1742, _, rfl, ⟨⟨s1741, rfl, rfl, rfl⟩, rfl⟩, _, rfl⟩
 refine ⟨fun w hs => Hold.sub (Hp.le_refl _) ⟨0, rfl, trivial⟩ hs, ?_⟩
 refine JM.cons ?_
 obtain ⟨z1745, hz1746, h⟩ := ob h
 refine qv (.string ⟨z1745.toArray⟩) (V.cat rfl rfl hz1746) <| JQ.nil ?_
 obtain ⟨r1747, hr1748, h⟩ := ob h
 refine JA.op rfl (A.call (L1 := []) Tryz.call92 rfl (ref02_Put_ok hr1748) rfl rfl) ?_
 rintro _ _ _ ⟨v1750, _, rfl, ⟨⟨s1749, rfl, rfl, rfl⟩, rfl⟩, _, rfl⟩
 refine ⟨fun w hs => Hold.sub (Hp.le_refl _) ⟨0, rfl, trivial⟩ hs, ?_⟩
 refine JM.nil ?_
 obtain ⟨z1753, hz1754, h⟩ := ob h
 refine qv (.string ⟨z1753.toArray⟩) (V.cat rfl rfl hz1754) <| qa (.string ⟨z1753.toArray⟩) rfl <| JQ.nil <| J.nil <| CJ.seq <| CJ.seq <| CJ.region ?_
 refine ja (ii 0) rfl <| J.nil ?_
 obtain ⟨o1832, ho1833, h⟩ := ob h
 refine CJ.meetN (fun ρ K' L' => ∃ (s1831 : List UInt8), s1831 = o1832 ∧ Fits [(1, .pointer (some ⟨b1690, 0, none⟩)), (4, .string ⟨s1831.toArray⟩)] ρ ∧ K = K' ∧ L' = Cl b1690 34 [ii xa.1, ii xa.2.1, .slice adxa_2 xa.2.2.1.length cpxa_2, .slice adxa_3 xa.2.2.2.1.length cpxa_3, .slice adxa_4 xa.2.2.2.2.1.length cpxa_4, .slice adxa_5 xa.2.2.2.2.2.1.length cpxa_5, .slice adxa_6 xa.2.2.2.2.2.2.length cpxa_6] :: F) ?_ ?_
 · refine CJ.block <| CJ.loop (fun s ρ K' L' => ∃ (s1858 : List UInt8) (i1859 : Int), (s1858, i1859) = s ∧ Fits [(1, .pointer (some ⟨b1690, 0, none⟩)), (4, .string ⟨s1858.toArray⟩), (5, ii i1859)] ρ ∧ K = K' ∧ L' = Cl b1690 34 [ii xa.1, ii xa.2.1, .slice adxa_2 xa.2.2.1.length cpxa_2, .slice adxa_3 xa.2.2.2.1.length cpxa_3, .slice adxa_4 xa.2.2.2.2.1.length cpxa_4, .slice adxa_5 xa.2.2.2.2.2.1.length cpxa_5, .slice adxa_6 xa.2.2.2.2.2.2.length cpxa_6] :: F) ho1833 ⟨z1753, 0, rfl, ⟨rfl, rfl, rfl, trivial⟩, rfl, rfl⟩ ?_
   rintro s ρ _ _ r1887 ⟨s1858, i1859, rfl, hf1885, rfl, rfl⟩ h1884
   obtain ⟨ρ, rfl⟩ := hf1885.ex
   refine CJ.seq <| cr <| jm (ii i1859) rfl <| jv _ (V.fad Tryz.underlying34 rfl nz27 rfl) <| jv (.slice adxa_3 xa.2.2.2.1.length cpxa_3) (V.ld rfl (Ld.sc sc27 (Rd.cl 0 rfl rfl))) <| jv (ii (((xa.2.2.2.1.length : Nat) : Int))) (V.len Tryz.underlying27 rfl) ?_
   refine jv (.bool (decide (i1859 < (((xa.2.2.2.1.length : Nat) : Int))))) (V.lss rfl rfl) <| J.nil <| cc rfl h1884 (fun hc1888 h1884 => ?_) fun hc1888 h1884 => ?_
   · refine CJ.skip <| CJ.seq <| CJ.block <| CJ.region <| jm (.string ⟨s1858.toArray⟩) rfl <| jv _ (V.fad Tryz.underlying34 rfl nz27 rfl) <| jv (.slice adxa_3 xa.2.2.2.1.length cpxa_3) (V.ld rfl (Ld.sc sc27 (Rd.cl 0 rfl rfl))) ?_
     refine jm (ii i1859) rfl ?_
     obtain ⟨x1889, hx1890, h1884⟩ := ob h1884
     obtain ⟨p1891, p1892, p1893⟩ := getI_some hx1890
     obtain ⟨b1894, o1895, e1896, a1897⟩ := (fxa_3).at p1892
     refine jv _ (V.iad Tryz.underlying27 sz30 rfl e1896 rfl p1891 p1893) ?_
     obtain ⟨ad1898, cp1899, c1900, f1901⟩ := ((a1897).one).sl
     refine jv (.agg #[.slice ad1898 x1889.length cp1899]) (V.ld rfl (Ld.aggK (cs := [.slice ad1898 x1889.length cp1899]) Tryz.underlying30 sz30 rfl ⟨c1900, trivial⟩ (Hp.le_refl _))) ?_
     obtain ⟨r1902, hr1903, h1884⟩ := ob h1884
     refine J.op rfl (A.call (L1 := []) Tryz.call94 rfl (ref17_PutType_ok f1901 hr1903) rfl rfl) ?_
     rintro _ _ _ ⟨v1905, _, rfl, ⟨⟨s1904, rfl, rfl, rfl⟩, rfl⟩, _, rfl⟩
     obtain ⟨z1908, hz1909, h1884⟩ := ob h1884
     refine jv (.string ⟨z1908.toArray⟩) (V.cat rfl rfl hz1909) <| ja (.string ⟨z1908.toArray⟩) rfl <| J.nil <| CJ.region <| jm (ii i1859) rfl <| jv (ii (IntKind.wrap .i64 (i1859 + 1))) (V.add rfl rfl) <| ja (ii (IntKind.wrap .i64 (i1859 + 1))) rfl ?_
     refine J.nil ?_
     obtain rfl := si h1884
     exact ⟨rfl, ⟨z1908, IntKind.wrap .i64 (i1859 + 1), rfl, ⟨rfl, rfl, rfl, trivial⟩, rfl, rfl⟩⟩
   refine CJ.exit ?_
   obtain rfl := si h1884
   refine ⟨nofun, fun e => ?_⟩
   subst e
   exact ⟨rfl, ⟨s1858, rfl, ⟨rfl, rfl, trivial⟩, rfl, rfl⟩⟩
 rintro ρ _ _ ⟨s1831, rfl, hf1910, rfl, rfl⟩
 obtain ⟨ρ, rfl⟩ := hf1910.ex
 refine PJ.done <| CJ.seq <| CJ.mix [Cl b1690 34 [ii xa.1, ii xa.2.1, .slice adxa_2 xa.2.2.1.length cpxa_2, .slice adxa_3 xa.2.2.2.1.length cpxa_3, .slice adxa_4 xa.2.2.2.2.1.length cpxa_4, .slice adxa_5 xa.2.2.2.2.2.1.length cpxa_5, .slice adxa_6 xa.2.2.2.2.2.2.length cpxa_6]] [([0, 1, 2, 5, 6, 7], 3), ([4], 8)] [9, 10] [] mixO (by decide +kernel) ⟨0, rfl, trivial⟩ rfl rfl rfl <| JM.cons <| qm (.string ⟨s1831.toArray⟩) rfl <| qv _ (V.fad Tryz.underlying34 rfl nz30 rfl) <| qv (.agg #[.slice adxa_4 xa.2.2.2.2.1.length cpxa_4]) (V.ld rfl (Ld.agg (cs := [.slice adxa_4 xa.2.2.2.2.1.length cpxa_4]) Tryz.underlying30 sz30 rfl (Rd.cls 0 4 rfl rfl))) ?_
 refine qv _ (V.fad Tryz.underlying34 rfl nz31 rfl) <| qv (.slice adxa_5 xa.2.2.2.2.2.1.length cpxa_5) (V.ld rfl (Ld.sc sc31 (Rd.cl 0 rfl rfl))) <| qv (ii (((xa.2.2.2.2.2.1.length : Nat) : Int))) (V.len Tryz.underlying31 rfl) <| JQ.nil ?_
 obtain ⟨r1928, hr1929, h⟩ := ob h
 refine JA.op rfl (A.call (L1 := []) Tryz.call94 rfl (ref17_PutType_ok fxa_4 hr1929) rfl rfl) ?_
 rintro _ _ _ ⟨v1931, _, rfl, ⟨⟨s1930, rfl, rfl, rfl⟩, rfl⟩, _, rfl⟩
 refine ⟨fun w hs => Hold.sub (Hp.le_refl _) ⟨0, rfl, trivial⟩ hs, ?_⟩
 refine JM.cons ?_
 obtain ⟨z1934, hz1935, h⟩ := ob h
 refine qv (.string ⟨z1934.toArray⟩) (V.cat rfl rfl hz1935) <| JQ.nil ?_
 obtain ⟨r1936, hr1937, h⟩ := ob h
 refine JA.op rfl (A.call (L1 := []) Tryz.call92 rfl (ref02_Put_ok hr1937) rfl rfl) ?_
 rintro _ _ _ ⟨v1939, _, rfl, ⟨⟨s1938, rfl, rfl, rfl⟩, rfl⟩, _, rfl⟩
 refine ⟨fun w hs => Hold.sub (Hp.le_refl _) ⟨0, rfl, trivial⟩ hs, ?_⟩
 refine JM.nil ?_
 obtain ⟨z1942, hz1943, h⟩ := ob h
 refine qv (.string ⟨z1942.toArray⟩) (V.cat rfl rfl hz1943) <| qa (.string ⟨z1942.toArray⟩) rfl <| JQ.nil <| J.nil <| CJ.seq <| CJ.seq <| CJ.region ?_
 refine ja (ii 0) rfl <| J.nil ?_
 obtain ⟨o2045, ho2046, h⟩ := ob h
 refine CJ.meetN (fun ρ K' L' => ∃ (s2044 : List UInt8), s2044 = o2045 ∧ Fits [(1, .pointer (some ⟨b1690, 0, none⟩)), (4, .string ⟨s2044.toArray⟩)] ρ ∧ K = K' ∧ L' = Cl b1690 34 [ii xa.1, ii xa.2.1, .slice adxa_2 xa.2.2.1.length cpxa_2, .slice adxa_3 xa.2.2.2.1.length cpxa_3, .slice adxa_4 xa.2.2.2.2.1.length cpxa_4, .slice adxa_5 xa.2.2.2.2.2.1.length cpxa_5, .slice adxa_6 xa.2.2.2.2.2.2.length cpxa_6] :: F) ?_ ?_
 · refine CJ.block <| CJ.loop (fun s ρ K' L' => ∃ (s2079 : List UInt8) (i2080 : Int), (s2079, i2080) = s ∧ Fits [(1, .pointer (some ⟨b1690, 0, none⟩)), (4, .string ⟨s2079.toArray⟩), (6, ii i2080)] ρ ∧ K = K' ∧ L' = Cl b1690 34 [ii xa.1, ii xa.2.1, .slice adxa_2 xa.2.2.1.length cpxa_2, .slice adxa_3 xa.2.2.2.1.length cpxa_3, .slice adxa_4 xa.2.2.2.2.1.length cpxa_4, .slice adxa_5 xa.2.2.2.2.2.1.length cpxa_5, .slice adxa_6 xa.2.2.2.2.2.2.length cpxa_6] :: F) ho2046 ⟨z1942, 0, rfl, ⟨rfl, rfl, rfl, trivial⟩, rfl, rfl⟩ ?_
   rintro s ρ _ _ r2116 ⟨s2079, i2080, rfl, hf2114, rfl, rfl⟩ h2113
   obtain ⟨ρ, rfl⟩ := hf2114.ex
   refine CJ.seq <| cr <| jm (ii i2080) rfl <| jv _ (V.fad Tryz.underlying34 rfl nz31 rfl) <| jv (.slice adxa_5 xa.2.2.2.2.2.1.length cpxa_5) (V.ld rfl (Ld.sc sc31 (Rd.cl 0 rfl rfl))) <| jv (ii (((xa.2.2.2.2.2.1.length : Nat) : Int))) (V.len Tryz.underlying31 rfl) ?_
   refine jv (.bool (decide (i2080 < (((xa.2.2.2.2.2.1.length : Nat) : Int))))) (V.lss rfl rfl) <| J.nil <| cc rfl h2113 (fun hc2117 h2113 => ?_) fun hc2117 h2113 => ?_
   · refine CJ.skip <| CJ.seq <| CJ.block <| CJ.region <| jm (.string ⟨s2079.toArray⟩) rfl <| jv _ (V.fad Tryz.underlying34 rfl nz31 rfl) <| jv (.slice adxa_5 xa.2.2.2.2.2.1.length cpxa_5) (V.ld rfl (Ld.sc sc31 (Rd.cl 0 rfl rfl))) ?_
     refine jm (ii i2080) rfl ?_
     obtain ⟨x2118, hx2119, h2113⟩ := ob h2113
     obtain ⟨p2120, p2121, p2122⟩ := getI_some hx2119
     obtain ⟨b2123, o2124, e2125, a2126⟩ := (fxa_5).at p2121
     refine jv _ (V.iad Tryz.underlying31 sz63 rfl e2125 rfl p2120 p2122) ?_
     obtain ⟨ad2127, cp2128, c2129, f2130⟩ := (((a2126).snd).fst).sl
     obtain ⟨ad2131, cp2132, c2133, f2134⟩ := ((((a2126).snd).snd).fst).sl
     obtain ⟨ad2135, cp2136, c2137, f2138⟩ := ((((((a2126).snd).snd).snd).one).one).sl
     refine jv (.agg #[ii x2118.1, .slice ad2127 x2118.2.1.length cp2128, .slice ad2131 x2118.2.2.1.length cp2132, .slice ad2135 x2118.2.2.2.length cp2136]) (V.ld rfl (Ld.aggK (cs := [ii x2118.1, .slice ad2127 x2118.2.1.length cp2128, .slice ad2131 x2118.2.2.1.length cp2132, .slice ad2135 x2118.2.2.2.length cp2136]) Tryz.underlying63 sz63 rfl ⟨((a2126).fst).int, c2129, c2133, c2137, trivial⟩ (Hp.le_refl _))) ?_
     obtain ⟨r2139, hr2140, h2113⟩ := ob h2113
     refine J.op rfl (A.call (L1 := []) Tryz.call95 rfl (ref17_Put_ok f2130 f2134 f2138 hr2140) rfl rfl) ?_
     rintro _ _ _ ⟨v2142, _, rfl, ⟨⟨s2141, rfl, rfl, rfl⟩, rfl⟩, _, rfl⟩
     obtain ⟨z2145, hz2146, h2113⟩ := ob h2113
     refine jv (.string ⟨z2145.toArray⟩) (V.cat rfl rfl hz2146) <| ja (.string ⟨z2145.toArray⟩) rfl <| J.nil <| CJ.region <| jm (ii i2080) rfl <| jv (ii (IntKind.wrap .i64 (i2080 + 1))) (V.add rfl rfl) <| ja (ii (IntKind.wrap .i64 (i2080 + 1))) rfl ?_
     refine J.nil ?_
     obtain rfl := si h2113
     exact ⟨rfl, ⟨z2145, IntKind.wrap .i64 (i2080 + 1), rfl, ⟨rfl, rfl, rfl, trivial⟩, rfl, rfl⟩⟩
   refine CJ.exit ?_
   obtain rfl := si h2113
   refine ⟨nofun, fun e => ?_⟩
   subst e
   exact ⟨rfl, ⟨s2079, rfl, ⟨rfl, rfl, trivial⟩, rfl, rfl⟩⟩
 rintro ρ _ _ ⟨s2044, rfl, hf2147, rfl, rfl⟩
 obtain ⟨ρ, rfl⟩ := hf2147.ex
 refine PJ.done <| cr <| jm (.string ⟨s2044.toArray⟩) rfl <| jv _ (V.fad Tryz.underlying34 rfl nz32 rfl) <| jv (.slice adxa_6 xa.2.2.2.2.2.2.length cpxa_6) (V.ld rfl (Ld.sc sc32 (Rd.cl 0 rfl rfl))) <| jv (ii (((xa.2.2.2.2.2.2.length : Nat) : Int))) (V.len Tryz.underlying32 rfl) ?_
 obtain ⟨r2149, hr2150, h⟩ := ob h
 refine J.op rfl (A.call (L1 := []) Tryz.call92 rfl (ref02_Put_ok hr2150) rfl rfl) ?_
 rintro _ _ _ ⟨v2152, _, rfl, ⟨⟨s2151, rfl, rfl, rfl⟩, rfl⟩, _, rfl⟩
 obtain ⟨z2155, hz2156, h⟩ := ob h
 refine jv (.string ⟨z2155.toArray⟩) (V.cat rfl rfl hz2156) <| ja (.string ⟨z2155.toArray⟩) rfl <| J.nil <| CJ.seq <| cr <| ja (ii 0) rfl ?_
 refine J.nil ?_
 obtain ⟨o2765, ho2766, h⟩ := ob h
 refine CJ.joinN (o := o2765) (fun s ρ K' L' => ∃ (s2764 : List UInt8), s2764 = s ∧ Fits [(4, .string ⟨s2764.toArray⟩)] ρ ∧ K = K' ∧ F = L') ?_ ?_
 · refine CJ.block <| CJ.loop (fun s ρ K' L' => ∃ (s2968 : List UInt8) (i2969 : Int), (s2968, i2969) = s ∧ Fits [(1, .pointer (some ⟨b1690, 0, none⟩)), (4, .string ⟨s2968.toArray⟩), (7, ii i2969)] ρ ∧ K = K' ∧ L' = Cl b1690 34 [ii xa.1, ii xa.2.1, .slice adxa_2 xa.2.2.1.length cpxa_2, .slice adxa_3 xa.2.2.2.1.length cpxa_3, .slice adxa_4 xa.2.2.2.2.1.length cpxa_4, .slice adxa_5 xa.2.2.2.2.2.1.length cpxa_5, .slice adxa_6 xa.2.2.2.2.2.2.length cpxa_6] :: F) ho2766 ⟨z2155, 0, rfl, ⟨rfl, rfl, rfl, trivial⟩, rfl, rfl⟩ ?_
   rintro s ρ _ _ r3174 ⟨s2968, i2969, rfl, hf3172, rfl, rfl⟩ h3171
   obtain ⟨ρ, rfl⟩ := hf3172.ex
   refine CJ.seq <| cr <| jm (ii i2969) rfl <| jv _ (V.fad Tryz.underlying34 rfl nz32 rfl) <| jv (.slice adxa_6 xa.2.2.2.2.2.2.length cpxa_6) (V.ld rfl (Ld.sc sc32 (Rd.cl 0 rfl rfl))) <| jv (ii (((xa.2.2.2.2.2.2.length : Nat) : Int))) (V.len Tryz.underlying32 rfl) ?_
   refine jv (.bool (decide (i2969 < (((xa.2.2.2.2.2.2.length : Nat) : Int))))) (V.lss rfl rfl) <| J.nil <| cc rfl h3171 (fun hc3175 h3171 => ?_) fun hc3175 h3171 => ?_
   · refine CJ.skip <| CJ.seq <| CJ.block <| cr <| jv _ (V.fad Tryz.underlying34 rfl nz32 rfl) <| jv (.slice adxa_6 xa.2.2.2.2.2.2.length cpxa_6) (V.ld rfl (Ld.sc sc32 (Rd.cl 0 rfl rfl))) ?_
     refine jm (ii i2969) rfl ?_
     obtain ⟨x3176, hx3177, h3171⟩ := ob h3171
     obtain ⟨p3178, p3179, p3180⟩ := getI_some hx3177
     obtain ⟨b3181, o3182, e3183, a3184⟩ := (fxa_6).at p3179
     refine jv _ (V.iad Tryz.underlying32 sz70 rfl e3183 rfl p3178 p3180) <| jv _ (V.fad Tryz.underlying70 rfl nz65 rfl) ?_
     obtain ⟨ad3185, cp3186, c3187, f3188⟩ := ((a3184).fst).sl
     refine jv (.slice ad3185 x3176.1.length cp3186) (V.ld rfl (Ld.sc sc65 (Rd.k c3187 (Hp.le_refl _)))) <| ja (.slice ad3185 x3176.1.length cp3186) rfl <| J.nil <| cr <| jm (.string ⟨s2968.toArray⟩) rfl <| jm (.slice ad3185 x3176.1.length cp3186) rfl ?_
     refine jv (ii (((x3176.1.length : Nat) : Int))) (V.len Tryz.underlying65 rfl) ?_
     obtain ⟨r3189, hr3190, h3171⟩ := ob h3171
     refine J.op rfl (A.call (L1 := []) Tryz.call92 rfl (ref02_Put_ok hr3190) rfl rfl) ?_
     rintro _ _ _ ⟨v3192, _, rfl, ⟨⟨s3191, rfl, rfl, rfl⟩, rfl⟩, _, rfl⟩
     obtain ⟨z3195, hz3196, h3171⟩ := ob h3171
     refine jv (.string ⟨z3195.toArray⟩) (V.cat rfl rfl hz3196) <| ja (.string ⟨z3195.toArray⟩) rfl <| J.nil <| CJ.seq <| cr <| ja (ii 0) rfl ?_
     refine J.nil ?_
     obtain ⟨o3268, ho3269, h3171⟩ := ob h3171
     refine CJ.joinN (o := o3268) (fun s ρ K' L' => ∃ (s3267 : List UInt8), s3267 = s ∧ Fits [(1, .pointer (some ⟨b1690, 0, none⟩)), (4, .string ⟨s3267.toArray⟩), (7, ii i2969)] ρ ∧ K = K' ∧ L' = Cl b1690 34 [ii xa.1, ii xa.2.1, .slice adxa_2 xa.2.2.1.length cpxa_2, .slice adxa_3 xa.2.2.2.1.length cpxa_3, .slice adxa_4 xa.2.2.2.2.1.length cpxa_4, .slice adxa_5 xa.2.2.2.2.2.1.length cpxa_5, .slice adxa_6 xa.2.2.2.2.2.2.length cpxa_6] :: F) ?_ ?_
     · refine CJ.block <| CJ.loop (fun s ρ K' L' => ∃ (s3292 : List UInt8) (i3293 : Int), (s3292, i3293) = s ∧ Fits [(1, .pointer (some ⟨b1690, 0, none⟩)), (4, .string ⟨s3292.toArray⟩), (7, ii i2969), (8, .slice ad3185 x3176.1.length cp3186), (9, ii i3293)] ρ ∧ K = K' ∧ L' = Cl b1690 34 [ii xa.1, ii xa.2.1, .slice adxa_2 xa.2.2.1.length cpxa_2, .slice adxa_3 xa.2.2.2.1.length cpxa_3, .slice adxa_4 xa.2.2.2.2.1.length cpxa_4, .slice adxa_5 xa.2.2.2.2.2.1.length cpxa_5, .slice adxa_6 xa.2.2.2.2.2.2.length cpxa_6] :: F) ho3269 ⟨z3195, 0, rfl, ⟨rfl, rfl, rfl, rfl, rfl, trivial⟩, rfl, rfl⟩ ?_
       rintro s ρ _ _ r3319 ⟨s3292, i3293, rfl, hf3317, rfl, rfl⟩ h3316
       obtain ⟨ρ, rfl⟩ := hf3317.ex
       refine CJ.seq <| cr <| jm (ii i3293) rfl <| jm (.slice ad3185 x3176.1.length cp3186) rfl <| jv (ii (((x3176.1.length : Nat) : Int))) (V.len Tryz.underlying65 rfl) <| jv (.bool (decide (i3293 < (((x3176.1.length : Nat) : Int))))) (V.lss rfl rfl) ?_
       refine J.nil <| cc rfl h3316 (fun hc3320 h3316 => ?_) fun hc3320 h3316 => ?_
       · refine CJ.skip <| CJ.seq <| CJ.block <| cr <| jm (.slice ad3185 x3176.1.length cp3186) rfl <| jm (ii i3293) rfl ?_
         obtain ⟨x3321, hx3322, h3316⟩ := ob h3316
         obtain ⟨p3323, p3324, p3325⟩ := getI_some hx3322
         obtain ⟨b3326, o3327, e3328, a3329⟩ := (f3188).at p3324
         refine jv _ (V.iad Tryz.underlying65 sz73 rfl e3328 rfl p3323 p3325) <| jv (.agg #[ii x3321.1, ii x3321.2.1, ii x3321.2.2.1, ii x3321.2.2.2.1, .bool x3321.2.2.2.2]) (V.ld rfl (Ld.aggK (cs := [ii x3321.1, ii x3321.2.1, ii x3321.2.2.1, ii x3321.2.2.2.1, .bool x3321.2.2.2.2]) Tryz.underlying73 sz73 rfl ⟨((a3329).fst).int, (((a3329).snd).fst).int, ((((a3329).snd).snd).fst).int, (((((a3329).snd).snd).snd).fst).int, ((((((a3329).snd).snd).snd).snd).one).bool, trivial⟩ (Hp.le_refl _))) ?_
         obtain ⟨r3330, hr3331, h3316⟩ := ob h3316
         refine J.op rfl (A.call (L1 := []) Tryz.call96 rfl (ref18_Put_ok hr3331) rfl rfl) ?_
         rintro _ _ _ ⟨v3334, _, rfl, ⟨⟨s3332, i3333, rfl, rfl, rfl⟩, rfl⟩, _, rfl⟩
         refine jm (.tuple #[.string ⟨s3332.toArray⟩, ii i3333]) rfl <| jx (.string ⟨s3332.toArray⟩) rfl rfl <| jx (ii i3333) rfl rfl <| ja (.string ⟨s3332.toArray⟩) rfl <| ja (ii i3333) rfl <| J.nil <| CJ.seq ?_
         refine cr <| jm (ii i3333) rfl <| jv (.bool (!decide (i3333 = 0))) (V.neq rfl rfl) <| J.nil <| cc rfl h3316 (fun hc3337 h3316 => ?_) fun hc3337 h3316 => ?_
         · refine cr <| jm (ii i3333) rfl <| ja (.string ⟨([] : List UInt8).toArray⟩) rfl <| ja (ii i3333) rfl <| J.nil <| CJ.ret ?_
           obtain rfl := si h3316
           refine ⟨nofun, fun e => ?_⟩
           subst e
           refine .inr ⟨nofun, ?_⟩
           obtain rfl := si h3171
           refine ⟨nofun, fun e => ?_⟩
           subst e
           refine .inr ⟨nofun, ?_⟩
           obtain rfl := si h
           exact ⟨_, _, Res.two rfl rfl rfl, ⟨([] : List UInt8), i3333, rfl, rfl, rfl⟩, (Hp.le_refl _), fun w hs => (Sep.dropAt 0 rfl hs)⟩
         refine CJ.skip <| CJ.region <| jm (.string ⟨s3292.toArray⟩) rfl <| jm (.string ⟨s3332.toArray⟩) rfl ?_
         obtain ⟨z3338, hz3339, h3316⟩ := ob h3316
         refine jv (.string ⟨z3338.toArray⟩) (V.cat rfl rfl hz3339) <| ja (.string ⟨z3338.toArray⟩) rfl <| J.nil <| CJ.region <| jm (ii i3293) rfl <| jv (ii (IntKind.wrap .i64 (i3293 + 1))) (V.add rfl rfl) <| ja (ii (IntKind.wrap .i64 (i3293 + 1))) rfl ?_
         refine J.nil ?_
         obtain rfl := si h3316
         exact ⟨rfl, ⟨z3338, IntKind.wrap .i64 (i3293 + 1), rfl, ⟨rfl, rfl, rfl, rfl, rfl, trivial⟩, rfl, rfl⟩⟩
       refine CJ.exit ?_
       obtain rfl := si h3316
       refine ⟨nofun, fun e => ?_⟩
       subst e
       exact .inl ⟨rfl, _, rfl, ⟨s3292, rfl, ⟨rfl, rfl, rfl, trivial⟩, rfl, rfl⟩⟩
     rintro s ρ _ _ ho3340 ⟨s3267, rfl, hf3341, rfl, rfl⟩
     subst ho3340
     obtain ⟨ρ, rfl⟩ := hf3341.ex
     refine PJ.done <| cr <| jv _ (V.fad Tryz.underlying34 rfl nz32 rfl) <| jv (.slice adxa_6 xa.2.2.2.2.2.2.length cpxa_6) (V.ld rfl (Ld.sc sc32 (Rd.cl 0 rfl rfl))) <| jm (ii i2969) rfl ?_
     obtain ⟨x3343, hx3344, h3171⟩ := ob h3171
     obtain ⟨p3345, p3346, p3347⟩ := getI_some hx3344
     obtain ⟨b3348, o3349, e3350, a3351⟩ := (fxa_6).at p3346
     refine jv _ (V.iad Tryz.underlying32 sz70 rfl e3350 rfl p3345 p3347) <| jv _ (V.fad Tryz.underlying70 rfl nz68 rfl) ?_
     obtain ⟨ad3352, cp3353, c3354, f3355⟩ := (((((((a3351).snd).one).snd).snd).snd).fst).sl
     obtain ⟨ad3356, cp3357, c3358, f3359⟩ := ((((((((a3351).snd).one).snd).snd).snd).snd).fst).sl
     obtain ⟨ad3360, cp3361, c3362, f3363⟩ := (((((((((a3351).snd).one).snd).snd).snd).snd).snd).one).sl
     refine jv (.agg #[ii x3343.2.1, ii x3343.2.2.1, ii x3343.2.2.2.1, .slice ad3352 x3343.2.2.2.2.1.length cp3353, .slice ad3356 x3343.2.2.2.2.2.1.length cp3357, .slice ad3360 x3343.2.2.2.2.2.2.length cp3361]) (V.ld rfl (Ld.aggK (cs := [ii x3343.2.1, ii x3343.2.2.1, ii x3343.2.2.2.1, .slice ad3352 x3343.2.2.2.2.1.length cp3353, .slice ad3356 x3343.2.2.2.2.2.1.length cp3357, .slice ad3360 x3343.2.2.2.2.2.2.length cp3361]) Tryz.underlying68 sz68 rfl ⟨((((a3351).snd).one).fst).int, (((((a3351).snd).one).snd).fst).int, ((((((a3351).snd).one).snd).snd).fst).int, c3354, c3358, c3362, trivial⟩ (Hp.le_refl _))) ?_
     obtain ⟨r3364, hr3365, h3171⟩ := ob h3171
     refine J.op rfl (A.call (L1 := []) Tryz.call97 rfl (ref19_Put_ok f3355 f3359 f3363 hr3365) rfl rfl) ?_
     rintro _ _ _ ⟨v3368, _, rfl, ⟨⟨s3366, i3367, rfl, rfl, rfl⟩, rfl⟩, _, rfl⟩
     refine jm (.tuple #[.string ⟨s3366.toArray⟩, ii i3367]) rfl <| jx (.string ⟨s3366.toArray⟩) rfl rfl <| jx (ii i3367) rfl rfl <| ja (.string ⟨s3366.toArray⟩) rfl <| ja (ii i3367) rfl <| J.nil <| CJ.seq ?_
     refine cr <| jm (ii i3367) rfl <| jv (.bool (!decide (i3367 = 0))) (V.neq rfl rfl) <| J.nil <| cc rfl h3171 (fun hc3371 h3171 => ?_) fun hc3371 h3171 => ?_
     · refine cr <| jm (ii i3367) rfl <| ja (.string ⟨([] : List UInt8).toArray⟩) rfl <| ja (ii i3367) rfl <| J.nil <| CJ.ret ?_
       obtain rfl := si h3171
       refine ⟨nofun, fun e => ?_⟩
       subst e
       refine .inr ⟨nofun, ?_⟩
       obtain rfl := si h
       exact ⟨_, _, Res.two rfl rfl rfl, ⟨([] : List UInt8), i3367, rfl, rfl, rfl⟩, (Hp.le_refl _), fun w hs => (Sep.dropAt 0 rfl hs)⟩
     refine CJ.skip <| CJ.region <| jm (.string ⟨s3267.toArray⟩) rfl <| jm (.string ⟨s3366.toArray⟩) rfl ?_
     obtain ⟨z3372, hz3373, h3171⟩ := ob h3171
     refine jv (.string ⟨z3372.toArray⟩) (V.cat rfl rfl hz3373) <| ja (.string ⟨z3372.toArray⟩) rfl <| J.nil <| CJ.region <| jm (ii i2969) rfl <| jv (ii (IntKind.wrap .i64 (i2969 + 1))) (V.add rfl rfl) <| ja (ii (IntKind.wrap .i64 (i2969 + 1))) rfl ?_
     refine J.nil ?_
     obtain rfl := si h3171
     exact ⟨rfl, ⟨z3372, IntKind.wrap .i64 (i2969 + 1), rfl, ⟨rfl, rfl, rfl, trivial⟩, rfl, rfl⟩⟩
   refine CJ.dropAt 0 rfl <| CJ.exit ?_
   obtain rfl := si h3171
   refine ⟨nofun, fun e => ?_⟩
   subst e
   exact .inl ⟨rfl, _, rfl, ⟨s2968, rfl, ⟨rfl, trivial⟩, rfl, rfl⟩⟩
 rintro s ρ _ _ ho3374 ⟨s2764, rfl, hf3375, rfl, rfl⟩
 subst ho3374
 obtain ⟨ρ, rfl⟩ := hf3375.ex
 refine PJ.done <| cr <| jm (.string ⟨s2764.toArray⟩) rfl <| ja (.string ⟨s2764.toArray⟩) rfl <| ja (ii 0) rfl <| J.nil ?_
 refine CJ.ret ?_
 obtain rfl := si h
 exact ⟨_, _, Res.two rfl rfl rfl, ⟨s2764, 0, rfl, rfl, rfl⟩, (Hp.le_refl _), fun w hs => hs⟩
noncomputable def fn_ref02_Take_l1 (xa : (List UInt8)) (x93 : UInt8) : (Int × Int) → Option ((Int × Int) ⊕ Int) := fun ((i140, i141) : (Int × Int)) => cond (decide (i141 ≤ (IntKind.wrap .i64 ((IntKind.wrap .i64 (((x93.toNat : Nat) : Int))) - 247)))) ((getI xa i141).bind fun x155 => some (.inl ((IntKind.wrap .i64 ((IntKind.wrap .i64 (i140 * 256)) + (IntKind.wrap .i64 (((x155.toNat : Nat) : Int)))), IntKind.wrap .i64 (i141 + 1))))) (some (.inr (i140)))
noncomputable def fn_ref02_Take (xa : (List UInt8)) : Option (Int × Int × Int) :=
  cond (decide (xa = ([] : List UInt8))) (some ((0, 0, 4))) ((getI xa 0).bind fun x93 => cond (decide ((IntKind.wrap .i64 (((x93.toNat : Nat) : Int))) < 248)) (some ((IntKind.wrap .i64 (((x93.toNat : Nat) : Int)), 1, 0))) (cond (decide (251 < (IntKind.wrap .i64 (((x93.toNat : Nat) : Int))))) (some ((0, 0, 3))) (cond (decide ((((xa.length : Nat) : Int)) < (IntKind.wrap .i64 (1 + (IntKind.wrap .i64 ((IntKind.wrap .i64 (((x93.toNat : Nat) : Int))) - 247)))))) (some ((0, 0, 4))) ((loop (fn_ref02_Take_l1 xa x93) (0, 1) : Option Int).bind fun i129 => (subL xa 0 (IntKind.wrap .i64 (1 + (IntKind.wrap .i64 ((IntKind.wrap .i64 (((x93.toNat : Nat) : Int))) - 247))))).bind fun y170 => (fn_ref02_Put i129).bind fun s174 => cond (!decide (s174 = y170)) (some ((0, 0, 3))) (some ((i129, IntKind.wrap .i64 (1 + (IntKind.wrap .i64 ((IntKind.wrap .i64 (((x93.toNat : Nat) : Int))) - 247))), 0)))))))
set_option maxRecDepth 100000 in
set_option maxHeartbeats 4000000 in
theorem ref02_Take_ok {K : Hp} {xa : (List UInt8)}   {r : (Int × Int × Int)} (h : fn_ref02_Take xa = some r) :
    Tr Tryz.prog 79 #[.string ⟨xa.toArray⟩] K [] (fun v K' L' => (∃ (i89 : Int) (i90 : Int) (i91 : Int), (i89, i90, i91) = r ∧ .tuple #[ii i89, ii i90, ii i91] = v ∧ L' = []) ∧ K = K') := by
 refine Tr.k <| Tr.of Tryz.func79 rfl Tryz.ntmps79 rfl fun E F => ?_
 unfold fn_ref02_Take at h
 refine cr <| ja (ii 0) rfl <| ja (ii 0) rfl <| ja (ii 0) rfl <| J.nil <| CJ.seq ?_
 refine cr <| jm (.string ⟨xa.toArray⟩) rfl <| jv (.bool (decide (xa = ([] : List UInt8)))) (V.eqs rfl rfl) <| J.nil <| cc rfl h (fun hc92 h => ?_) fun hc92 h => ?_
 · refine cr <| ja (ii 0) rfl <| ja (ii 0) rfl <| ja (ii 4) rfl <| J.nil <| CJ.ret ?_
   obtain rfl := si h
   exact ⟨_, _, Res.three rfl rfl rfl rfl, ⟨0, 0, 4, rfl, rfl, rfl⟩, (Hp.le_refl _), fun w hs => hs⟩
 refine CJ.skip <| cr <| jm (.string ⟨xa.toArray⟩) rfl ?_
 obtain ⟨x93, hx94, h⟩ := ob h
 obtain ⟨p95, p96, p97⟩ := getI_some hx94
 refine jv (.int .u8 (((x93.toNat : Nat) : Int))) (V.ixs Tryz.underlying9 rfl rfl p95 p96) <| jv (ii (IntKind.wrap .i64 (((x93.toNat : Nat) : Int)))) (V.conv Tryz.underlying5 Tryz.underlying3 rfl) <| ja (ii (IntKind.wrap .i64 (((x93.toNat : Nat) : Int)))) rfl <| J.nil <| CJ.seq <| CJ.seq <| CJ.region ?_
 refine jm (ii (IntKind.wrap .i64 (((x93.toNat : Nat) : Int)))) rfl <| jv (.bool (decide ((IntKind.wrap .i64 (((x93.toNat : Nat) : Int))) < 248))) (V.lss rfl rfl) <| J.nil <| cc rfl h (fun hc98 h => ?_) fun hc98 h => ?_
 · refine cr <| jm (ii (IntKind.wrap .i64 (((x93.toNat : Nat) : Int)))) rfl <| ja (ii (IntKind.wrap .i64 (((x93.toNat : Nat) : Int)))) rfl <| ja (ii 1) rfl <| ja (ii 0) rfl <| J.nil ?_
   refine CJ.ret ?_
   obtain rfl := si h
   exact ⟨_, _, Res.three rfl rfl rfl rfl, ⟨IntKind.wrap .i64 (((x93.toNat : Nat) : Int)), 1, 0, rfl, rfl, rfl⟩, (Hp.le_refl _), fun w hs => hs⟩
 refine CJ.skip <| CJ.seq <| cr <| jm (ii (IntKind.wrap .i64 (((x93.toNat : Nat) : Int)))) rfl <| jv (.bool (decide (251 < (IntKind.wrap .i64 (((x93.toNat : Nat) : Int)))))) (V.gtr rfl rfl) <| J.nil ?_
 refine cc rfl h (fun hc99 h => ?_) fun hc99 h => ?_
 · refine cr <| ja (ii 0) rfl <| ja (ii 0) rfl <| ja (ii 3) rfl <| J.nil <| CJ.ret ?_
   obtain rfl := si h
   exact ⟨_, _, Res.three rfl rfl rfl rfl, ⟨0, 0, 3, rfl, rfl, rfl⟩, (Hp.le_refl _), fun w hs => hs⟩
 refine CJ.skip <| cr <| jm (ii (IntKind.wrap .i64 (((x93.toNat : Nat) : Int)))) rfl <| jv (ii (IntKind.wrap .i64 ((IntKind.wrap .i64 (((x93.toNat : Nat) : Int))) - 247))) (V.sub rfl rfl) <| ja (ii (IntKind.wrap .i64 ((IntKind.wrap .i64 (((x93.toNat : Nat) : Int))) - 247))) rfl <| J.nil ?_
 refine CJ.seq <| cr <| jm (.string ⟨xa.toArray⟩) rfl <| jv (ii (((xa.length : Nat) : Int))) (V.lens Tryz.underlying9 rfl) <| jm (ii (IntKind.wrap .i64 ((IntKind.wrap .i64 (((x93.toNat : Nat) : Int))) - 247))) rfl <| jv (ii (IntKind.wrap .i64 (1 + (IntKind.wrap .i64 ((IntKind.wrap .i64 (((x93.toNat : Nat) : Int))) - 247))))) (V.add rfl rfl) ?_
 refine jv (.bool (decide ((((xa.length : Nat) : Int)) < (IntKind.wrap .i64 (1 + (IntKind.wrap .i64 ((IntKind.wrap .i64 (((x93.toNat : Nat) : Int))) - 247))))))) (V.lss rfl rfl) <| J.nil <| cc rfl h (fun hc100 h => ?_) fun hc100 h => ?_
 · refine cr <| ja (ii 0) rfl <| ja (ii 0) rfl <| ja (ii 4) rfl <| J.nil <| CJ.ret ?_
   obtain rfl := si h
   exact ⟨_, _, Res.three rfl rfl rfl rfl, ⟨0, 0, 4, rfl, rfl, rfl⟩, (Hp.le_refl _), fun w hs => hs⟩
 refine CJ.skip <| cr <| ja (ii 0) rfl <| J.nil <| CJ.seq <| CJ.seq ?_
 refine CJ.region <| ja (ii 1) rfl <| J.nil ?_
 obtain ⟨o130, ho131, h⟩ := ob h
 refine CJ.meetN (fun ρ K' L' => ∃ (i129 : Int), i129 = o130 ∧ Fits [(0, .string ⟨xa.toArray⟩), (6, ii (IntKind.wrap .i64 ((IntKind.wrap .i64 (((x93.toNat : Nat) : Int))) - 247))), (7, ii i129)] ρ ∧ K = K' ∧ F = L') ?_ ?_
 · refine CJ.block <| CJ.loop (fun s ρ K' L' => ∃ (i140 : Int) (i141 : Int), (i140, i141) = s ∧ Fits [(0, .string ⟨xa.toArray⟩), (6, ii (IntKind.wrap .i64 ((IntKind.wrap .i64 (((x93.toNat : Nat) : Int))) - 247))), (7, ii i140), (8, ii i141)] ρ ∧ K = K' ∧ F = L') ho131 ⟨0, 1, rfl, ⟨rfl, rfl, rfl, rfl, trivial⟩, rfl, rfl⟩ ?_
   rintro s ρ _ _ r153 ⟨i140, i141, rfl, hf151, rfl, rfl⟩ h150
   obtain ⟨ρ, rfl⟩ := hf151.ex
   refine CJ.seq <| cr <| jm (ii i141) rfl <| jm (ii (IntKind.wrap .i64 ((IntKind.wrap .i64 (((x93.toNat : Nat) : Int))) - 247))) rfl <| jv (.bool (decide (i141 ≤ (IntKind.wrap .i64 ((IntKind.wrap .i64 (((x93.toNat : Nat) : Int))) - 247))))) (V.leq rfl rfl) <| J.nil ?_
   refine cc rfl h150 (fun hc154 h150 => ?_) fun hc154 h150 => ?_
   · refine CJ.skip <| CJ.seq <| CJ.block <| CJ.region <| jm (ii i140) rfl <| jv (ii (IntKind.wrap .i64 (i140 * 256))) (V.mul rfl rfl) <| jm (.string ⟨xa.toArray⟩) rfl ?_
     refine jm (ii i141) rfl ?_
     obtain ⟨x155, hx156, h150⟩ := ob h150
     obtain ⟨p157, p158, p159⟩ := getI_some hx156
     refine jv (.int .u8 (((x155.toNat : Nat) : Int))) (V.ixs Tryz.underlying9 rfl rfl p157 p158) <| jv (ii (IntKind.wrap .i64 (((x155.toNat : Nat) : Int)))) (V.conv Tryz.underlying5 Tryz.underlying3 rfl) <| jv (ii (IntKind.wrap .i64 ((IntKind.wrap .i64 (i140 * 256)) + (IntKind.wrap .i64 (((x155.toNat : Nat) : Int)))))) (V.add rfl rfl) <| ja (ii (IntKind.wrap .i64 ((IntKind.wrap .i64 (i140 * 256)) + (IntKind.wrap .i64 (((x155.toNat : Nat) : Int)))))) rfl <| J.nil <| CJ.region <| jm (ii i141) rfl ?_
     refine jv (ii (IntKind.wrap .i64 (i141 + 1))) (V.add rfl rfl) <| ja (ii (IntKind.wrap .i64 (i141 + 1))) rfl <| J.nil ?_
     obtain rfl := si h150
     exact ⟨rfl, ⟨IntKind.wrap .i64 ((IntKind.wrap .i64 (i140 * 256)) + (IntKind.wrap .i64 (((x155.toNat : Nat) : Int)))), IntKind.wrap .i64 (i141 + 1), rfl, ⟨rfl, rfl, rfl, rfl, trivial⟩, rfl, rfl⟩⟩
   refine CJ.exit ?_
   obtain rfl := si h150
   refine ⟨nofun, fun e => ?_⟩
   subst e
   exact ⟨rfl, ⟨i140, rfl, ⟨rfl, rfl, rfl, trivial⟩, rfl, rfl⟩⟩
 rintro ρ _ _ ⟨i129, rfl, hf160, rfl, rfl⟩
 obtain ⟨ρ, rfl⟩ := hf160.ex
 refine PJ.done <| CJ.seq <| CJ.seq <| CJ.mix [] [([0, 2, 3, 4, 5], 1)] [6] [] mixO (by decide +kernel) trivial rfl rfl rfl <| JM.cons <| qm (ii i129) rfl <| qm (.string ⟨xa.toArray⟩) rfl ?_
 refine qm (ii (IntKind.wrap .i64 ((IntKind.wrap .i64 (((x93.toNat : Nat) : Int))) - 247))) rfl <| qv (ii (IntKind.wrap .i64 (1 + (IntKind.wrap .i64 ((IntKind.wrap .i64 (((x93.toNat : Nat) : Int))) - 247))))) (V.add rfl rfl) ?_
 obtain ⟨y170, hy171, h⟩ := ob h
 refine qv (.string ⟨y170.toArray⟩) (V.subs Tryz.underlying9 rfl nofun (fun _ => rfl) (fun _ h => by cases h; exact ⟨_, rfl⟩) nofun hy171) <| JQ.nil ?_
 obtain ⟨r172, hr173, h⟩ := ob h
 refine JA.op rfl (A.call (L1 := []) Tryz.call92 rfl (ref02_Put_ok hr173) rfl rfl) ?_
 rintro _ _ _ ⟨v175, _, rfl, ⟨⟨s174, rfl, rfl, rfl⟩, rfl⟩, _, rfl⟩
 refine ⟨fun w hs => Hold.sub (Hp.le_refl _) trivial hs, ?_⟩
 refine JM.nil <| qv (.bool (!decide (s174 = y170))) (V.nes rfl rfl) <| JQ.nil <| J.nil <| cc rfl h (fun hc178 h => ?_) fun hc178 h => ?_
 · refine cr <| ja (ii 0) rfl <| ja (ii 0) rfl <| ja (ii 3) rfl <| J.nil <| CJ.ret ?_
   obtain rfl := si h
   exact ⟨_, _, Res.three rfl rfl rfl rfl, ⟨0, 0, 3, rfl, rfl, rfl⟩, (Hp.le_refl _), fun w hs => hs⟩
 refine CJ.skip <| cr <| jm (ii i129) rfl <| jm (ii (IntKind.wrap .i64 ((IntKind.wrap .i64 (((x93.toNat : Nat) : Int))) - 247))) rfl <| jv (ii (IntKind.wrap .i64 (1 + (IntKind.wrap .i64 ((IntKind.wrap .i64 (((x93.toNat : Nat) : Int))) - 247))))) (V.add rfl rfl) <| ja (ii i129) rfl ?_
 refine ja (ii (IntKind.wrap .i64 (1 + (IntKind.wrap .i64 ((IntKind.wrap .i64 (((x93.toNat : Nat) : Int))) - 247))))) rfl <| ja (ii 0) rfl <| J.nil <| CJ.ret ?_
 obtain rfl := si h
 exact ⟨_, _, Res.three rfl rfl rfl rfl, ⟨i129, IntKind.wrap .i64 (1 + (IntKind.wrap .i64 ((IntKind.wrap .i64 (((x93.toNat : Nat) : Int))) - 247))), 0, rfl, rfl, rfl⟩, (Hp.le_refl _), fun w hs => hs⟩

noncomputable def fn_ref20_count (xa : (List UInt8)) : Option (Int × List UInt8 × Int) :=
  (fn_ref02_Take xa).bind fun (i20, i21, i22) => cond (!decide (i22 = 0)) (some ((0, xa, i22))) (cond (decide (65536 < i20)) (some ((0, xa, 6))) ((subL xa i21 (((xa.length : Nat) : Int))).bind fun y30 => some ((i20, y30, 0))))
set_option maxRecDepth 100000 in
set_option maxHeartbeats 4000000 in
theorem ref20_count_ok {K : Hp} {xa : (List UInt8)}   {r : (Int × List UInt8 × Int)} (h : fn_ref20_count xa = some r) :
    Tr Tryz.prog 30 #[.string ⟨xa.toArray⟩] K [] (fun v K' L' => (∃ (i15 : Int) (s16 : List UInt8) (i17 : Int), (i15, s16, i17) = r ∧ .tuple #[ii i15, .string ⟨s16.toArray⟩, ii i17] = v ∧ L' = []) ∧ K = K') := by
 refine Tr.k <| Tr.of Tryz.func30 rfl Tryz.ntmps30 rfl fun E F => ?_
 unfold fn_ref20_count at h
 refine cr <| ja (ii 0) rfl <| ja (.string ⟨([] : List UInt8).toArray⟩) rfl <| ja (ii 0) rfl <| J.nil <| CJ.seq ?_
 refine CJ.region <| jm (.string ⟨xa.toArray⟩) rfl ?_
 obtain ⟨r18, hr19, h⟩ := ob h
 refine J.op rfl (A.call (L1 := []) Tryz.call79 rfl (ref02_Take_ok hr19) rfl rfl) ?_
 rintro _ _ _ ⟨v23, _, rfl, ⟨⟨i20, i21, i22, rfl, rfl, rfl⟩, rfl⟩, _, rfl⟩
 refine jm (.tuple #[ii i20, ii i21, ii i22]) rfl <| jx (ii i20) rfl rfl <| jx (ii i21) rfl rfl <| jx (ii i22) rfl rfl <| ja (ii i20) rfl <| ja (ii i21) rfl <| ja (ii i22) rfl ?_
 refine J.nil <| CJ.seq <| cr <| jm (ii i22) rfl <| jv (.bool (!decide (i22 = 0))) (V.neq rfl rfl) <| J.nil ?_
 refine cc rfl h (fun hc26 h => ?_) fun hc26 h => ?_
 · refine cr <| jm (.string ⟨xa.toArray⟩) rfl <| jm (ii i22) rfl <| ja (ii 0) rfl <| ja (.string ⟨xa.toArray⟩) rfl <| ja (ii i22) rfl ?_
   refine J.nil <| CJ.ret ?_
   obtain rfl := si h
   exact ⟨_, _, Res.three rfl rfl rfl rfl, ⟨0, xa, i22, rfl, rfl, rfl⟩, (Hp.le_refl _), fun w hs => hs⟩
 refine CJ.skip <| CJ.seq <| cr <| jm (ii i20) rfl <| jv (.bool (decide (65536 < i20))) (V.gtr rfl rfl) <| J.nil ?_
 refine cc rfl h (fun hc27 h => ?_) fun hc27 h => ?_
 · refine cr <| jm (.string ⟨xa.toArray⟩) rfl <| ja (ii 0) rfl <| ja (.string ⟨xa.toArray⟩) rfl <| ja (ii 6) rfl <| J.nil ?_
   refine CJ.ret ?_
   obtain rfl := si h
   exact ⟨_, _, Res.three rfl rfl rfl rfl, ⟨0, xa, 6, rfl, rfl, rfl⟩, (Hp.le_refl _), fun w hs => hs⟩
 refine CJ.skip <| CJ.seq <| CJ.mix [] [] [0, 1, 2, 3, 4, 5, 6] [] mixO (by decide +kernel) trivial rfl rfl rfl <| JM.nil <| qm (ii i20) rfl <| qm (.string ⟨xa.toArray⟩) rfl <| qm (ii i21) rfl ?_
 obtain ⟨y30, hy31, h⟩ := ob h
 refine qv (.string ⟨y30.toArray⟩) (V.subs Tryz.underlying9 rfl (fun _ h => by cases h; exact ⟨_, rfl⟩) nofun nofun (fun _ => rfl) hy31) <| qa (ii i20) rfl <| qa (.string ⟨y30.toArray⟩) rfl <| qa (ii 0) rfl <| JQ.nil <| J.nil <| CJ.ret ?_
 obtain rfl := si h
 exact ⟨_, _, Res.three rfl rfl rfl rfl, ⟨i20, y30, 0, rfl, rfl, rfl⟩, (Hp.le_refl _), fun w hs => hs⟩
noncomputable def fn_ref17_TakeBounds_l1 (xa : (List UInt8)) (i277 : Int) : (Int × (List (Int × Int)) × Int) → Option ((Int × (List (Int × Int)) × Int) ⊕ ((Int × (List (Int × Int))) ⊕ ((List (Int × Int)) × Int × Int))) := fun ((i458, l459, i464) : (Int × (List (Int × Int)) × Int)) => cond (decide (i464 < i277)) ((subL xa i458 (((xa.length : Nat) : Int))).bind fun y509 => (fn_ref02_Take y509).bind fun (i513, i514, i515) => cond (!decide (i515 = 0)) (some (.inr ((.inr (([], 0, i515)))))) ((subL xa (IntKind.wrap .i64 (i458 + i514)) (((xa.length : Nat) : Int))).bind fun y521 => (fn_ref02_Take y521).bind fun (i525, i526, i527) => cond (!decide (i527 = 0)) (some (.inr ((.inr (([], 0, i527)))))) ((app l459 (([(i513, i525)] : List (Int × Int)))).bind fun z536 => some (.inl ((IntKind.wrap .i64 ((IntKind.wrap .i64 (i458 + i514)) + i526), z536, IntKind.wrap .i64 (i464 + 1))))))) (some (.inr ((.inl (i458, l459)))))
noncomputable def fn_ref17_TakeBounds (xa : (List UInt8)) (xb : Int) : Option (((List (Int × Int)) × Int × Int)) :=
  (fn_ref02_Take xa).bind fun (i277, i278, i279) => cond (!decide (i279 = 0)) (some (([], 0, i279))) (cond (decide (xb < i277)) (some (([], 0, 6))) ((loop (fn_ref17_TakeBounds_l1 xa i277) ((i278, ([] : List (Int × Int)), 0)) : Option ((Int × (List (Int × Int))) ⊕ ((List (Int × Int)) × Int × Int))).bind fun o => match o with | .inr r => some r | .inl (i411, l412) => some ((l412, i411, 0))))
set_option maxRecDepth 100000 in
set_option maxHeartbeats 4000000 in
theorem ref17_TakeBounds_ok {K : Hp} {xa : (List UInt8)} {xb : Int}   {r : ((List (Int × Int)) × Int × Int)} (h : fn_ref17_TakeBounds xa xb = some r) :
    Tr Tryz.prog 31 #[.string ⟨xa.toArray⟩, ii xb] K [] (fun v K' L' => (∃ (l268 : (List (Int × Int))) (i273 : Int) (i274 : Int) (ad269 : Option Addr) (cp270 : Nat), (l268, i273, i274) = r ∧ .tuple #[.slice ad269 l268.length cp270, ii i273, ii i274] = v ∧ L' = [Row Hp.nil 95 (.cons (.int .i64) (.one (.int .i64))) (.slice ad269 l268.length cp270) l268]) ∧ K = K') := by
 refine Tr.k <| Tr.of Tryz.func31 rfl Tryz.ntmps31 rfl fun E F => ?_
 unfold fn_ref17_TakeBounds at h
 refine cr <| ja (nos) rfl <| ja (ii 0) rfl <| ja (ii 0) rfl <| J.nil <| CJ.seq ?_
 refine CJ.region <| jm (.string ⟨xa.toArray⟩) rfl ?_
 obtain ⟨r275, hr276, h⟩ := ob h
 refine J.op rfl (A.call (L1 := []) Tryz.call79 rfl (ref02_Take_ok hr276) rfl rfl) ?_
 rintro _ _ _ ⟨v280, _, rfl, ⟨⟨i277, i278, i279, rfl, rfl, rfl⟩, rfl⟩, _, rfl⟩
 refine jm (.tuple #[ii i277, ii i278, ii i279]) rfl <| jx (ii i277) rfl rfl <| jx (ii i278) rfl rfl <| jx (ii i279) rfl rfl <| ja (ii i277) rfl <| ja (ii i278) rfl <| ja (ii i279) rfl ?_
 refine J.nil <| CJ.seq <| cr <| jm (ii i279) rfl <| jv (.bool (!decide (i279 = 0))) (V.neq rfl rfl) <| J.nil ?_
 refine cc rfl h (fun hc283 h => ?_) fun hc283 h => ?_
 · refine cr <| jm (ii i279) rfl <| ja (nos) rfl <| ja (ii 0) rfl <| ja (ii i279) rfl <| J.nil ?_
   refine CJ.by (fun w hs => Sep.rowNil (e := 95) (t := (.cons (.int .i64) (.one (.int .i64)))) hs) <| CJ.ret ?_
   obtain rfl := si h
   exact ⟨_, _, Res.three rfl rfl rfl rfl, ⟨[], 0, i279, none, 0, rfl, rfl, rfl⟩, (Hp.le_refl _), fun w hs => hs⟩
 refine CJ.skip <| CJ.seq <| cr <| jm (ii i277) rfl <| jm (ii xb) rfl <| jv (.bool (decide (xb < i277))) (V.gtr rfl rfl) ?_
 refine J.nil <| cc rfl h (fun hc285 h => ?_) fun hc285 h => ?_
 · refine cr <| ja (nos) rfl <| ja (ii 0) rfl <| ja (ii 6) rfl <| J.nil <| CJ.by (fun w hs => Sep.rowNil (e := 95) (t := (.cons (.int .i64) (.one (.int .i64)))) hs) ?_
   refine CJ.ret ?_
   obtain rfl := si h
   exact ⟨_, _, Res.three rfl rfl rfl rfl, ⟨[], 0, 6, none, 0, rfl, rfl, rfl⟩, (Hp.le_refl _), fun w hs => hs⟩
 refine CJ.skip <| CJ.seq <| CJ.region ?_
 refine J.op rfl (A.lit (K0 := Hp.nil) (ty := (.cons (.int .i64) (.one (.int .i64)))) (xs := ([] : List (Int × Int))) Tryz.underlying26 inf95 rfl (by decide) rfl rfl rfl rfl rfl (by decide)) ?_
 rintro _ _ _ ⟨b287, rfl, rfl, rfl⟩
 have hn288 : ([] : List (Int × Int)) ≠ [] → ∃ g, (some ⟨b287, 0, none⟩ : Option Addr) = some ⟨g, 0, none⟩ := fun _ => ⟨b287, rfl⟩
 refine ja (.slice (some ⟨b287, 0, none⟩) ((([] : List (Int × Int))).length) 0) rfl <| J.nil <| CJ.seq <| cr <| ja (ii 0) rfl <| J.nil ?_
 obtain ⟨o417, ho418, h⟩ := ob h
 refine CJ.joinN (o := o417) (fun s ρ K' L' => ∃ (i411 : Int) (l412 : (List (Int × Int))) (ad413 : Option Addr) (cp414 : Nat), (i411, l412) = s ∧ Fits [(8, ii i411), (10, .slice ad413 l412.length cp414)] ρ ∧ K = K' ∧ L' = Row Hp.nil 95 (.cons (.int .i64) (.one (.int .i64))) (.slice ad413 l412.length cp414) l412 :: F) ?_ ?_
 · refine CJ.block <| CJ.loop (fun s ρ K' L' => ∃ (i458 : Int) (l459 : (List (Int × Int))) (i464 : Int) (ad460 : Option Addr) (cp461 : Nat), (i458, l459, i464) = s ∧ Fits [(0, .string ⟨xa.toArray⟩), (7, ii i277), (8, ii i458), (10, .slice ad460 l459.length cp461), (11, ii i464)] ρ ∧ K = K' ∧ L' = Row Hp.nil 95 (.cons (.int .i64) (.one (.int .i64))) (.slice ad460 l459.length cp461) l459 :: F) ho418 ⟨i278, ([] : List (Int × Int)), 0, (some ⟨b287, 0, none⟩), 0, rfl, ⟨rfl, rfl, rfl, rfl, rfl, trivial⟩, rfl, rfl⟩ ?_
   rintro s ρ _ _ r507 ⟨i458, l459, i464, ad460, cp461, rfl, hf505, rfl, rfl⟩ h504
   obtain ⟨ρ, rfl⟩ := hf505.ex
   refine CJ.wit Row.hn fun hn463 => CJ.seq <| cr <| jm (ii i464) rfl <| jm (ii i277) rfl <| jv (.bool (decide (i464 < i277))) (V.lss rfl rfl) ?_
   refine J.nil <| cc rfl h504 (fun hc508 h504 => ?_) fun hc508 h504 => ?_
   · refine CJ.skip <| CJ.seq <| CJ.block <| cr <| jm (.string ⟨xa.toArray⟩) rfl <| jm (ii i458) rfl ?_
     obtain ⟨y509, hy510, h504⟩ := ob h504
     refine jv (.string ⟨y509.toArray⟩) (V.subs Tryz.underlying9 rfl (fun _ h => by cases h; exact ⟨_, rfl⟩) nofun nofun (fun _ => rfl) hy510) ?_
     obtain ⟨r511, hr512, h504⟩ := ob h504
     refine J.op rfl (A.call (L1 := []) Tryz.call79 rfl (ref02_Take_ok hr512) rfl rfl) ?_
     rintro _ _ _ ⟨v516, _, rfl, ⟨⟨i513, i514, i515, rfl, rfl, rfl⟩, rfl⟩, _, rfl⟩
     refine jm (.tuple #[ii i513, ii i514, ii i515]) rfl <| jx (ii i513) rfl rfl <| jx (ii i514) rfl rfl <| jx (ii i515) rfl rfl <| ja (ii i513) rfl <| ja (ii i514) rfl <| ja (ii i515) rfl ?_
     refine J.nil <| CJ.seq <| cr <| jm (ii i515) rfl <| jv (.bool (!decide (i515 = 0))) (V.neq rfl rfl) <| J.nil ?_
     refine cc rfl h504 (fun hc519 h504 => ?_) fun hc519 h504 => ?_
     · refine cr <| jm (ii i515) rfl <| ja (nos) rfl <| ja (ii 0) rfl <| ja (ii i515) rfl <| J.nil ?_
       refine CJ.by (fun w hs => Sep.rowNil (e := 95) (t := (.cons (.int .i64) (.one (.int .i64)))) hs) <| CJ.ret ?_
       obtain rfl := si h504
       refine ⟨nofun, fun e => ?_⟩
       subst e
       refine .inr ⟨nofun, ?_⟩
       obtain rfl := si h
       exact ⟨_, _, Res.three rfl rfl rfl rfl, ⟨[], 0, i515, none, 0, rfl, rfl, rfl⟩, (Hp.le_refl _), fun w hs => (Sep.dropAt 1 rfl hs)⟩
     refine CJ.skip <| cr <| jm (.string ⟨xa.toArray⟩) rfl <| jm (ii i458) rfl <| jm (ii i514) rfl <| jv (ii (IntKind.wrap .i64 (i458 + i514))) (V.add rfl rfl) ?_
     obtain ⟨y521, hy522, h504⟩ := ob h504
     refine jv (.string ⟨y521.toArray⟩) (V.subs Tryz.underlying9 rfl (fun _ h => by cases h; exact ⟨_, rfl⟩) nofun nofun (fun _ => rfl) hy522) ?_
     obtain ⟨r523, hr524, h504⟩ := ob h504
     refine J.op rfl (A.call (L1 := []) Tryz.call79 rfl (ref02_Take_ok hr524) rfl rfl) ?_
     rintro _ _ _ ⟨v528, _, rfl, ⟨⟨i525, i526, i527, rfl, rfl, rfl⟩, rfl⟩, _, rfl⟩
     refine jm (.tuple #[ii i525, ii i526, ii i527]) rfl <| jx (ii i525) rfl rfl <| jx (ii i526) rfl rfl <| jx (ii i527) rfl rfl <| ja (ii i525) rfl <| ja (ii i526) rfl <| ja (ii i527) rfl ?_
     refine J.nil <| CJ.seq <| cr <| jm (ii i527) rfl <| jv (.bool (!decide (i527 = 0))) (V.neq rfl rfl) <| J.nil ?_
     refine cc rfl h504 (fun hc531 h504 => ?_) fun hc531 h504 => ?_
     · refine cr <| jm (ii i527) rfl <| ja (nos) rfl <| ja (ii 0) rfl <| ja (ii i527) rfl <| J.nil ?_
       refine CJ.by (fun w hs => Sep.rowNil (e := 95) (t := (.cons (.int .i64) (.one (.int .i64)))) hs) <| CJ.ret ?_
       obtain rfl := si h504
       refine ⟨nofun, fun e => ?_⟩
       subst e
       refine .inr ⟨nofun, ?_⟩
       obtain rfl := si h
       exact ⟨_, _, Res.three rfl rfl rfl rfl, ⟨[], 0, i527, none, 0, rfl, rfl, rfl⟩, (Hp.le_refl _), fun w hs => (Sep.dropAt 1 rfl hs)⟩
     refine CJ.skip <| cr <| jm (.slice ad460 l459.length cp461) rfl <| jm (ii i513) rfl <| jm (ii i525) rfl <| jv (.agg #[ii i513, ii i525]) (V.build inf95 places95 rfl rfl) ?_
     refine J.op rfl (A.lit (K0 := Hp.nil) (ty := (.cons (.int .i64) (.one (.int .i64)))) (xs := ([(i513, i525)] : List (Int × Int))) Tryz.underlying26 inf95 rfl (by decide) rfl rfl rfl ⟨_, _, rfl, ⟨_, _, rfl, rfl, rfl, rfl⟩, rfl⟩ rfl (by decide)) ?_
     rintro _ _ _ ⟨b533, rfl, rfl, rfl⟩
     have hn534 : ([(i513, i525)] : List (Int × Int)) ≠ [] → ∃ g, (some ⟨b533, 0, none⟩ : Option Addr) = some ⟨g, 0, none⟩ := fun _ => ⟨b533, rfl⟩
     obtain ⟨z536, hz537, h504⟩ := ob h504
     refine J.front 1 rfl <| J.op rfl (A.appR (Kr := Hp.nil) Tryz.underlying26 inf95 rfl rfl (by decide) (by decide) rfl rfl (Els.flat rfl) (Els.flat rfl) hz537) ?_
     rintro _ _ _ ⟨v538, rfl, rfl, rfl⟩
     refine J.wit Row.form ?_
     rintro ⟨ad539, cp540, rfl, _, _, hn541⟩
     refine ja (.slice ad539 z536.length cp540) rfl <| J.nil <| CJ.region <| jm (ii i458) rfl <| jm (ii i514) rfl <| jv (ii (IntKind.wrap .i64 (i458 + i514))) (V.add rfl rfl) <| jm (ii i526) rfl ?_
     refine jv (ii (IntKind.wrap .i64 ((IntKind.wrap .i64 (i458 + i514)) + i526))) (V.add rfl rfl) <| ja (ii (IntKind.wrap .i64 ((IntKind.wrap .i64 (i458 + i514)) + i526))) rfl <| J.nil <| CJ.region <| jm (ii i464) rfl <| jv (ii (IntKind.wrap .i64 (i464 + 1))) (V.add rfl rfl) <| ja (ii (IntKind.wrap .i64 (i464 + 1))) rfl ?_
     refine J.nil ?_
     obtain rfl := si h504
     exact ⟨rfl, ⟨IntKind.wrap .i64 ((IntKind.wrap .i64 (i458 + i514)) + i526), z536, IntKind.wrap .i64 (i464 + 1), ad539, cp540, rfl, ⟨rfl, rfl, rfl, rfl, rfl, trivial⟩, rfl, rfl⟩⟩
   refine CJ.exit ?_
   obtain rfl := si h504
   refine ⟨nofun, fun e => ?_⟩
   subst e
   exact .inl ⟨rfl, _, rfl, ⟨i458, l459, ad460, cp461, rfl, ⟨rfl, rfl, trivial⟩, rfl, rfl⟩⟩
 rintro s ρ _ _ ho542 ⟨i411, l412, ad413, cp414, rfl, hf543, rfl, rfl⟩
 subst ho542
 obtain ⟨ρ, rfl⟩ := hf543.ex
 refine PJ.wit Row.hn fun hn416 => PJ.done <| cr <| jm (.slice ad413 l412.length cp414) rfl <| jm (ii i411) rfl <| ja (.slice ad413 l412.length cp414) rfl ?_
 refine ja (ii i411) rfl <| ja (ii 0) rfl <| J.nil <| CJ.ret ?_
 obtain rfl := si h
 exact ⟨_, _, Res.three rfl rfl rfl rfl, ⟨l412, i411, 0, ad413, cp414, rfl, rfl, rfl⟩, (Hp.le_refl _), fun w hs => hs⟩
noncomputable def fn_ref17_TakeType_l1 (xa : (List UInt8)) (i212 : Int) : (Int × (List (Int × Bool)) × Int) → Option ((Int × (List (Int × Bool)) × Int) ⊕ ((Int × (List (Int × Bool))) ⊕ ((List (Int × Bool)) × Int × Int))) := fun ((i349, l350, i355) : (Int × (List (Int × Bool)) × Int)) => cond (decide (i355 < i212)) ((subL xa i349 (((xa.length : Nat) : Int))).bind fun y389 => (fn_ref02_Take y389).bind fun (i393, i394, i395) => cond (!decide (i395 = 0)) (some (.inr ((.inr (([], 0, i395)))))) ((app l350 (([(IntKind.wrap .i64 (Int.tdiv i393 2), decide ((Int.tmod i393 2) = 1))] : List (Int × Bool)))).bind fun z404 => some (.inl ((IntKind.wrap .i64 (i349 + i394), z404, IntKind.wrap .i64 (i355 + 1)))))) (some (.inr ((.inl (i349, l350)))))
noncomputable def fn_ref17_TakeType (xa : (List UInt8)) : Option (((List (Int × Bool)) × Int × Int)) :=
  (fn_ref02_Take xa).bind fun (i212, i213, i214) => cond (!decide (i214 = 0)) (some (([], 0, i214))) (cond (decide (16 < i212)) (some (([], 0, 6))) ((loop (fn_ref17_TakeType_l1 xa i212) ((i213, ([] : List (Int × Bool)), 0)) : Option ((Int × (List (Int × Bool))) ⊕ ((List (Int × Bool)) × Int × Int))).bind fun o => match o with | .inr r => some r | .inl (i313, l314) => some ((l314, i313, 0))))
set_option maxRecDepth 100000 in
set_option maxHeartbeats 4000000 in
theorem ref17_TakeType_ok {K : Hp} {xa : (List UInt8)}   {r : ((List (Int × Bool)) × Int × Int)} (h : fn_ref17_TakeType xa = some r) :
    Tr Tryz.prog 33 #[.string ⟨xa.toArray⟩] K [] (fun v K' L' => (∃ (l202 : (List (Int × Bool))) (i207 : Int) (i208 : Int) (ad203 : Option Addr) (cp204 : Nat), (l202, i207, i208) = r ∧ .tuple #[.agg #[.slice ad203 l202.length cp204], ii i207, ii i208] = v ∧ L' = [Row Hp.nil 146 (.cons (.int .i64) (.one .bool)) (.slice ad203 l202.length cp204) l202]) ∧ K = K') := by
 refine Tr.k <| Tr.of Tryz.func33 rfl Tryz.ntmps33 rfl fun E F => ?_
 unfold fn_ref17_TakeType at h
 refine cr <| jal inf30 [nos] rfl fun b209 => ja (ii 0) rfl <| ja (ii 0) rfl <| J.nil <| CJ.seq ?_
 refine CJ.region <| jm (.string ⟨xa.toArray⟩) rfl ?_
 obtain ⟨r210, hr211, h⟩ := ob h
 refine J.op rfl (A.call (L1 := []) Tryz.call79 rfl (ref02_Take_ok hr211) rfl rfl) ?_
 rintro _ _ _ ⟨v215, _, rfl, ⟨⟨i212, i213, i214, rfl, rfl, rfl⟩, rfl⟩, _, rfl⟩
 refine jm (.tuple #[ii i212, ii i213, ii i214]) rfl <| jx (ii i212) rfl rfl <| jx (ii i213) rfl rfl <| jx (ii i214) rfl rfl <| ja (ii i212) rfl <| ja (ii i213) rfl <| ja (ii i214) rfl ?_
 refine J.nil <| CJ.seq <| cr <| jm (ii i214) rfl <| jv (.bool (!decide (i214 = 0))) (V.neq rfl rfl) <| J.nil ?_
 refine cc rfl h (fun hc218 h => ?_) fun hc218 h => ?_
 · refine cr <| jv (.agg #[nos]) (V.build inf30 places30 rfl rfl) <| jm (ii i214) rfl <| js [nos] sz30 rfl rfl rfl rfl rfl rfl <| ja (ii 0) rfl <| ja (ii i214) rfl ?_
   refine J.nil <| CJ.by (fun w hs => Sep.rowNil (e := 146) (t := (.cons (.int .i64) (.one .bool))) hs) <| CJ.ret ?_
   obtain rfl := si h
   exact ⟨_, _, Res.three rfl ⟨_, _, rfl, Ld.agg (cs := [nos]) Tryz.underlying30 sz30 rfl (Rd.cls 1 0 rfl rfl)⟩ rfl rfl, ⟨[], 0, i214, none, 0, rfl, rfl, rfl⟩, (Hp.le_refl _), fun w hs => (Sep.dropAt 1 rfl hs)⟩
 refine CJ.skip <| CJ.seq <| cr <| jm (ii i212) rfl <| jv (.bool (decide (16 < i212))) (V.gtr rfl rfl) <| J.nil ?_
 refine cc rfl h (fun hc220 h => ?_) fun hc220 h => ?_
 · refine cr <| jv (.agg #[nos]) (V.build inf30 places30 rfl rfl) <| js [nos] sz30 rfl rfl rfl rfl rfl rfl <| ja (ii 0) rfl <| ja (ii 6) rfl <| J.nil ?_
   refine CJ.by (fun w hs => Sep.rowNil (e := 146) (t := (.cons (.int .i64) (.one .bool))) hs) <| CJ.ret ?_
   obtain rfl := si h
   exact ⟨_, _, Res.three rfl ⟨_, _, rfl, Ld.agg (cs := [nos]) Tryz.underlying30 sz30 rfl (Rd.cls 1 0 rfl rfl)⟩ rfl rfl, ⟨[], 0, 6, none, 0, rfl, rfl, rfl⟩, (Hp.le_refl _), fun w hs => (Sep.dropAt 1 rfl hs)⟩
 refine CJ.skip <| CJ.seq <| CJ.region ?_
 refine J.op rfl (A.lit (K0 := Hp.nil) (ty := (.cons (.int .i64) (.one .bool))) (xs := ([] : List (Int × Bool))) Tryz.underlying28 inf146 rfl (by decide) rfl rfl rfl rfl rfl (by decide)) ?_
 rintro _ _ _ ⟨b222, rfl, rfl, rfl⟩
 have hn223 : ([] : List (Int × Bool)) ≠ [] → ∃ g, (some ⟨b222, 0, none⟩ : Option Addr) = some ⟨g, 0, none⟩ := fun _ => ⟨b222, rfl⟩
 refine ja (.slice (some ⟨b222, 0, none⟩) ((([] : List (Int × Bool))).length) 0) rfl <| J.nil <| CJ.seq <| cr <| ja (ii 0) rfl <| J.nil ?_
 obtain ⟨o319, ho320, h⟩ := ob h
 refine CJ.joinN (o := o319) (fun s ρ K' L' => ∃ (i313 : Int) (l314 : (List (Int × Bool))) (ad315 : Option Addr) (cp316 : Nat), (i313, l314) = s ∧ Fits [(2, .pointer (some ⟨b209, 0, none⟩)), (6, ii i313), (8, .slice ad315 l314.length cp316)] ρ ∧ K = K' ∧ L' = Cl b209 30 [nos] :: Row Hp.nil 146 (.cons (.int .i64) (.one .bool)) (.slice ad315 l314.length cp316) l314 :: F) ?_ ?_
 · refine CJ.block <| CJ.front 1 rfl <| CJ.loop (fun s ρ K' L' => ∃ (i349 : Int) (l350 : (List (Int × Bool))) (i355 : Int) (ad351 : Option Addr) (cp352 : Nat), (i349, l350, i355) = s ∧ Fits [(0, .string ⟨xa.toArray⟩), (2, .pointer (some ⟨b209, 0, none⟩)), (5, ii i212), (6, ii i349), (8, .slice ad351 l350.length cp352), (9, ii i355)] ρ ∧ K = K' ∧ L' = Cl b209 30 [nos] :: Row Hp.nil 146 (.cons (.int .i64) (.one .bool)) (.slice ad351 l350.length cp352) l350 :: F) ho320 ⟨i213, ([] : List (Int × Bool)), 0, (some ⟨b222, 0, none⟩), 0, rfl, ⟨rfl, rfl, rfl, rfl, rfl, rfl, trivial⟩, rfl, rfl⟩ ?_
   rintro s ρ _ _ r387 ⟨i349, l350, i355, ad351, cp352, rfl, hf385, rfl, rfl⟩ h384
   obtain ⟨ρ, rfl⟩ := hf385.ex
   refine CJ.front 1 rfl <| CJ.wit Row.hn fun hn354 => CJ.seq <| cr <| jm (ii i355) rfl <| jm (ii i212) rfl ?_
   refine jv (.bool (decide (i355 < i212))) (V.lss rfl rfl) <| J.nil <| cc rfl h384 (fun hc388 h384 => ?_) fun hc388 h384 => ?_
   · refine CJ.skip <| CJ.seq <| CJ.block <| cr <| jm (.string ⟨xa.toArray⟩) rfl <| jm (ii i349) rfl ?_
     obtain ⟨y389, hy390, h384⟩ := ob h384
     refine jv (.string ⟨y389.toArray⟩) (V.subs Tryz.underlying9 rfl (fun _ h => by cases h; exact ⟨_, rfl⟩) nofun nofun (fun _ => rfl) hy390) ?_
     obtain ⟨r391, hr392, h384⟩ := ob h384
     refine J.op rfl (A.call (L1 := []) Tryz.call79 rfl (ref02_Take_ok hr392) rfl rfl) ?_
     rintro _ _ _ ⟨v396, _, rfl, ⟨⟨i393, i394, i395, rfl, rfl, rfl⟩, rfl⟩, _, rfl⟩
     refine jm (.tuple #[ii i393, ii i394, ii i395]) rfl <| jx (ii i393) rfl rfl <| jx (ii i394) rfl rfl <| jx (ii i395) rfl rfl <| ja (ii i393) rfl <| ja (ii i394) rfl <| ja (ii i395) rfl ?_
     refine J.nil <| CJ.seq <| cr <| jm (ii i395) rfl <| jv (.bool (!decide (i395 = 0))) (V.neq rfl rfl) <| J.nil ?_
     refine cc rfl h384 (fun hc399 h384 => ?_) fun hc399 h384 => ?_
     · refine cr <| jv (.agg #[nos]) (V.build inf30 places30 rfl rfl) <| jm (ii i395) rfl <| J.front 1 rfl <| js [nos] sz30 rfl rfl rfl rfl rfl rfl <| ja (ii 0) rfl ?_
       refine ja (ii i395) rfl <| J.nil <| CJ.by (fun w hs => Sep.rowNil (e := 146) (t := (.cons (.int .i64) (.one .bool))) hs) <| CJ.ret ?_
       obtain rfl := si h384
       refine ⟨nofun, fun e => ?_⟩
       subst e
       refine .inr ⟨nofun, ?_⟩
       obtain rfl := si h
       exact ⟨_, _, Res.three rfl ⟨_, _, rfl, Ld.agg (cs := [nos]) Tryz.underlying30 sz30 rfl (Rd.cls 1 0 rfl rfl)⟩ rfl rfl, ⟨[], 0, i395, none, 0, rfl, rfl, rfl⟩, (Hp.le_refl _), fun w hs => (Sep.dropAt 1 rfl (Sep.dropAt 1 rfl hs))⟩
     refine CJ.skip <| cr <| jm (.slice ad351 l350.length cp352) rfl <| jm (ii i393) rfl <| jv (ii (IntKind.wrap .i64 (Int.tdiv i393 2))) (V.quo rfl rfl (by decide)) <| jm (ii i393) rfl ?_
     refine jv (ii (Int.tmod i393 2)) (V.rem rfl rfl (by decide)) <| jv (.bool (decide ((Int.tmod i393 2) = 1))) (V.eql rfl rfl) <| jv (.agg #[ii (IntKind.wrap .i64 (Int.tdiv i393 2)), .bool (decide ((Int.tmod i393 2) = 1))]) (V.build inf146 places146 rfl rfl) ?_
     refine J.op rfl (A.lit (K0 := Hp.nil) (ty := (.cons (.int .i64) (.one .bool))) (xs := ([(IntKind.wrap .i64 (Int.tdiv i393 2), decide ((Int.tmod i393 2) = 1))] : List (Int × Bool))) Tryz.underlying28 inf146 rfl (by decide) rfl rfl rfl ⟨_, _, rfl, ⟨_, _, rfl, rfl, rfl, rfl⟩, rfl⟩ rfl (by decide)) ?_
     rintro _ _ _ ⟨b401, rfl, rfl, rfl⟩
     have hn402 : ([(IntKind.wrap .i64 (Int.tdiv i393 2), decide ((Int.tmod i393 2) = 1))] : List (Int × Bool)) ≠ [] → ∃ g, (some ⟨b401, 0, none⟩ : Option Addr) = some ⟨g, 0, none⟩ := fun _ => ⟨b401, rfl⟩
     obtain ⟨z404, hz405, h384⟩ := ob h384
     refine J.front 1 rfl <| J.op rfl (A.appR (Kr := Hp.nil) Tryz.underlying28 inf146 rfl rfl (by decide) (by decide) rfl rfl (Els.flat rfl) (Els.flat rfl) hz405) ?_
     rintro _ _ _ ⟨v406, rfl, rfl, rfl⟩
     refine J.wit Row.form ?_
     rintro ⟨ad407, cp408, rfl, _, _, hn409⟩
     refine ja (.slice ad407 z404.length cp408) rfl <| J.nil <| CJ.region <| jm (ii i349) rfl <| jm (ii i394) rfl <| jv (ii (IntKind.wrap .i64 (i349 + i394))) (V.add rfl rfl) <| ja (ii (IntKind.wrap .i64 (i349 + i394))) rfl ?_
     refine J.nil <| CJ.region <| jm (ii i355) rfl <| jv (ii (IntKind.wrap .i64 (i355 + 1))) (V.add rfl rfl) <| ja (ii (IntKind.wrap .i64 (i355 + 1))) rfl <| J.front 1 rfl <| J.nil ?_
     obtain rfl := si h384
     exact ⟨rfl, ⟨IntKind.wrap .i64 (i349 + i394), z404, IntKind.wrap .i64 (i355 + 1), ad407, cp408, rfl, ⟨rfl, rfl, rfl, rfl, rfl, rfl, trivial⟩, rfl, rfl⟩⟩
   refine CJ.front 1 rfl <| CJ.exit ?_
   obtain rfl := si h384
   refine ⟨nofun, fun e => ?_⟩
   subst e
   exact .inl ⟨rfl, _, rfl, ⟨i349, l350, ad351, cp352, rfl, ⟨rfl, rfl, rfl, trivial⟩, rfl, rfl⟩⟩
 rintro s ρ _ _ ho410 ⟨i313, l314, ad315, cp316, rfl, hf411, rfl, rfl⟩
 subst ho410
 obtain ⟨ρ, rfl⟩ := hf411.ex
 refine PJ.front 1 rfl <| PJ.wit Row.hn fun hn318 => PJ.done <| cr <| jm (.slice ad315 l314.length cp316) rfl <| jv (.agg #[.slice ad315 l314.length cp316]) (V.build inf30 places30 rfl rfl) ?_
 refine jm (ii i313) rfl <| J.front 1 rfl <| js [.slice ad315 l314.length cp316] sz30 rfl rfl rfl rfl rfl rfl <| ja (ii i313) rfl <| ja (ii 0) rfl <| J.nil <| CJ.ret ?_
 obtain rfl := si h
 exact ⟨_, _, Res.three rfl ⟨_, _, rfl, Ld.agg (cs := [.slice ad315 l314.length cp316]) Tryz.underlying30 sz30 rfl (Rd.cls 0 0 rfl rfl)⟩ rfl rfl, ⟨l314, i313, 0, ad315, cp316, rfl, rfl, rfl⟩, (Hp.le_refl _), fun w hs => (Sep.dropAt 0 rfl hs)⟩
noncomputable def fn_ref20_locals_l1 (i279 : Int) : (List UInt8 × Int × (List (List (Int × Bool))) × Int) → Option ((List UInt8 × Int × (List (List (Int × Bool))) × Int) ⊕ (List UInt8 × Int × (List (List (Int × Bool))))) := fun ((s461, i462, l463, i468) : (List UInt8 × Int × (List (List (Int × Bool))) × Int)) => cond ((decide (i468 < i279)) && (decide (i462 = 0))) ((fn_ref17_TakeType s461).bind fun (l519, i520, i521) => (subL s461 i520 (((s461.length : Nat) : Int))).bind fun y530 => (app l463 (([l519] : List (List (Int × Bool))))).bind fun z538 => some (.inl ((y530, i521, z538, IntKind.wrap .i64 (i468 + 1))))) (some (.inr (((s461, i462, l463)))))
noncomputable def fn_ref20_locals (xa : (List UInt8)) : Option (((List (List (Int × Bool))) × List UInt8 × Int)) :=
  (fn_ref20_count xa).bind fun (i279, s280, i281) => (loop (fn_ref20_locals_l1 i279) ((s280, i281, ([] : List (List (Int × Bool))), 0)) : Option ((List UInt8 × Int × (List (List (Int × Bool)))))).bind fun (s412, i413, l414) => some ((l414, s412, i413))
set_option maxRecDepth 100000 in
set_option maxHeartbeats 4000000 in
theorem ref20_locals_ok {K : Hp} {xa : (List UInt8)}   {r : ((List (List (Int × Bool))) × List UInt8 × Int)} (h : fn_ref20_locals xa = some r) :
    Tr Tryz.prog 32 #[.string ⟨xa.toArray⟩] K [] (fun v K' L' => (∃ (l270 : (List (List (Int × Bool)))) (s275 : List UInt8) (i276 : Int) (ad271 : Option Addr) (cp272 : Nat), (l270, s275, i276) = r ∧ .tuple #[.slice ad271 l270.length cp272, .string ⟨s275.toArray⟩, ii i276] = v ∧ L' = [Row K' 30 (.one (.sl (.cons (.int .i64) (.one .bool)))) (.slice ad271 l270.length cp272) l270])) := by
 refine Tr.of Tryz.func32 rfl Tryz.ntmps32 rfl fun E F => ?_
 unfold fn_ref20_locals at h
 refine cr <| ja (nos) rfl <| ja (.string ⟨([] : List UInt8).toArray⟩) rfl <| ja (ii 0) rfl <| J.nil <| CJ.seq ?_
 refine CJ.region <| jm (.string ⟨xa.toArray⟩) rfl ?_
 obtain ⟨r277, hr278, h⟩ := ob h
 refine J.op rfl (A.call (L1 := []) Tryz.call30 rfl (ref20_count_ok hr278) rfl rfl) ?_
 rintro _ _ _ ⟨v282, _, rfl, ⟨⟨i279, s280, i281, rfl, rfl, rfl⟩, rfl⟩, _, rfl⟩
 refine jm (.tuple #[ii i279, .string ⟨s280.toArray⟩, ii i281]) rfl <| jx (ii i279) rfl rfl <| jx (.string ⟨s280.toArray⟩) rfl rfl <| jx (ii i281) rfl rfl <| ja (ii i279) rfl <| ja (.string ⟨s280.toArray⟩) rfl <| ja (ii i281) rfl ?_
 refine J.nil <| CJ.seq <| CJ.region ?_
 refine J.op rfl (A.lit (K0 := K) (ty := (.one (.sl (.cons (.int .i64) (.one .bool))))) (xs := ([] : List (List (Int × Bool)))) Tryz.underlying27 inf30 rfl (by decide) rfl rfl rfl rfl rfl (by decide)) ?_
 rintro _ _ _ ⟨b285, rfl, rfl, rfl⟩
 have hn286 : ([] : List (List (Int × Bool))) ≠ [] → ∃ g, (some ⟨b285, 0, none⟩ : Option Addr) = some ⟨g, 0, none⟩ := fun _ => ⟨b285, rfl⟩
 refine ja (.slice (some ⟨b285, 0, none⟩) ((([] : List (List (Int × Bool)))).length) 0) rfl <| J.nil <| CJ.seq <| cr <| ja (ii 0) rfl <| J.nil ?_
 obtain ⟨o419, ho420, h⟩ := ob h
 refine CJ.meetN (fun ρ K' L' => ∃ (s412 : List UInt8) (i413 : Int) (l414 : (List (List (Int × Bool)))) (ad415 : Option Addr) (cp416 : Nat), (s412, i413, l414) = o419 ∧ Fits [(6, .string ⟨s412.toArray⟩), (7, ii i413), (8, .slice ad415 l414.length cp416)] ρ ∧ Hp.le K K' ∧ L' = Row K' 30 (.one (.sl (.cons (.int .i64) (.one .bool)))) (.slice ad415 l414.length cp416) l414 :: F) ?_ ?_
 · refine CJ.block <| CJ.loop (fun s ρ K' L' => ∃ (s461 : List UInt8) (i462 : Int) (l463 : (List (List (Int × Bool)))) (i468 : Int) (ad464 : Option Addr) (cp465 : Nat), (s461, i462, l463, i468) = s ∧ Fits [(5, ii i279), (6, .string ⟨s461.toArray⟩), (7, ii i462), (8, .slice ad464 l463.length cp465), (9, ii i468)] ρ ∧ Hp.le K K' ∧ L' = Row K' 30 (.one (.sl (.cons (.int .i64) (.one .bool)))) (.slice ad464 l463.length cp465) l463 :: F) ho420 ⟨s280, i281, ([] : List (List (Int × Bool))), 0, (some ⟨b285, 0, none⟩), 0, rfl, ⟨rfl, rfl, rfl, rfl, rfl, trivial⟩, (Hp.le_refl _), rfl⟩ ?_
   rintro s ρ K460 _ r512 ⟨s461, i462, l463, i468, ad464, cp465, rfl, hf510, hk511, rfl⟩ h509
   obtain ⟨ρ, rfl⟩ := hf510.ex
   refine CJ.wit Row.hn fun hn467 => CJ.seq <| cr <| jm (ii i468) rfl <| jm (ii i279) rfl <| jv (.bool (decide (i468 < i279))) (V.lss rfl rfl) ?_
   refine jm (.bool (decide (i468 < i279))) rfl <| J.cut 3 <| jmeet [(26, .bool ((decide (i468 < i279)) && (decide (i462 = 0)))), (5, ii i279), (6, .string ⟨s461.toArray⟩), (7, ii i462), (8, .slice ad464 l463.length cp465), (9, ii i468)] ?_ ?_
   · rcases bt (decide (i468 < i279)) with hc515 | hc515
     · refine J.run rfl rfl rfl hc515 <| jm (ii i462) rfl <| J.run rfl rfl rfl hc515 <| jv (.bool (decide (i462 = 0))) (V.eql rfl rfl) <| jv (.bool (decide (i462 = 0))) (V.pickT rfl hc515 rfl) <| J.nil ?_
       exact ⟨rfl, ⟨(by simp only [hc515]; rfl), rfl, rfl, rfl, rfl, rfl, trivial⟩, rfl, rfl⟩
     refine J.skip rfl rfl rfl rfl hc515 <| J.skip rfl rfl rfl rfl hc515 <| jv (.bool false) (V.pickF rfl hc515 rfl) <| J.nil ?_
     exact ⟨rfl, ⟨(by simp only [hc515]; rfl), rfl, rfl, rfl, rfl, rfl, trivial⟩, rfl, rfl⟩
   intro ρ
   refine J.nil <| cc rfl h509 (fun hc516 h509 => ?_) fun hc516 h509 => ?_
   · refine CJ.skip <| CJ.seq <| CJ.block <| cr <| jm (.string ⟨s461.toArray⟩) rfl ?_
     obtain ⟨r517, hr518, h509⟩ := ob h509
     refine J.op rfl (A.call (L1 := []) Tryz.call33 rfl (ref17_TakeType_ok hr518) rfl rfl) ?_
     rintro _ _ _ ⟨v525, _, rfl, ⟨⟨l519, i520, i521, ad522, cp523, rfl, rfl, rfl⟩, rfl⟩, _, rfl⟩
     refine J.wit Row.hn fun hn524 => jm (.tuple #[.agg #[.slice ad522 l519.length cp523], ii i520, ii i521]) rfl <| jx (.agg #[.slice ad522 l519.length cp523]) rfl rfl <| jx (ii i520) rfl rfl <| jx (ii i521) rfl rfl <| jal inf30 [nos] rfl fun b529 => js [.slice ad522 l519.length cp523] sz30 rfl rfl rfl rfl rfl rfl ?_
     refine ja (ii i520) rfl <| ja (ii i521) rfl <| J.nil <| cr <| jm (ii i521) rfl <| ja (ii i521) rfl ?_
     refine J.nil <| cr <| jm (.string ⟨s461.toArray⟩) rfl <| jm (ii i520) rfl ?_
     obtain ⟨y530, hy531, h509⟩ := ob h509
     refine jv (.string ⟨y530.toArray⟩) (V.subs Tryz.underlying9 rfl (fun _ h => by cases h; exact ⟨_, rfl⟩) nofun nofun (fun _ => rfl) hy531) <| ja (.string ⟨y530.toArray⟩) rfl <| J.nil <| CJ.region <| jm (.slice ad464 l463.length cp465) rfl <| jv (.agg #[.slice ad522 l519.length cp523]) (V.ld rfl (Ld.agg (cs := [.slice ad522 l519.length cp523]) Tryz.underlying30 sz30 rfl (Rd.cls 0 0 rfl rfl))) <| J.front 1 rfl ?_
     refine J.persist (Hp.nil_le _) (by decide) fun K532 hK533 f534 => ?_
     refine J.op rfl (A.lit (K0 := K532) (ty := (.one (.sl (.cons (.int .i64) (.one .bool))))) (xs := ([l519] : List (List (Int × Bool)))) Tryz.underlying27 inf30 rfl (by decide) rfl rfl rfl ⟨_, _, rfl, f534, rfl⟩ rfl (by decide)) ?_
     rintro _ _ _ ⟨b535, rfl, rfl, rfl⟩
     have hn536 : ([l519] : List (List (Int × Bool))) ≠ [] → ∃ g, (some ⟨b535, 0, none⟩ : Option Addr) = some ⟨g, 0, none⟩ := fun _ => ⟨b535, rfl⟩
     obtain ⟨z538, hz539, h509⟩ := ob h509
     refine J.front 2 rfl <| J.op rfl (A.appR (Kr := K532) Tryz.underlying27 inf30 rfl rfl (by decide) (by decide) rfl rfl (Els.mono hK533) (Els.mono (Hp.le_refl _)) hz539) ?_
     rintro _ _ _ ⟨v540, rfl, rfl, rfl⟩
     refine J.wit Row.form ?_
     rintro ⟨ad541, cp542, rfl, _, _, hn543⟩
     refine ja (.slice ad541 z538.length cp542) rfl <| J.nil <| CJ.region <| jm (ii i468) rfl <| jv (ii (IntKind.wrap .i64 (i468 + 1))) (V.add rfl rfl) <| ja (ii (IntKind.wrap .i64 (i468 + 1))) rfl <| J.dropAt 1 rfl ?_
     refine J.nil ?_
     obtain rfl := si h509
     exact ⟨rfl, ⟨y530, i521, z538, IntKind.wrap .i64 (i468 + 1), ad541, cp542, rfl, ⟨rfl, rfl, rfl, rfl, rfl, trivial⟩, (hk511.trans hK533), rfl⟩⟩
   refine CJ.exit ?_
   obtain rfl := si h509
   refine ⟨nofun, fun e => ?_⟩
   subst e
   exact ⟨rfl, ⟨s461, i462, l463, ad464, cp465, rfl, ⟨rfl, rfl, rfl, trivial⟩, hk511, rfl⟩⟩
 rintro ρ K411 _ ⟨s412, i413, l414, ad415, cp416, rfl, hf544, hk545, rfl⟩
 obtain ⟨ρ, rfl⟩ := hf544.ex
 refine PJ.wit Row.hn fun hn418 => PJ.done <| cr <| jm (.slice ad415 l414.length cp416) rfl <| jm (.string ⟨s412.toArray⟩) rfl <| jm (ii i413) rfl ?_
 refine ja (.slice ad415 l414.length cp416) rfl <| ja (.string ⟨s412.toArray⟩) rfl <| ja (ii i413) rfl <| J.nil <| CJ.ret ?_
 obtain rfl := si h
 exact ⟨_, _, Res.three rfl rfl rfl rfl, ⟨l414, s412, i413, ad415, cp416, rfl, rfl, rfl⟩, hk545, fun w hs => hs⟩
noncomputable def fn_ref17_Take_l1 (xa : (List UInt8)) (i352 : Int) : (Int × (List (List (Int × Bool))) × Int) → Option ((Int × (List (List (Int × Bool))) × Int) ⊕ ((Int × (List (List (Int × Bool)))) ⊕ (Int × (List (Int × Int)) × (List (List (Int × Bool))) × (List (Int × Bool)) × Int × Int))) := fun ((i529, l530, i535) : (Int × (List (List (Int × Bool))) × Int)) => cond (decide (i535 < i352)) ((subL xa i529 (((xa.length : Nat) : Int))).bind fun y578 => (fn_ref17_TakeType y578).bind fun (l582, i583, i584) => cond (!decide (i584 = 0)) (some (.inr ((.inr ((0, [], [], [], 0, i584)))))) ((app l530 (([l582] : List (List (Int × Bool))))).bind fun z603 => some (.inl ((IntKind.wrap .i64 (i529 + i583), z603, IntKind.wrap .i64 (i535 + 1)))))) (some (.inr ((.inl (i529, l530)))))
noncomputable def fn_ref17_Take (xa : (List UInt8)) : Option ((Int × (List (Int × Int)) × (List (List (Int × Bool))) × (List (Int × Bool)) × Int × Int)) :=
  (fn_ref02_Take xa).bind fun (i320, i321, i322) => cond (!decide (i322 = 0)) (some ((0, [], [], [], 0, i322))) ((subL xa i321 (((xa.length : Nat) : Int))).bind fun y330 => (fn_ref17_TakeBounds y330 16).bind fun (l334, i335, i336) => cond (!decide (i336 = 0)) (some ((0, [], [], [], 0, i336))) ((subL xa (IntKind.wrap .i64 (i321 + i335)) (((xa.length : Nat) : Int))).bind fun y348 => (fn_ref02_Take y348).bind fun (i352, i353, i354) => cond (!decide (i354 = 0)) (some ((0, [], [], [], 0, i354))) (cond (decide (16 < i352)) (some ((0, [], [], [], 0, 6))) ((loop (fn_ref17_Take_l1 xa i352) ((IntKind.wrap .i64 ((IntKind.wrap .i64 (i321 + i335)) + i353), ([] : List (List (Int × Bool))), 0)) : Option ((Int × (List (List (Int × Bool)))) ⊕ (Int × (List (Int × Int)) × (List (List (Int × Bool))) × (List (Int × Bool)) × Int × Int))).bind fun o => match o with | .inr r => some r | .inl (i484, l485) => (subL xa i484 (((xa.length : Nat) : Int))).bind fun y612 => (fn_ref17_TakeType y612).bind fun (l616, i617, i618) => cond (!decide (i618 = 0)) (some ((0, [], [], [], 0, i618))) (some ((i320, l334, l485, l616, IntKind.wrap .i64 (i484 + i617), 0)))))))
set_option maxRecDepth 100000 in
set_option maxHeartbeats 4000000 in
theorem ref17_Take_ok {K : Hp} {xa : (List UInt8)}   {r : (Int × (List (Int × Int)) × (List (List (Int × Bool))) × (List (Int × Bool)) × Int × Int)} (h : fn_ref17_Take xa = some r) :
    Tr Tryz.prog 80 #[.string ⟨xa.toArray⟩] K [] (fun v K' L' => (∃ (i299 : Int) (l300 : (List (Int × Int))) (l305 : (List (List (Int × Bool)))) (l310 : (List (Int × Bool))) (i315 : Int) (i316 : Int) (ad301 : Option Addr) (cp302 : Nat) (ad306 : Option Addr) (cp307 : Nat) (ad311 : Option Addr) (cp312 : Nat), (i299, l300, l305, l310, i315, i316) = r ∧ .tuple #[.agg #[ii i299, .slice ad301 l300.length cp302, .slice ad306 l305.length cp307, .slice ad311 l310.length cp312], ii i315, ii i316] = v ∧ L' = [Row Hp.nil 95 (.cons (.int .i64) (.one (.int .i64))) (.slice ad301 l300.length cp302) l300, Row K' 30 (.one (.sl (.cons (.int .i64) (.one .bool)))) (.slice ad306 l305.length cp307) l305, Row Hp.nil 146 (.cons (.int .i64) (.one .bool)) (.slice ad311 l310.length cp312) l310])) := by
 refine Tr.of Tryz.func80 rfl Tryz.ntmps80 rfl fun E F => ?_
 unfold fn_ref17_Take at h
 refine cr <| jal inf63 [ii 0, nos, nos, nos] rfl fun b317 => ja (ii 0) rfl <| ja (ii 0) rfl <| J.nil <| CJ.seq ?_
 refine CJ.region <| jm (.string ⟨xa.toArray⟩) rfl ?_
 obtain ⟨r318, hr319, h⟩ := ob h
 refine J.op rfl (A.call (L1 := []) Tryz.call79 rfl (ref02_Take_ok hr319) rfl rfl) ?_
 rintro _ _ _ ⟨v323, _, rfl, ⟨⟨i320, i321, i322, rfl, rfl, rfl⟩, rfl⟩, _, rfl⟩
 refine jm (.tuple #[ii i320, ii i321, ii i322]) rfl <| jx (ii i320) rfl rfl <| jx (ii i321) rfl rfl <| jx (ii i322) rfl rfl <| ja (ii i320) rfl <| ja (ii i321) rfl <| ja (ii i322) rfl ?_
 refine J.nil <| CJ.seq <| cr <| jm (ii i322) rfl <| jv (.bool (!decide (i322 = 0))) (V.neq rfl rfl) <| J.nil ?_
 refine cc rfl h (fun hc326 h => ?_) fun hc326 h => ?_
 · refine cr <| jv (.agg #[ii 0, nos, nos, nos]) (V.build inf63 places63 rfl rfl) <| jm (ii i322) rfl <| js [ii 0, nos, nos, nos] sz63 rfl rfl rfl rfl rfl rfl <| ja (ii 0) rfl <| ja (ii i322) rfl ?_
   refine J.nil <| CJ.by (fun w hs => Sep.rowNil (e := 95) (t := (.cons (.int .i64) (.one (.int .i64)))) hs) <| CJ.by (fun w hs => Sep.rowNil (e := 30) (t := (.one (.sl (.cons (.int .i64) (.one .bool))))) hs) <| CJ.by (fun w hs => Sep.rowNil (e := 146) (t := (.cons (.int .i64) (.one .bool))) hs) <| CJ.ret ?_
   obtain rfl := si h
   exact ⟨_, _, Res.three rfl ⟨_, _, rfl, Ld.agg (cs := [ii 0, nos, nos, nos]) Tryz.underlying63 sz63 rfl (Rd.cls 3 0 rfl rfl)⟩ rfl rfl, ⟨0, [], [], [], 0, i322, none, 0, none, 0, none, 0, rfl, rfl, rfl⟩, (Hp.le_refl _), fun w hs => (Sep.front 2 rfl (Sep.front 1 rfl (Sep.dropAt 3 rfl hs)))⟩
 refine CJ.skip <| cr <| jm (.string ⟨xa.toArray⟩) rfl <| jm (ii i321) rfl ?_
 obtain ⟨y330, hy331, h⟩ := ob h
 refine jv (.string ⟨y330.toArray⟩) (V.subs Tryz.underlying9 rfl (fun _ h => by cases h; exact ⟨_, rfl⟩) nofun nofun (fun _ => rfl) hy331) ?_
 obtain ⟨r332, hr333, h⟩ := ob h
 refine J.op rfl (A.call (L1 := []) Tryz.call31 rfl (ref17_TakeBounds_ok hr333) rfl rfl) ?_
 rintro _ _ _ ⟨v340, _, rfl, ⟨⟨l334, i335, i336, ad337, cp338, rfl, rfl, rfl⟩, rfl⟩, _, rfl⟩
 refine J.wit Row.hn fun hn339 => jm (.tuple #[.slice ad337 l334.length cp338, ii i335, ii i336]) rfl <| jx (.slice ad337 l334.length cp338) rfl rfl <| jx (ii i335) rfl rfl <| jx (ii i336) rfl rfl <| ja (.slice ad337 l334.length cp338) rfl <| ja (ii i335) rfl ?_
 refine ja (ii i336) rfl <| J.nil <| CJ.seq <| cr <| jm (ii i336) rfl <| jv (.bool (!decide (i336 = 0))) (V.neq rfl rfl) ?_
 refine J.nil <| cc rfl h (fun hc344 h => ?_) fun hc344 h => ?_
 · refine cr <| jv (.agg #[ii 0, nos, nos, nos]) (V.build inf63 places63 rfl rfl) <| jm (ii i336) rfl <| J.front 1 rfl <| js [ii 0, nos, nos, nos] sz63 rfl rfl rfl rfl rfl rfl <| ja (ii 0) rfl ?_
   refine ja (ii i336) rfl <| J.nil <| CJ.by (fun w hs => Sep.rowNil (e := 95) (t := (.cons (.int .i64) (.one (.int .i64)))) hs) <| CJ.by (fun w hs => Sep.rowNil (e := 30) (t := (.one (.sl (.cons (.int .i64) (.one .bool))))) hs) <| CJ.by (fun w hs => Sep.rowNil (e := 146) (t := (.cons (.int .i64) (.one .bool))) hs) <| CJ.ret ?_
   obtain rfl := si h
   exact ⟨_, _, Res.three rfl ⟨_, _, rfl, Ld.agg (cs := [ii 0, nos, nos, nos]) Tryz.underlying63 sz63 rfl (Rd.cls 3 0 rfl rfl)⟩ rfl rfl, ⟨0, [], [], [], 0, i336, none, 0, none, 0, none, 0, rfl, rfl, rfl⟩, (Hp.le_refl _), fun w hs => (Sep.front 2 rfl (Sep.front 1 rfl (Sep.dropAt 3 rfl (Sep.dropAt 3 rfl hs))))⟩
 refine CJ.skip <| cr <| jm (ii i321) rfl <| jm (ii i335) rfl <| jv (ii (IntKind.wrap .i64 (i321 + i335))) (V.add rfl rfl) <| ja (ii (IntKind.wrap .i64 (i321 + i335))) rfl ?_
 refine J.nil <| cr <| jm (.string ⟨xa.toArray⟩) rfl <| jm (ii (IntKind.wrap .i64 (i321 + i335))) rfl ?_
 obtain ⟨y348, hy349, h⟩ := ob h
 refine jv (.string ⟨y348.toArray⟩) (V.subs Tryz.underlying9 rfl (fun _ h => by cases h; exact ⟨_, rfl⟩) nofun nofun (fun _ => rfl) hy349) ?_
 obtain ⟨r350, hr351, h⟩ := ob h
 refine J.op rfl (A.call (L1 := []) Tryz.call79 rfl (ref02_Take_ok hr351) rfl rfl) ?_
 rintro _ _ _ ⟨v355, _, rfl, ⟨⟨i352, i353, i354, rfl, rfl, rfl⟩, rfl⟩, _, rfl⟩
 refine jm (.tuple #[ii i352, ii i353, ii i354]) rfl <| jx (ii i352) rfl rfl <| jx (ii i353) rfl rfl <| jx (ii i354) rfl rfl <| ja (ii i352) rfl <| ja (ii i353) rfl <| ja (ii i354) rfl ?_
 refine J.nil <| CJ.seq <| cr <| jm (ii i354) rfl <| jv (.bool (!decide (i354 = 0))) (V.neq rfl rfl) <| J.nil ?_
 refine cc rfl h (fun hc358 h => ?_) fun hc358 h => ?_
 · refine cr <| jv (.agg #[ii 0, nos, nos, nos]) (V.build inf63 places63 rfl rfl) <| jm (ii i354) rfl <| J.front 1 rfl <| js [ii 0, nos, nos, nos] sz63 rfl rfl rfl rfl rfl rfl <| ja (ii 0) rfl ?_
   refine ja (ii i354) rfl <| J.nil <| CJ.by (fun w hs => Sep.rowNil (e := 95) (t := (.cons (.int .i64) (.one (.int .i64)))) hs) <| CJ.by (fun w hs => Sep.rowNil (e := 30) (t := (.one (.sl (.cons (.int .i64) (.one .bool))))) hs) <| CJ.by (fun w hs => Sep.rowNil (e := 146) (t := (.cons (.int .i64) (.one .bool))) hs) <| CJ.ret ?_
   obtain rfl := si h
   exact ⟨_, _, Res.three rfl ⟨_, _, rfl, Ld.agg (cs := [ii 0, nos, nos, nos]) Tryz.underlying63 sz63 rfl (Rd.cls 3 0 rfl rfl)⟩ rfl rfl, ⟨0, [], [], [], 0, i354, none, 0, none, 0, none, 0, rfl, rfl, rfl⟩, (Hp.le_refl _), fun w hs => (Sep.front 2 rfl (Sep.front 1 rfl (Sep.dropAt 3 rfl (Sep.dropAt 3 rfl hs))))⟩
 refine CJ.skip <| CJ.seq <| cr <| jm (ii i352) rfl <| jv (.bool (decide (16 < i352))) (V.gtr rfl rfl) <| J.nil ?_
 refine cc rfl h (fun hc362 h => ?_) fun hc362 h => ?_
 · refine cr <| jv (.agg #[ii 0, nos, nos, nos]) (V.build inf63 places63 rfl rfl) <| J.front 1 rfl <| js [ii 0, nos, nos, nos] sz63 rfl rfl rfl rfl rfl rfl <| ja (ii 0) rfl <| ja (ii 6) rfl ?_
   refine J.nil <| CJ.by (fun w hs => Sep.rowNil (e := 95) (t := (.cons (.int .i64) (.one (.int .i64)))) hs) <| CJ.by (fun w hs => Sep.rowNil (e := 30) (t := (.one (.sl (.cons (.int .i64) (.one .bool))))) hs) <| CJ.by (fun w hs => Sep.rowNil (e := 146) (t := (.cons (.int .i64) (.one .bool))) hs) <| CJ.ret ?_
   obtain rfl := si h
   exact ⟨_, _, Res.three rfl ⟨_, _, rfl, Ld.agg (cs := [ii 0, nos, nos, nos]) Tryz.underlying63 sz63 rfl (Rd.cls 3 0 rfl rfl)⟩ rfl rfl, ⟨0, [], [], [], 0, 6, none, 0, none, 0, none, 0, rfl, rfl, rfl⟩, (Hp.le_refl _), fun w hs => (Sep.front 2 rfl (Sep.front 1 rfl (Sep.dropAt 3 rfl (Sep.dropAt 3 rfl hs))))⟩
 refine CJ.skip <| cr <| jm (ii (IntKind.wrap .i64 (i321 + i335))) rfl <| jm (ii i353) rfl <| jv (ii (IntKind.wrap .i64 ((IntKind.wrap .i64 (i321 + i335)) + i353))) (V.add rfl rfl) <| ja (ii (IntKind.wrap .i64 ((IntKind.wrap .i64 (i321 + i335)) + i353))) rfl ?_
 refine J.nil <| CJ.seq <| CJ.region ?_
 refine J.op rfl (A.lit (K0 := K) (ty := (.one (.sl (.cons (.int .i64) (.one .bool))))) (xs := ([] : List (List (Int × Bool)))) Tryz.underlying27 inf30 rfl (by decide) rfl rfl rfl rfl rfl (by decide)) ?_
 rintro _ _ _ ⟨b366, rfl, rfl, rfl⟩
 have hn367 : ([] : List (List (Int × Bool))) ≠ [] → ∃ g, (some ⟨b366, 0, none⟩ : Option Addr) = some ⟨g, 0, none⟩ := fun _ => ⟨b366, rfl⟩
 refine ja (.slice (some ⟨b366, 0, none⟩) ((([] : List (List (Int × Bool)))).length) 0) rfl <| J.nil <| CJ.seq <| cr <| ja (ii 0) rfl <| J.nil ?_
 obtain ⟨o490, ho491, h⟩ := ob h
 refine CJ.joinN (o := o490) (fun s ρ K' L' => ∃ (i484 : Int) (l485 : (List (List (Int × Bool)))) (ad486 : Option Addr) (cp487 : Nat), (i484, l485) = s ∧ Fits [(0, .string ⟨xa.toArray⟩), (2, .pointer (some ⟨b317, 0, none⟩)), (5, ii i320), (6, ii i484), (8, .slice ad337 l334.length cp338), (14, .slice ad486 l485.length cp487)] ρ ∧ Hp.le K K' ∧ L' = Cl b317 63 [ii 0, nos, nos, nos] :: Row Hp.nil 95 (.cons (.int .i64) (.one (.int .i64))) (.slice ad337 l334.length cp338) l334 :: Row K' 30 (.one (.sl (.cons (.int .i64) (.one .bool)))) (.slice ad486 l485.length cp487) l485 :: F) ?_ ?_
 · refine CJ.block <| CJ.front 1 rfl <| CJ.front 2 rfl <| CJ.loop (fun s ρ K' L' => ∃ (i529 : Int) (l530 : (List (List (Int × Bool)))) (i535 : Int) (ad531 : Option Addr) (cp532 : Nat), (i529, l530, i535) = s ∧ Fits [(0, .string ⟨xa.toArray⟩), (2, .pointer (some ⟨b317, 0, none⟩)), (5, ii i320), (6, ii i529), (8, .slice ad337 l334.length cp338), (11, ii i352), (14, .slice ad531 l530.length cp532), (15, ii i535)] ρ ∧ Hp.le K K' ∧ L' = Cl b317 63 [ii 0, nos, nos, nos] :: Row Hp.nil 95 (.cons (.int .i64) (.one (.int .i64))) (.slice ad337 l334.length cp338) l334 :: Row K' 30 (.one (.sl (.cons (.int .i64) (.one .bool)))) (.slice ad531 l530.length cp532) l530 :: F) ho491 ⟨IntKind.wrap .i64 ((IntKind.wrap .i64 (i321 + i335)) + i353), ([] : List (List (Int × Bool))), 0, (some ⟨b366, 0, none⟩), 0, rfl, ⟨rfl, rfl, rfl, rfl, rfl, rfl, rfl, rfl, trivial⟩, (Hp.le_refl _), rfl⟩ ?_
   rintro s ρ K528 _ r576 ⟨i529, l530, i535, ad531, cp532, rfl, hf574, hk575, rfl⟩ h573
   obtain ⟨ρ, rfl⟩ := hf574.ex
   refine CJ.front 2 rfl <| CJ.wit Row.hn fun hn534 => CJ.seq <| cr <| jm (ii i535) rfl <| jm (ii i352) rfl ?_
   refine jv (.bool (decide (i535 < i352))) (V.lss rfl rfl) <| J.nil <| cc rfl h573 (fun hc577 h573 => ?_) fun hc577 h573 => ?_
   · refine CJ.skip <| CJ.seq <| CJ.block <| cr <| jm (.string ⟨xa.toArray⟩) rfl <| jm (ii i529) rfl ?_
     obtain ⟨y578, hy579, h573⟩ := ob h573
     refine jv (.string ⟨y578.toArray⟩) (V.subs Tryz.underlying9 rfl (fun _ h => by cases h; exact ⟨_, rfl⟩) nofun nofun (fun _ => rfl) hy579) ?_
     obtain ⟨r580, hr581, h573⟩ := ob h573
     refine J.op rfl (A.call (L1 := []) Tryz.call33 rfl (ref17_TakeType_ok hr581) rfl rfl) ?_
     rintro _ _ _ ⟨v588, _, rfl, ⟨⟨l582, i583, i584, ad585, cp586, rfl, rfl, rfl⟩, rfl⟩, _, rfl⟩
     refine J.wit Row.hn fun hn587 => jm (.tuple #[.agg #[.slice ad585 l582.length cp586], ii i583, ii i584]) rfl <| jx (.agg #[.slice ad585 l582.length cp586]) rfl rfl <| jx (ii i583) rfl rfl <| jx (ii i584) rfl rfl <| jal inf30 [nos] rfl fun b592 => js [.slice ad585 l582.length cp586] sz30 rfl rfl rfl rfl rfl rfl ?_
     refine ja (ii i583) rfl <| ja (ii i584) rfl <| J.nil <| CJ.seq <| cr <| jm (ii i584) rfl ?_
     refine jv (.bool (!decide (i584 = 0))) (V.neq rfl rfl) <| J.nil <| cc rfl h573 (fun hc593 h573 => ?_) fun hc593 h573 => ?_
     · refine cr <| jv (.agg #[ii 0, nos, nos, nos]) (V.build inf63 places63 rfl rfl) <| jm (ii i584) rfl <| J.front 3 rfl <| js [ii 0, nos, nos, nos] sz63 rfl rfl rfl rfl rfl rfl <| ja (ii 0) rfl ?_
       refine ja (ii i584) rfl <| J.nil <| CJ.by (fun w hs => Sep.rowNil (e := 95) (t := (.cons (.int .i64) (.one (.int .i64)))) hs) <| CJ.by (fun w hs => Sep.rowNil (e := 30) (t := (.one (.sl (.cons (.int .i64) (.one .bool))))) hs) <| CJ.by (fun w hs => Sep.rowNil (e := 146) (t := (.cons (.int .i64) (.one .bool))) hs) <| CJ.ret ?_
       obtain rfl := si h573
       refine ⟨nofun, fun e => ?_⟩
       subst e
       refine .inr ⟨nofun, ?_⟩
       obtain rfl := si h
       exact ⟨_, _, Res.three rfl ⟨_, _, rfl, Ld.agg (cs := [ii 0, nos, nos, nos]) Tryz.underlying63 sz63 rfl (Rd.cls 3 0 rfl rfl)⟩ rfl rfl, ⟨0, [], [], [], 0, i584, none, 0, none, 0, none, 0, rfl, rfl, rfl⟩, hk575, fun w hs => (Sep.front 2 rfl (Sep.front 1 rfl (Sep.dropAt 3 rfl (Sep.dropAt 3 rfl (Sep.dropAt 3 rfl (Sep.dropAt 3 rfl (Sep.dropAt 3 rfl hs)))))))⟩
     refine CJ.skip <| cr <| jm (.slice ad531 l530.length cp532) rfl <| jv (.agg #[.slice ad585 l582.length cp586]) (V.ld rfl (Ld.agg (cs := [.slice ad585 l582.length cp586]) Tryz.underlying30 sz30 rfl (Rd.cls 0 0 rfl rfl))) <| J.front 1 rfl <| J.persist (Hp.nil_le _) (by decide) fun K597 hK598 f599 => ?_
     refine J.op rfl (A.lit (K0 := K597) (ty := (.one (.sl (.cons (.int .i64) (.one .bool))))) (xs := ([l582] : List (List (Int × Bool)))) Tryz.underlying27 inf30 rfl (by decide) rfl rfl rfl ⟨_, _, rfl, f599, rfl⟩ rfl (by decide)) ?_
     rintro _ _ _ ⟨b600, rfl, rfl, rfl⟩
     have hn601 : ([l582] : List (List (Int × Bool))) ≠ [] → ∃ g, (some ⟨b600, 0, none⟩ : Option Addr) = some ⟨g, 0, none⟩ := fun _ => ⟨b600, rfl⟩
     obtain ⟨z603, hz604, h573⟩ := ob h573
     refine J.front 2 rfl <| J.op rfl (A.appR (Kr := K597) Tryz.underlying27 inf30 rfl rfl (by decide) (by decide) rfl rfl (Els.mono hK598) (Els.mono (Hp.le_refl _)) hz604) ?_
     rintro _ _ _ ⟨v605, rfl, rfl, rfl⟩
     refine J.wit Row.form ?_
     rintro ⟨ad606, cp607, rfl, _, _, hn608⟩
     refine ja (.slice ad606 z603.length cp607) rfl <| J.nil <| CJ.region <| jm (ii i529) rfl <| jm (ii i583) rfl <| jv (ii (IntKind.wrap .i64 (i529 + i583))) (V.add rfl rfl) <| ja (ii (IntKind.wrap .i64 (i529 + i583))) rfl ?_
     refine J.nil <| CJ.region <| jm (ii i535) rfl <| jv (ii (IntKind.wrap .i64 (i535 + 1))) (V.add rfl rfl) <| ja (ii (IntKind.wrap .i64 (i535 + 1))) rfl <| J.dropAt 1 rfl <| J.front 2 rfl ?_
     refine J.front 2 rfl <| J.nil ?_
     obtain rfl := si h573
     exact ⟨rfl, ⟨IntKind.wrap .i64 (i529 + i583), z603, IntKind.wrap .i64 (i535 + 1), ad606, cp607, rfl, ⟨rfl, rfl, rfl, rfl, rfl, rfl, rfl, rfl, trivial⟩, (hk575.trans hK598), rfl⟩⟩
   refine CJ.front 2 rfl <| CJ.front 2 rfl <| CJ.exit ?_
   obtain rfl := si h573
   refine ⟨nofun, fun e => ?_⟩
   subst e
   exact .inl ⟨rfl, _, rfl, ⟨i529, l530, ad531, cp532, rfl, ⟨rfl, rfl, rfl, rfl, rfl, rfl, trivial⟩, hk575, rfl⟩⟩
 rintro s ρ K483 _ ho609 ⟨i484, l485, ad486, cp487, rfl, hf610, hk611, rfl⟩
 subst ho609
 obtain ⟨ρ, rfl⟩ := hf610.ex
 refine PJ.front 2 rfl <| PJ.wit Row.hn fun hn489 => PJ.done <| cr <| jm (.string ⟨xa.toArray⟩) rfl <| jm (ii i484) rfl ?_
 obtain ⟨y612, hy613, h⟩ := ob h
 refine jv (.string ⟨y612.toArray⟩) (V.subs Tryz.underlying9 rfl (fun _ h => by cases h; exact ⟨_, rfl⟩) nofun nofun (fun _ => rfl) hy613) ?_
 obtain ⟨r614, hr615, h⟩ := ob h
 refine J.op rfl (A.call (L1 := []) Tryz.call33 rfl (ref17_TakeType_ok hr615) rfl rfl) ?_
 rintro _ _ _ ⟨v622, _, rfl, ⟨⟨l616, i617, i618, ad619, cp620, rfl, rfl, rfl⟩, rfl⟩, _, rfl⟩
 refine J.wit Row.hn fun hn621 => jm (.tuple #[.agg #[.slice ad619 l616.length cp620], ii i617, ii i618]) rfl <| jx (.agg #[.slice ad619 l616.length cp620]) rfl rfl <| jx (ii i617) rfl rfl <| jx (ii i618) rfl rfl <| jal inf30 [nos] rfl fun b626 => js [.slice ad619 l616.length cp620] sz30 rfl rfl rfl rfl rfl rfl ?_
 refine ja (ii i617) rfl <| ja (ii i618) rfl <| J.nil <| CJ.seq <| cr <| jm (ii i618) rfl ?_
 refine jv (.bool (!decide (i618 = 0))) (V.neq rfl rfl) <| J.nil <| cc rfl h (fun hc627 h => ?_) fun hc627 h => ?_
 · refine cr <| jv (.agg #[ii 0, nos, nos, nos]) (V.build inf63 places63 rfl rfl) <| jm (ii i618) rfl <| J.front 3 rfl <| js [ii 0, nos, nos, nos] sz63 rfl rfl rfl rfl rfl rfl <| ja (ii 0) rfl ?_
   refine ja (ii i618) rfl <| J.nil <| CJ.by (fun w hs => Sep.rowNil (e := 95) (t := (.cons (.int .i64) (.one (.int .i64)))) hs) <| CJ.by (fun w hs => Sep.rowNil (e := 30) (t := (.one (.sl (.cons (.int .i64) (.one .bool))))) hs) <| CJ.by (fun w hs => Sep.rowNil (e := 146) (t := (.cons (.int .i64) (.one .bool))) hs) <| CJ.ret ?_
   obtain rfl := si h
   exact ⟨_, _, Res.three rfl ⟨_, _, rfl, Ld.agg (cs := [ii 0, nos, nos, nos]) Tryz.underlying63 sz63 rfl (Rd.cls 3 0 rfl rfl)⟩ rfl rfl, ⟨0, [], [], [], 0, i618, none, 0, none, 0, none, 0, rfl, rfl, rfl⟩, hk611, fun w hs => (Sep.front 2 rfl (Sep.front 1 rfl (Sep.dropAt 3 rfl (Sep.dropAt 3 rfl (Sep.dropAt 3 rfl (Sep.dropAt 3 rfl (Sep.dropAt 3 rfl hs)))))))⟩
 refine CJ.skip <| cr <| jm (ii i320) rfl <| jm (.slice ad337 l334.length cp338) rfl <| jm (.slice ad486 l485.length cp487) rfl <| jv (.agg #[.slice ad619 l616.length cp620]) (V.ld rfl (Ld.agg (cs := [.slice ad619 l616.length cp620]) Tryz.underlying30 sz30 rfl (Rd.cls 0 0 rfl rfl))) ?_
 refine jv (.agg #[ii i320, .slice ad337 l334.length cp338, .slice ad486 l485.length cp487, .slice ad619 l616.length cp620]) (V.build inf63 places63 rfl rfl) <| jm (ii i484) rfl <| jm (ii i617) rfl <| jv (ii (IntKind.wrap .i64 (i484 + i617))) (V.add rfl rfl) <| J.front 3 rfl <| js [ii i320, .slice ad337 l334.length cp338, .slice ad486 l485.length cp487, .slice ad619 l616.length cp620] sz63 rfl rfl rfl rfl rfl rfl <| ja (ii (IntKind.wrap .i64 (i484 + i617))) rfl ?_
 refine ja (ii 0) rfl <| J.nil <| CJ.ret ?_
 obtain rfl := si h
 exact ⟨_, _, Res.three rfl ⟨_, _, rfl, Ld.agg (cs := [ii i320, .slice ad337 l334.length cp338, .slice ad486 l485.length cp487, .slice ad619 l616.length cp620]) Tryz.underlying63 sz63 rfl (Rd.cls 0 0 rfl rfl)⟩ rfl rfl, ⟨i320, l334, l485, l616, IntKind.wrap .i64 (i484 + i617), 0, ad337, cp338, ad486, cp487, ad619, cp620, rfl, rfl, rfl⟩, hk611, fun w hs => (Sep.front 2 rfl (Sep.front 1 rfl (Sep.dropAt 0 rfl (Sep.dropAt 0 rfl hs))))⟩
noncomputable def fn_ref20_sigs_l1 (i381 : Int) : (List UInt8 × Int × (List (Int × (List (Int × Int)) × (List (List (Int × Bool))) × (List (Int × Bool)))) × Int) → Option ((List UInt8 × Int × (List (Int × (List (Int × Int)) × (List (List (Int × Bool))) × (List (Int × Bool)))) × Int) ⊕ (List UInt8 × Int × (List (Int × (List (Int × Int)) × (List (List (Int × Bool))) × (List (Int × Bool)))))) := fun ((s631, i632, l633, i638) : (List UInt8 × Int × (List (Int × (List (Int × Int)) × (List (List (Int × Bool))) × (List (Int × Bool)))) × Int)) => cond ((decide (i638 < i381)) && (decide (i632 = 0))) ((fn_ref17_Take s631).bind fun (i706, l707, l708, l709, i710, i711) => (subL s631 i710 (((s631.length : Nat) : Int))).bind fun y728 => (app l633 (([(i706, l707, l708, l709)] : List (Int × (List (Int × Int)) × (List (List (Int × Bool))) × (List (Int × Bool)))))).bind fun z742 => some (.inl ((y728, i711, z742, IntKind.wrap .i64 (i638 + 1))))) (some (.inr (((s631, i632, l633)))))
noncomputable def fn_ref20_sigs (xa : (List UInt8)) : Option (((List (Int × (List (Int × Int)) × (List (List (Int × Bool))) × (List (Int × Bool)))) × List UInt8 × Int)) :=
  (fn_ref20_count xa).bind fun (i381, s382, i383) => (loop (fn_ref20_sigs_l1 i381) ((s382, i383, ([] : List (Int × (List (Int × Int)) × (List (List (Int × Bool))) × (List (Int × Bool)))), 0)) : Option ((List UInt8 × Int × (List (Int × (List (Int × Int)) × (List (List (Int × Bool))) × (List (Int × Bool))))))).bind fun (s565, i566, l567) => some ((l567, s565, i566))
set_option maxRecDepth 100000 in
set_option maxHeartbeats 4000000 in
theorem ref20_sigs_ok {K : Hp} {xa : (List UInt8)}   {r : ((List (Int × (List (Int × Int)) × (List (List (Int × Bool))) × (List (Int × Bool)))) × List UInt8 × Int)} (h : fn_ref20_sigs xa = some r) :
    Tr Tryz.prog 34 #[.string ⟨xa.toArray⟩] K [] (fun v K' L' => (∃ (l372 : (List (Int × (List (Int × Int)) × (List (List (Int × Bool))) × (List (Int × Bool))))) (s377 : List UInt8) (i378 : Int) (ad373 : Option Addr) (cp374 : Nat), (l372, s377, i378) = r ∧ .tuple #[.slice ad373 l372.length cp374, .string ⟨s377.toArray⟩, ii i378] = v ∧ L' = [Row K' 63 (.cons (.int .i64) (.cons (.sl (.cons (.int .i64) (.one (.int .i64)))) (.cons (.sl (.one (.sl (.cons (.int .i64) (.one .bool))))) (.one (.one (.sl (.cons (.int .i64) (.one .bool)))))))) (.slice ad373 l372.length cp374) l372])) := by
 refine Tr.of Tryz.func34 rfl Tryz.ntmps34 rfl fun E F => ?_
 unfold fn_ref20_sigs at h
 refine cr <| ja (nos) rfl <| ja (.string ⟨([] : List UInt8).toArray⟩) rfl <| ja (ii 0) rfl <| J.nil <| CJ.seq ?_
 refine CJ.region <| jm (.string ⟨xa.toArray⟩) rfl ?_
 obtain ⟨r379, hr380, h⟩ := ob h
 refine J.op rfl (A.call (L1 := []) Tryz.call30 rfl (ref20_count_ok hr380) rfl rfl) ?_
 rintro _ _ _ ⟨v384, _, rfl, ⟨⟨i381, s382, i383, rfl, rfl, rfl⟩, rfl⟩, _, rfl⟩
 refine jm (.tuple #[ii i381, .string ⟨s382.toArray⟩, ii i383]) rfl <| jx (ii i381) rfl rfl <| jx (.string ⟨s382.toArray⟩) rfl rfl <| jx (ii i383) rfl rfl <| ja (ii i381) rfl <| ja (.string ⟨s382.toArray⟩) rfl <| ja (ii i383) rfl ?_
 refine J.nil <| CJ.seq <| CJ.region ?_
 refine J.op rfl (A.lit (K0 := K) (ty := (.cons (.int .i64) (.cons (.sl (.cons (.int .i64) (.one (.int .i64)))) (.cons (.sl (.one (.sl (.cons (.int .i64) (.one .bool))))) (.one (.one (.sl (.cons (.int .i64) (.one .bool))))))))) (xs := ([] : List (Int × (List (Int × Int)) × (List (List (Int × Bool))) × (List (Int × Bool))))) Tryz.underlying31 inf63 rfl (by decide) rfl rfl rfl rfl rfl (by decide)) ?_
 rintro _ _ _ ⟨b387, rfl, rfl, rfl⟩
 have hn388 : ([] : List (Int × (List (Int × Int)) × (List (List (Int × Bool))) × (List (Int × Bool)))) ≠ [] → ∃ g, (some ⟨b387, 0, none⟩ : Option Addr) = some ⟨g, 0, none⟩ := fun _ => ⟨b387, rfl⟩
 refine ja (.slice (some ⟨b387, 0, none⟩) ((([] : List (Int × (List (Int × Int)) × (List (List (Int × Bool))) × (List (Int × Bool))))).length) 0) rfl <| J.nil <| CJ.seq <| cr <| ja (ii 0) rfl <| J.nil ?_
 obtain ⟨o572, ho573, h⟩ := ob h
 refine CJ.meetN (fun ρ K' L' => ∃ (s565 : List UInt8) (i566 : Int) (l567 : (List (Int × (List (Int × Int)) × (List (List (Int × Bool))) × (List (Int × Bool))))) (ad568 : Option Addr) (cp569 : Nat), (s565, i566, l567) = o572 ∧ Fits [(6, .string ⟨s565.toArray⟩), (7, ii i566), (8, .slice ad568 l567.length cp569)] ρ ∧ Hp.le K K' ∧ L' = Row K' 63 (.cons (.int .i64) (.cons (.sl (.cons (.int .i64) (.one (.int .i64)))) (.cons (.sl (.one (.sl (.cons (.int .i64) (.one .bool))))) (.one (.one (.sl (.cons (.int .i64) (.one .bool)))))))) (.slice ad568 l567.length cp569) l567 :: F) ?_ ?_
 · refine CJ.block <| CJ.loop (fun s ρ K' L' => ∃ (s631 : List UInt8) (i632 : Int) (l633 : (List (Int × (List (Int × Int)) × (List (List (Int × Bool))) × (List (Int × Bool))))) (i638 : Int) (ad634 : Option Addr) (cp635 : Nat), (s631, i632, l633, i638) = s ∧ Fits [(5, ii i381), (6, .string ⟨s631.toArray⟩), (7, ii i632), (8, .slice ad634 l633.length cp635), (9, ii i638)] ρ ∧ Hp.le K K' ∧ L' = Row K' 63 (.cons (.int .i64) (.cons (.sl (.cons (.int .i64) (.one (.int .i64)))) (.cons (.sl (.one (.sl (.cons (.int .i64) (.one .bool))))) (.one (.one (.sl (.cons (.int .i64) (.one .bool)))))))) (.slice ad634 l633.length cp635) l633 :: F) ho573 ⟨s382, i383, ([] : List (Int × (List (Int × Int)) × (List (List (Int × Bool))) × (List (Int × Bool)))), 0, (some ⟨b387, 0, none⟩), 0, rfl, ⟨rfl, rfl, rfl, rfl, rfl, trivial⟩, (Hp.le_refl _), rfl⟩ ?_
   rintro s ρ K630 _ r699 ⟨s631, i632, l633, i638, ad634, cp635, rfl, hf697, hk698, rfl⟩ h696
   obtain ⟨ρ, rfl⟩ := hf697.ex
   refine CJ.wit Row.hn fun hn637 => CJ.seq <| cr <| jm (ii i638) rfl <| jm (ii i381) rfl <| jv (.bool (decide (i638 < i381))) (V.lss rfl rfl) ?_
   refine jm (.bool (decide (i638 < i381))) rfl <| J.cut 3 <| jmeet [(26, .bool ((decide (i638 < i381)) && (decide (i632 = 0)))), (5, ii i381), (6, .string ⟨s631.toArray⟩), (7, ii i632), (8, .slice ad634 l633.length cp635), (9, ii i638)] ?_ ?_
   · rcases bt (decide (i638 < i381)) with hc702 | hc702
     · refine J.run rfl rfl rfl hc702 <| jm (ii i632) rfl <| J.run rfl rfl rfl hc702 <| jv (.bool (decide (i632 = 0))) (V.eql rfl rfl) <| jv (.bool (decide (i632 = 0))) (V.pickT rfl hc702 rfl) <| J.nil ?_
       exact ⟨rfl, ⟨(by simp only [hc702]; rfl), rfl, rfl, rfl, rfl, rfl, trivial⟩, rfl, rfl⟩
     refine J.skip rfl rfl rfl rfl hc702 <| J.skip rfl rfl rfl rfl hc702 <| jv (.bool false) (V.pickF rfl hc702 rfl) <| J.nil ?_
     exact ⟨rfl, ⟨(by simp only [hc702]; rfl), rfl, rfl, rfl, rfl, rfl, trivial⟩, rfl, rfl⟩
   intro ρ
   refine J.nil <| cc rfl h696 (fun hc703 h696 => ?_) fun hc703 h696 => ?_
   · refine CJ.skip <| CJ.seq <| CJ.block <| cr <| jm (.string ⟨s631.toArray⟩) rfl ?_
     obtain ⟨r704, hr705, h696⟩ := ob h696
     refine J.op rfl (A.call (L1 := []) Tryz.call80 rfl (ref17_Take_ok hr705) rfl rfl) ?_
     rintro _ K722 _ ⟨v721, _, rfl, ⟨i706, l707, l708, l709, i710, i711, ad712, cp713, ad714, cp715, ad716, cp717, rfl, rfl, rfl⟩, hK723, rfl⟩
     refine J.wit Row.hn fun hn718 => J.front 1 rfl <| J.wit Row.hn fun hn719 => J.front 2 rfl <| J.wit Row.hn fun hn720 => jm (.tuple #[.agg #[ii i706, .slice ad712 l707.length cp713, .slice ad714 l708.length cp715, .slice ad716 l709.length cp717], ii i710, ii i711]) rfl <| jx (.agg #[ii i706, .slice ad712 l707.length cp713, .slice ad714 l708.length cp715, .slice ad716 l709.length cp717]) rfl rfl ?_
     refine jx (ii i710) rfl rfl <| jx (ii i711) rfl rfl <| jal inf63 [ii 0, nos, nos, nos] rfl fun b727 => js [ii i706, .slice ad712 l707.length cp713, .slice ad714 l708.length cp715, .slice ad716 l709.length cp717] sz63 rfl rfl rfl rfl rfl rfl <| ja (ii i710) rfl <| ja (ii i711) rfl <| J.nil ?_
     refine cr <| jm (ii i711) rfl <| ja (ii i711) rfl <| J.nil <| CJ.seq <| CJ.region ?_
     refine jm (.string ⟨s631.toArray⟩) rfl <| jm (ii i710) rfl ?_
     obtain ⟨y728, hy729, h696⟩ := ob h696
     refine jv (.string ⟨y728.toArray⟩) (V.subs Tryz.underlying9 rfl (fun _ h => by cases h; exact ⟨_, rfl⟩) nofun nofun (fun _ => rfl) hy729) <| ja (.string ⟨y728.toArray⟩) rfl <| J.nil <| CJ.region <| jm (.slice ad634 l633.length cp635) rfl <| jv (.agg #[ii i706, .slice ad712 l707.length cp713, .slice ad714 l708.length cp715, .slice ad716 l709.length cp717]) (V.ld rfl (Ld.agg (cs := [ii i706, .slice ad712 l707.length cp713, .slice ad714 l708.length cp715, .slice ad716 l709.length cp717]) Tryz.underlying63 sz63 rfl (Rd.cls 0 0 rfl rfl))) <| J.front 3 rfl ?_
     refine J.persist (Hp.nil_le _) (by decide) fun K730 hK731 f732 => J.front 2 rfl <| J.persist hK731 (by decide) fun K733 hK734 f735 => J.front 1 rfl <| J.persist (Hp.nil_le _) (by decide) fun K736 hK737 f738 => ?_
     refine J.op rfl (A.lit (K0 := K736) (ty := (.cons (.int .i64) (.cons (.sl (.cons (.int .i64) (.one (.int .i64)))) (.cons (.sl (.one (.sl (.cons (.int .i64) (.one .bool))))) (.one (.one (.sl (.cons (.int .i64) (.one .bool))))))))) (xs := ([(i706, l707, l708, l709)] : List (Int × (List (Int × Int)) × (List (List (Int × Bool))) × (List (Int × Bool))))) Tryz.underlying31 inf63 rfl (by decide) rfl rfl rfl ⟨_, _, rfl, ⟨_, _, rfl, rfl, rfl, ⟨_, _, rfl, rfl, (f732.mono (hK734.trans hK737)), ⟨_, _, rfl, rfl, (f735.mono hK737), f738⟩⟩⟩, rfl⟩ rfl (by decide)) ?_
     rintro _ _ _ ⟨b739, rfl, rfl, rfl⟩
     have hn740 : ([(i706, l707, l708, l709)] : List (Int × (List (Int × Int)) × (List (List (Int × Bool))) × (List (Int × Bool)))) ≠ [] → ∃ g, (some ⟨b739, 0, none⟩ : Option Addr) = some ⟨g, 0, none⟩ := fun _ => ⟨b739, rfl⟩
     obtain ⟨z742, hz743, h696⟩ := ob h696
     refine J.front 2 rfl <| J.op rfl (A.appR (Kr := K736) Tryz.underlying31 inf63 rfl rfl (by decide) (by decide) rfl rfl (Els.mono (((hK723.trans hK731).trans hK734).trans hK737)) (Els.mono (Hp.le_refl _)) hz743) ?_
     rintro _ _ _ ⟨v744, rfl, rfl, rfl⟩
     refine J.wit Row.form ?_
     rintro ⟨ad745, cp746, rfl, _, _, hn747⟩
     refine ja (.slice ad745 z742.length cp746) rfl <| J.nil <| CJ.region <| jm (ii i638) rfl <| jv (ii (IntKind.wrap .i64 (i638 + 1))) (V.add rfl rfl) <| ja (ii (IntKind.wrap .i64 (i638 + 1))) rfl <| J.dropAt 1 rfl ?_
     refine J.nil ?_
     obtain rfl := si h696
     exact ⟨rfl, ⟨y728, i711, z742, IntKind.wrap .i64 (i638 + 1), ad745, cp746, rfl, ⟨rfl, rfl, rfl, rfl, rfl, trivial⟩, ((((hk698.trans hK723).trans hK731).trans hK734).trans hK737), rfl⟩⟩
   refine CJ.exit ?_
   obtain rfl := si h696
   refine ⟨nofun, fun e => ?_⟩
   subst e
   exact ⟨rfl, ⟨s631, i632, l633, ad634, cp635, rfl, ⟨rfl, rfl, rfl, trivial⟩, hk698, rfl⟩⟩
 rintro ρ K564 _ ⟨s565, i566, l567, ad568, cp569, rfl, hf748, hk749, rfl⟩
 obtain ⟨ρ, rfl⟩ := hf748.ex
 refine PJ.wit Row.hn fun hn571 => PJ.done <| cr <| jm (.slice ad568 l567.length cp569) rfl <| jm (.string ⟨s565.toArray⟩) rfl <| jm (ii i566) rfl ?_
 refine ja (.slice ad568 l567.length cp569) rfl <| ja (.string ⟨s565.toArray⟩) rfl <| ja (ii i566) rfl <| J.nil <| CJ.ret ?_
 obtain rfl := si h
 exact ⟨_, _, Res.three rfl rfl rfl rfl, ⟨l567, s565, i566, ad568, cp569, rfl, rfl, rfl⟩, hk749, fun w hs => hs⟩

noncomputable def fn_ref18_Take (xa : (List UInt8)) : Option (Int × Int × Int × Int × Bool × Int × Int) :=
  (fn_ref02_Take xa).bind fun (i154, i155, i156) => cond (!decide (i156 = 0)) (some ((0, 0, 0, 0, false, 0, i156))) (cond (decide (5 < i154)) (some ((0, 0, 0, 0, false, 0, 3))) (((fn_ref18_Dst i154).bind fun t187 => cond (t187) ((subL xa i155 (((xa.length : Nat) : Int))).bind fun y192 => (fn_ref02_Take y192).bind fun (i196, i197, i198) => cond (!decide (i198 = 0)) (some (.inr ((0, 0, 0, 0, false, 0, i198)))) (some (.inl ((IntKind.wrap .i64 (i155 + i197), i196))))) (some (.inl (i155, 0))) : Option ((Int × Int) ⊕ (Int × Int × Int × Int × Bool × Int × Int))).bind fun o => match o with | .inr r => some r | .inl (i181, i182) => ((fn_ref18_Src i154).bind fun t230 => cond (t230) ((subL xa i181 (((xa.length : Nat) : Int))).bind fun y235 => (fn_ref02_Take y235).bind fun (i239, i240, i241) => cond (!decide (i241 = 0)) (some (.inr ((0, 0, 0, 0, false, 0, i241)))) (some (.inl ((IntKind.wrap .i64 (i181 + i240), i239))))) (some (.inl (i181, 0))) : Option ((Int × Int) ⊕ (Int × Int × Int × Int × Bool × Int × Int))).bind fun o => match o with | .inr r => some r | .inl (i224, i225) => ((fn_ref18_Region i154).bind fun t274 => cond (t274) ((subL xa i224 (((xa.length : Nat) : Int))).bind fun y279 => (fn_ref02_Take y279).bind fun (i283, i284, i285) => cond (!decide (i285 = 0)) (some (.inr ((0, 0, 0, 0, false, 0, i285)))) (some (.inl ((IntKind.wrap .i64 (i224 + i284), IntKind.wrap .i64 (Int.tdiv i283 2), decide ((Int.tmod i283 2) = 1)))))) (some (.inl (i224, 0, false))) : Option ((Int × Int × Bool) ⊕ (Int × Int × Int × Int × Bool × Int × Int))).bind fun o => match o with | .inr r => some r | .inl (i267, i268, t269) => some ((i154, i182, i225, i268, t269, i267, 0))))
set_option maxRecDepth 100000 in
set_option maxHeartbeats 4000000 in
theorem ref18_Take_ok {K : Hp} {xa : (List UInt8)}   {r : (Int × Int × Int × Int × Bool × Int × Int)} (h : fn_ref18_Take xa = some r) :
    Tr Tryz.prog 102 #[.string ⟨xa.toArray⟩] K [] (fun v K' L' => (∃ (i144 : Int) (i145 : Int) (i146 : Int) (i147 : Int) (t148 : Bool) (i149 : Int) (i150 : Int), (i144, i145, i146, i147, t148, i149, i150) = r ∧ .tuple #[.agg #[ii i144, ii i145, ii i146, ii i147, .bool t148], ii i149, ii i150] = v ∧ L' = []) ∧ K = K') := by
 refine Tr.k <| Tr.of Tryz.func102 rfl Tryz.ntmps102 rfl fun E F => ?_
 unfold fn_ref18_Take at h
 refine cr <| jal inf73 [ii 0, ii 0, ii 0, ii 0, .bool false] rfl fun b151 => ja (ii 0) rfl <| ja (ii 0) rfl <| J.nil <| CJ.seq ?_
 refine CJ.region <| jm (.string ⟨xa.toArray⟩) rfl ?_
 obtain ⟨r152, hr153, h⟩ := ob h
 refine J.op rfl (A.call (L1 := []) Tryz.call79 rfl (ref02_Take_ok hr153) rfl rfl) ?_
 rintro _ _ _ ⟨v157, _, rfl, ⟨⟨i154, i155, i156, rfl, rfl, rfl⟩, rfl⟩, _, rfl⟩
 refine jm (.tuple #[ii i154, ii i155, ii i156]) rfl <| jx (ii i154) rfl rfl <| jx (ii i155) rfl rfl <| jx (ii i156) rfl rfl <| ja (ii i154) rfl <| ja (ii i155) rfl <| ja (ii i156) rfl ?_
 refine J.nil <| CJ.seq <| cr <| jm (ii i156) rfl <| jv (.bool (!decide (i156 = 0))) (V.neq rfl rfl) <| J.nil ?_
 refine cc rfl h (fun hc160 h => ?_) fun hc160 h => ?_
 · refine cr <| jv (.agg #[ii 0, ii 0, ii 0, ii 0, .bool false]) (V.build inf73 places73 rfl rfl) <| jm (ii i156) rfl <| js [ii 0, ii 0, ii 0, ii 0, .bool false] sz73 rfl rfl rfl rfl rfl rfl <| ja (ii 0) rfl <| ja (ii i156) rfl ?_
   refine J.nil <| CJ.ret ?_
   obtain rfl := si h
   exact ⟨_, _, Res.three rfl ⟨_, _, rfl, Ld.agg (cs := [ii 0, ii 0, ii 0, ii 0, .bool false]) Tryz.underlying73 sz73 rfl (Rd.cls 0 0 rfl rfl)⟩ rfl rfl, ⟨0, 0, 0, 0, false, 0, i156, rfl, rfl, rfl⟩, (Hp.le_refl _), fun w hs => (Sep.dropAt 0 rfl hs)⟩
 refine CJ.skip <| CJ.seq <| cr <| jm (ii i154) rfl <| jv (.bool (decide (5 < i154))) (V.gtr rfl rfl) <| J.nil ?_
 refine cc rfl h (fun hc161 h => ?_) fun hc161 h => ?_
 · refine cr <| jv (.agg #[ii 0, ii 0, ii 0, ii 0, .bool false]) (V.build inf73 places73 rfl rfl) <| js [ii 0, ii 0, ii 0, ii 0, .bool false] sz73 rfl rfl rfl rfl rfl rfl <| ja (ii 0) rfl <| ja (ii 3) rfl <| J.nil ?_
   refine CJ.ret ?_
   obtain rfl := si h
   exact ⟨_, _, Res.three rfl ⟨_, _, rfl, Ld.agg (cs := [ii 0, ii 0, ii 0, ii 0, .bool false]) Tryz.underlying73 sz73 rfl (Rd.cls 0 0 rfl rfl)⟩ rfl rfl, ⟨0, 0, 0, 0, false, 0, 3, rfl, rfl, rfl⟩, (Hp.le_refl _), fun w hs => (Sep.dropAt 0 rfl hs)⟩
 refine CJ.skip <| cr <| jm (ii i154) rfl <| jv (.agg #[ii i154, ii 0, ii 0, ii 0, .bool false]) (V.build inf73 places73 rfl rfl) <| jal inf73 [ii 0, ii 0, ii 0, ii 0, .bool false] rfl fun b162 => js [ii i154, ii 0, ii 0, ii 0, .bool false] sz73 rfl rfl rfl rfl rfl rfl ?_
 refine J.nil <| CJ.seq ?_
 obtain ⟨o183, ho184, h⟩ := ob h
 refine CJ.joinN (o := o183) (fun s ρ K' L' => ∃ (i181 : Int) (i182 : Int), (i181, i182) = s ∧ Fits [(0, .string ⟨xa.toArray⟩), (2, .pointer (some ⟨b151, 0, none⟩)), (5, ii i154), (6, ii i181), (8, .pointer (some ⟨b162, 0, none⟩))] ρ ∧ K = K' ∧ L' = Cl b151 73 [ii 0, ii 0, ii 0, ii 0, .bool false] :: Cl b162 73 [ii i154, ii i182, ii 0, ii 0, .bool false] :: F) ?_ ?_
 · refine cr <| jm (ii i154) rfl ?_
   obtain ⟨r185, hr186, ho184⟩ := ob ho184
   refine J.op rfl (A.call (L1 := []) Tryz.call111 rfl (ref18_Dst_ok hr186) rfl rfl) ?_
   rintro _ _ _ ⟨v188, _, rfl, ⟨⟨t187, rfl, rfl, rfl⟩, rfl⟩, _, rfl⟩
   refine J.nil <| cc rfl ho184 (fun hc191 ho184 => ?_) fun hc191 ho184 => ?_
   · refine cr <| jm (.string ⟨xa.toArray⟩) rfl <| jm (ii i155) rfl ?_
     obtain ⟨y192, hy193, ho184⟩ := ob ho184
     refine jv (.string ⟨y192.toArray⟩) (V.subs Tryz.underlying9 rfl (fun _ h => by cases h; exact ⟨_, rfl⟩) nofun nofun (fun _ => rfl) hy193) ?_
     obtain ⟨r194, hr195, ho184⟩ := ob ho184
     refine J.op rfl (A.call (L1 := []) Tryz.call79 rfl (ref02_Take_ok hr195) rfl rfl) ?_
     rintro _ _ _ ⟨v199, _, rfl, ⟨⟨i196, i197, i198, rfl, rfl, rfl⟩, rfl⟩, _, rfl⟩
     refine jm (.tuple #[ii i196, ii i197, ii i198]) rfl <| jx (ii i196) rfl rfl <| jx (ii i197) rfl rfl <| jx (ii i198) rfl rfl <| ja (ii i196) rfl <| ja (ii i197) rfl <| ja (ii i198) rfl ?_
     refine J.nil <| CJ.seq <| cr <| jm (ii i198) rfl <| jv (.bool (!decide (i198 = 0))) (V.neq rfl rfl) <| J.nil ?_
     refine cc rfl ho184 (fun hc202 ho184 => ?_) fun hc202 ho184 => ?_
     · refine cr <| jv (.agg #[ii 0, ii 0, ii 0, ii 0, .bool false]) (V.build inf73 places73 rfl rfl) <| jm (ii i198) rfl <| J.front 1 rfl <| js [ii 0, ii 0, ii 0, ii 0, .bool false] sz73 rfl rfl rfl rfl rfl rfl <| ja (ii 0) rfl ?_
       refine ja (ii i198) rfl <| J.nil <| CJ.ret ?_
       obtain rfl := si ho184
       refine .inr ⟨nofun, ?_⟩
       obtain rfl := si h
       exact ⟨_, _, Res.three rfl ⟨_, _, rfl, Ld.agg (cs := [ii 0, ii 0, ii 0, ii 0, .bool false]) Tryz.underlying73 sz73 rfl (Rd.cls 0 0 rfl rfl)⟩ rfl rfl, ⟨0, 0, 0, 0, false, 0, i198, rfl, rfl, rfl⟩, (Hp.le_refl _), fun w hs => (Sep.dropAt 0 rfl (Sep.dropAt 0 rfl hs))⟩
     refine CJ.skip <| cr <| jm (ii i196) rfl <| jv _ (V.fad Tryz.underlying73 rfl nz3 rfl) <| js1 [ii i154, ii i196, ii 0, ii 0, .bool false] sz3 rfl rfl rfl rfl rfl rfl <| J.nil ?_
     refine CJ.region <| jm (ii i155) rfl <| jm (ii i197) rfl <| jv (ii (IntKind.wrap .i64 (i155 + i197))) (V.add rfl rfl) <| ja (ii (IntKind.wrap .i64 (i155 + i197))) rfl <| J.front 1 rfl <| J.nil ?_
     obtain rfl := si ho184
     exact .inl ⟨rfl, _, rfl, ⟨IntKind.wrap .i64 (i155 + i197), i196, rfl, ⟨rfl, rfl, rfl, rfl, rfl, trivial⟩, rfl, rfl⟩⟩
   refine CJ.front 1 rfl <| CJ.skip ?_
   obtain rfl := si ho184
   exact .inl ⟨rfl, _, rfl, ⟨i155, 0, rfl, ⟨rfl, rfl, rfl, rfl, rfl, trivial⟩, rfl, rfl⟩⟩
 rintro s ρ _ _ ho203 ⟨i181, i182, rfl, hf204, rfl, rfl⟩
 subst ho203
 obtain ⟨ρ, rfl⟩ := hf204.ex
 refine PJ.done <| CJ.seq ?_
 obtain ⟨o226, ho227, h⟩ := ob h
 refine CJ.joinN (o := o226) (fun s ρ K' L' => ∃ (i224 : Int) (i225 : Int), (i224, i225) = s ∧ Fits [(0, .string ⟨xa.toArray⟩), (2, .pointer (some ⟨b151, 0, none⟩)), (5, ii i154), (6, ii i224), (8, .pointer (some ⟨b162, 0, none⟩))] ρ ∧ K = K' ∧ L' = Cl b151 73 [ii 0, ii 0, ii 0, ii 0, .bool false] :: Cl b162 73 [ii i154, ii i182, ii i225, ii 0, .bool false] :: F) ?_ ?_
 · refine cr <| jm (ii i154) rfl ?_
   obtain ⟨r228, hr229, ho227⟩ := ob ho227
   refine J.op rfl (A.call (L1 := []) Tryz.call112 rfl (ref18_Src_ok hr229) rfl rfl) ?_
   rintro _ _ _ ⟨v231, _, rfl, ⟨⟨t230, rfl, rfl, rfl⟩, rfl⟩, _, rfl⟩
   refine J.nil <| cc rfl ho227 (fun hc234 ho227 => ?_) fun hc234 ho227 => ?_
   · refine cr <| jm (.string ⟨xa.toArray⟩) rfl <| jm (ii i181) rfl ?_
     obtain ⟨y235, hy236, ho227⟩ := ob ho227
     refine jv (.string ⟨y235.toArray⟩) (V.subs Tryz.underlying9 rfl (fun _ h => by cases h; exact ⟨_, rfl⟩) nofun nofun (fun _ => rfl) hy236) ?_
     obtain ⟨r237, hr238, ho227⟩ := ob ho227
     refine J.op rfl (A.call (L1 := []) Tryz.call79 rfl (ref02_Take_ok hr238) rfl rfl) ?_
     rintro _ _ _ ⟨v242, _, rfl, ⟨⟨i239, i240, i241, rfl, rfl, rfl⟩, rfl⟩, _, rfl⟩
     refine jm (.tuple #[ii i239, ii i240, ii i241]) rfl <| jx (ii i239) rfl rfl <| jx (ii i240) rfl rfl <| jx (ii i241) rfl rfl <| ja (ii i239) rfl <| ja (ii i240) rfl <| ja (ii i241) rfl ?_
     refine J.nil <| CJ.seq <| cr <| jm (ii i241) rfl <| jv (.bool (!decide (i241 = 0))) (V.neq rfl rfl) <| J.nil ?_
     refine cc rfl ho227 (fun hc245 ho227 => ?_) fun hc245 ho227 => ?_
     · refine cr <| jv (.agg #[ii 0, ii 0, ii 0, ii 0, .bool false]) (V.build inf73 places73 rfl rfl) <| jm (ii i241) rfl <| js [ii 0, ii 0, ii 0, ii 0, .bool false] sz73 rfl rfl rfl rfl rfl rfl <| ja (ii 0) rfl <| ja (ii i241) rfl ?_
       refine J.nil <| CJ.ret ?_
       obtain rfl := si ho227
       refine .inr ⟨nofun, ?_⟩
       obtain rfl := si h
       exact ⟨_, _, Res.three rfl ⟨_, _, rfl, Ld.agg (cs := [ii 0, ii 0, ii 0, ii 0, .bool false]) Tryz.underlying73 sz73 rfl (Rd.cls 0 0 rfl rfl)⟩ rfl rfl, ⟨0, 0, 0, 0, false, 0, i241, rfl, rfl, rfl⟩, (Hp.le_refl _), fun w hs => (Sep.dropAt 0 rfl (Sep.dropAt 0 rfl hs))⟩
     refine CJ.skip <| cr <| jm (ii i239) rfl <| jv _ (V.fad Tryz.underlying73 rfl nz3 rfl) <| J.front 1 rfl <| js1 [ii i154, ii i182, ii i239, ii 0, .bool false] sz3 rfl rfl rfl rfl rfl rfl ?_
     refine J.nil <| CJ.region <| jm (ii i181) rfl <| jm (ii i240) rfl <| jv (ii (IntKind.wrap .i64 (i181 + i240))) (V.add rfl rfl) <| ja (ii (IntKind.wrap .i64 (i181 + i240))) rfl <| J.front 1 rfl ?_
     refine J.nil ?_
     obtain rfl := si ho227
     exact .inl ⟨rfl, _, rfl, ⟨IntKind.wrap .i64 (i181 + i240), i239, rfl, ⟨rfl, rfl, rfl, rfl, rfl, trivial⟩, rfl, rfl⟩⟩
   refine CJ.skip ?_
   obtain rfl := si ho227
   exact .inl ⟨rfl, _, rfl, ⟨i181, 0, rfl, ⟨rfl, rfl, rfl, rfl, rfl, trivial⟩, rfl, rfl⟩⟩
 rintro s ρ _ _ ho246 ⟨i224, i225, rfl, hf247, rfl, rfl⟩
 subst ho246
 obtain ⟨ρ, rfl⟩ := hf247.ex
 refine PJ.done <| CJ.seq ?_
 obtain ⟨o270, ho271, h⟩ := ob h
 refine CJ.joinN (o := o270) (fun s ρ K' L' => ∃ (i267 : Int) (i268 : Int) (t269 : Bool), (i267, i268, t269) = s ∧ Fits [(2, .pointer (some ⟨b151, 0, none⟩)), (6, ii i267), (8, .pointer (some ⟨b162, 0, none⟩))] ρ ∧ K = K' ∧ L' = Cl b151 73 [ii 0, ii 0, ii 0, ii 0, .bool false] :: Cl b162 73 [ii i154, ii i182, ii i225, ii i268, .bool t269] :: F) ?_ ?_
 · refine cr <| jm (ii i154) rfl ?_
   obtain ⟨r272, hr273, ho271⟩ := ob ho271
   refine J.op rfl (A.call (L1 := []) Tryz.call113 rfl (ref18_Region_ok hr273) rfl rfl) ?_
   rintro _ _ _ ⟨v275, _, rfl, ⟨⟨t274, rfl, rfl, rfl⟩, rfl⟩, _, rfl⟩
   refine J.nil <| cc rfl ho271 (fun hc278 ho271 => ?_) fun hc278 ho271 => ?_
   · refine cr <| jm (.string ⟨xa.toArray⟩) rfl <| jm (ii i224) rfl ?_
     obtain ⟨y279, hy280, ho271⟩ := ob ho271
     refine jv (.string ⟨y279.toArray⟩) (V.subs Tryz.underlying9 rfl (fun _ h => by cases h; exact ⟨_, rfl⟩) nofun nofun (fun _ => rfl) hy280) ?_
     obtain ⟨r281, hr282, ho271⟩ := ob ho271
     refine J.op rfl (A.call (L1 := []) Tryz.call79 rfl (ref02_Take_ok hr282) rfl rfl) ?_
     rintro _ _ _ ⟨v286, _, rfl, ⟨⟨i283, i284, i285, rfl, rfl, rfl⟩, rfl⟩, _, rfl⟩
     refine jm (.tuple #[ii i283, ii i284, ii i285]) rfl <| jx (ii i283) rfl rfl <| jx (ii i284) rfl rfl <| jx (ii i285) rfl rfl <| ja (ii i283) rfl <| ja (ii i284) rfl <| ja (ii i285) rfl ?_
     refine J.nil <| CJ.seq <| cr <| jm (ii i285) rfl <| jv (.bool (!decide (i285 = 0))) (V.neq rfl rfl) <| J.nil ?_
     refine cc rfl ho271 (fun hc289 ho271 => ?_) fun hc289 ho271 => ?_
     · refine cr <| jv (.agg #[ii 0, ii 0, ii 0, ii 0, .bool false]) (V.build inf73 places73 rfl rfl) <| jm (ii i285) rfl <| js [ii 0, ii 0, ii 0, ii 0, .bool false] sz73 rfl rfl rfl rfl rfl rfl <| ja (ii 0) rfl <| ja (ii i285) rfl ?_
       refine J.nil <| CJ.ret ?_
       obtain rfl := si ho271
       refine .inr ⟨nofun, ?_⟩
       obtain rfl := si h
       exact ⟨_, _, Res.three rfl ⟨_, _, rfl, Ld.agg (cs := [ii 0, ii 0, ii 0, ii 0, .bool false]) Tryz.underlying73 sz73 rfl (Rd.cls 0 0 rfl rfl)⟩ rfl rfl, ⟨0, 0, 0, 0, false, 0, i285, rfl, rfl, rfl⟩, (Hp.le_refl _), fun w hs => (Sep.dropAt 0 rfl (Sep.dropAt 0 rfl hs))⟩
     refine CJ.skip <| cr <| jm (ii i283) rfl <| jv (ii (IntKind.wrap .i64 (Int.tdiv i283 2))) (V.quo rfl rfl (by decide)) <| jv _ (V.fad Tryz.underlying73 rfl nz3 rfl) <| J.front 1 rfl ?_
     refine js1 [ii i154, ii i182, ii i225, ii (IntKind.wrap .i64 (Int.tdiv i283 2)), .bool false] sz3 rfl rfl rfl rfl rfl rfl <| J.nil <| cr <| jm (ii i283) rfl <| jv (ii (Int.tmod i283 2)) (V.rem rfl rfl (by decide)) <| jv (.bool (decide ((Int.tmod i283 2) = 1))) (V.eql rfl rfl) ?_
     refine jv _ (V.fad Tryz.underlying73 rfl nz4 rfl) <| js1 [ii i154, ii i182, ii i225, ii (IntKind.wrap .i64 (Int.tdiv i283 2)), .bool (decide ((Int.tmod i283 2) = 1))] sz4 rfl rfl rfl rfl rfl rfl <| J.nil <| CJ.region <| jm (ii i224) rfl <| jm (ii i284) rfl <| jv (ii (IntKind.wrap .i64 (i224 + i284))) (V.add rfl rfl) ?_
     refine ja (ii (IntKind.wrap .i64 (i224 + i284))) rfl <| J.front 1 rfl <| J.nil ?_
     obtain rfl := si ho271
     exact .inl ⟨rfl, _, rfl, ⟨IntKind.wrap .i64 (i224 + i284), IntKind.wrap .i64 (Int.tdiv i283 2), decide ((Int.tmod i283 2) = 1), rfl, ⟨rfl, rfl, rfl, trivial⟩, rfl, rfl⟩⟩
   refine CJ.skip ?_
   obtain rfl := si ho271
   exact .inl ⟨rfl, _, rfl, ⟨i224, 0, false, rfl, ⟨rfl, rfl, rfl, trivial⟩, rfl, rfl⟩⟩
 rintro s ρ _ _ ho290 ⟨i267, i268, t269, rfl, hf291, rfl, rfl⟩
 subst ho290
 obtain ⟨ρ, rfl⟩ := hf291.ex
 refine PJ.done <| cr <| jv (.agg #[ii i154, ii i182, ii i225, ii i268, .bool t269]) (V.ld rfl (Ld.agg (cs := [ii i154, ii i182, ii i225, ii i268, .bool t269]) Tryz.underlying73 sz73 rfl (Rd.cls 1 0 rfl rfl))) <| jm (ii i267) rfl <| js [ii i154, ii i182, ii i225, ii i268, .bool t269] sz73 rfl rfl rfl rfl rfl rfl <| ja (ii i267) rfl ?_
 refine ja (ii 0) rfl <| J.nil <| CJ.ret ?_
 obtain rfl := si h
 exact ⟨_, _, Res.three rfl ⟨_, _, rfl, Ld.agg (cs := [ii i154, ii i182, ii i225, ii i268, .bool t269]) Tryz.underlying73 sz73 rfl (Rd.cls 0 0 rfl rfl)⟩ rfl rfl, ⟨i154, i182, i225, i268, t269, i267, 0, rfl, rfl, rfl⟩, (Hp.le_refl _), fun w hs => (Sep.dropAt 0 rfl (Sep.dropAt 0 rfl hs))⟩
noncomputable def fn_ref19_numbers_l1 (xa : (List UInt8)) (xb : Int) : ((List Int) × Int × Int) → Option (((List Int) × Int × Int) ⊕ (((List Int) × Int) ⊕ ((List Int) × Int × Int))) := fun ((l325, i330, i331) : ((List Int) × Int × Int)) => cond (decide (i331 < xb)) ((subL xa i330 (((xa.length : Nat) : Int))).bind fun y365 => (fn_ref02_Take y365).bind fun (i369, i370, i371) => cond (!decide (i371 = 0)) (some (.inr ((.inr (([], 0, i371)))))) ((app l325 ([i369] : List Int)).bind fun z380 => some (.inl ((z380, IntKind.wrap .i64 (i330 + i370), IntKind.wrap .i64 (i331 + 1)))))) (some (.inr ((.inl (l325, i330)))))
noncomputable def fn_ref19_numbers (xa : (List UInt8)) (xb : Int) : Option (((List Int) × Int × Int)) :=
  (loop (fn_ref19_numbers_l1 xa xb) ((([] : List Int), 0, 0)) : Option (((List Int) × Int) ⊕ ((List Int) × Int × Int))).bind fun o => match o with | .inr r => some r | .inl (l289, i294) => some ((l289, i294, 0))
set_option maxRecDepth 100000 in
set_option maxHeartbeats 4000000 in
theorem ref19_numbers_ok {K : Hp} {xa : (List UInt8)} {xb : Int}   {r : ((List Int) × Int × Int)} (h : fn_ref19_numbers xa xb = some r) :
    Tr Tryz.prog 116 #[.string ⟨xa.toArray⟩, ii xb] K [] (fun v K' L' => (∃ (l191 : (List Int)) (i196 : Int) (i197 : Int) (ad192 : Option Addr) (cp193 : Nat), (l191, i196, i197) = r ∧ .tuple #[.slice ad192 l191.length cp193, ii i196, ii i197] = v ∧ L' = [Row Hp.nil 3 (.int .i64) (.slice ad192 l191.length cp193) l191]) ∧ K = K') := by
 refine Tr.k <| Tr.of Tryz.func116 rfl Tryz.ntmps116 rfl fun E F => ?_
 unfold fn_ref19_numbers at h
 refine cr <| ja (nos) rfl <| ja (ii 0) rfl <| ja (ii 0) rfl <| J.nil <| CJ.seq ?_
 refine CJ.region ?_
 refine J.op rfl (A.lit (K0 := Hp.nil) (ty := (.int .i64)) (xs := ([] : List Int)) Tryz.underlying66 inf3 rfl (by decide) rfl rfl rfl rfl rfl (by decide)) ?_
 rintro _ _ _ ⟨b198, rfl, rfl, rfl⟩
 have hn199 : ([] : List Int) ≠ [] → ∃ g, (some ⟨b198, 0, none⟩ : Option Addr) = some ⟨g, 0, none⟩ := fun _ => ⟨b198, rfl⟩
 refine ja (.slice (some ⟨b198, 0, none⟩) (([] : List Int).length) 0) rfl <| J.nil <| cr <| ja (ii 0) rfl <| J.nil <| CJ.seq ?_
 refine cr <| ja (ii 0) rfl <| J.nil ?_
 obtain ⟨o295, ho296, h⟩ := ob h
 refine CJ.joinN (o := o295) (fun s ρ K' L' => ∃ (l289 : (List Int)) (i294 : Int) (ad290 : Option Addr) (cp291 : Nat), (l289, i294) = s ∧ Fits [(7, .slice ad290 l289.length cp291), (8, ii i294)] ρ ∧ K = K' ∧ L' = Row Hp.nil 3 (.int .i64) (.slice ad290 l289.length cp291) l289 :: F) ?_ ?_
 · refine CJ.block <| CJ.loop (fun s ρ K' L' => ∃ (l325 : (List Int)) (i330 : Int) (i331 : Int) (ad326 : Option Addr) (cp327 : Nat), (l325, i330, i331) = s ∧ Fits [(0, .string ⟨xa.toArray⟩), (1, ii xb), (7, .slice ad326 l325.length cp327), (8, ii i330), (9, ii i331)] ρ ∧ K = K' ∧ L' = Row Hp.nil 3 (.int .i64) (.slice ad326 l325.length cp327) l325 :: F) ho296 ⟨([] : List Int), 0, 0, (some ⟨b198, 0, none⟩), 0, rfl, ⟨rfl, rfl, rfl, rfl, rfl, trivial⟩, rfl, rfl⟩ ?_
   rintro s ρ _ _ r363 ⟨l325, i330, i331, ad326, cp327, rfl, hf361, rfl, rfl⟩ h360
   obtain ⟨ρ, rfl⟩ := hf361.ex
   refine CJ.wit Row.hn fun hn329 => CJ.seq <| cr <| jm (ii i331) rfl <| jm (ii xb) rfl <| jv (.bool (decide (i331 < xb))) (V.lss rfl rfl) ?_
   refine J.nil <| cc rfl h360 (fun hc364 h360 => ?_) fun hc364 h360 => ?_
   · refine CJ.skip <| CJ.seq <| CJ.block <| cr <| jm (.string ⟨xa.toArray⟩) rfl <| jm (ii i330) rfl ?_
     obtain ⟨y365, hy366, h360⟩ := ob h360
     refine jv (.string ⟨y365.toArray⟩) (V.subs Tryz.underlying9 rfl (fun _ h => by cases h; exact ⟨_, rfl⟩) nofun nofun (fun _ => rfl) hy366) ?_
     obtain ⟨r367, hr368, h360⟩ := ob h360
     refine J.op rfl (A.call (L1 := []) Tryz.call79 rfl (ref02_Take_ok hr368) rfl rfl) ?_
     rintro _ _ _ ⟨v372, _, rfl, ⟨⟨i369, i370, i371, rfl, rfl, rfl⟩, rfl⟩, _, rfl⟩
     refine jm (.tuple #[ii i369, ii i370, ii i371]) rfl <| jx (ii i369) rfl rfl <| jx (ii i370) rfl rfl <| jx (ii i371) rfl rfl <| ja (ii i369) rfl <| ja (ii i370) rfl <| ja (ii i371) rfl ?_
     refine J.nil <| CJ.seq <| cr <| jm (ii i371) rfl <| jv (.bool (!decide (i371 = 0))) (V.neq rfl rfl) <| J.nil ?_
     refine cc rfl h360 (fun hc375 h360 => ?_) fun hc375 h360 => ?_
     · refine cr <| jm (ii i371) rfl <| ja (nos) rfl <| ja (ii 0) rfl <| ja (ii i371) rfl <| J.nil ?_
       refine CJ.by (fun w hs => Sep.rowNil (e := 3) (t := (.int .i64)) hs) <| CJ.ret ?_
       obtain rfl := si h360
       refine ⟨nofun, fun e => ?_⟩
       subst e
       refine .inr ⟨nofun, ?_⟩
       obtain rfl := si h
       exact ⟨_, _, Res.three rfl rfl rfl rfl, ⟨[], 0, i371, none, 0, rfl, rfl, rfl⟩, (Hp.le_refl _), fun w hs => (Sep.dropAt 1 rfl hs)⟩
     refine CJ.skip <| cr <| jm (.slice ad326 l325.length cp327) rfl <| jm (ii i369) rfl ?_
     refine J.op rfl (A.lit (K0 := Hp.nil) (ty := (.int .i64)) (xs := ([i369] : List Int)) Tryz.underlying66 inf3 rfl (by decide) rfl rfl rfl ⟨_, _, rfl, rfl, rfl⟩ rfl (by decide)) ?_
     rintro _ _ _ ⟨b377, rfl, rfl, rfl⟩
     have hn378 : ([i369] : List Int) ≠ [] → ∃ g, (some ⟨b377, 0, none⟩ : Option Addr) = some ⟨g, 0, none⟩ := fun _ => ⟨b377, rfl⟩
     obtain ⟨z380, hz381, h360⟩ := ob h360
     refine J.front 1 rfl <| J.op rfl (A.appR (Kr := Hp.nil) Tryz.underlying66 inf3 rfl rfl (by decide) (by decide) rfl rfl (Els.flat rfl) (Els.flat rfl) hz381) ?_
     rintro _ _ _ ⟨v382, rfl, rfl, rfl⟩
     refine J.wit Row.form ?_
     rintro ⟨ad383, cp384, rfl, _, _, hn385⟩
     refine ja (.slice ad383 z380.length cp384) rfl <| J.nil <| CJ.region <| jm (ii i330) rfl <| jm (ii i370) rfl <| jv (ii (IntKind.wrap .i64 (i330 + i370))) (V.add rfl rfl) <| ja (ii (IntKind.wrap .i64 (i330 + i370))) rfl ?_
     refine J.nil <| CJ.region <| jm (ii i331) rfl <| jv (ii (IntKind.wrap .i64 (i331 + 1))) (V.add rfl rfl) <| ja (ii (IntKind.wrap .i64 (i331 + 1))) rfl <| J.nil ?_
     obtain rfl := si h360
     exact ⟨rfl, ⟨z380, IntKind.wrap .i64 (i330 + i370), IntKind.wrap .i64 (i331 + 1), ad383, cp384, rfl, ⟨rfl, rfl, rfl, rfl, rfl, trivial⟩, rfl, rfl⟩⟩
   refine CJ.exit ?_
   obtain rfl := si h360
   refine ⟨nofun, fun e => ?_⟩
   subst e
   exact .inl ⟨rfl, _, rfl, ⟨l325, i330, ad326, cp327, rfl, ⟨rfl, rfl, trivial⟩, rfl, rfl⟩⟩
 rintro s ρ _ _ ho386 ⟨l289, i294, ad290, cp291, rfl, hf387, rfl, rfl⟩
 subst ho386
 obtain ⟨ρ, rfl⟩ := hf387.ex
 refine PJ.wit Row.hn fun hn293 => PJ.done <| cr <| jm (.slice ad290 l289.length cp291) rfl <| jm (ii i294) rfl <| ja (.slice ad290 l289.length cp291) rfl ?_
 refine ja (ii i294) rfl <| ja (ii 0) rfl <| J.nil <| CJ.ret ?_
 obtain rfl := si h
 exact ⟨_, _, Res.three rfl rfl rfl rfl, ⟨l289, i294, 0, ad290, cp291, rfl, rfl, rfl⟩, (Hp.le_refl _), fun w hs => hs⟩

noncomputable def fn_ref19_taken (xa : (List UInt8)) : Option (((List Int) × Int × Int)) :=
  (fn_ref02_Take xa).bind fun (i36, i37, i38) => cond (!decide (i38 = 0)) (some (([], 0, i38))) (cond (decide (16 < i36)) (some (([], 0, 6))) ((subL xa i37 (((xa.length : Nat) : Int))).bind fun y46 => (fn_ref19_numbers y46 i36).bind fun (l50, i51, i52) => some ((l50, IntKind.wrap .i64 (i37 + i51), i52))))
set_option maxRecDepth 100000 in
set_option maxHeartbeats 4000000 in
theorem ref19_taken_ok {K : Hp} {xa : (List UInt8)}   {r : ((List Int) × Int × Int)} (h : fn_ref19_taken xa = some r) :
    Tr Tryz.prog 117 #[.string ⟨xa.toArray⟩] K [] (fun v K' L' => (∃ (l26 : (List Int)) (i31 : Int) (i33 : Int) (ad27 : Option Addr) (cp28 : Nat), (l26, i31, i33) = r ∧ .tuple #[.slice ad27 l26.length cp28, ii i31, ii i33] = v ∧ L' = [Row Hp.nil 3 (.int .i64) (.slice ad27 l26.length cp28) l26]) ∧ K = K') := by
 refine Tr.k <| Tr.of Tryz.func117 rfl Tryz.ntmps117 rfl fun E F => ?_
 unfold fn_ref19_taken at h
 refine cr <| ja (nos) rfl <| ja (ii 0) rfl <| ja (ii 0) rfl <| J.nil <| CJ.seq ?_
 refine CJ.region <| jm (.string ⟨xa.toArray⟩) rfl ?_
 obtain ⟨r34, hr35, h⟩ := ob h
 refine J.op rfl (A.call (L1 := []) Tryz.call79 rfl (ref02_Take_ok hr35) rfl rfl) ?_
 rintro _ _ _ ⟨v39, _, rfl, ⟨⟨i36, i37, i38, rfl, rfl, rfl⟩, rfl⟩, _, rfl⟩
 refine jm (.tuple #[ii i36, ii i37, ii i38]) rfl <| jx (ii i36) rfl rfl <| jx (ii i37) rfl rfl <| jx (ii i38) rfl rfl <| ja (ii i36) rfl <| ja (ii i37) rfl <| ja (ii i38) rfl ?_
 refine J.nil <| CJ.seq <| cr <| jm (ii i38) rfl <| jv (.bool (!decide (i38 = 0))) (V.neq rfl rfl) <| J.nil ?_
 refine cc rfl h (fun hc42 h => ?_) fun hc42 h => ?_
 · refine cr <| jm (ii i38) rfl <| ja (nos) rfl <| ja (ii 0) rfl <| ja (ii i38) rfl <| J.nil ?_
   refine CJ.by (fun w hs => Sep.rowNil (e := 3) (t := (.int .i64)) hs) <| CJ.ret ?_
   obtain rfl := si h
   exact ⟨_, _, Res.three rfl rfl rfl rfl, ⟨[], 0, i38, none, 0, rfl, rfl, rfl⟩, (Hp.le_refl _), fun w hs => hs⟩
 refine CJ.skip <| CJ.seq <| cr <| jm (ii i36) rfl <| jv (.bool (decide (16 < i36))) (V.gtr rfl rfl) <| J.nil ?_
 refine cc rfl h (fun hc44 h => ?_) fun hc44 h => ?_
 · refine cr <| ja (nos) rfl <| ja (ii 0) rfl <| ja (ii 6) rfl <| J.nil <| CJ.by (fun w hs => Sep.rowNil (e := 3) (t := (.int .i64)) hs) ?_
   refine CJ.ret ?_
   obtain rfl := si h
   exact ⟨_, _, Res.three rfl rfl rfl rfl, ⟨[], 0, 6, none, 0, rfl, rfl, rfl⟩, (Hp.le_refl _), fun w hs => hs⟩
 refine CJ.skip <| cr <| jm (.string ⟨xa.toArray⟩) rfl <| jm (ii i37) rfl ?_
 obtain ⟨y46, hy47, h⟩ := ob h
 refine jv (.string ⟨y46.toArray⟩) (V.subs Tryz.underlying9 rfl (fun _ h => by cases h; exact ⟨_, rfl⟩) nofun nofun (fun _ => rfl) hy47) <| jm (ii i36) rfl ?_
 obtain ⟨r48, hr49, h⟩ := ob h
 refine J.op rfl (A.call (L1 := []) Tryz.call116 rfl (ref19_numbers_ok hr49) rfl rfl) ?_
 rintro _ _ _ ⟨v56, _, rfl, ⟨⟨l50, i51, i52, ad53, cp54, rfl, rfl, rfl⟩, rfl⟩, _, rfl⟩
 refine J.wit Row.hn fun hn55 => jm (.tuple #[.slice ad53 l50.length cp54, ii i51, ii i52]) rfl <| jx (.slice ad53 l50.length cp54) rfl rfl <| jx (ii i51) rfl rfl <| jx (ii i52) rfl rfl <| ja (.slice ad53 l50.length cp54) rfl <| ja (ii i51) rfl ?_
 refine ja (ii i52) rfl <| J.nil <| cr <| jm (.slice ad53 l50.length cp54) rfl <| jm (ii i37) rfl <| jm (ii i51) rfl ?_
 refine jv (ii (IntKind.wrap .i64 (i37 + i51))) (V.add rfl rfl) <| jm (ii i52) rfl <| ja (.slice ad53 l50.length cp54) rfl <| ja (ii (IntKind.wrap .i64 (i37 + i51))) rfl <| ja (ii i52) rfl <| J.nil <| CJ.ret ?_
 obtain rfl := si h
 exact ⟨_, _, Res.three rfl rfl rfl rfl, ⟨l50, IntKind.wrap .i64 (i37 + i51), i52, ad53, cp54, rfl, rfl, rfl⟩, (Hp.le_refl _), fun w hs => hs⟩
end Go.Proofs.YtmdmdmaekjpfjaaGreat
