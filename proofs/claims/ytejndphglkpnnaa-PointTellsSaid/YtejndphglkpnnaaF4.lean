/- What Go functions answer: generated. -/
import Derived.Test.YtejndphglkpnnaaF3
namespace Go.Proofs.Ytejndphglkpnnaa
open Go.RowKit
set_option linter.unusedVariables false
set_option linter.unnecessarySimpa false
set_option linter.unusedSimpArgs false
set_option maxRecDepth 20000
noncomputable def fn_ref16_Again_l1 (xa : (List (Int × Bool))) (xd : Bool) : Int → Option (Int ⊕ (Unit ⊕ ((List (Int × Int × Int × Int × Bool)) × Int))) := fun (i447 : Int) => cond (decide (i447 < (((xa.length : Nat) : Int)))) ((cond (xd) ((getI xa i447).bind fun x491 => some (!x491.2)) (some (false))).bind fun t488 => cond (t488) (some (.inr ((.inr (([], 8)))))) (some (.inl (IntKind.wrap .i64 (i447 + 1))))) (some (.inr ((.inl ()))))
noncomputable def fn_ref16_Again (xa : (List (Int × Bool))) (xb : (List (Int × Bool))) (xc : Int) (xd : Bool) : Option (((List (Int × Int × Int × Int × Bool)) × Int)) :=
  (cond (decide ((((xa.length : Nat) : Int)) = 0)) (some (true)) ((fn_ref15_Shape xa xb).bind fun t313 => some (!t313))).bind fun t308 => (cond (t308) (some (true)) ((getI xa 0).bind fun x330 => some (x330.2))).bind fun t327 => cond (t327) (some (([], 8))) ((loop (fn_ref16_Again_l1 xa xd) 1 : Option (Unit ⊕ ((List (Int × Int × Int × Int × Bool)) × Int))).bind fun o => match o with | .inr r => some r | .inl () => (getI xa 0).bind fun x526 => (getI xb 0).bind fun x535 => (subL xa 1 (((xa.length : Nat) : Int))).bind fun y570 => (subL xb 1 (((xb.length : Nat) : Int))).bind fun y576 => (fn_ref16_slots_rkkii y570 y576 1 1 (([(x526.1, xc, 3, 0, false), (xc, x535.1, 2, 0, false)] : List (Int × Int × Int × Int × Bool)))).bind fun l584 => some ((l584, 0)))
set_option maxRecDepth 100000 in
set_option maxHeartbeats 4000000 in
theorem ref16_Again_ok {K : Hp} {xa : (List (Int × Bool))} {xb : (List (Int × Bool))} {xc : Int} {xd : Bool} {adxa_0 : Option Addr} {cpxa_0 : Nat} {adxb_0 : Option Addr} {cpxb_0 : Nat} (fxa_0 : Is K (.sl (.cons (.int .i64) (.one .bool))) [.slice adxa_0 xa.length cpxa_0] xa) (fxb_0 : Is K (.sl (.cons (.int .i64) (.one .bool))) [.slice adxb_0 xb.length cpxb_0] xb) {r : ((List (Int × Int × Int × Int × Bool)) × Int)} (h : fn_ref16_Again xa xb xc xd = some r) :
    Tr Try.prog 63 #[.agg #[.slice adxa_0 xa.length cpxa_0], .agg #[.slice adxb_0 xb.length cpxb_0], ii xc, .bool xd] K [] (fun v K' L' => (∃ (l293 : (List (Int × Int × Int × Int × Bool))) (i298 : Int) (ad294 : Option Addr) (cp295 : Nat), (l293, i298) = r ∧ .tuple #[.slice ad294 l293.length cp295, ii i298] = v ∧ L' = [Row Hp.nil 121 (.cons (.int .i64) (.cons (.int .i64) (.cons (.int .i64) (.cons (.int .i64) (.one .bool))))) (.slice ad294 l293.length cp295) l293]) ∧ K = K') := by
 refine Tr.k <| Tr.of Try.func63 rfl Try.ntmps63 rfl fun E F => ?_
 unfold fn_ref16_Again at h
 refine CJ.seq <| CJ.region <| jbx [.slice adxa_0 xa.length cpxa_0] rfl rfl fun b299 => jbx [.slice adxb_0 xb.length cpxb_0] rfl rfl fun b300 => ja (.slice none 0 0) rfl <| ja (ii 0) rfl <| J.nil ?_
 refine CJ.seq <| CJ.seq <| CJ.region <| jv _ (V.fad Try.underlying26 rfl nz24 rfl) <| jv (.slice adxa_0 xa.length cpxa_0) (V.ld rfl (Ld.sc sc24 (Rd.cl 1 rfl rfl))) <| jv (ii (((xa.length : Nat) : Int))) (V.len Try.underlying24 rfl) <| jv (.bool (decide ((((xa.length : Nat) : Int)) = 0))) (V.eql rfl rfl) ?_
 refine jm (.bool (decide ((((xa.length : Nat) : Int)) = 0))) rfl <| J.cut 5 ?_
 obtain ⟨t308, ht309, h⟩ := ob h
 refine jmeet [(21, .bool t308), (2, ii xc), (3, .bool xd), (4, .pointer (some ⟨b299, 0, none⟩)), (5, .pointer (some ⟨b300, 0, none⟩))] ?_ ?_
 · rcases bt (decide ((((xa.length : Nat) : Int)) = 0)) with hc310 | hc310
   · have ht309 := ct hc310 ht309
     refine J.skip rfl rfl rfl rfl hc310 <| J.skip rfl rfl rfl rfl hc310 <| J.skip rfl rfl rfl rfl hc310 <| J.skip rfl rfl rfl rfl hc310 <| jv (.bool true) (V.pickT rfl hc310 rfl) <| J.nil ?_
     obtain rfl := si ht309
     exact ⟨rfl, ⟨rfl, rfl, rfl, rfl, rfl, trivial⟩, rfl, rfl⟩
   have ht309 := cf hc310 ht309
   refine J.run rfl rfl rfl hc310 <| jv (.agg #[.slice adxa_0 xa.length cpxa_0]) (V.ld rfl (Ld.agg (cs := [.slice adxa_0 xa.length cpxa_0]) Try.underlying26 sz26 rfl (Rd.cls 1 0 rfl rfl))) <| J.run rfl rfl rfl hc310 <| jv (.agg #[.slice adxb_0 xb.length cpxb_0]) (V.ld rfl (Ld.agg (cs := [.slice adxb_0 xb.length cpxb_0]) Try.underlying26 sz26 rfl (Rd.cls 0 0 rfl rfl))) <| J.run rfl rfl rfl hc310 ?_
   obtain ⟨r311, hr312, ht309⟩ := ob ht309
   refine J.op rfl (A.call (L1 := []) Try.call47 rfl (ref15_Shape_ok fxa_0 fxb_0 hr312) rfl rfl) ?_
   rintro _ _ _ ⟨v314, _, rfl, ⟨⟨t313, rfl, rfl, rfl⟩, rfl⟩, _, rfl⟩
   refine J.run rfl rfl rfl hc310 <| jv (.bool (!t313)) (V.not rfl) <| jv (.bool (!t313)) (V.pickF rfl hc310 rfl) <| J.nil ?_
   obtain rfl := si ht309
   exact ⟨rfl, ⟨rfl, rfl, rfl, rfl, rfl, trivial⟩, rfl, rfl⟩
 intro ρ
 refine jm (.bool t308) rfl <| J.cut 6 ?_
 obtain ⟨t327, ht328, h⟩ := ob h
 refine jmeet [(28, .bool t327), (2, ii xc), (3, .bool xd), (4, .pointer (some ⟨b299, 0, none⟩)), (5, .pointer (some ⟨b300, 0, none⟩))] ?_ ?_
 · rcases bt (t308) with hc329 | hc329
   · have ht328 := ct hc329 ht328
     refine J.skip rfl rfl rfl rfl hc329 <| J.skip rfl rfl rfl rfl hc329 <| J.skip rfl rfl rfl rfl hc329 <| J.skip rfl rfl rfl rfl hc329 <| J.skip rfl rfl rfl rfl hc329 <| jv (.bool true) (V.pickT rfl hc329 rfl) <| J.nil ?_
     obtain rfl := si ht328
     exact ⟨rfl, ⟨rfl, rfl, rfl, rfl, rfl, trivial⟩, rfl, rfl⟩
   have ht328 := cf hc329 ht328
   refine J.run rfl rfl rfl hc329 <| jv _ (V.fad Try.underlying26 rfl nz24 rfl) <| J.run rfl rfl rfl hc329 <| jv (.slice adxa_0 xa.length cpxa_0) (V.ld rfl (Ld.sc sc24 (Rd.cl 1 rfl rfl))) <| J.run rfl rfl rfl hc329 ?_
   obtain ⟨x330, hx331, ht328⟩ := ob ht328
   obtain ⟨p332, p333, p334⟩ := getI_some hx331
   obtain ⟨b335, o336, e337, a338⟩ := (fxa_0).at p333
   refine jv _ (V.iad Try.underlying24 sz96 rfl e337 rfl p332 p334) <| J.run rfl rfl rfl hc329 <| jv _ (V.fad Try.underlying96 rfl nz4 rfl) <| J.run rfl rfl rfl hc329 <| jv (.bool x330.2) (V.ld rfl (Ld.sc sc4 (Rd.k (((a338).snd).one).bool (Hp.le_refl _)))) <| jv (.bool x330.2) (V.pickF rfl hc329 rfl) <| J.nil ?_
   obtain rfl := si ht328
   exact ⟨rfl, ⟨rfl, rfl, rfl, rfl, rfl, trivial⟩, rfl, rfl⟩
 intro ρ
 refine J.nil <| cc rfl h (fun hc339 h => ?_) fun hc339 h => ?_
 · refine CJ.seq <| CJ.region <| ja (.slice none 0 0) rfl <| ja (ii 8) rfl <| J.nil <| CJ.by (fun w hs => Sep.rowNil (e := 121) (t := (.cons (.int .i64) (.cons (.int .i64) (.cons (.int .i64) (.cons (.int .i64) (.one .bool)))))) hs) <| CJ.ret ?_
   obtain rfl := si h
   exact ⟨_, _, Res.two rfl rfl rfl, ⟨[], 8, none, 0, rfl, rfl, rfl⟩, (Hp.le_refl _), fun w hs => (Sep.dropAt 1 rfl (Sep.dropAt 1 rfl hs))⟩
 refine CJ.skip <| CJ.seq <| CJ.seq <| CJ.region <| ja (ii 1) rfl <| J.nil ?_
 obtain ⟨o420, ho421, h⟩ := ob h
 refine CJ.joinN (o := o420) (fun s ρ K' L' => () = s ∧ Fits [(2, ii xc), (4, .pointer (some ⟨b299, 0, none⟩)), (5, .pointer (some ⟨b300, 0, none⟩))] ρ ∧ K = K' ∧ L' = Cl b299 26 [.slice adxa_0 xa.length cpxa_0] :: Cl b300 26 [.slice adxb_0 xb.length cpxb_0] :: F) ?_ ?_
 · refine CJ.block <| CJ.front 1 rfl <| CJ.loop (fun s ρ K' L' => ∃ (i447 : Int), i447 = s ∧ Fits [(2, ii xc), (3, .bool xd), (4, .pointer (some ⟨b299, 0, none⟩)), (5, .pointer (some ⟨b300, 0, none⟩)), (10, ii i447)] ρ ∧ K = K' ∧ L' = Cl b299 26 [.slice adxa_0 xa.length cpxa_0] :: Cl b300 26 [.slice adxb_0 xb.length cpxb_0] :: F) ho421 ⟨1, rfl, ⟨rfl, rfl, rfl, rfl, rfl, trivial⟩, rfl, rfl⟩ ?_
   rintro s ρ _ _ r476 ⟨i447, rfl, hf474, rfl, rfl⟩ h473
   obtain ⟨ρ, rfl⟩ := hf474.ex
   refine CJ.seq <| CJ.seq <| CJ.region <| jm (ii i447) rfl <| jv _ (V.fad Try.underlying26 rfl nz24 rfl) <| jv (.slice adxa_0 xa.length cpxa_0) (V.ld rfl (Ld.sc sc24 (Rd.cl 0 rfl rfl))) <| jv (ii (((xa.length : Nat) : Int))) (V.len Try.underlying24 rfl) ?_
   refine jv (.bool (decide (i447 < (((xa.length : Nat) : Int))))) (V.lss rfl rfl) <| J.nil <| cc rfl h473 (fun hc477 h473 => ?_) fun hc477 h473 => ?_
   · refine CJ.skip <| CJ.seq <| CJ.block <| CJ.seq <| CJ.region <| jm (.bool xd) rfl <| jm (.bool xd) rfl ?_
     refine J.cut 8 ?_
     obtain ⟨t488, ht489, h473⟩ := ob h473
     refine jmeet [(45, .bool t488), (2, ii xc), (3, .bool xd), (4, .pointer (some ⟨b299, 0, none⟩)), (5, .pointer (some ⟨b300, 0, none⟩)), (10, ii i447)] ?_ ?_
     · rcases bt (xd) with hc490 | hc490
       · have ht489 := ct hc490 ht489
         refine J.run rfl rfl rfl hc490 <| jv _ (V.fad Try.underlying26 rfl nz24 rfl) <| J.run rfl rfl rfl hc490 <| jv (.slice adxa_0 xa.length cpxa_0) (V.ld rfl (Ld.sc sc24 (Rd.cl 0 rfl rfl))) <| J.run rfl rfl rfl hc490 <| jm (ii i447) rfl <| J.run rfl rfl rfl hc490 ?_
         obtain ⟨x491, hx492, ht489⟩ := ob ht489
         obtain ⟨p493, p494, p495⟩ := getI_some hx492
         obtain ⟨b496, o497, e498, a499⟩ := (fxa_0).at p494
         refine jv _ (V.iad Try.underlying24 sz96 rfl e498 rfl p493 p495) <| J.run rfl rfl rfl hc490 <| jv _ (V.fad Try.underlying96 rfl nz4 rfl) <| J.run rfl rfl rfl hc490 <| jv (.bool x491.2) (V.ld rfl (Ld.sc sc4 (Rd.k (((a499).snd).one).bool (Hp.le_refl _)))) <| J.run rfl rfl rfl hc490 <| jv (.bool (!x491.2)) (V.not rfl) ?_
         refine jv (.bool (!x491.2)) (V.pickT rfl hc490 rfl) <| J.nil ?_
         obtain rfl := si ht489
         exact ⟨rfl, ⟨rfl, rfl, rfl, rfl, rfl, rfl, trivial⟩, rfl, rfl⟩
       have ht489 := cf hc490 ht489
       refine J.skip rfl rfl rfl rfl hc490 <| J.skip rfl rfl rfl rfl hc490 <| J.skip rfl rfl rfl rfl hc490 <| J.skip rfl rfl rfl rfl hc490 <| J.skip rfl rfl rfl rfl hc490 <| J.skip rfl rfl rfl rfl hc490 <| J.skip rfl rfl rfl rfl hc490 ?_
       refine jv (.bool false) (V.pickF rfl hc490 rfl) <| J.nil ?_
       obtain rfl := si ht489
       exact ⟨rfl, ⟨rfl, rfl, rfl, rfl, rfl, rfl, trivial⟩, rfl, rfl⟩
     intro ρ
     refine J.nil <| cc rfl h473 (fun hc500 h473 => ?_) fun hc500 h473 => ?_
     · refine CJ.seq <| CJ.region <| ja (.slice none 0 0) rfl <| ja (ii 8) rfl <| J.nil <| CJ.by (fun w hs => Sep.rowNil (e := 121) (t := (.cons (.int .i64) (.cons (.int .i64) (.cons (.int .i64) (.cons (.int .i64) (.one .bool)))))) hs) <| CJ.ret ?_
       obtain rfl := si h473
       refine ⟨nofun, fun e => ?_⟩
       subst e
       refine .inr ⟨nofun, ?_⟩
       obtain rfl := si h
       exact ⟨_, _, Res.two rfl rfl rfl, ⟨[], 8, none, 0, rfl, rfl, rfl⟩, (Hp.le_refl _), fun w hs => (Sep.dropAt 1 rfl (Sep.dropAt 1 rfl hs))⟩
     refine CJ.skip <| CJ.region <| jm (ii i447) rfl <| jv (ii (IntKind.wrap .i64 (i447 + 1))) (V.add rfl rfl) <| ja (ii (IntKind.wrap .i64 (i447 + 1))) rfl <| J.nil ?_
     obtain rfl := si h473
     exact ⟨rfl, ⟨IntKind.wrap .i64 (i447 + 1), rfl, ⟨rfl, rfl, rfl, rfl, rfl, trivial⟩, rfl, rfl⟩⟩
   refine CJ.exit ?_
   obtain rfl := si h473
   refine ⟨nofun, fun e => ?_⟩
   subst e
   exact .inl ⟨rfl, _, rfl, ⟨rfl, ⟨rfl, rfl, rfl, trivial⟩, rfl, rfl⟩⟩
 rintro s ρ _ _ ho502 ⟨rfl, hf503, rfl, rfl⟩
 subst ho502
 obtain ⟨ρ, rfl⟩ := hf503.ex
 refine PJ.done <| CJ.seq <| CJ.mix [Cl b299 26 [.slice adxa_0 xa.length cpxa_0], Cl b300 26 [.slice adxb_0 xb.length cpxb_0]] [([0, 1, 2, 3, 4, 5, 6, 7, 8, 9, 10, 11, 12, 13], 14)] [15] [] mixO (by decide +kernel) ⟨0, rfl, 0, rfl, trivial⟩ rfl rfl rfl <| JM.cons <| qv _ (V.fad Try.underlying26 rfl nz24 rfl) <| qv (.slice adxa_0 xa.length cpxa_0) (V.ld rfl (Ld.sc sc24 (Rd.cl 0 rfl rfl))) ?_
 obtain ⟨x526, hx527, h⟩ := ob h
 obtain ⟨p528, p529, p530⟩ := getI_some hx527
 obtain ⟨b531, o532, e533, a534⟩ := (fxa_0).at p529
 refine qv _ (V.iad Try.underlying24 sz96 rfl e533 rfl p528 p530) <| qv _ (V.fad Try.underlying96 rfl nz3 rfl) <| qv (ii x526.1) (V.ld rfl (Ld.sc sc3 (Rd.k ((a534).fst).int (Hp.le_refl _)))) <| qm (ii xc) rfl <| qv (.agg #[ii x526.1, ii xc, ii 3, ii 0, .bool false]) (V.build inf121 places121 rfl rfl) <| qm (ii xc) rfl <| qv _ (V.fad Try.underlying26 rfl nz24 rfl) ?_
 refine qv (.slice adxb_0 xb.length cpxb_0) (V.ld rfl (Ld.sc sc24 (Rd.cl 1 rfl rfl))) ?_
 obtain ⟨x535, hx536, h⟩ := ob h
 obtain ⟨p537, p538, p539⟩ := getI_some hx536
 obtain ⟨b540, o541, e542, a543⟩ := (fxb_0).at p538
 refine qv _ (V.iad Try.underlying24 sz96 rfl e542 rfl p537 p539) <| qv _ (V.fad Try.underlying96 rfl nz3 rfl) <| qv (ii x535.1) (V.ld rfl (Ld.sc sc3 (Rd.k ((a543).fst).int (Hp.le_refl _)))) <| qv (.agg #[ii xc, ii x535.1, ii 2, ii 0, .bool false]) (V.build inf121 places121 rfl rfl) <| JQ.nil ?_
 refine JA.op rfl (A.lit (K0 := Hp.nil) (ty := (.cons (.int .i64) (.cons (.int .i64) (.cons (.int .i64) (.cons (.int .i64) (.one .bool)))))) (xs := ([(x526.1, xc, 3, 0, false), (xc, x535.1, 2, 0, false)] : List (Int × Int × Int × Int × Bool))) Try.underlying90 inf121 rfl (by decide) rfl rfl rfl ⟨_, _, rfl, ⟨_, _, rfl, rfl, rfl, ⟨_, _, rfl, rfl, rfl, ⟨_, _, rfl, rfl, rfl, ⟨_, _, rfl, rfl, rfl, rfl⟩⟩⟩⟩, ⟨_, _, rfl, ⟨_, _, rfl, rfl, rfl, ⟨_, _, rfl, rfl, rfl, ⟨_, _, rfl, rfl, rfl, ⟨_, _, rfl, rfl, rfl, rfl⟩⟩⟩⟩, rfl⟩⟩ rfl (by decide)) ?_
 rintro _ _ _ ⟨b544, rfl, rfl, rfl⟩
 have hn545 : ([(x526.1, xc, 3, 0, false), (xc, x535.1, 2, 0, false)] : List (Int × Int × Int × Int × Bool)) ≠ [] → ∃ g, (some ⟨b544, 0, none⟩ : Option Addr) = some ⟨g, 0, none⟩ := fun _ => ⟨b544, rfl⟩
 refine ⟨fun w hs => Hold.sub (Hp.le_refl _) ⟨1, rfl, 1, rfl, trivial⟩ hs, ?_⟩
 refine JM.nil <| qa (.slice (some ⟨b544, 0, none⟩) ((([(x526.1, xc, 3, 0, false), (xc, x535.1, 2, 0, false)] : List (Int × Int × Int × Int × Bool))).length) 2) rfl <| JQ.nil <| J.nil <| CJ.seq <| CJ.mix [Cl b299 26 [.slice adxa_0 xa.length cpxa_0], Cl b300 26 [.slice adxb_0 xb.length cpxb_0]] [([0, 1, 2, 3, 4, 5, 6], 7)] [8, 9] [] mixO (by decide +kernel) ⟨1, rfl, 1, rfl, trivial⟩ rfl rfl rfl <| JM.cons ?_
 refine qm (.slice (some ⟨b544, 0, none⟩) ((([(x526.1, xc, 3, 0, false), (xc, x535.1, 2, 0, false)] : List (Int × Int × Int × Int × Bool))).length) 2) rfl <| qv _ (V.fad Try.underlying26 rfl nz24 rfl) <| qv (.slice adxa_0 xa.length cpxa_0) (V.ld rfl (Ld.sc sc24 (Rd.cl 0 rfl rfl))) ?_
 obtain ⟨y570, hy571, h⟩ := ob h
 obtain ⟨ad572, cp573, hv574, f575⟩ := V.subI (tp := (.cons (.int .i64) (.one .bool))) Try.underlying24 sz96 fxa_0 hy571
 refine qv (.slice ad572 y570.length cp573) (hv574 rfl (fun _ h => by cases h; exact ⟨_, rfl⟩) nofun nofun (fun _ => rfl)) <| qv _ (V.fad Try.underlying26 rfl nz24 rfl) <| qv (.slice adxb_0 xb.length cpxb_0) (V.ld rfl (Ld.sc sc24 (Rd.cl 1 rfl rfl))) ?_
 obtain ⟨y576, hy577, h⟩ := ob h
 obtain ⟨ad578, cp579, hv580, f581⟩ := V.subI (tp := (.cons (.int .i64) (.one .bool))) Try.underlying24 sz96 fxb_0 hy577
 refine qv (.slice ad578 y576.length cp579) (hv580 rfl (fun _ h => by cases h; exact ⟨_, rfl⟩) nofun nofun (fun _ => rfl)) <| JQ.nil ?_
 obtain ⟨r582, hr583, h⟩ := ob h
 refine JA.op rfl (A.call (L1 := [Row Hp.nil 121 (.cons (.int .i64) (.cons (.int .i64) (.cons (.int .i64) (.cons (.int .i64) (.one .bool))))) (.slice (some ⟨b544, 0, none⟩) ((([(x526.1, xc, 3, 0, false), (xc, x535.1, 2, 0, false)] : List (Int × Int × Int × Int × Bool))).length) 2) (([(x526.1, xc, 3, 0, false), (xc, x535.1, 2, 0, false)] : List (Int × Int × Int × Int × Bool)))]) Try.call77 rfl (ref16_slots_rkkii_ok f575 f581 hr583) rfl rfl) ?_
 rintro _ _ _ ⟨v588, _, rfl, ⟨⟨l584, ad585, cp586, rfl, rfl, rfl⟩, rfl⟩, _, rfl⟩
 refine ⟨fun w hs => Hold.sub (Hp.le_refl _) ⟨1, rfl, 1, rfl, trivial⟩ hs, ?_⟩
 refine JM.wit Row.hn fun hn587 => JM.nil <| qa (.slice ad585 l584.length cp586) rfl <| qa (ii 0) rfl <| JQ.nil <| J.nil <| CJ.ret ?_
 obtain rfl := si h
 exact ⟨_, _, Res.two rfl rfl rfl, ⟨l584, 0, ad585, cp586, rfl, rfl, rfl⟩, (Hp.le_refl _), fun w hs => (Sep.dropAt 1 rfl (Sep.dropAt 1 rfl hs))⟩

noncomputable def fn_ref18_Needs (xa : (Int × Int × Int × Int × Bool)) (xb : (List (List (Int × Bool)))) (xc : Int) : Option (((List (Int × Int × Int × Int × Bool)) × Int)) :=
  (fn_ref18_Form (xa.1, xa.2.1, xa.2.2.1, xa.2.2.2.1, xa.2.2.2.2)).bind fun t327 => cond (!t327) (some (([], 3))) ((fn_ref18_Dst xa.1).bind fun t335 => (cond (t335 && ((decide (xa.2.1 < 0)) || (decide ((((xb.length : Nat) : Int)) ≤ xa.2.1)))) (some (true)) ((fn_ref18_Src xa.1).bind fun t369 => some (t369 && ((decide (xa.2.2.1 < 0)) || (decide ((((xb.length : Nat) : Int)) ≤ xa.2.2.1)))))).bind fun t364 => (cond (t364) (some (true)) ((fn_ref18_Region xa.1).bind fun t403 => some (t403 && ((decide (xa.2.2.2.1 < 0)) || (decide (xc ≤ xa.2.2.2.1)))))).bind fun t398 => cond (t398) (some (([], 7))) (cond (decide (xa.1 = 1)) ((getI xb xa.2.2.1).bind fun x456 => (getI xb xa.2.1).bind fun x469 => (fn_ref16_Flow x456 x469 1 0).bind fun (l484, i485) => some ((l484, i485))) (cond (decide (xa.1 = 2)) ((getI xb xa.2.2.1).bind fun x531 => (getI xb xa.2.1).bind fun x544 => (fn_ref16_Loan x531 x544 xa.2.2.2.1 xa.2.2.2.2).bind fun (l559, i560) => some ((l559, i560))) (cond (decide (xa.1 = 3)) ((getI xb xa.2.2.1).bind fun x606 => (getI xb xa.2.1).bind fun x619 => (fn_ref16_Again x606 x619 xa.2.2.2.1 xa.2.2.2.2).bind fun (l634, i635) => some ((l634, i635))) (some (([], 0)))))))
set_option maxRecDepth 100000 in
set_option maxHeartbeats 4000000 in
theorem ref18_Needs_ok {K : Hp} {xa : (Int × Int × Int × Int × Bool)} {xb : (List (List (Int × Bool)))} {xc : Int} {adxb_0 : Option Addr} {cpxb_0 : Nat} (fxb_0 : Is K (.sl (.one (.sl (.cons (.int .i64) (.one .bool))))) [.slice adxb_0 xb.length cpxb_0] xb) {r : ((List (Int × Int × Int × Int × Bool)) × Int)} (h : fn_ref18_Needs xa xb xc = some r) :
    Tr Try.prog 49 #[.agg #[ii xa.1, ii xa.2.1, ii xa.2.2.1, ii xa.2.2.2.1, .bool xa.2.2.2.2], .slice adxb_0 xb.length cpxb_0, ii xc] K [] (fun v K' L' => (∃ (l318 : (List (Int × Int × Int × Int × Bool))) (i323 : Int) (ad319 : Option Addr) (cp320 : Nat), (l318, i323) = r ∧ .tuple #[.slice ad319 l318.length cp320, ii i323] = v ∧ L' = [Row Hp.nil 121 (.cons (.int .i64) (.cons (.int .i64) (.cons (.int .i64) (.cons (.int .i64) (.one .bool))))) (.slice ad319 l318.length cp320) l318]) ∧ K = K') := by
 refine Tr.k <| Tr.of Try.func49 rfl Try.ntmps49 rfl fun E F => ?_
 unfold fn_ref18_Needs at h
 refine CJ.seq <| CJ.region <| jbx [ii xa.1, ii xa.2.1, ii xa.2.2.1, ii xa.2.2.2.1, .bool xa.2.2.2.2] rfl rfl fun b324 => ja (.slice none 0 0) rfl <| ja (ii 0) rfl <| J.nil <| CJ.seq ?_
 refine CJ.seq <| CJ.region <| jv (.agg #[ii xa.1, ii xa.2.1, ii xa.2.2.1, ii xa.2.2.2.1, .bool xa.2.2.2.2]) (V.ld rfl (Ld.agg (cs := [ii xa.1, ii xa.2.1, ii xa.2.2.1, ii xa.2.2.2.1, .bool xa.2.2.2.2]) Try.underlying60 sz60 rfl (Rd.cls 0 0 rfl rfl))) ?_
 obtain ⟨r325, hr326, h⟩ := ob h
 refine J.op rfl (A.call (L1 := []) Try.call57 rfl (ref18_Form_ok hr326) rfl rfl) ?_
 rintro _ _ _ ⟨v328, _, rfl, ⟨⟨t327, rfl, rfl, rfl⟩, rfl⟩, _, rfl⟩
 refine jv (.bool (!t327)) (V.not rfl) <| J.nil <| cc rfl h (fun hc331 h => ?_) fun hc331 h => ?_
 · refine CJ.seq <| CJ.region <| ja (.slice none 0 0) rfl <| ja (ii 3) rfl <| J.nil <| CJ.by (fun w hs => Sep.rowNil (e := 121) (t := (.cons (.int .i64) (.cons (.int .i64) (.cons (.int .i64) (.cons (.int .i64) (.one .bool)))))) hs) <| CJ.ret ?_
   obtain rfl := si h
   exact ⟨_, _, Res.two rfl rfl rfl, ⟨[], 3, none, 0, rfl, rfl, rfl⟩, (Hp.le_refl _), fun w hs => (Sep.dropAt 1 rfl hs)⟩
 refine CJ.skip <| CJ.seq <| CJ.seq <| CJ.region <| jv _ (V.fad Try.underlying60 rfl nz3 rfl) <| jv (ii xa.1) (V.ld rfl (Ld.sc sc3 (Rd.cl 0 rfl rfl))) ?_
 obtain ⟨r333, hr334, h⟩ := ob h
 refine J.op rfl (A.call (L1 := []) Try.call58 rfl (ref18_Dst_ok hr334) rfl rfl) ?_
 rintro _ _ _ ⟨v336, _, rfl, ⟨⟨t335, rfl, rfl, rfl⟩, rfl⟩, _, rfl⟩
 refine jm (.bool t335) rfl <| J.cut 11 <| jmeet [(25, .bool (t335 && ((decide (xa.2.1 < 0)) || (decide ((((xb.length : Nat) : Int)) ≤ xa.2.1))))), (1, .slice adxb_0 xb.length cpxb_0), (2, ii xc), (3, .pointer (some ⟨b324, 0, none⟩))] ?_ ?_
 · rcases bt (t335) with hc344 | hc344
   · refine J.run rfl rfl rfl hc344 <| jv _ (V.fad Try.underlying60 rfl nz3 rfl) <| J.run rfl rfl rfl hc344 <| jv (ii xa.2.1) (V.ld rfl (Ld.sc sc3 (Rd.cl 0 rfl rfl))) <| J.run rfl rfl rfl hc344 <| jv (.bool (decide (xa.2.1 < 0))) (V.lss rfl rfl) <| J.run rfl rfl rfl hc344 ?_
     refine jm (.bool (decide (xa.2.1 < 0))) rfl <| J.cut 6 <| jmeet [(24, .bool ((decide (xa.2.1 < 0)) || (decide ((((xb.length : Nat) : Int)) ≤ xa.2.1)))), (1, .slice adxb_0 xb.length cpxb_0), (2, ii xc), (3, .pointer (some ⟨b324, 0, none⟩)), (14, .bool t335)] ?_ ?_
     · rcases bt (decide (xa.2.1 < 0)) with hc347 | hc347
       · refine J.skip rfl rfl rfl rfl hc347 <| J.skip rfl rfl rfl rfl hc347 <| J.skip rfl rfl rfl rfl hc347 <| J.skip rfl rfl rfl rfl hc347 <| J.skip rfl rfl rfl rfl hc347 <| J.run rfl rfl rfl hc344 <| jv (.bool true) (V.pickT rfl hc347 rfl) ?_
         refine J.nil ?_
         exact ⟨rfl, ⟨(by simp only [hc347]; rfl), rfl, rfl, rfl, rfl, trivial⟩, rfl, rfl⟩
       refine J.run rfl rfl rfl hc347 <| jv _ (V.fad Try.underlying60 rfl nz3 rfl) <| J.run rfl rfl rfl hc347 <| jv (ii xa.2.1) (V.ld rfl (Ld.sc sc3 (Rd.cl 0 rfl rfl))) <| J.run rfl rfl rfl hc347 <| jm (.slice adxb_0 xb.length cpxb_0) rfl <| J.run rfl rfl rfl hc347 ?_
       refine jv (ii (((xb.length : Nat) : Int))) (V.len Try.underlying23 rfl) <| J.run rfl rfl rfl hc347 <| jv (.bool (decide ((((xb.length : Nat) : Int)) ≤ xa.2.1))) (V.geq rfl rfl) <| J.run rfl rfl rfl hc344 <| jv (.bool (decide ((((xb.length : Nat) : Int)) ≤ xa.2.1))) (V.pickF rfl hc347 rfl) <| J.nil ?_
       exact ⟨rfl, ⟨(by simp only [hc347]; rfl), rfl, rfl, rfl, rfl, trivial⟩, rfl, rfl⟩
     intro ρ
     refine jv (.bool ((decide (xa.2.1 < 0)) || (decide ((((xb.length : Nat) : Int)) ≤ xa.2.1)))) (V.pickT rfl hc344 rfl) <| J.nil ?_
     exact ⟨rfl, ⟨(by simp only [hc344]; rfl), rfl, rfl, rfl, trivial⟩, rfl, rfl⟩
   refine J.skip rfl rfl rfl rfl hc344 <| J.skip rfl rfl rfl rfl hc344 <| J.skip rfl rfl rfl rfl hc344 <| J.skip rfl rfl rfl rfl hc344 <| J.skipu rfl rfl rfl rfl <| J.skipu rfl rfl rfl rfl <| J.skipu rfl rfl rfl rfl ?_
   refine J.skipu rfl rfl rfl rfl <| J.skipu rfl rfl rfl rfl <| J.skip rfl rfl rfl rfl hc344 <| jv (.bool false) (V.pickF rfl hc344 rfl) <| J.nil ?_
   exact ⟨rfl, ⟨(by simp only [hc344]; rfl), rfl, rfl, rfl, trivial⟩, rfl, rfl⟩
 intro ρ
 refine jm (.bool (t335 && ((decide (xa.2.1 < 0)) || (decide ((((xb.length : Nat) : Int)) ≤ xa.2.1))))) rfl <| J.cut 16 ?_
 obtain ⟨t364, ht365, h⟩ := ob h
 refine jmeet [(42, .bool t364), (1, .slice adxb_0 xb.length cpxb_0), (2, ii xc), (3, .pointer (some ⟨b324, 0, none⟩))] ?_ ?_
 · rcases bt (t335 && ((decide (xa.2.1 < 0)) || (decide ((((xb.length : Nat) : Int)) ≤ xa.2.1)))) with hc366 | hc366
   · have ht365 := ct hc366 ht365
     refine J.skip rfl rfl rfl rfl hc366 <| J.skip rfl rfl rfl rfl hc366 <| J.skip rfl rfl rfl rfl hc366 <| J.skip rfl rfl rfl rfl hc366 <| J.skipu rfl rfl rfl rfl <| J.skipu rfl rfl rfl rfl <| J.skipu rfl rfl rfl rfl ?_
     refine J.skipu rfl rfl rfl rfl <| J.skipu rfl rfl rfl rfl <| J.skipu rfl rfl rfl rfl <| J.skipu rfl rfl rfl rfl <| J.skipu rfl rfl rfl rfl <| J.skipu rfl rfl rfl rfl <| J.skipu rfl rfl rfl rfl ?_
     refine J.skip rfl rfl rfl rfl hc366 <| jv (.bool true) (V.pickT rfl hc366 rfl) <| J.nil ?_
     obtain rfl := si ht365
     exact ⟨rfl, ⟨rfl, rfl, rfl, rfl, trivial⟩, rfl, rfl⟩
   have ht365 := cf hc366 ht365
   refine J.run rfl rfl rfl hc366 <| jv _ (V.fad Try.underlying60 rfl nz3 rfl) <| J.run rfl rfl rfl hc366 <| jv (ii xa.1) (V.ld rfl (Ld.sc sc3 (Rd.cl 0 rfl rfl))) <| J.run rfl rfl rfl hc366 ?_
   obtain ⟨r367, hr368, ht365⟩ := ob ht365
   refine J.op rfl (A.call (L1 := []) Try.call59 rfl (ref18_Src_ok hr368) rfl rfl) ?_
   rintro _ _ _ ⟨v370, _, rfl, ⟨⟨t369, rfl, rfl, rfl⟩, rfl⟩, _, rfl⟩
   refine J.run rfl rfl rfl hc366 <| jm (.bool t369) rfl <| J.cut 11 <| jmeet [(41, .bool (t369 && ((decide (xa.2.2.1 < 0)) || (decide ((((xb.length : Nat) : Int)) ≤ xa.2.2.1))))), (1, .slice adxb_0 xb.length cpxb_0), (2, ii xc), (3, .pointer (some ⟨b324, 0, none⟩)), (26, .bool (t335 && ((decide (xa.2.1 < 0)) || (decide ((((xb.length : Nat) : Int)) ≤ xa.2.1)))))] ?_ ?_
   · rcases bt (t369) with hc378 | hc378
     · refine J.run rfl rfl rfl hc378 <| jv _ (V.fad Try.underlying60 rfl nz3 rfl) <| J.run rfl rfl rfl hc378 <| jv (ii xa.2.2.1) (V.ld rfl (Ld.sc sc3 (Rd.cl 0 rfl rfl))) <| J.run rfl rfl rfl hc378 <| jv (.bool (decide (xa.2.2.1 < 0))) (V.lss rfl rfl) <| J.run rfl rfl rfl hc378 ?_
       refine jm (.bool (decide (xa.2.2.1 < 0))) rfl <| J.cut 6 <| jmeet [(40, .bool ((decide (xa.2.2.1 < 0)) || (decide ((((xb.length : Nat) : Int)) ≤ xa.2.2.1)))), (1, .slice adxb_0 xb.length cpxb_0), (2, ii xc), (3, .pointer (some ⟨b324, 0, none⟩)), (26, .bool (t335 && ((decide (xa.2.1 < 0)) || (decide ((((xb.length : Nat) : Int)) ≤ xa.2.1))))), (30, .bool t369)] ?_ ?_
       · rcases bt (decide (xa.2.2.1 < 0)) with hc381 | hc381
         · refine J.skip rfl rfl rfl rfl hc381 <| J.skip rfl rfl rfl rfl hc381 <| J.skip rfl rfl rfl rfl hc381 <| J.skip rfl rfl rfl rfl hc381 <| J.skip rfl rfl rfl rfl hc381 <| J.run rfl rfl rfl hc378 <| jv (.bool true) (V.pickT rfl hc381 rfl) ?_
           refine J.nil ?_
           exact ⟨rfl, ⟨(by simp only [hc381]; rfl), rfl, rfl, rfl, rfl, rfl, trivial⟩, rfl, rfl⟩
         refine J.run rfl rfl rfl hc381 <| jv _ (V.fad Try.underlying60 rfl nz3 rfl) <| J.run rfl rfl rfl hc381 <| jv (ii xa.2.2.1) (V.ld rfl (Ld.sc sc3 (Rd.cl 0 rfl rfl))) <| J.run rfl rfl rfl hc381 <| jm (.slice adxb_0 xb.length cpxb_0) rfl <| J.run rfl rfl rfl hc381 ?_
         refine jv (ii (((xb.length : Nat) : Int))) (V.len Try.underlying23 rfl) <| J.run rfl rfl rfl hc381 <| jv (.bool (decide ((((xb.length : Nat) : Int)) ≤ xa.2.2.1))) (V.geq rfl rfl) <| J.run rfl rfl rfl hc378 <| jv (.bool (decide ((((xb.length : Nat) : Int)) ≤ xa.2.2.1))) (V.pickF rfl hc381 rfl) <| J.nil ?_
         exact ⟨rfl, ⟨(by simp only [hc381]; rfl), rfl, rfl, rfl, rfl, rfl, trivial⟩, rfl, rfl⟩
       intro ρ
       refine J.run rfl rfl rfl hc366 <| jv (.bool ((decide (xa.2.2.1 < 0)) || (decide ((((xb.length : Nat) : Int)) ≤ xa.2.2.1)))) (V.pickT rfl hc378 rfl) <| J.nil ?_
       exact ⟨rfl, ⟨(by simp only [hc378]; rfl), rfl, rfl, rfl, rfl, trivial⟩, rfl, rfl⟩
     refine J.skip rfl rfl rfl rfl hc378 <| J.skip rfl rfl rfl rfl hc378 <| J.skip rfl rfl rfl rfl hc378 <| J.skip rfl rfl rfl rfl hc378 <| J.skipu rfl rfl rfl rfl <| J.skipu rfl rfl rfl rfl <| J.skipu rfl rfl rfl rfl ?_
     refine J.skipu rfl rfl rfl rfl <| J.skipu rfl rfl rfl rfl <| J.skip rfl rfl rfl rfl hc378 <| J.run rfl rfl rfl hc366 <| jv (.bool false) (V.pickF rfl hc378 rfl) <| J.nil ?_
     exact ⟨rfl, ⟨(by simp only [hc378]; rfl), rfl, rfl, rfl, rfl, trivial⟩, rfl, rfl⟩
   intro ρ
   refine jv (.bool (t369 && ((decide (xa.2.2.1 < 0)) || (decide ((((xb.length : Nat) : Int)) ≤ xa.2.2.1))))) (V.pickF rfl hc366 rfl) <| J.nil ?_
   obtain rfl := si ht365
   exact ⟨rfl, ⟨rfl, rfl, rfl, rfl, trivial⟩, rfl, rfl⟩
 intro ρ
 refine jm (.bool t364) rfl <| J.cut 15 ?_
 obtain ⟨t398, ht399, h⟩ := ob h
 refine jmeet [(58, .bool t398), (1, .slice adxb_0 xb.length cpxb_0), (3, .pointer (some ⟨b324, 0, none⟩))] ?_ ?_
 · rcases bt (t364) with hc400 | hc400
   · have ht399 := ct hc400 ht399
     refine J.skip rfl rfl rfl rfl hc400 <| J.skip rfl rfl rfl rfl hc400 <| J.skip rfl rfl rfl rfl hc400 <| J.skip rfl rfl rfl rfl hc400 <| J.skipu rfl rfl rfl rfl <| J.skipu rfl rfl rfl rfl <| J.skipu rfl rfl rfl rfl ?_
     refine J.skipu rfl rfl rfl rfl <| J.skipu rfl rfl rfl rfl <| J.skipu rfl rfl rfl rfl <| J.skipu rfl rfl rfl rfl <| J.skipu rfl rfl rfl rfl <| J.skipu rfl rfl rfl rfl <| J.skip rfl rfl rfl rfl hc400 ?_
     refine jv (.bool true) (V.pickT rfl hc400 rfl) <| J.nil ?_
     obtain rfl := si ht399
     exact ⟨rfl, ⟨rfl, rfl, rfl, trivial⟩, rfl, rfl⟩
   have ht399 := cf hc400 ht399
   refine J.run rfl rfl rfl hc400 <| jv _ (V.fad Try.underlying60 rfl nz3 rfl) <| J.run rfl rfl rfl hc400 <| jv (ii xa.1) (V.ld rfl (Ld.sc sc3 (Rd.cl 0 rfl rfl))) <| J.run rfl rfl rfl hc400 ?_
   obtain ⟨r401, hr402, ht399⟩ := ob ht399
   refine J.op rfl (A.call (L1 := []) Try.call60 rfl (ref18_Region_ok hr402) rfl rfl) ?_
   rintro _ _ _ ⟨v404, _, rfl, ⟨⟨t403, rfl, rfl, rfl⟩, rfl⟩, _, rfl⟩
   refine J.run rfl rfl rfl hc400 <| jm (.bool t403) rfl <| J.cut 10 <| jmeet [(57, .bool (t403 && ((decide (xa.2.2.2.1 < 0)) || (decide (xc ≤ xa.2.2.2.1))))), (1, .slice adxb_0 xb.length cpxb_0), (3, .pointer (some ⟨b324, 0, none⟩)), (43, .bool t364)] ?_ ?_
   · rcases bt (t403) with hc412 | hc412
     · refine J.run rfl rfl rfl hc412 <| jv _ (V.fad Try.underlying60 rfl nz3 rfl) <| J.run rfl rfl rfl hc412 <| jv (ii xa.2.2.2.1) (V.ld rfl (Ld.sc sc3 (Rd.cl 0 rfl rfl))) <| J.run rfl rfl rfl hc412 <| jv (.bool (decide (xa.2.2.2.1 < 0))) (V.lss rfl rfl) <| J.run rfl rfl rfl hc412 ?_
       refine jm (.bool (decide (xa.2.2.2.1 < 0))) rfl <| J.cut 5 <| jmeet [(56, .bool ((decide (xa.2.2.2.1 < 0)) || (decide (xc ≤ xa.2.2.2.1)))), (1, .slice adxb_0 xb.length cpxb_0), (3, .pointer (some ⟨b324, 0, none⟩)), (43, .bool t364), (47, .bool t403)] ?_ ?_
       · rcases bt (decide (xa.2.2.2.1 < 0)) with hc415 | hc415
         · refine J.skip rfl rfl rfl rfl hc415 <| J.skip rfl rfl rfl rfl hc415 <| J.skip rfl rfl rfl rfl hc415 <| J.skip rfl rfl rfl rfl hc415 <| J.run rfl rfl rfl hc412 <| jv (.bool true) (V.pickT rfl hc415 rfl) <| J.nil ?_
           exact ⟨rfl, ⟨(by simp only [hc415]; rfl), rfl, rfl, rfl, rfl, trivial⟩, rfl, rfl⟩
         refine J.run rfl rfl rfl hc415 <| jv _ (V.fad Try.underlying60 rfl nz3 rfl) <| J.run rfl rfl rfl hc415 <| jv (ii xa.2.2.2.1) (V.ld rfl (Ld.sc sc3 (Rd.cl 0 rfl rfl))) <| J.run rfl rfl rfl hc415 <| jm (ii xc) rfl <| J.run rfl rfl rfl hc415 ?_
         refine jv (.bool (decide (xc ≤ xa.2.2.2.1))) (V.geq rfl rfl) <| J.run rfl rfl rfl hc412 <| jv (.bool (decide (xc ≤ xa.2.2.2.1))) (V.pickF rfl hc415 rfl) <| J.nil ?_
         exact ⟨rfl, ⟨(by simp only [hc415]; rfl), rfl, rfl, rfl, rfl, trivial⟩, rfl, rfl⟩
       intro ρ
       refine J.run rfl rfl rfl hc400 <| jv (.bool ((decide (xa.2.2.2.1 < 0)) || (decide (xc ≤ xa.2.2.2.1)))) (V.pickT rfl hc412 rfl) <| J.nil ?_
       exact ⟨rfl, ⟨(by simp only [hc412]; rfl), rfl, rfl, rfl, trivial⟩, rfl, rfl⟩
     refine J.skip rfl rfl rfl rfl hc412 <| J.skip rfl rfl rfl rfl hc412 <| J.skip rfl rfl rfl rfl hc412 <| J.skip rfl rfl rfl rfl hc412 <| J.skipu rfl rfl rfl rfl <| J.skipu rfl rfl rfl rfl <| J.skipu rfl rfl rfl rfl ?_
     refine J.skipu rfl rfl rfl rfl <| J.skip rfl rfl rfl rfl hc412 <| J.run rfl rfl rfl hc400 <| jv (.bool false) (V.pickF rfl hc412 rfl) <| J.nil ?_
     exact ⟨rfl, ⟨(by simp only [hc412]; rfl), rfl, rfl, rfl, trivial⟩, rfl, rfl⟩
   intro ρ
   refine jv (.bool (t403 && ((decide (xa.2.2.2.1 < 0)) || (decide (xc ≤ xa.2.2.2.1))))) (V.pickF rfl hc400 rfl) <| J.nil ?_
   obtain rfl := si ht399
   exact ⟨rfl, ⟨rfl, rfl, rfl, trivial⟩, rfl, rfl⟩
 intro ρ
 refine J.nil <| cc rfl h (fun hc416 h => ?_) fun hc416 h => ?_
 · refine CJ.seq <| CJ.region <| ja (.slice none 0 0) rfl <| ja (ii 7) rfl <| J.nil <| CJ.by (fun w hs => Sep.rowNil (e := 121) (t := (.cons (.int .i64) (.cons (.int .i64) (.cons (.int .i64) (.cons (.int .i64) (.one .bool)))))) hs) <| CJ.ret ?_
   obtain rfl := si h
   exact ⟨_, _, Res.two rfl rfl rfl, ⟨[], 7, none, 0, rfl, rfl, rfl⟩, (Hp.le_refl _), fun w hs => (Sep.dropAt 1 rfl hs)⟩
 refine CJ.skip <| CJ.seq <| CJ.seq <| CJ.region <| jv _ (V.fad Try.underlying60 rfl nz3 rfl) <| jv (ii xa.1) (V.ld rfl (Ld.sc sc3 (Rd.cl 0 rfl rfl))) <| jv (.bool (decide (xa.1 = 1))) (V.eql rfl rfl) ?_
 refine J.nil <| cc rfl h (fun hc418 h => ?_) fun hc418 h => ?_
 · refine CJ.seq <| CJ.mix [Cl b324 60 [ii xa.1, ii xa.2.1, ii xa.2.2.1, ii xa.2.2.2.1, .bool xa.2.2.2.2]] [([0, 1, 2, 3, 4, 5, 6, 7, 8, 9], 10)] [11, 12, 13, 14] [] mixO (by decide +kernel) ⟨0, rfl, trivial⟩ rfl rfl rfl <| JM.cons <| qm (.slice adxb_0 xb.length cpxb_0) rfl <| qv _ (V.fad Try.underlying60 rfl nz3 rfl) <| qv (ii xa.2.2.1) (V.ld rfl (Ld.sc sc3 (Rd.cl 0 rfl rfl))) ?_
   obtain ⟨x456, hx457, h⟩ := ob h
   obtain ⟨p458, p459, p460⟩ := getI_some hx457
   obtain ⟨b461, o462, e463, a464⟩ := (fxb_0).at p459
   refine qv _ (V.iad Try.underlying23 sz26 rfl e463 rfl p458 p460) ?_
   obtain ⟨ad465, cp466, c467, f468⟩ := ((a464).one).sl
   refine qv (.agg #[.slice ad465 x456.length cp466]) (V.ld rfl (Ld.aggK (cs := [.slice ad465 x456.length cp466]) Try.underlying26 sz26 rfl ⟨c467, trivial⟩ (Hp.le_refl _))) <| qm (.slice adxb_0 xb.length cpxb_0) rfl <| qv _ (V.fad Try.underlying60 rfl nz3 rfl) <| qv (ii xa.2.1) (V.ld rfl (Ld.sc sc3 (Rd.cl 0 rfl rfl))) ?_
   obtain ⟨x469, hx470, h⟩ := ob h
   obtain ⟨p471, p472, p473⟩ := getI_some hx470
   obtain ⟨b474, o475, e476, a477⟩ := (fxb_0).at p472
   refine qv _ (V.iad Try.underlying23 sz26 rfl e476 rfl p471 p473) ?_
   obtain ⟨ad478, cp479, c480, f481⟩ := ((a477).one).sl
   refine qv (.agg #[.slice ad478 x469.length cp479]) (V.ld rfl (Ld.aggK (cs := [.slice ad478 x469.length cp479]) Try.underlying26 sz26 rfl ⟨c480, trivial⟩ (Hp.le_refl _))) <| JQ.nil ?_
   obtain ⟨r482, hr483, h⟩ := ob h
   refine JA.op rfl (A.call (L1 := []) Try.call61 rfl (ref16_Flow_ok f468 f481 hr483) rfl rfl) ?_
   rintro _ _ _ ⟨v489, _, rfl, ⟨⟨l484, i485, ad486, cp487, rfl, rfl, rfl⟩, rfl⟩, _, rfl⟩
   refine ⟨fun w hs => Hold.sub (Hp.le_refl _) ⟨1, rfl, trivial⟩ hs, ?_⟩
   refine JM.wit Row.hn fun hn488 => JM.nil <| qv (.slice ad486 l484.length cp487) (V.ext rfl rfl) <| qv (ii i485) (V.ext rfl rfl) <| qa (.slice ad486 l484.length cp487) rfl <| qa (ii i485) rfl <| JQ.nil ?_
   refine J.nil <| CJ.ret ?_
   obtain rfl := si h
   exact ⟨_, _, Res.two rfl rfl rfl, ⟨l484, i485, ad486, cp487, rfl, rfl, rfl⟩, (Hp.le_refl _), fun w hs => (Sep.dropAt 1 rfl hs)⟩
 refine CJ.skip <| CJ.seq <| CJ.seq <| CJ.region <| jv _ (V.fad Try.underlying60 rfl nz3 rfl) <| jv (ii xa.1) (V.ld rfl (Ld.sc sc3 (Rd.cl 0 rfl rfl))) <| jv (.bool (decide (xa.1 = 2))) (V.eql rfl rfl) ?_
 refine J.nil <| cc rfl h (fun hc493 h => ?_) fun hc493 h => ?_
 · refine CJ.seq <| CJ.mix [Cl b324 60 [ii xa.1, ii xa.2.1, ii xa.2.2.1, ii xa.2.2.2.1, .bool xa.2.2.2.2]] [([0, 1, 2, 3, 4, 5, 6, 7, 8, 9, 10, 11, 12, 13], 14)] [15, 16, 17, 18] [] mixO (by decide +kernel) ⟨0, rfl, trivial⟩ rfl rfl rfl <| JM.cons <| qm (.slice adxb_0 xb.length cpxb_0) rfl <| qv _ (V.fad Try.underlying60 rfl nz3 rfl) <| qv (ii xa.2.2.1) (V.ld rfl (Ld.sc sc3 (Rd.cl 0 rfl rfl))) ?_
   obtain ⟨x531, hx532, h⟩ := ob h
   obtain ⟨p533, p534, p535⟩ := getI_some hx532
   obtain ⟨b536, o537, e538, a539⟩ := (fxb_0).at p534
   refine qv _ (V.iad Try.underlying23 sz26 rfl e538 rfl p533 p535) ?_
   obtain ⟨ad540, cp541, c542, f543⟩ := ((a539).one).sl
   refine qv (.agg #[.slice ad540 x531.length cp541]) (V.ld rfl (Ld.aggK (cs := [.slice ad540 x531.length cp541]) Try.underlying26 sz26 rfl ⟨c542, trivial⟩ (Hp.le_refl _))) <| qm (.slice adxb_0 xb.length cpxb_0) rfl <| qv _ (V.fad Try.underlying60 rfl nz3 rfl) <| qv (ii xa.2.1) (V.ld rfl (Ld.sc sc3 (Rd.cl 0 rfl rfl))) ?_
   obtain ⟨x544, hx545, h⟩ := ob h
   obtain ⟨p546, p547, p548⟩ := getI_some hx545
   obtain ⟨b549, o550, e551, a552⟩ := (fxb_0).at p547
   refine qv _ (V.iad Try.underlying23 sz26 rfl e551 rfl p546 p548) ?_
   obtain ⟨ad553, cp554, c555, f556⟩ := ((a552).one).sl
   refine qv (.agg #[.slice ad553 x544.length cp554]) (V.ld rfl (Ld.aggK (cs := [.slice ad553 x544.length cp554]) Try.underlying26 sz26 rfl ⟨c555, trivial⟩ (Hp.le_refl _))) <| qv _ (V.fad Try.underlying60 rfl nz3 rfl) <| qv (ii xa.2.2.2.1) (V.ld rfl (Ld.sc sc3 (Rd.cl 0 rfl rfl))) <| qv _ (V.fad Try.underlying60 rfl nz4 rfl) <| qv (.bool xa.2.2.2.2) (V.ld rfl (Ld.sc sc4 (Rd.cl 0 rfl rfl))) <| JQ.nil ?_
   obtain ⟨r557, hr558, h⟩ := ob h
   refine JA.op rfl (A.call (L1 := []) Try.call62 rfl (ref16_Loan_ok f543 f556 hr558) rfl rfl) ?_
   rintro _ _ _ ⟨v564, _, rfl, ⟨⟨l559, i560, ad561, cp562, rfl, rfl, rfl⟩, rfl⟩, _, rfl⟩
   refine ⟨fun w hs => Hold.sub (Hp.le_refl _) ⟨1, rfl, trivial⟩ hs, ?_⟩
   refine JM.wit Row.hn fun hn563 => JM.nil <| qv (.slice ad561 l559.length cp562) (V.ext rfl rfl) <| qv (ii i560) (V.ext rfl rfl) <| qa (.slice ad561 l559.length cp562) rfl <| qa (ii i560) rfl <| JQ.nil ?_
   refine J.nil <| CJ.ret ?_
   obtain rfl := si h
   exact ⟨_, _, Res.two rfl rfl rfl, ⟨l559, i560, ad561, cp562, rfl, rfl, rfl⟩, (Hp.le_refl _), fun w hs => (Sep.dropAt 1 rfl hs)⟩
 refine CJ.skip <| CJ.seq <| CJ.seq <| CJ.region <| jv _ (V.fad Try.underlying60 rfl nz3 rfl) <| jv (ii xa.1) (V.ld rfl (Ld.sc sc3 (Rd.cl 0 rfl rfl))) <| jv (.bool (decide (xa.1 = 3))) (V.eql rfl rfl) ?_
 refine J.nil <| cc rfl h (fun hc568 h => ?_) fun hc568 h => ?_
 · refine CJ.seq <| CJ.mix [Cl b324 60 [ii xa.1, ii xa.2.1, ii xa.2.2.1, ii xa.2.2.2.1, .bool xa.2.2.2.2]] [([0, 1, 2, 3, 4, 5, 6, 7, 8, 9, 10, 11, 12, 13], 14)] [15, 16, 17, 18] [] mixO (by decide +kernel) ⟨0, rfl, trivial⟩ rfl rfl rfl <| JM.cons <| qm (.slice adxb_0 xb.length cpxb_0) rfl <| qv _ (V.fad Try.underlying60 rfl nz3 rfl) <| qv (ii xa.2.2.1) (V.ld rfl (Ld.sc sc3 (Rd.cl 0 rfl rfl))) ?_
   obtain ⟨x606, hx607, h⟩ := ob h
   obtain ⟨p608, p609, p610⟩ := getI_some hx607
   obtain ⟨b611, o612, e613, a614⟩ := (fxb_0).at p609
   refine qv _ (V.iad Try.underlying23 sz26 rfl e613 rfl p608 p610) ?_
   obtain ⟨ad615, cp616, c617, f618⟩ := ((a614).one).sl
   refine qv (.agg #[.slice ad615 x606.length cp616]) (V.ld rfl (Ld.aggK (cs := [.slice ad615 x606.length cp616]) Try.underlying26 sz26 rfl ⟨c617, trivial⟩ (Hp.le_refl _))) <| qm (.slice adxb_0 xb.length cpxb_0) rfl <| qv _ (V.fad Try.underlying60 rfl nz3 rfl) <| qv (ii xa.2.1) (V.ld rfl (Ld.sc sc3 (Rd.cl 0 rfl rfl))) ?_
   obtain ⟨x619, hx620, h⟩ := ob h
   obtain ⟨p621, p622, p623⟩ := getI_some hx620
   obtain ⟨b624, o625, e626, a627⟩ := (fxb_0).at p622
   refine qv _ (V.iad Try.underlying23 sz26 rfl e626 rfl p621 p623) ?_
   obtain ⟨ad628, cp629, c630, f631⟩ := ((a627).one).sl
   refine qv (.agg #[.slice ad628 x619.length cp629]) (V.ld rfl (Ld.aggK (cs := [.slice ad628 x619.length cp629]) Try.underlying26 sz26 rfl ⟨c630, trivial⟩ (Hp.le_refl _))) <| qv _ (V.fad Try.underlying60 rfl nz3 rfl) <| qv (ii xa.2.2.2.1) (V.ld rfl (Ld.sc sc3 (Rd.cl 0 rfl rfl))) <| qv _ (V.fad Try.underlying60 rfl nz4 rfl) <| qv (.bool xa.2.2.2.2) (V.ld rfl (Ld.sc sc4 (Rd.cl 0 rfl rfl))) <| JQ.nil ?_
   obtain ⟨r632, hr633, h⟩ := ob h
   refine JA.op rfl (A.call (L1 := []) Try.call63 rfl (ref16_Again_ok f618 f631 hr633) rfl rfl) ?_
   rintro _ _ _ ⟨v639, _, rfl, ⟨⟨l634, i635, ad636, cp637, rfl, rfl, rfl⟩, rfl⟩, _, rfl⟩
   refine ⟨fun w hs => Hold.sub (Hp.le_refl _) ⟨1, rfl, trivial⟩ hs, ?_⟩
   refine JM.wit Row.hn fun hn638 => JM.nil <| qv (.slice ad636 l634.length cp637) (V.ext rfl rfl) <| qv (ii i635) (V.ext rfl rfl) <| qa (.slice ad636 l634.length cp637) rfl <| qa (ii i635) rfl <| JQ.nil ?_
   refine J.nil <| CJ.ret ?_
   obtain rfl := si h
   exact ⟨_, _, Res.two rfl rfl rfl, ⟨l634, i635, ad636, cp637, rfl, rfl, rfl⟩, (Hp.le_refl _), fun w hs => (Sep.dropAt 1 rfl hs)⟩
 refine CJ.skip <| CJ.seq <| CJ.region <| ja (.slice none 0 0) rfl <| ja (ii 0) rfl <| J.nil <| CJ.by (fun w hs => Sep.rowNil (e := 121) (t := (.cons (.int .i64) (.cons (.int .i64) (.cons (.int .i64) (.cons (.int .i64) (.one .bool)))))) hs) ?_
 refine CJ.ret ?_
 obtain rfl := si h
 exact ⟨_, _, Res.two rfl rfl rfl, ⟨[], 0, none, 0, rfl, rfl, rfl⟩, (Hp.le_refl _), fun w hs => (Sep.dropAt 1 rfl hs)⟩

noncomputable def fn_ref19_Form (xa : (Int × Int × Int × (List Int) × (List Int) × (List Int))) : Option Int :=
  cond ((decide (xa.1 < 1)) || (decide (4 < xa.1))) (some (3)) (cond (((((decide (xa.1 = 1)) || (decide (xa.1 = 4))) && (!decide ((((xa.2.2.2.1.length : Nat) : Int)) = 1))) || ((decide (xa.1 = 2)) && (decide ((((xa.2.2.2.1.length : Nat) : Int)) = 0)))) || ((decide (xa.1 = 3)) && (!decide ((((xa.2.2.2.1.length : Nat) : Int)) = 0)))) (some (3)) (cond ((!decide (xa.1 = 4)) && (((!decide (xa.2.1 = 0)) || (!decide (xa.2.2.1 = 0))) || (!decide ((((xa.2.2.2.2.2.length : Nat) : Int)) = 0)))) (some (3)) (cond (((decide (xa.1 = 1)) || (decide (xa.1 = 3))) && (!decide ((((xa.2.2.2.2.1.length : Nat) : Int)) = 0))) (some (3)) (cond (((decide (16 < (((xa.2.2.2.1.length : Nat) : Int)))) || (decide (16 < (((xa.2.2.2.2.1.length : Nat) : Int))))) || (decide (16 < (((xa.2.2.2.2.2.length : Nat) : Int))))) (some (6)) (some (0))))))
set_option maxRecDepth 100000 in
set_option maxHeartbeats 4000000 in
theorem ref19_Form_ok {K : Hp} {xa : (Int × Int × Int × (List Int) × (List Int) × (List Int))} {adxa_3 : Option Addr} {cpxa_3 : Nat} {adxa_4 : Option Addr} {cpxa_4 : Nat} {adxa_5 : Option Addr} {cpxa_5 : Nat} (fxa_3 : Is K (.sl (.int .i64)) [.slice adxa_3 xa.2.2.2.1.length cpxa_3] xa.2.2.2.1) (fxa_4 : Is K (.sl (.int .i64)) [.slice adxa_4 xa.2.2.2.2.1.length cpxa_4] xa.2.2.2.2.1) (fxa_5 : Is K (.sl (.int .i64)) [.slice adxa_5 xa.2.2.2.2.2.length cpxa_5] xa.2.2.2.2.2) {r : Int} (h : fn_ref19_Form xa = some r) :
    Tr Try.prog 64 #[.agg #[ii xa.1, ii xa.2.1, ii xa.2.2.1, .slice adxa_3 xa.2.2.2.1.length cpxa_3, .slice adxa_4 xa.2.2.2.2.1.length cpxa_4, .slice adxa_5 xa.2.2.2.2.2.length cpxa_5]] K [] (fun v K' L' => (∃ (i61 : Int), i61 = r ∧ ii i61 = v ∧ L' = []) ∧ K = K') := by
 refine Tr.k <| Tr.of Try.func64 rfl Try.ntmps64 rfl fun E F => ?_
 unfold fn_ref19_Form at h
 refine CJ.seq <| CJ.region <| jbx [ii xa.1, ii xa.2.1, ii xa.2.2.1, .slice adxa_3 xa.2.2.2.1.length cpxa_3, .slice adxa_4 xa.2.2.2.2.1.length cpxa_4, .slice adxa_5 xa.2.2.2.2.2.length cpxa_5] rfl rfl fun b62 => ja (ii 0) rfl <| J.nil <| CJ.seq <| CJ.seq ?_
 refine CJ.region <| jv _ (V.fad Try.underlying56 rfl nz3 rfl) <| jv (ii xa.1) (V.ld rfl (Ld.sc sc3 (Rd.cl 0 rfl rfl))) <| jv (.bool (decide (xa.1 < 1))) (V.lss rfl rfl) <| jm (.bool (decide (xa.1 < 1))) rfl <| J.cut 4 <| jmeet [(10, .bool ((decide (xa.1 < 1)) || (decide (4 < xa.1)))), (1, .pointer (some ⟨b62, 0, none⟩))] ?_ ?_
 · rcases bt (decide (xa.1 < 1)) with hc65 | hc65
   · refine J.skip rfl rfl rfl rfl hc65 <| J.skip rfl rfl rfl rfl hc65 <| J.skip rfl rfl rfl rfl hc65 <| jv (.bool true) (V.pickT rfl hc65 rfl) <| J.nil ?_
     exact ⟨rfl, ⟨(by simp only [hc65]; rfl), rfl, trivial⟩, rfl, rfl⟩
   refine J.run rfl rfl rfl hc65 <| jv _ (V.fad Try.underlying56 rfl nz3 rfl) <| J.run rfl rfl rfl hc65 <| jv (ii xa.1) (V.ld rfl (Ld.sc sc3 (Rd.cl 0 rfl rfl))) <| J.run rfl rfl rfl hc65 <| jv (.bool (decide (4 < xa.1))) (V.gtr rfl rfl) <| jv (.bool (decide (4 < xa.1))) (V.pickF rfl hc65 rfl) ?_
   refine J.nil ?_
   exact ⟨rfl, ⟨(by simp only [hc65]; rfl), rfl, trivial⟩, rfl, rfl⟩
 intro ρ
 refine J.nil <| cc rfl h (fun hc66 h => ?_) fun hc66 h => ?_
 · refine CJ.seq <| CJ.region <| ja (ii 3) rfl <| J.nil <| CJ.ret ?_
   obtain rfl := si h
   exact ⟨_, _, Res.one rfl rfl, ⟨3, rfl, rfl, rfl⟩, (Hp.le_refl _), fun w hs => (Sep.dropAt 0 rfl hs)⟩
 refine CJ.skip <| CJ.seq <| CJ.seq <| CJ.region <| jv _ (V.fad Try.underlying56 rfl nz3 rfl) <| jv (ii xa.1) (V.ld rfl (Ld.sc sc3 (Rd.cl 0 rfl rfl))) <| jv (.bool (decide (xa.1 = 1))) (V.eql rfl rfl) ?_
 refine jm (.bool (decide (xa.1 = 1))) rfl <| J.cut 4 <| jmeet [(18, .bool ((decide (xa.1 = 1)) || (decide (xa.1 = 4)))), (1, .pointer (some ⟨b62, 0, none⟩))] ?_ ?_
 · rcases bt (decide (xa.1 = 1)) with hc69 | hc69
   · refine J.skip rfl rfl rfl rfl hc69 <| J.skip rfl rfl rfl rfl hc69 <| J.skip rfl rfl rfl rfl hc69 <| jv (.bool true) (V.pickT rfl hc69 rfl) <| J.nil ?_
     exact ⟨rfl, ⟨(by simp only [hc69]; rfl), rfl, trivial⟩, rfl, rfl⟩
   refine J.run rfl rfl rfl hc69 <| jv _ (V.fad Try.underlying56 rfl nz3 rfl) <| J.run rfl rfl rfl hc69 <| jv (ii xa.1) (V.ld rfl (Ld.sc sc3 (Rd.cl 0 rfl rfl))) <| J.run rfl rfl rfl hc69 <| jv (.bool (decide (xa.1 = 4))) (V.eql rfl rfl) <| jv (.bool (decide (xa.1 = 4))) (V.pickF rfl hc69 rfl) ?_
   refine J.nil ?_
   exact ⟨rfl, ⟨(by simp only [hc69]; rfl), rfl, trivial⟩, rfl, rfl⟩
 intro ρ
 refine jm (.bool ((decide (xa.1 = 1)) || (decide (xa.1 = 4)))) rfl <| J.cut 5 <| jmeet [(24, .bool (((decide (xa.1 = 1)) || (decide (xa.1 = 4))) && (!decide ((((xa.2.2.2.1.length : Nat) : Int)) = 1)))), (1, .pointer (some ⟨b62, 0, none⟩))] ?_ ?_
 · rcases bt ((decide (xa.1 = 1)) || (decide (xa.1 = 4))) with hc72 | hc72
   · refine J.run rfl rfl rfl hc72 <| jv _ (V.fad Try.underlying56 rfl nz37 rfl) <| J.run rfl rfl rfl hc72 <| jv (.slice adxa_3 xa.2.2.2.1.length cpxa_3) (V.ld rfl (Ld.sc sc37 (Rd.cl 0 rfl rfl))) <| J.run rfl rfl rfl hc72 <| jv (ii (((xa.2.2.2.1.length : Nat) : Int))) (V.len Try.underlying37 rfl) <| J.run rfl rfl rfl hc72 ?_
     refine jv (.bool (!decide ((((xa.2.2.2.1.length : Nat) : Int)) = 1))) (V.neq rfl rfl) <| jv (.bool (!decide ((((xa.2.2.2.1.length : Nat) : Int)) = 1))) (V.pickT rfl hc72 rfl) <| J.nil ?_
     exact ⟨rfl, ⟨(by simp only [hc72]; rfl), rfl, trivial⟩, rfl, rfl⟩
   refine J.skip rfl rfl rfl rfl hc72 <| J.skip rfl rfl rfl rfl hc72 <| J.skip rfl rfl rfl rfl hc72 <| J.skip rfl rfl rfl rfl hc72 <| jv (.bool false) (V.pickF rfl hc72 rfl) <| J.nil ?_
   exact ⟨rfl, ⟨(by simp only [hc72]; rfl), rfl, trivial⟩, rfl, rfl⟩
 intro ρ
 refine jm (.bool (((decide (xa.1 = 1)) || (decide (xa.1 = 4))) && (!decide ((((xa.2.2.2.1.length : Nat) : Int)) = 1)))) rfl <| J.cut 10 <| jmeet [(35, .bool ((((decide (xa.1 = 1)) || (decide (xa.1 = 4))) && (!decide ((((xa.2.2.2.1.length : Nat) : Int)) = 1))) || ((decide (xa.1 = 2)) && (decide ((((xa.2.2.2.1.length : Nat) : Int)) = 0))))), (1, .pointer (some ⟨b62, 0, none⟩))] ?_ ?_
 · rcases bt (((decide (xa.1 = 1)) || (decide (xa.1 = 4))) && (!decide ((((xa.2.2.2.1.length : Nat) : Int)) = 1))) with hc78 | hc78
   · refine J.skip rfl rfl rfl rfl hc78 <| J.skip rfl rfl rfl rfl hc78 <| J.skip rfl rfl rfl rfl hc78 <| J.skip rfl rfl rfl rfl hc78 <| J.skipu rfl rfl rfl rfl <| J.skipu rfl rfl rfl rfl <| J.skipu rfl rfl rfl rfl ?_
     refine J.skipu rfl rfl rfl rfl <| J.skip rfl rfl rfl rfl hc78 <| jv (.bool true) (V.pickT rfl hc78 rfl) <| J.nil ?_
     exact ⟨rfl, ⟨(by simp only [hc78]; rfl), rfl, trivial⟩, rfl, rfl⟩
   refine J.run rfl rfl rfl hc78 <| jv _ (V.fad Try.underlying56 rfl nz3 rfl) <| J.run rfl rfl rfl hc78 <| jv (ii xa.1) (V.ld rfl (Ld.sc sc3 (Rd.cl 0 rfl rfl))) <| J.run rfl rfl rfl hc78 <| jv (.bool (decide (xa.1 = 2))) (V.eql rfl rfl) <| J.run rfl rfl rfl hc78 ?_
   refine jm (.bool (decide (xa.1 = 2))) rfl <| J.cut 5 <| jmeet [(34, .bool ((decide (xa.1 = 2)) && (decide ((((xa.2.2.2.1.length : Nat) : Int)) = 0)))), (1, .pointer (some ⟨b62, 0, none⟩)), (25, .bool (((decide (xa.1 = 1)) || (decide (xa.1 = 4))) && (!decide ((((xa.2.2.2.1.length : Nat) : Int)) = 1))))] ?_ ?_
   · rcases bt (decide (xa.1 = 2)) with hc81 | hc81
     · refine J.run rfl rfl rfl hc81 <| jv _ (V.fad Try.underlying56 rfl nz37 rfl) <| J.run rfl rfl rfl hc81 <| jv (.slice adxa_3 xa.2.2.2.1.length cpxa_3) (V.ld rfl (Ld.sc sc37 (Rd.cl 0 rfl rfl))) <| J.run rfl rfl rfl hc81 <| jv (ii (((xa.2.2.2.1.length : Nat) : Int))) (V.len Try.underlying37 rfl) <| J.run rfl rfl rfl hc81 ?_
       refine jv (.bool (decide ((((xa.2.2.2.1.length : Nat) : Int)) = 0))) (V.eql rfl rfl) <| J.run rfl rfl rfl hc78 <| jv (.bool (decide ((((xa.2.2.2.1.length : Nat) : Int)) = 0))) (V.pickT rfl hc81 rfl) <| J.nil ?_
       exact ⟨rfl, ⟨(by simp only [hc81]; rfl), rfl, rfl, trivial⟩, rfl, rfl⟩
     refine J.skip rfl rfl rfl rfl hc81 <| J.skip rfl rfl rfl rfl hc81 <| J.skip rfl rfl rfl rfl hc81 <| J.skip rfl rfl rfl rfl hc81 <| J.run rfl rfl rfl hc78 <| jv (.bool false) (V.pickF rfl hc81 rfl) <| J.nil ?_
     exact ⟨rfl, ⟨(by simp only [hc81]; rfl), rfl, rfl, trivial⟩, rfl, rfl⟩
   intro ρ
   refine jv (.bool ((decide (xa.1 = 2)) && (decide ((((xa.2.2.2.1.length : Nat) : Int)) = 0)))) (V.pickF rfl hc78 rfl) <| J.nil ?_
   exact ⟨rfl, ⟨(by simp only [hc78]; rfl), rfl, trivial⟩, rfl, rfl⟩
 intro ρ
 refine jm (.bool ((((decide (xa.1 = 1)) || (decide (xa.1 = 4))) && (!decide ((((xa.2.2.2.1.length : Nat) : Int)) = 1))) || ((decide (xa.1 = 2)) && (decide ((((xa.2.2.2.1.length : Nat) : Int)) = 0))))) rfl <| J.cut 10 <| jmeet [(46, .bool (((((decide (xa.1 = 1)) || (decide (xa.1 = 4))) && (!decide ((((xa.2.2.2.1.length : Nat) : Int)) = 1))) || ((decide (xa.1 = 2)) && (decide ((((xa.2.2.2.1.length : Nat) : Int)) = 0)))) || ((decide (xa.1 = 3)) && (!decide ((((xa.2.2.2.1.length : Nat) : Int)) = 0))))), (1, .pointer (some ⟨b62, 0, none⟩))] ?_ ?_
 · rcases bt ((((decide (xa.1 = 1)) || (decide (xa.1 = 4))) && (!decide ((((xa.2.2.2.1.length : Nat) : Int)) = 1))) || ((decide (xa.1 = 2)) && (decide ((((xa.2.2.2.1.length : Nat) : Int)) = 0)))) with hc87 | hc87
   · refine J.skip rfl rfl rfl rfl hc87 <| J.skip rfl rfl rfl rfl hc87 <| J.skip rfl rfl rfl rfl hc87 <| J.skip rfl rfl rfl rfl hc87 <| J.skipu rfl rfl rfl rfl <| J.skipu rfl rfl rfl rfl <| J.skipu rfl rfl rfl rfl ?_
     refine J.skipu rfl rfl rfl rfl <| J.skip rfl rfl rfl rfl hc87 <| jv (.bool true) (V.pickT rfl hc87 rfl) <| J.nil ?_
     exact ⟨rfl, ⟨(by simp only [hc87]; rfl), rfl, trivial⟩, rfl, rfl⟩
   refine J.run rfl rfl rfl hc87 <| jv _ (V.fad Try.underlying56 rfl nz3 rfl) <| J.run rfl rfl rfl hc87 <| jv (ii xa.1) (V.ld rfl (Ld.sc sc3 (Rd.cl 0 rfl rfl))) <| J.run rfl rfl rfl hc87 <| jv (.bool (decide (xa.1 = 3))) (V.eql rfl rfl) <| J.run rfl rfl rfl hc87 ?_
   refine jm (.bool (decide (xa.1 = 3))) rfl <| J.cut 5 <| jmeet [(45, .bool ((decide (xa.1 = 3)) && (!decide ((((xa.2.2.2.1.length : Nat) : Int)) = 0)))), (1, .pointer (some ⟨b62, 0, none⟩)), (36, .bool ((((decide (xa.1 = 1)) || (decide (xa.1 = 4))) && (!decide ((((xa.2.2.2.1.length : Nat) : Int)) = 1))) || ((decide (xa.1 = 2)) && (decide ((((xa.2.2.2.1.length : Nat) : Int)) = 0)))))] ?_ ?_
   · rcases bt (decide (xa.1 = 3)) with hc90 | hc90
     · refine J.run rfl rfl rfl hc90 <| jv _ (V.fad Try.underlying56 rfl nz37 rfl) <| J.run rfl rfl rfl hc90 <| jv (.slice adxa_3 xa.2.2.2.1.length cpxa_3) (V.ld rfl (Ld.sc sc37 (Rd.cl 0 rfl rfl))) <| J.run rfl rfl rfl hc90 <| jv (ii (((xa.2.2.2.1.length : Nat) : Int))) (V.len Try.underlying37 rfl) <| J.run rfl rfl rfl hc90 ?_
       refine jv (.bool (!decide ((((xa.2.2.2.1.length : Nat) : Int)) = 0))) (V.neq rfl rfl) <| J.run rfl rfl rfl hc87 <| jv (.bool (!decide ((((xa.2.2.2.1.length : Nat) : Int)) = 0))) (V.pickT rfl hc90 rfl) <| J.nil ?_
       exact ⟨rfl, ⟨(by simp only [hc90]; rfl), rfl, rfl, trivial⟩, rfl, rfl⟩
     refine J.skip rfl rfl rfl rfl hc90 <| J.skip rfl rfl rfl rfl hc90 <| J.skip rfl rfl rfl rfl hc90 <| J.skip rfl rfl rfl rfl hc90 <| J.run rfl rfl rfl hc87 <| jv (.bool false) (V.pickF rfl hc90 rfl) <| J.nil ?_
     exact ⟨rfl, ⟨(by simp only [hc90]; rfl), rfl, rfl, trivial⟩, rfl, rfl⟩
   intro ρ
   refine jv (.bool ((decide (xa.1 = 3)) && (!decide ((((xa.2.2.2.1.length : Nat) : Int)) = 0)))) (V.pickF rfl hc87 rfl) <| J.nil ?_
   exact ⟨rfl, ⟨(by simp only [hc87]; rfl), rfl, trivial⟩, rfl, rfl⟩
 intro ρ
 refine J.nil <| cc rfl h (fun hc91 h => ?_) fun hc91 h => ?_
 · refine CJ.seq <| CJ.region <| ja (ii 3) rfl <| J.nil <| CJ.ret ?_
   obtain rfl := si h
   exact ⟨_, _, Res.one rfl rfl, ⟨3, rfl, rfl, rfl⟩, (Hp.le_refl _), fun w hs => (Sep.dropAt 0 rfl hs)⟩
 refine CJ.skip <| CJ.seq <| CJ.seq <| CJ.region <| jv _ (V.fad Try.underlying56 rfl nz3 rfl) <| jv (ii xa.1) (V.ld rfl (Ld.sc sc3 (Rd.cl 0 rfl rfl))) <| jv (.bool (!decide (xa.1 = 4))) (V.neq rfl rfl) ?_
 refine jm (.bool (!decide (xa.1 = 4))) rfl <| J.cut 15 <| jmeet [(65, .bool ((!decide (xa.1 = 4)) && (((!decide (xa.2.1 = 0)) || (!decide (xa.2.2.1 = 0))) || (!decide ((((xa.2.2.2.2.2.length : Nat) : Int)) = 0))))), (1, .pointer (some ⟨b62, 0, none⟩))] ?_ ?_
 · rcases bt (!decide (xa.1 = 4)) with hc100 | hc100
   · refine J.run rfl rfl rfl hc100 <| jv _ (V.fad Try.underlying56 rfl nz3 rfl) <| J.run rfl rfl rfl hc100 <| jv (ii xa.2.1) (V.ld rfl (Ld.sc sc3 (Rd.cl 0 rfl rfl))) <| J.run rfl rfl rfl hc100 <| jv (.bool (!decide (xa.2.1 = 0))) (V.neq rfl rfl) <| J.run rfl rfl rfl hc100 ?_
     refine jm (.bool (!decide (xa.2.1 = 0))) rfl <| J.cut 4 <| jmeet [(58, .bool ((!decide (xa.2.1 = 0)) || (!decide (xa.2.2.1 = 0)))), (1, .pointer (some ⟨b62, 0, none⟩)), (50, .bool (!decide (xa.1 = 4)))] ?_ ?_
     · rcases bt (!decide (xa.2.1 = 0)) with hc103 | hc103
       · refine J.skip rfl rfl rfl rfl hc103 <| J.skip rfl rfl rfl rfl hc103 <| J.skip rfl rfl rfl rfl hc103 <| J.run rfl rfl rfl hc100 <| jv (.bool true) (V.pickT rfl hc103 rfl) <| J.nil ?_
         exact ⟨rfl, ⟨(by simp only [hc103]; rfl), rfl, rfl, trivial⟩, rfl, rfl⟩
       refine J.run rfl rfl rfl hc103 <| jv _ (V.fad Try.underlying56 rfl nz3 rfl) <| J.run rfl rfl rfl hc103 <| jv (ii xa.2.2.1) (V.ld rfl (Ld.sc sc3 (Rd.cl 0 rfl rfl))) <| J.run rfl rfl rfl hc103 <| jv (.bool (!decide (xa.2.2.1 = 0))) (V.neq rfl rfl) <| J.run rfl rfl rfl hc100 ?_
       refine jv (.bool (!decide (xa.2.2.1 = 0))) (V.pickF rfl hc103 rfl) <| J.nil ?_
       exact ⟨rfl, ⟨(by simp only [hc103]; rfl), rfl, rfl, trivial⟩, rfl, rfl⟩
     intro ρ
     refine J.run rfl rfl rfl hc100 <| jm (.bool ((!decide (xa.2.1 = 0)) || (!decide (xa.2.2.1 = 0)))) rfl <| J.cut 5 <| jmeet [(64, .bool (((!decide (xa.2.1 = 0)) || (!decide (xa.2.2.1 = 0))) || (!decide ((((xa.2.2.2.2.2.length : Nat) : Int)) = 0)))), (1, .pointer (some ⟨b62, 0, none⟩)), (50, .bool (!decide (xa.1 = 4)))] ?_ ?_
     · rcases bt ((!decide (xa.2.1 = 0)) || (!decide (xa.2.2.1 = 0))) with hc106 | hc106
       · refine J.skip rfl rfl rfl rfl hc106 <| J.skip rfl rfl rfl rfl hc106 <| J.skip rfl rfl rfl rfl hc106 <| J.skip rfl rfl rfl rfl hc106 <| J.run rfl rfl rfl hc100 <| jv (.bool true) (V.pickT rfl hc106 rfl) <| J.nil ?_
         exact ⟨rfl, ⟨(by simp only [hc106]; rfl), rfl, rfl, trivial⟩, rfl, rfl⟩
       refine J.run rfl rfl rfl hc106 <| jv _ (V.fad Try.underlying56 rfl nz37 rfl) <| J.run rfl rfl rfl hc106 <| jv (.slice adxa_5 xa.2.2.2.2.2.length cpxa_5) (V.ld rfl (Ld.sc sc37 (Rd.cl 0 rfl rfl))) <| J.run rfl rfl rfl hc106 <| jv (ii (((xa.2.2.2.2.2.length : Nat) : Int))) (V.len Try.underlying37 rfl) <| J.run rfl rfl rfl hc106 ?_
       refine jv (.bool (!decide ((((xa.2.2.2.2.2.length : Nat) : Int)) = 0))) (V.neq rfl rfl) <| J.run rfl rfl rfl hc100 <| jv (.bool (!decide ((((xa.2.2.2.2.2.length : Nat) : Int)) = 0))) (V.pickF rfl hc106 rfl) <| J.nil ?_
       exact ⟨rfl, ⟨(by simp only [hc106]; rfl), rfl, rfl, trivial⟩, rfl, rfl⟩
     intro ρ
     refine jv (.bool (((!decide (xa.2.1 = 0)) || (!decide (xa.2.2.1 = 0))) || (!decide ((((xa.2.2.2.2.2.length : Nat) : Int)) = 0)))) (V.pickT rfl hc100 rfl) <| J.nil ?_
     exact ⟨rfl, ⟨(by simp only [hc100]; rfl), rfl, trivial⟩, rfl, rfl⟩
   refine J.skip rfl rfl rfl rfl hc100 <| J.skip rfl rfl rfl rfl hc100 <| J.skip rfl rfl rfl rfl hc100 <| J.skip rfl rfl rfl rfl hc100 <| J.skipu rfl rfl rfl rfl <| J.skipu rfl rfl rfl rfl <| J.skipu rfl rfl rfl rfl ?_
   refine J.skip rfl rfl rfl rfl hc100 <| J.skip rfl rfl rfl rfl hc100 <| J.skipu rfl rfl rfl rfl <| J.skipu rfl rfl rfl rfl <| J.skipu rfl rfl rfl rfl <| J.skipu rfl rfl rfl rfl <| J.skip rfl rfl rfl rfl hc100 ?_
   refine jv (.bool false) (V.pickF rfl hc100 rfl) <| J.nil ?_
   exact ⟨rfl, ⟨(by simp only [hc100]; rfl), rfl, trivial⟩, rfl, rfl⟩
 intro ρ
 refine J.nil <| cc rfl h (fun hc107 h => ?_) fun hc107 h => ?_
 · refine CJ.seq <| CJ.region <| ja (ii 3) rfl <| J.nil <| CJ.ret ?_
   obtain rfl := si h
   exact ⟨_, _, Res.one rfl rfl, ⟨3, rfl, rfl, rfl⟩, (Hp.le_refl _), fun w hs => (Sep.dropAt 0 rfl hs)⟩
 refine CJ.skip <| CJ.seq <| CJ.seq <| CJ.region <| jv _ (V.fad Try.underlying56 rfl nz3 rfl) <| jv (ii xa.1) (V.ld rfl (Ld.sc sc3 (Rd.cl 0 rfl rfl))) <| jv (.bool (decide (xa.1 = 1))) (V.eql rfl rfl) ?_
 refine jm (.bool (decide (xa.1 = 1))) rfl <| J.cut 4 <| jmeet [(73, .bool ((decide (xa.1 = 1)) || (decide (xa.1 = 3)))), (1, .pointer (some ⟨b62, 0, none⟩))] ?_ ?_
 · rcases bt (decide (xa.1 = 1)) with hc110 | hc110
   · refine J.skip rfl rfl rfl rfl hc110 <| J.skip rfl rfl rfl rfl hc110 <| J.skip rfl rfl rfl rfl hc110 <| jv (.bool true) (V.pickT rfl hc110 rfl) <| J.nil ?_
     exact ⟨rfl, ⟨(by simp only [hc110]; rfl), rfl, trivial⟩, rfl, rfl⟩
   refine J.run rfl rfl rfl hc110 <| jv _ (V.fad Try.underlying56 rfl nz3 rfl) <| J.run rfl rfl rfl hc110 <| jv (ii xa.1) (V.ld rfl (Ld.sc sc3 (Rd.cl 0 rfl rfl))) <| J.run rfl rfl rfl hc110 <| jv (.bool (decide (xa.1 = 3))) (V.eql rfl rfl) <| jv (.bool (decide (xa.1 = 3))) (V.pickF rfl hc110 rfl) ?_
   refine J.nil ?_
   exact ⟨rfl, ⟨(by simp only [hc110]; rfl), rfl, trivial⟩, rfl, rfl⟩
 intro ρ
 refine jm (.bool ((decide (xa.1 = 1)) || (decide (xa.1 = 3)))) rfl <| J.cut 5 <| jmeet [(79, .bool (((decide (xa.1 = 1)) || (decide (xa.1 = 3))) && (!decide ((((xa.2.2.2.2.1.length : Nat) : Int)) = 0)))), (1, .pointer (some ⟨b62, 0, none⟩))] ?_ ?_
 · rcases bt ((decide (xa.1 = 1)) || (decide (xa.1 = 3))) with hc113 | hc113
   · refine J.run rfl rfl rfl hc113 <| jv _ (V.fad Try.underlying56 rfl nz37 rfl) <| J.run rfl rfl rfl hc113 <| jv (.slice adxa_4 xa.2.2.2.2.1.length cpxa_4) (V.ld rfl (Ld.sc sc37 (Rd.cl 0 rfl rfl))) <| J.run rfl rfl rfl hc113 <| jv (ii (((xa.2.2.2.2.1.length : Nat) : Int))) (V.len Try.underlying37 rfl) <| J.run rfl rfl rfl hc113 ?_
     refine jv (.bool (!decide ((((xa.2.2.2.2.1.length : Nat) : Int)) = 0))) (V.neq rfl rfl) <| jv (.bool (!decide ((((xa.2.2.2.2.1.length : Nat) : Int)) = 0))) (V.pickT rfl hc113 rfl) <| J.nil ?_
     exact ⟨rfl, ⟨(by simp only [hc113]; rfl), rfl, trivial⟩, rfl, rfl⟩
   refine J.skip rfl rfl rfl rfl hc113 <| J.skip rfl rfl rfl rfl hc113 <| J.skip rfl rfl rfl rfl hc113 <| J.skip rfl rfl rfl rfl hc113 <| jv (.bool false) (V.pickF rfl hc113 rfl) <| J.nil ?_
   exact ⟨rfl, ⟨(by simp only [hc113]; rfl), rfl, trivial⟩, rfl, rfl⟩
 intro ρ
 refine J.nil <| cc rfl h (fun hc114 h => ?_) fun hc114 h => ?_
 · refine CJ.seq <| CJ.region <| ja (ii 3) rfl <| J.nil <| CJ.ret ?_
   obtain rfl := si h
   exact ⟨_, _, Res.one rfl rfl, ⟨3, rfl, rfl, rfl⟩, (Hp.le_refl _), fun w hs => (Sep.dropAt 0 rfl hs)⟩
 refine CJ.skip <| CJ.seq <| CJ.seq <| CJ.region <| jv _ (V.fad Try.underlying56 rfl nz37 rfl) <| jv (.slice adxa_3 xa.2.2.2.1.length cpxa_3) (V.ld rfl (Ld.sc sc37 (Rd.cl 0 rfl rfl))) <| jv (ii (((xa.2.2.2.1.length : Nat) : Int))) (V.len Try.underlying37 rfl) ?_
 refine jv (.bool (decide (16 < (((xa.2.2.2.1.length : Nat) : Int))))) (V.gtr rfl rfl) <| jm (.bool (decide (16 < (((xa.2.2.2.1.length : Nat) : Int))))) rfl <| J.cut 5 <| jmeet [(89, .bool ((decide (16 < (((xa.2.2.2.1.length : Nat) : Int)))) || (decide (16 < (((xa.2.2.2.2.1.length : Nat) : Int)))))), (1, .pointer (some ⟨b62, 0, none⟩))] ?_ ?_
 · rcases bt (decide (16 < (((xa.2.2.2.1.length : Nat) : Int)))) with hc117 | hc117
   · refine J.skip rfl rfl rfl rfl hc117 <| J.skip rfl rfl rfl rfl hc117 <| J.skip rfl rfl rfl rfl hc117 <| J.skip rfl rfl rfl rfl hc117 <| jv (.bool true) (V.pickT rfl hc117 rfl) <| J.nil ?_
     exact ⟨rfl, ⟨(by simp only [hc117]; rfl), rfl, trivial⟩, rfl, rfl⟩
   refine J.run rfl rfl rfl hc117 <| jv _ (V.fad Try.underlying56 rfl nz37 rfl) <| J.run rfl rfl rfl hc117 <| jv (.slice adxa_4 xa.2.2.2.2.1.length cpxa_4) (V.ld rfl (Ld.sc sc37 (Rd.cl 0 rfl rfl))) <| J.run rfl rfl rfl hc117 <| jv (ii (((xa.2.2.2.2.1.length : Nat) : Int))) (V.len Try.underlying37 rfl) <| J.run rfl rfl rfl hc117 ?_
   refine jv (.bool (decide (16 < (((xa.2.2.2.2.1.length : Nat) : Int))))) (V.gtr rfl rfl) <| jv (.bool (decide (16 < (((xa.2.2.2.2.1.length : Nat) : Int))))) (V.pickF rfl hc117 rfl) <| J.nil ?_
   exact ⟨rfl, ⟨(by simp only [hc117]; rfl), rfl, trivial⟩, rfl, rfl⟩
 intro ρ
 refine jm (.bool ((decide (16 < (((xa.2.2.2.1.length : Nat) : Int)))) || (decide (16 < (((xa.2.2.2.2.1.length : Nat) : Int)))))) rfl <| J.cut 5 <| jmeet [(95, .bool (((decide (16 < (((xa.2.2.2.1.length : Nat) : Int)))) || (decide (16 < (((xa.2.2.2.2.1.length : Nat) : Int))))) || (decide (16 < (((xa.2.2.2.2.2.length : Nat) : Int))))))] ?_ ?_
 · rcases bt ((decide (16 < (((xa.2.2.2.1.length : Nat) : Int)))) || (decide (16 < (((xa.2.2.2.2.1.length : Nat) : Int))))) with hc120 | hc120
   · refine J.skip rfl rfl rfl rfl hc120 <| J.skip rfl rfl rfl rfl hc120 <| J.skip rfl rfl rfl rfl hc120 <| J.skip rfl rfl rfl rfl hc120 <| jv (.bool true) (V.pickT rfl hc120 rfl) <| J.nil ?_
     exact ⟨rfl, ⟨(by simp only [hc120]; rfl), trivial⟩, rfl, rfl⟩
   refine J.run rfl rfl rfl hc120 <| jv _ (V.fad Try.underlying56 rfl nz37 rfl) <| J.run rfl rfl rfl hc120 <| jv (.slice adxa_5 xa.2.2.2.2.2.length cpxa_5) (V.ld rfl (Ld.sc sc37 (Rd.cl 0 rfl rfl))) <| J.run rfl rfl rfl hc120 <| jv (ii (((xa.2.2.2.2.2.length : Nat) : Int))) (V.len Try.underlying37 rfl) <| J.run rfl rfl rfl hc120 ?_
   refine jv (.bool (decide (16 < (((xa.2.2.2.2.2.length : Nat) : Int))))) (V.gtr rfl rfl) <| jv (.bool (decide (16 < (((xa.2.2.2.2.2.length : Nat) : Int))))) (V.pickF rfl hc120 rfl) <| J.nil ?_
   exact ⟨rfl, ⟨(by simp only [hc120]; rfl), trivial⟩, rfl, rfl⟩
 intro ρ
 refine J.nil <| cc rfl h (fun hc121 h => ?_) fun hc121 h => ?_
 · refine CJ.seq <| CJ.region <| ja (ii 6) rfl <| J.nil <| CJ.ret ?_
   obtain rfl := si h
   exact ⟨_, _, Res.one rfl rfl, ⟨6, rfl, rfl, rfl⟩, (Hp.le_refl _), fun w hs => (Sep.dropAt 0 rfl hs)⟩
 refine CJ.skip <| CJ.seq <| CJ.region <| ja (ii 0) rfl <| J.nil <| CJ.ret ?_
 obtain rfl := si h
 exact ⟨_, _, Res.one rfl rfl, ⟨0, rfl, rfl, rfl⟩, (Hp.le_refl _), fun w hs => (Sep.dropAt 0 rfl hs)⟩
noncomputable def fn_ref19_within_l1 (xa : (List Int)) (xb : Int) : Int → Option (Int ⊕ (Unit ⊕ Bool)) := fun (i361 : Int) => cond (decide (i361 < (((xa.length : Nat) : Int)))) ((getI xa i361).bind fun x401 => (cond (decide (x401 < 0)) (some (true)) ((getI xa i361).bind fun x423 => some (decide (xb ≤ x423)))).bind fun t420 => cond (t420) (some (.inr ((.inr (false))))) (some (.inl (IntKind.wrap .i64 (i361 + 1))))) (some (.inr ((.inl ()))))
noncomputable def fn_ref19_within (xa : (List Int)) (xb : Int) : Option Bool :=
  (loop (fn_ref19_within_l1 xa xb) 0 : Option (Unit ⊕ Bool)).bind fun o => match o with | .inr r => some r | .inl () => some (true)
set_option maxRecDepth 100000 in
set_option maxHeartbeats 4000000 in
theorem ref19_within_ok {K : Hp} {xa : (List Int)} {xb : Int} {adxa_0 : Option Addr} {cpxa_0 : Nat} (fxa_0 : Is K (.sl (.int .i64)) [.slice adxa_0 xa.length cpxa_0] xa) {r : Bool} (h : fn_ref19_within xa xb = some r) :
    Tr Try.prog 65 #[.slice adxa_0 xa.length cpxa_0, ii xb] K [] (fun v K' L' => (∃ (t218 : Bool), t218 = r ∧ .bool t218 = v ∧ L' = []) ∧ K = K') := by
 refine Tr.k <| Tr.of Try.func65 rfl Try.ntmps65 rfl fun E F => ?_
 unfold fn_ref19_within at h
 refine CJ.seq <| CJ.region <| ja (.bool false) rfl <| J.nil <| CJ.seq <| CJ.seq <| CJ.region ?_
 refine ja (ii 0) rfl <| J.nil ?_
 obtain ⟨o325, ho326, h⟩ := ob h
 refine CJ.joinN (o := o325) (fun s ρ K' L' => () = s ∧ Fits [] ρ ∧ K = K' ∧ F = L') ?_ ?_
 · refine CJ.block <| CJ.loop (fun s ρ K' L' => ∃ (i361 : Int), i361 = s ∧ Fits [(0, .slice adxa_0 xa.length cpxa_0), (1, ii xb), (5, ii i361)] ρ ∧ K = K' ∧ F = L') ho326 ⟨0, rfl, ⟨rfl, rfl, rfl, trivial⟩, rfl, rfl⟩ ?_
   rintro s ρ _ _ r399 ⟨i361, rfl, hf397, rfl, rfl⟩ h396
   obtain ⟨ρ, rfl⟩ := hf397.ex
   refine CJ.seq <| CJ.seq <| CJ.region <| jm (ii i361) rfl <| jm (.slice adxa_0 xa.length cpxa_0) rfl <| jv (ii (((xa.length : Nat) : Int))) (V.len Try.underlying37 rfl) <| jv (.bool (decide (i361 < (((xa.length : Nat) : Int))))) (V.lss rfl rfl) ?_
   refine J.nil <| cc rfl h396 (fun hc400 h396 => ?_) fun hc400 h396 => ?_
   · refine CJ.skip <| CJ.seq <| CJ.block <| CJ.seq <| CJ.region <| jm (.slice adxa_0 xa.length cpxa_0) rfl <| jm (ii i361) rfl ?_
     obtain ⟨x401, hx402, h396⟩ := ob h396
     obtain ⟨p403, p404, p405⟩ := getI_some hx402
     obtain ⟨b406, o407, e408, a409⟩ := (fxa_0).at p404
     refine jv _ (V.iad Try.underlying37 sz3 rfl e408 rfl p403 p405) <| jv (ii x401) (V.ld rfl (Ld.sc sc3 (Rd.k (a409).int (Hp.le_refl _)))) <| jv (.bool (decide (x401 < 0))) (V.lss rfl rfl) <| jm (.bool (decide (x401 < 0))) rfl <| J.cut 7 ?_
     obtain ⟨t420, ht421, h396⟩ := ob h396
     refine jmeet [(24, .bool t420), (0, .slice adxa_0 xa.length cpxa_0), (1, ii xb), (5, ii i361)] ?_ ?_
     · rcases bt (decide (x401 < 0)) with hc422 | hc422
       · have ht421 := ct hc422 ht421
         refine J.skip rfl rfl rfl rfl hc422 <| J.skip rfl rfl rfl rfl hc422 <| J.skip rfl rfl rfl rfl hc422 <| J.skip rfl rfl rfl rfl hc422 <| J.skip rfl rfl rfl rfl hc422 <| J.skip rfl rfl rfl rfl hc422 <| jv (.bool true) (V.pickT rfl hc422 rfl) ?_
         refine J.nil ?_
         obtain rfl := si ht421
         exact ⟨rfl, ⟨rfl, rfl, rfl, rfl, trivial⟩, rfl, rfl⟩
       have ht421 := cf hc422 ht421
       refine J.run rfl rfl rfl hc422 <| jm (.slice adxa_0 xa.length cpxa_0) rfl <| J.run rfl rfl rfl hc422 <| jm (ii i361) rfl <| J.run rfl rfl rfl hc422 ?_
       obtain ⟨x423, hx424, ht421⟩ := ob ht421
       obtain ⟨p425, p426, p427⟩ := getI_some hx424
       obtain ⟨b428, o429, e430, a431⟩ := (fxa_0).at p426
       refine jv _ (V.iad Try.underlying37 sz3 rfl e430 rfl p425 p427) <| J.run rfl rfl rfl hc422 <| jv (ii x423) (V.ld rfl (Ld.sc sc3 (Rd.k (a431).int (Hp.le_refl _)))) <| J.run rfl rfl rfl hc422 <| jm (ii xb) rfl <| J.run rfl rfl rfl hc422 <| jv (.bool (decide (xb ≤ x423))) (V.geq rfl rfl) ?_
       refine jv (.bool (decide (xb ≤ x423))) (V.pickF rfl hc422 rfl) <| J.nil ?_
       obtain rfl := si ht421
       exact ⟨rfl, ⟨rfl, rfl, rfl, rfl, trivial⟩, rfl, rfl⟩
     intro ρ
     refine J.nil <| cc rfl h396 (fun hc432 h396 => ?_) fun hc432 h396 => ?_
     · refine CJ.seq <| CJ.region <| ja (.bool false) rfl <| J.nil <| CJ.ret ?_
       obtain rfl := si h396
       refine ⟨nofun, fun e => ?_⟩
       subst e
       refine .inr ⟨nofun, ?_⟩
       obtain rfl := si h
       exact ⟨_, _, Res.one rfl rfl, ⟨false, rfl, rfl, rfl⟩, (Hp.le_refl _), fun w hs => hs⟩
     refine CJ.skip <| CJ.region <| jm (ii i361) rfl <| jv (ii (IntKind.wrap .i64 (i361 + 1))) (V.add rfl rfl) <| ja (ii (IntKind.wrap .i64 (i361 + 1))) rfl <| J.nil ?_
     obtain rfl := si h396
     exact ⟨rfl, ⟨IntKind.wrap .i64 (i361 + 1), rfl, ⟨rfl, rfl, rfl, trivial⟩, rfl, rfl⟩⟩
   refine CJ.exit ?_
   obtain rfl := si h396
   refine ⟨nofun, fun e => ?_⟩
   subst e
   exact .inl ⟨rfl, _, rfl, ⟨rfl, trivial, rfl, rfl⟩⟩
 rintro s ρ _ _ ho433 ⟨rfl, hf434, rfl, rfl⟩
 subst ho433
 obtain ⟨ρ, rfl⟩ := hf434.ex
 refine PJ.done <| CJ.seq <| CJ.region <| ja (.bool true) rfl <| J.nil <| CJ.ret ?_
 obtain rfl := si h
 exact ⟨_, _, Res.one rfl rfl, ⟨true, rfl, rfl, rfl⟩, (Hp.le_refl _), fun w hs => hs⟩
noncomputable def fn_ref15_Subst_l1 (xa : (List (Int × Bool))) (xb : (List Int)) : ((List (Int × Bool)) × Int) → Option (((List (Int × Bool)) × Int) ⊕ ((List (Int × Bool)) ⊕ ((List (Int × Bool)) × Int))) := fun ((l726, i731) : ((List (Int × Bool)) × Int)) => cond (decide (i731 < (((xa.length : Nat) : Int)))) ((getI xa i731).bind fun x805 => cond ((decide (x805.1 < 0)) || (decide ((((xb.length : Nat) : Int)) ≤ x805.1))) (some (.inr ((.inr (([], 7)))))) ((getI xb x805.1).bind fun x840 => (getI xa i731).bind fun x849 => (app l726 (([(x840, x849.2)] : List (Int × Bool)))).bind fun z861 => some (.inl ((z861, IntKind.wrap .i64 (i731 + 1)))))) (some (.inr (.inl l726)))
noncomputable def fn_ref15_Subst (xa : (List (Int × Bool))) (xb : (List Int)) : Option (((List (Int × Bool)) × Int)) :=
  (loop (fn_ref15_Subst_l1 xa xb) ((([] : List (Int × Bool)), 0)) : Option ((List (Int × Bool)) ⊕ ((List (Int × Bool)) × Int))).bind fun o => match o with | .inr r => some r | .inl l651 => some ((l651, 0))
set_option maxRecDepth 100000 in
set_option maxHeartbeats 4000000 in
theorem ref15_Subst_ok {K : Hp} {xa : (List (Int × Bool))} {xb : (List Int)} {adxa_0 : Option Addr} {cpxa_0 : Nat} {adxb_0 : Option Addr} {cpxb_0 : Nat} (fxa_0 : Is K (.sl (.cons (.int .i64) (.one .bool))) [.slice adxa_0 xa.length cpxa_0] xa) (fxb_0 : Is K (.sl (.int .i64)) [.slice adxb_0 xb.length cpxb_0] xb) {r : ((List (Int × Bool)) × Int)} (h : fn_ref15_Subst xa xb = some r) :
    Tr Try.prog 79 #[.agg #[.slice adxa_0 xa.length cpxa_0], .slice adxb_0 xb.length cpxb_0] K [] (fun v K' L' => (∃ (l432 : (List (Int × Bool))) (i437 : Int) (ad433 : Option Addr) (cp434 : Nat), (l432, i437) = r ∧ .tuple #[.agg #[.slice ad433 l432.length cp434], ii i437] = v ∧ L' = [Row Hp.nil 96 (.cons (.int .i64) (.one .bool)) (.slice ad433 l432.length cp434) l432]) ∧ K = K') := by
 refine Tr.k <| Tr.of Try.func79 rfl Try.ntmps79 rfl fun E F => ?_
 unfold fn_ref15_Subst at h
 refine CJ.seq <| CJ.region <| jbx [.slice adxa_0 xa.length cpxa_0] rfl rfl fun b438 => jal inf26 [.slice none 0 0] rfl fun b439 => ja (ii 0) rfl <| J.nil <| CJ.seq ?_
 refine CJ.region ?_
 refine J.op rfl (A.lit (K0 := Hp.nil) (ty := (.cons (.int .i64) (.one .bool))) (xs := ([] : List (Int × Bool))) Try.underlying24 inf96 rfl (by decide) rfl rfl rfl rfl rfl (by decide)) ?_
 rintro _ _ _ ⟨b440, rfl, rfl, rfl⟩
 have hn441 : ([] : List (Int × Bool)) ≠ [] → ∃ g, (some ⟨b440, 0, none⟩ : Option Addr) = some ⟨g, 0, none⟩ := fun _ => ⟨b440, rfl⟩
 refine ja (.slice (some ⟨b440, 0, none⟩) ((([] : List (Int × Bool))).length) 0) rfl <| J.nil <| CJ.seq <| CJ.seq <| CJ.region <| ja (ii 0) rfl <| J.nil ?_
 obtain ⟨o656, ho657, h⟩ := ob h
 refine CJ.joinN (o := o656) (fun s ρ K' L' => ∃ (l651 : (List (Int × Bool))) (ad652 : Option Addr) (cp653 : Nat), l651 = s ∧ Fits [(4, .pointer (some ⟨b439, 0, none⟩)), (6, .slice ad652 l651.length cp653)] ρ ∧ K = K' ∧ L' = Cl b439 26 [.slice none 0 0] :: Row Hp.nil 96 (.cons (.int .i64) (.one .bool)) (.slice ad652 l651.length cp653) l651 :: F) ?_ ?_
 · refine CJ.block <| CJ.front 1 rfl <| CJ.front 2 rfl <| CJ.loop (fun s ρ K' L' => ∃ (l726 : (List (Int × Bool))) (i731 : Int) (ad727 : Option Addr) (cp728 : Nat), (l726, i731) = s ∧ Fits [(1, .slice adxb_0 xb.length cpxb_0), (2, .pointer (some ⟨b438, 0, none⟩)), (4, .pointer (some ⟨b439, 0, none⟩)), (6, .slice ad727 l726.length cp728), (7, ii i731)] ρ ∧ K = K' ∧ L' = Cl b438 26 [.slice adxa_0 xa.length cpxa_0] :: Cl b439 26 [.slice none 0 0] :: Row Hp.nil 96 (.cons (.int .i64) (.one .bool)) (.slice ad727 l726.length cp728) l726 :: F) ho657 ⟨([] : List (Int × Bool)), 0, (some ⟨b440, 0, none⟩), 0, rfl, ⟨rfl, rfl, rfl, rfl, rfl, trivial⟩, rfl, rfl⟩ ?_
   rintro s ρ _ _ r803 ⟨l726, i731, ad727, cp728, rfl, hf801, rfl, rfl⟩ h800
   obtain ⟨ρ, rfl⟩ := hf801.ex
   refine CJ.front 2 rfl <| CJ.wit Row.hn fun hn730 => CJ.seq <| CJ.seq <| CJ.region <| jm (ii i731) rfl <| jv _ (V.fad Try.underlying26 rfl nz24 rfl) ?_
   refine jv (.slice adxa_0 xa.length cpxa_0) (V.ld rfl (Ld.sc sc24 (Rd.cl 1 rfl rfl))) <| jv (ii (((xa.length : Nat) : Int))) (V.len Try.underlying24 rfl) <| jv (.bool (decide (i731 < (((xa.length : Nat) : Int))))) (V.lss rfl rfl) <| J.nil <| cc rfl h800 (fun hc804 h800 => ?_) fun hc804 h800 => ?_
   · refine CJ.skip <| CJ.seq <| CJ.block <| CJ.seq <| CJ.region <| jv _ (V.fad Try.underlying26 rfl nz24 rfl) <| jv (.slice adxa_0 xa.length cpxa_0) (V.ld rfl (Ld.sc sc24 (Rd.cl 1 rfl rfl))) ?_
     refine jm (ii i731) rfl ?_
     obtain ⟨x805, hx806, h800⟩ := ob h800
     obtain ⟨p807, p808, p809⟩ := getI_some hx806
     obtain ⟨b810, o811, e812, a813⟩ := (fxa_0).at p808
     refine jv _ (V.iad Try.underlying24 sz96 rfl e812 rfl p807 p809) <| jv _ (V.fad Try.underlying96 rfl nz3 rfl) <| jv (ii x805.1) (V.ld rfl (Ld.sc sc3 (Rd.k ((a813).fst).int (Hp.le_refl _)))) <| ja (ii x805.1) rfl <| J.nil <| CJ.seq <| CJ.seq ?_
     refine CJ.region <| jm (ii x805.1) rfl <| jv (.bool (decide (x805.1 < 0))) (V.lss rfl rfl) <| jm (.bool (decide (x805.1 < 0))) rfl <| J.cut 5 <| jmeet [(30, .bool ((decide (x805.1 < 0)) || (decide ((((xb.length : Nat) : Int)) ≤ x805.1)))), (1, .slice adxb_0 xb.length cpxb_0), (2, .pointer (some ⟨b438, 0, none⟩)), (4, .pointer (some ⟨b439, 0, none⟩)), (6, .slice ad727 l726.length cp728), (7, ii i731), (8, ii x805.1)] ?_ ?_
     · rcases bt (decide (x805.1 < 0)) with hc816 | hc816
       · refine J.skip rfl rfl rfl rfl hc816 <| J.skip rfl rfl rfl rfl hc816 <| J.skip rfl rfl rfl rfl hc816 <| J.skip rfl rfl rfl rfl hc816 <| jv (.bool true) (V.pickT rfl hc816 rfl) <| J.nil ?_
         exact ⟨rfl, ⟨(by simp only [hc816]; rfl), rfl, rfl, rfl, rfl, rfl, rfl, trivial⟩, rfl, rfl⟩
       refine J.run rfl rfl rfl hc816 <| jm (ii x805.1) rfl <| J.run rfl rfl rfl hc816 <| jm (.slice adxb_0 xb.length cpxb_0) rfl <| J.run rfl rfl rfl hc816 <| jv (ii (((xb.length : Nat) : Int))) (V.len Try.underlying37 rfl) <| J.run rfl rfl rfl hc816 ?_
       refine jv (.bool (decide ((((xb.length : Nat) : Int)) ≤ x805.1))) (V.geq rfl rfl) <| jv (.bool (decide ((((xb.length : Nat) : Int)) ≤ x805.1))) (V.pickF rfl hc816 rfl) <| J.nil ?_
       exact ⟨rfl, ⟨(by simp only [hc816]; rfl), rfl, rfl, rfl, rfl, rfl, rfl, trivial⟩, rfl, rfl⟩
     intro ρ
     refine J.nil <| cc rfl h800 (fun hc817 h800 => ?_) fun hc817 h800 => ?_
     · refine CJ.seq <| CJ.region <| jv (.agg #[.slice none 0 0]) (V.build inf26 places26 rfl rfl) <| J.front 2 rfl <| js [.slice none 0 0] sz26 rfl rfl rfl rfl rfl rfl <| ja (ii 7) rfl <| J.nil ?_
       refine CJ.by (fun w hs => Sep.rowNil (e := 96) (t := (.cons (.int .i64) (.one .bool))) hs) <| CJ.ret ?_
       obtain rfl := si h800
       refine ⟨nofun, fun e => ?_⟩
       subst e
       refine .inr ⟨nofun, ?_⟩
       obtain rfl := si h
       exact ⟨_, _, Res.two rfl ⟨_, _, rfl, Ld.agg (cs := [.slice none 0 0]) Try.underlying26 sz26 rfl (Rd.cls 1 0 rfl rfl)⟩ rfl, ⟨[], 7, none, 0, rfl, rfl, rfl⟩, (Hp.le_refl _), fun w hs => (Sep.dropAt 1 rfl (Sep.dropAt 1 rfl (Sep.dropAt 1 rfl hs)))⟩
     refine CJ.skip <| CJ.mix [Row Hp.nil 96 (.cons (.int .i64) (.one .bool)) (.slice ad727 l726.length cp728) l726, Cl b438 26 [.slice adxa_0 xa.length cpxa_0], Cl b439 26 [.slice none 0 0]] [([0, 1, 2, 3, 4, 5, 6, 7, 8, 9, 10, 11], 12)] [] [13, 14] mixO (by decide +kernel) ⟨0, rfl, 0, rfl, 0, rfl, trivial⟩ rfl rfl rfl <| JM.cons <| qm (.slice ad727 l726.length cp728) rfl <| qm (.slice adxb_0 xb.length cpxb_0) rfl <| qm (ii x805.1) rfl ?_
     obtain ⟨x840, hx841, h800⟩ := ob h800
     obtain ⟨p842, p843, p844⟩ := getI_some hx841
     obtain ⟨b845, o846, e847, a848⟩ := (fxb_0).at p843
     refine qv _ (V.iad Try.underlying37 sz3 rfl e847 rfl p842 p844) <| qv (ii x840) (V.ld rfl (Ld.sc sc3 (Rd.k (a848).int (Hp.le_refl _)))) <| qv _ (V.fad Try.underlying26 rfl nz24 rfl) <| qv (.slice adxa_0 xa.length cpxa_0) (V.ld rfl (Ld.sc sc24 (Rd.cl 1 rfl rfl))) <| qm (ii i731) rfl ?_
     obtain ⟨x849, hx850, h800⟩ := ob h800
     obtain ⟨p851, p852, p853⟩ := getI_some hx850
     obtain ⟨b854, o855, e856, a857⟩ := (fxa_0).at p852
     refine qv _ (V.iad Try.underlying24 sz96 rfl e856 rfl p851 p853) <| qv _ (V.fad Try.underlying96 rfl nz4 rfl) <| qv (.bool x849.2) (V.ld rfl (Ld.sc sc4 (Rd.k (((a857).snd).one).bool (Hp.le_refl _)))) <| qv (.agg #[ii x840, .bool x849.2]) (V.build inf96 places96 rfl rfl) <| JQ.nil ?_
     refine JA.op rfl (A.lit (K0 := Hp.nil) (ty := (.cons (.int .i64) (.one .bool))) (xs := ([(x840, x849.2)] : List (Int × Bool))) Try.underlying24 inf96 rfl (by decide) rfl rfl rfl ⟨_, _, rfl, ⟨_, _, rfl, rfl, rfl, rfl⟩, rfl⟩ rfl (by decide)) ?_
     rintro _ _ _ ⟨b858, rfl, rfl, rfl⟩
     have hn859 : ([(x840, x849.2)] : List (Int × Bool)) ≠ [] → ∃ g, (some ⟨b858, 0, none⟩ : Option Addr) = some ⟨g, 0, none⟩ := fun _ => ⟨b858, rfl⟩
     refine ⟨fun w hs => Hold.sub (Hp.le_refl _) ⟨1, rfl, 1, rfl, 1, rfl, trivial⟩ hs, ?_⟩
     refine JM.nil <| JQ.nil ?_
     obtain ⟨z861, hz862, h800⟩ := ob h800
     refine J.front 1 rfl <| J.op rfl (A.appR (Kr := Hp.nil) Try.underlying24 inf96 rfl rfl (by decide) (by decide) rfl rfl (Els.flat rfl) (Els.flat rfl) hz862) ?_
     rintro _ _ _ ⟨v863, rfl, rfl, rfl⟩
     refine J.wit Row.form ?_
     rintro ⟨ad864, cp865, rfl, _, _, hn866⟩
     refine ja (.slice ad864 z861.length cp865) rfl <| J.nil <| CJ.region <| jm (ii i731) rfl <| jv (ii (IntKind.wrap .i64 (i731 + 1))) (V.add rfl rfl) <| ja (ii (IntKind.wrap .i64 (i731 + 1))) rfl <| J.front 2 rfl ?_
     refine J.front 2 rfl <| J.nil ?_
     obtain rfl := si h800
     exact ⟨rfl, ⟨z861, IntKind.wrap .i64 (i731 + 1), ad864, cp865, rfl, ⟨rfl, rfl, rfl, rfl, rfl, trivial⟩, rfl, rfl⟩⟩
   refine CJ.dropAt 1 rfl <| CJ.front 1 rfl <| CJ.exit ?_
   obtain rfl := si h800
   refine ⟨nofun, fun e => ?_⟩
   subst e
   exact .inl ⟨rfl, _, rfl, ⟨l726, ad727, cp728, rfl, ⟨rfl, rfl, trivial⟩, rfl, rfl⟩⟩
 rintro s ρ _ _ ho867 ⟨l651, ad652, cp653, rfl, hf868, rfl, rfl⟩
 subst ho867
 obtain ⟨ρ, rfl⟩ := hf868.ex
 refine PJ.front 1 rfl <| PJ.wit Row.hn fun hn655 => PJ.done <| CJ.seq <| CJ.region <| jm (.slice ad652 l651.length cp653) rfl <| jv (.agg #[.slice ad652 l651.length cp653]) (V.build inf26 places26 rfl rfl) ?_
 refine J.front 1 rfl <| js [.slice ad652 l651.length cp653] sz26 rfl rfl rfl rfl rfl rfl <| ja (ii 0) rfl <| J.nil <| CJ.ret ?_
 obtain rfl := si h
 exact ⟨_, _, Res.two rfl ⟨_, _, rfl, Ld.agg (cs := [.slice ad652 l651.length cp653]) Try.underlying26 sz26 rfl (Rd.cls 0 0 rfl rfl)⟩ rfl, ⟨l651, 0, ad652, cp653, rfl, rfl, rfl⟩, (Hp.le_refl _), fun w hs => (Sep.dropAt 0 rfl hs)⟩
noncomputable def fn_ref17_Call_l1 (xa : (Int × (List (Int × Int)) × (List (List (Int × Bool))) × (List (Int × Bool)))) (xb : (List Int)) : ((List (Int × Int × Int × Int × Bool)) × Int) → Option (((List (Int × Int × Int × Int × Bool)) × Int) ⊕ (List (Int × Int × Int × Int × Bool))) := fun ((l1593, i1598) : ((List (Int × Int × Int × Int × Bool)) × Int)) => cond (decide (i1598 < (((xa.2.1.length : Nat) : Int)))) ((getI xa.2.1 i1598).bind fun x1734 => (getI xb x1734.1).bind fun x1743 => (getI xa.2.1 i1598).bind fun x1752 => (getI xb x1752.2).bind fun x1761 => (app l1593 (([(x1743, x1761, 4, i1598, false)] : List (Int × Int × Int × Int × Bool)))).bind fun z1773 => some (.inl ((z1773, IntKind.wrap .i64 (i1598 + 1))))) (some (.inr (l1593)))
noncomputable def fn_ref17_Call_l2 (xa : (Int × (List (Int × Int)) × (List (List (Int × Bool))) × (List (Int × Bool)))) (xb : (List Int)) (xc : (List (List (Int × Bool)))) : ((List (Int × Int × Int × Int × Bool)) × Int) → Option (((List (Int × Int × Int × Int × Bool)) × Int) ⊕ ((List (Int × Int × Int × Int × Bool)) ⊕ ((List (Int × Int × Int × Int × Bool)) × Int))) := fun ((l2168, i2173) : ((List (Int × Int × Int × Int × Bool)) × Int)) => cond (decide (i2173 < (((xa.2.2.1.length : Nat) : Int)))) ((getI xa.2.2.1 i2173).bind fun x2273 => (fn_ref15_Subst x2273 xb).bind fun (l2288, i2289) => (getI xc i2173).bind fun x2325 => (fn_ref16_Flow x2325 l2288 5 (IntKind.wrap .i64 (16 * i2173))).bind fun (l2343, i2344) => cond (!decide (i2344 = 0)) (some (.inr ((.inr (([], i2344)))))) ((app l2168 l2343).bind fun z2354 => some (.inl ((z2354, IntKind.wrap .i64 (i2173 + 1)))))) (some (.inr (.inl l2168)))
noncomputable def fn_ref17_Call (xa : (Int × (List (Int × Int)) × (List (List (Int × Bool))) × (List (Int × Bool)))) (xb : (List Int)) (xc : (List (List (Int × Bool)))) (xd : (List (Int × Bool))) : Option (((List (Int × Int × Int × Int × Bool)) × Int)) :=
  (fn_ref17_Check (xa.1, xa.2.1, xa.2.2.1, xa.2.2.2)).bind fun i1204 => cond (!decide (i1204 = 0)) (some (([], i1204))) (cond ((!decide ((((xb.length : Nat) : Int)) = xa.1)) || (!decide ((((xc.length : Nat) : Int)) = (((xa.2.2.1.length : Nat) : Int))))) (some (([], 2))) ((loop (fn_ref17_Call_l1 xa xb) ((([] : List (Int × Int × Int × Int × Bool)), 0)) : Option ((List (Int × Int × Int × Int × Bool)))).bind fun l1495 => (loop (fn_ref17_Call_l2 xa xb xc) (l1495, 0) : Option ((List (Int × Int × Int × Int × Bool)) ⊕ ((List (Int × Int × Int × Int × Bool)) × Int))).bind fun o => match o with | .inr r => some r | .inl l2067 => (fn_ref15_Subst xa.2.2.2 xb).bind fun (l2365, i2366) => (fn_ref16_Flow l2365 xd 6 0).bind fun (l2380, i2381) => cond (!decide (i2381 = 0)) (some (([], i2381))) ((app l2067 l2380).bind fun z2391 => some ((z2391, 0)))))
set_option maxRecDepth 100000 in
set_option maxHeartbeats 4000000 in
theorem ref17_Call_ok {K : Hp} {xa : (Int × (List (Int × Int)) × (List (List (Int × Bool))) × (List (Int × Bool)))} {xb : (List Int)} {xc : (List (List (Int × Bool)))} {xd : (List (Int × Bool))} {adxa_1 : Option Addr} {cpxa_1 : Nat} {adxa_2 : Option Addr} {cpxa_2 : Nat} {adxa_3 : Option Addr} {cpxa_3 : Nat} {adxb_0 : Option Addr} {cpxb_0 : Nat} {adxc_0 : Option Addr} {cpxc_0 : Nat} {adxd_0 : Option Addr} {cpxd_0 : Nat} (fxa_1 : Is K (.sl (.cons (.int .i64) (.one (.int .i64)))) [.slice adxa_1 xa.2.1.length cpxa_1] xa.2.1) (fxa_2 : Is K (.sl (.one (.sl (.cons (.int .i64) (.one .bool))))) [.slice adxa_2 xa.2.2.1.length cpxa_2] xa.2.2.1) (fxa_3 : Is K (.sl (.cons (.int .i64) (.one .bool))) [.slice adxa_3 xa.2.2.2.length cpxa_3] xa.2.2.2) (fxb_0 : Is K (.sl (.int .i64)) [.slice adxb_0 xb.length cpxb_0] xb) (fxc_0 : Is K (.sl (.one (.sl (.cons (.int .i64) (.one .bool))))) [.slice adxc_0 xc.length cpxc_0] xc) (fxd_0 : Is K (.sl (.cons (.int .i64) (.one .bool))) [.slice adxd_0 xd.length cpxd_0] xd) {r : ((List (Int × Int × Int × Int × Bool)) × Int)} (h : fn_ref17_Call xa xb xc xd = some r) :
    Tr Try.prog 66 #[.agg #[ii xa.1, .slice adxa_1 xa.2.1.length cpxa_1, .slice adxa_2 xa.2.2.1.length cpxa_2, .slice adxa_3 xa.2.2.2.length cpxa_3], .slice adxb_0 xb.length cpxb_0, .slice adxc_0 xc.length cpxc_0, .agg #[.slice adxd_0 xd.length cpxd_0]] K [] (fun v K' L' => (∃ (l1194 : (List (Int × Int × Int × Int × Bool))) (i1199 : Int) (ad1195 : Option Addr) (cp1196 : Nat), (l1194, i1199) = r ∧ .tuple #[.slice ad1195 l1194.length cp1196, ii i1199] = v ∧ L' = [Row Hp.nil 121 (.cons (.int .i64) (.cons (.int .i64) (.cons (.int .i64) (.cons (.int .i64) (.one .bool))))) (.slice ad1195 l1194.length cp1196) l1194]) ∧ K = K') := by
 refine Tr.k <| Tr.of Try.func66 rfl Try.ntmps66 rfl fun E F => ?_
 unfold fn_ref17_Call at h
 refine CJ.seq <| CJ.region <| jbx [ii xa.1, .slice adxa_1 xa.2.1.length cpxa_1, .slice adxa_2 xa.2.2.1.length cpxa_2, .slice adxa_3 xa.2.2.2.length cpxa_3] rfl rfl fun b1200 => jbx [.slice adxd_0 xd.length cpxd_0] rfl rfl fun b1201 => ja (.slice none 0 0) rfl <| ja (ii 0) rfl <| J.nil ?_
 refine CJ.seq <| CJ.region <| jv (.agg #[ii xa.1, .slice adxa_1 xa.2.1.length cpxa_1, .slice adxa_2 xa.2.2.1.length cpxa_2, .slice adxa_3 xa.2.2.2.length cpxa_3]) (V.ld rfl (Ld.agg (cs := [ii xa.1, .slice adxa_1 xa.2.1.length cpxa_1, .slice adxa_2 xa.2.2.1.length cpxa_2, .slice adxa_3 xa.2.2.2.length cpxa_3]) Try.underlying53 sz53 rfl (Rd.cls 1 0 rfl rfl))) ?_
 obtain ⟨r1202, hr1203, h⟩ := ob h
 refine J.op rfl (A.call (L1 := []) Try.call48 rfl (ref17_Check_ok fxa_1 fxa_2 fxa_3 hr1203) rfl rfl) ?_
 rintro _ _ _ ⟨v1205, _, rfl, ⟨⟨i1204, rfl, rfl, rfl⟩, rfl⟩, _, rfl⟩
 refine ja (ii i1204) rfl <| J.nil <| CJ.seq <| CJ.seq <| CJ.region <| jm (ii i1204) rfl <| jv (.bool (!decide (i1204 = 0))) (V.neq rfl rfl) ?_
 refine J.nil <| cc rfl h (fun hc1208 h => ?_) fun hc1208 h => ?_
 · refine CJ.seq <| CJ.region <| jm (ii i1204) rfl <| ja (.slice none 0 0) rfl <| ja (ii i1204) rfl <| J.nil <| CJ.by (fun w hs => Sep.rowNil (e := 121) (t := (.cons (.int .i64) (.cons (.int .i64) (.cons (.int .i64) (.cons (.int .i64) (.one .bool)))))) hs) ?_
   refine CJ.ret ?_
   obtain rfl := si h
   exact ⟨_, _, Res.two rfl rfl rfl, ⟨[], i1204, none, 0, rfl, rfl, rfl⟩, (Hp.le_refl _), fun w hs => (Sep.dropAt 1 rfl (Sep.dropAt 1 rfl hs))⟩
 refine CJ.skip <| CJ.seq <| CJ.seq <| CJ.region <| jm (.slice adxb_0 xb.length cpxb_0) rfl <| jv (ii (((xb.length : Nat) : Int))) (V.len Try.underlying37 rfl) <| jv _ (V.fad Try.underlying53 rfl nz3 rfl) ?_
 refine jv (ii xa.1) (V.ld rfl (Ld.sc sc3 (Rd.cl 1 rfl rfl))) <| jv (.bool (!decide ((((xb.length : Nat) : Int)) = xa.1))) (V.neq rfl rfl) <| jm (.bool (!decide ((((xb.length : Nat) : Int)) = xa.1))) rfl <| J.cut 7 <| jmeet [(39, .bool ((!decide ((((xb.length : Nat) : Int)) = xa.1)) || (!decide ((((xc.length : Nat) : Int)) = (((xa.2.2.1.length : Nat) : Int)))))), (1, .slice adxb_0 xb.length cpxb_0), (2, .slice adxc_0 xc.length cpxc_0), (4, .pointer (some ⟨b1200, 0, none⟩)), (7, .pointer (some ⟨b1201, 0, none⟩))] ?_ ?_
 · rcases bt (!decide ((((xb.length : Nat) : Int)) = xa.1)) with hc1212 | hc1212
   · refine J.skip rfl rfl rfl rfl hc1212 <| J.skip rfl rfl rfl rfl hc1212 <| J.skip rfl rfl rfl rfl hc1212 <| J.skip rfl rfl rfl rfl hc1212 <| J.skip rfl rfl rfl rfl hc1212 <| J.skip rfl rfl rfl rfl hc1212 <| jv (.bool true) (V.pickT rfl hc1212 rfl) ?_
     refine J.nil ?_
     exact ⟨rfl, ⟨(by simp only [hc1212]; rfl), rfl, rfl, rfl, rfl, trivial⟩, rfl, rfl⟩
   refine J.run rfl rfl rfl hc1212 <| jm (.slice adxc_0 xc.length cpxc_0) rfl <| J.run rfl rfl rfl hc1212 <| jv (ii (((xc.length : Nat) : Int))) (V.len Try.underlying23 rfl) <| J.run rfl rfl rfl hc1212 <| jv _ (V.fad Try.underlying53 rfl nz23 rfl) <| J.run rfl rfl rfl hc1212 ?_
   refine jv (.slice adxa_2 xa.2.2.1.length cpxa_2) (V.ld rfl (Ld.sc sc23 (Rd.cl 1 rfl rfl))) <| J.run rfl rfl rfl hc1212 <| jv (ii (((xa.2.2.1.length : Nat) : Int))) (V.len Try.underlying23 rfl) <| J.run rfl rfl rfl hc1212 <| jv (.bool (!decide ((((xc.length : Nat) : Int)) = (((xa.2.2.1.length : Nat) : Int))))) (V.neq rfl rfl) <| jv (.bool (!decide ((((xc.length : Nat) : Int)) = (((xa.2.2.1.length : Nat) : Int))))) (V.pickF rfl hc1212 rfl) <| J.nil ?_
   exact ⟨rfl, ⟨(by simp only [hc1212]; rfl), rfl, rfl, rfl, rfl, trivial⟩, rfl, rfl⟩
 intro ρ
 refine J.nil <| cc rfl h (fun hc1213 h => ?_) fun hc1213 h => ?_
 · refine CJ.seq <| CJ.region <| ja (.slice none 0 0) rfl <| ja (ii 2) rfl <| J.nil <| CJ.by (fun w hs => Sep.rowNil (e := 121) (t := (.cons (.int .i64) (.cons (.int .i64) (.cons (.int .i64) (.cons (.int .i64) (.one .bool)))))) hs) <| CJ.ret ?_
   obtain rfl := si h
   exact ⟨_, _, Res.two rfl rfl rfl, ⟨[], 2, none, 0, rfl, rfl, rfl⟩, (Hp.le_refl _), fun w hs => (Sep.dropAt 1 rfl (Sep.dropAt 1 rfl hs))⟩
 refine CJ.skip <| CJ.seq <| CJ.region ?_
 refine J.op rfl (A.lit (K0 := Hp.nil) (ty := (.cons (.int .i64) (.cons (.int .i64) (.cons (.int .i64) (.cons (.int .i64) (.one .bool)))))) (xs := ([] : List (Int × Int × Int × Int × Bool))) Try.underlying90 inf121 rfl (by decide) rfl rfl rfl rfl rfl (by decide)) ?_
 rintro _ _ _ ⟨b1215, rfl, rfl, rfl⟩
 have hn1216 : ([] : List (Int × Int × Int × Int × Bool)) ≠ [] → ∃ g, (some ⟨b1215, 0, none⟩ : Option Addr) = some ⟨g, 0, none⟩ := fun _ => ⟨b1215, rfl⟩
 refine ja (.slice (some ⟨b1215, 0, none⟩) ((([] : List (Int × Int × Int × Int × Bool))).length) 0) rfl <| J.nil <| CJ.seq <| CJ.seq <| CJ.region <| ja (ii 0) rfl <| J.nil ?_
 obtain ⟨o1500, ho1501, h⟩ := ob h
 refine CJ.meetN (fun ρ K' L' => ∃ (l1495 : (List (Int × Int × Int × Int × Bool))) (ad1496 : Option Addr) (cp1497 : Nat), l1495 = o1500 ∧ Fits [(1, .slice adxb_0 xb.length cpxb_0), (2, .slice adxc_0 xc.length cpxc_0), (4, .pointer (some ⟨b1200, 0, none⟩)), (7, .pointer (some ⟨b1201, 0, none⟩)), (11, .slice ad1496 l1495.length cp1497)] ρ ∧ K = K' ∧ L' = Cl b1200 53 [ii xa.1, .slice adxa_1 xa.2.1.length cpxa_1, .slice adxa_2 xa.2.2.1.length cpxa_2, .slice adxa_3 xa.2.2.2.length cpxa_3] :: Cl b1201 26 [.slice adxd_0 xd.length cpxd_0] :: Row Hp.nil 121 (.cons (.int .i64) (.cons (.int .i64) (.cons (.int .i64) (.cons (.int .i64) (.one .bool))))) (.slice ad1496 l1495.length cp1497) l1495 :: F) ?_ ?_
 · refine CJ.block <| CJ.front 1 rfl <| CJ.front 2 rfl <| CJ.loop (fun s ρ K' L' => ∃ (l1593 : (List (Int × Int × Int × Int × Bool))) (i1598 : Int) (ad1594 : Option Addr) (cp1595 : Nat), (l1593, i1598) = s ∧ Fits [(1, .slice adxb_0 xb.length cpxb_0), (2, .slice adxc_0 xc.length cpxc_0), (4, .pointer (some ⟨b1200, 0, none⟩)), (7, .pointer (some ⟨b1201, 0, none⟩)), (11, .slice ad1594 l1593.length cp1595), (12, ii i1598)] ρ ∧ K = K' ∧ L' = Cl b1200 53 [ii xa.1, .slice adxa_1 xa.2.1.length cpxa_1, .slice adxa_2 xa.2.2.1.length cpxa_2, .slice adxa_3 xa.2.2.2.length cpxa_3] :: Cl b1201 26 [.slice adxd_0 xd.length cpxd_0] :: Row Hp.nil 121 (.cons (.int .i64) (.cons (.int .i64) (.cons (.int .i64) (.cons (.int .i64) (.one .bool))))) (.slice ad1594 l1593.length cp1595) l1593 :: F) ho1501 ⟨([] : List (Int × Int × Int × Int × Bool)), 0, (some ⟨b1215, 0, none⟩), 0, rfl, ⟨rfl, rfl, rfl, rfl, rfl, rfl, trivial⟩, rfl, rfl⟩ ?_
   rintro s ρ _ _ r1693 ⟨l1593, i1598, ad1594, cp1595, rfl, hf1691, rfl, rfl⟩ h1690
   obtain ⟨ρ, rfl⟩ := hf1691.ex
   refine CJ.front 2 rfl <| CJ.wit Row.hn fun hn1597 => CJ.seq <| CJ.seq <| CJ.region <| jm (ii i1598) rfl <| jv _ (V.fad Try.underlying53 rfl nz22 rfl) ?_
   refine jv (.slice adxa_1 xa.2.1.length cpxa_1) (V.ld rfl (Ld.sc sc22 (Rd.cl 1 rfl rfl))) <| jv (ii (((xa.2.1.length : Nat) : Int))) (V.len Try.underlying22 rfl) <| jv (.bool (decide (i1598 < (((xa.2.1.length : Nat) : Int))))) (V.lss rfl rfl) <| J.nil <| cc rfl h1690 (fun hc1694 h1690 => ?_) fun hc1694 h1690 => ?_
   · refine CJ.skip <| CJ.seq <| CJ.block <| CJ.mix [Row Hp.nil 121 (.cons (.int .i64) (.cons (.int .i64) (.cons (.int .i64) (.cons (.int .i64) (.one .bool))))) (.slice ad1594 l1593.length cp1595) l1593, Cl b1200 53 [ii xa.1, .slice adxa_1 xa.2.1.length cpxa_1, .slice adxa_2 xa.2.2.1.length cpxa_2, .slice adxa_3 xa.2.2.2.length cpxa_3], Cl b1201 26 [.slice adxd_0 xd.length cpxd_0]] [([0, 1, 2, 3, 4, 5, 6, 7, 8, 9, 10, 11, 12, 13, 14, 15, 16, 17, 18, 19, 20], 21)] [] [22, 23] mixO (by decide +kernel) ⟨0, rfl, 0, rfl, 0, rfl, trivial⟩ rfl rfl rfl <| JM.cons <| qm (.slice ad1594 l1593.length cp1595) rfl <| qm (.slice adxb_0 xb.length cpxb_0) rfl ?_
     refine qv _ (V.fad Try.underlying53 rfl nz22 rfl) <| qv (.slice adxa_1 xa.2.1.length cpxa_1) (V.ld rfl (Ld.sc sc22 (Rd.cl 1 rfl rfl))) <| qm (ii i1598) rfl ?_
     obtain ⟨x1734, hx1735, h1690⟩ := ob h1690
     obtain ⟨p1736, p1737, p1738⟩ := getI_some hx1735
     obtain ⟨b1739, o1740, e1741, a1742⟩ := (fxa_1).at p1737
     refine qv _ (V.iad Try.underlying22 sz81 rfl e1741 rfl p1736 p1738) <| qv _ (V.fad Try.underlying81 rfl nz3 rfl) <| qv (ii x1734.1) (V.ld rfl (Ld.sc sc3 (Rd.k ((a1742).fst).int (Hp.le_refl _)))) ?_
     obtain ⟨x1743, hx1744, h1690⟩ := ob h1690
     obtain ⟨p1745, p1746, p1747⟩ := getI_some hx1744
     obtain ⟨b1748, o1749, e1750, a1751⟩ := (fxb_0).at p1746
     refine qv _ (V.iad Try.underlying37 sz3 rfl e1750 rfl p1745 p1747) <| qv (ii x1743) (V.ld rfl (Ld.sc sc3 (Rd.k (a1751).int (Hp.le_refl _)))) <| qm (.slice adxb_0 xb.length cpxb_0) rfl <| qv _ (V.fad Try.underlying53 rfl nz22 rfl) <| qv (.slice adxa_1 xa.2.1.length cpxa_1) (V.ld rfl (Ld.sc sc22 (Rd.cl 1 rfl rfl))) <| qm (ii i1598) rfl ?_
     obtain ⟨x1752, hx1753, h1690⟩ := ob h1690
     obtain ⟨p1754, p1755, p1756⟩ := getI_some hx1753
     obtain ⟨b1757, o1758, e1759, a1760⟩ := (fxa_1).at p1755
     refine qv _ (V.iad Try.underlying22 sz81 rfl e1759 rfl p1754 p1756) <| qv _ (V.fad Try.underlying81 rfl nz3 rfl) <| qv (ii x1752.2) (V.ld rfl (Ld.sc sc3 (Rd.k (((a1760).snd).one).int (Hp.le_refl _)))) ?_
     obtain ⟨x1761, hx1762, h1690⟩ := ob h1690
     obtain ⟨p1763, p1764, p1765⟩ := getI_some hx1762
     obtain ⟨b1766, o1767, e1768, a1769⟩ := (fxb_0).at p1764
     refine qv _ (V.iad Try.underlying37 sz3 rfl e1768 rfl p1763 p1765) <| qv (ii x1761) (V.ld rfl (Ld.sc sc3 (Rd.k (a1769).int (Hp.le_refl _)))) <| qm (ii i1598) rfl <| qv (.agg #[ii x1743, ii x1761, ii 4, ii i1598, .bool false]) (V.build inf121 places121 rfl rfl) <| JQ.nil ?_
     refine JA.op rfl (A.lit (K0 := Hp.nil) (ty := (.cons (.int .i64) (.cons (.int .i64) (.cons (.int .i64) (.cons (.int .i64) (.one .bool)))))) (xs := ([(x1743, x1761, 4, i1598, false)] : List (Int × Int × Int × Int × Bool))) Try.underlying90 inf121 rfl (by decide) rfl rfl rfl ⟨_, _, rfl, ⟨_, _, rfl, rfl, rfl, ⟨_, _, rfl, rfl, rfl, ⟨_, _, rfl, rfl, rfl, ⟨_, _, rfl, rfl, rfl, rfl⟩⟩⟩⟩, rfl⟩ rfl (by decide)) ?_
     rintro _ _ _ ⟨b1770, rfl, rfl, rfl⟩
     have hn1771 : ([(x1743, x1761, 4, i1598, false)] : List (Int × Int × Int × Int × Bool)) ≠ [] → ∃ g, (some ⟨b1770, 0, none⟩ : Option Addr) = some ⟨g, 0, none⟩ := fun _ => ⟨b1770, rfl⟩
     refine ⟨fun w hs => Hold.sub (Hp.le_refl _) ⟨1, rfl, 1, rfl, 1, rfl, trivial⟩ hs, ?_⟩
     refine JM.nil <| JQ.nil ?_
     obtain ⟨z1773, hz1774, h1690⟩ := ob h1690
     refine J.front 1 rfl <| J.op rfl (A.appR (Kr := Hp.nil) Try.underlying90 inf121 rfl rfl (by decide) (by decide) rfl rfl (Els.flat rfl) (Els.flat rfl) hz1774) ?_
     rintro _ _ _ ⟨v1775, rfl, rfl, rfl⟩
     refine J.wit Row.form ?_
     rintro ⟨ad1776, cp1777, rfl, _, _, hn1778⟩
     refine ja (.slice ad1776 z1773.length cp1777) rfl <| J.nil <| CJ.region <| jm (ii i1598) rfl <| jv (ii (IntKind.wrap .i64 (i1598 + 1))) (V.add rfl rfl) <| ja (ii (IntKind.wrap .i64 (i1598 + 1))) rfl <| J.front 2 rfl ?_
     refine J.front 2 rfl <| J.nil ?_
     obtain rfl := si h1690
     exact ⟨rfl, ⟨z1773, IntKind.wrap .i64 (i1598 + 1), ad1776, cp1777, rfl, ⟨rfl, rfl, rfl, rfl, rfl, rfl, trivial⟩, rfl, rfl⟩⟩
   refine CJ.front 2 rfl <| CJ.front 2 rfl <| CJ.exit ?_
   obtain rfl := si h1690
   refine ⟨nofun, fun e => ?_⟩
   subst e
   exact ⟨rfl, ⟨l1593, ad1594, cp1595, rfl, ⟨rfl, rfl, rfl, rfl, rfl, trivial⟩, rfl, rfl⟩⟩
 rintro ρ _ _ ⟨l1495, ad1496, cp1497, rfl, hf1779, rfl, rfl⟩
 obtain ⟨ρ, rfl⟩ := hf1779.ex
 refine PJ.front 2 rfl <| PJ.wit Row.hn fun hn1499 => PJ.done <| CJ.seq <| CJ.seq <| CJ.region <| ja (ii 0) rfl ?_
 refine J.nil ?_
 obtain ⟨o2072, ho2073, h⟩ := ob h
 refine CJ.joinN (o := o2072) (fun s ρ K' L' => ∃ (l2067 : (List (Int × Int × Int × Int × Bool))) (ad2068 : Option Addr) (cp2069 : Nat), l2067 = s ∧ Fits [(1, .slice adxb_0 xb.length cpxb_0), (4, .pointer (some ⟨b1200, 0, none⟩)), (7, .pointer (some ⟨b1201, 0, none⟩)), (11, .slice ad2068 l2067.length cp2069)] ρ ∧ Hp.le K K' ∧ L' = Cl b1200 53 [ii xa.1, .slice adxa_1 xa.2.1.length cpxa_1, .slice adxa_2 xa.2.2.1.length cpxa_2, .slice adxa_3 xa.2.2.2.length cpxa_3] :: Cl b1201 26 [.slice adxd_0 xd.length cpxd_0] :: Row Hp.nil 121 (.cons (.int .i64) (.cons (.int .i64) (.cons (.int .i64) (.cons (.int .i64) (.one .bool))))) (.slice ad2068 l2067.length cp2069) l2067 :: F) ?_ ?_
 · refine CJ.block <| CJ.front 2 rfl <| CJ.front 2 rfl <| CJ.loop (fun s ρ K' L' => ∃ (l2168 : (List (Int × Int × Int × Int × Bool))) (i2173 : Int) (ad2169 : Option Addr) (cp2170 : Nat), (l2168, i2173) = s ∧ Fits [(1, .slice adxb_0 xb.length cpxb_0), (2, .slice adxc_0 xc.length cpxc_0), (4, .pointer (some ⟨b1200, 0, none⟩)), (7, .pointer (some ⟨b1201, 0, none⟩)), (11, .slice ad2169 l2168.length cp2170), (13, ii i2173)] ρ ∧ Hp.le K K' ∧ L' = Cl b1200 53 [ii xa.1, .slice adxa_1 xa.2.1.length cpxa_1, .slice adxa_2 xa.2.2.1.length cpxa_2, .slice adxa_3 xa.2.2.2.length cpxa_3] :: Cl b1201 26 [.slice adxd_0 xd.length cpxd_0] :: Row Hp.nil 121 (.cons (.int .i64) (.cons (.int .i64) (.cons (.int .i64) (.cons (.int .i64) (.one .bool))))) (.slice ad2169 l2168.length cp2170) l2168 :: F) ho2073 ⟨l1495, 0, ad1496, cp1497, rfl, ⟨rfl, rfl, rfl, rfl, rfl, rfl, trivial⟩, (Hp.le_refl _), rfl⟩ ?_
   rintro s ρ K2167 _ r2271 ⟨l2168, i2173, ad2169, cp2170, rfl, hf2269, hk2270, rfl⟩ h2268
   obtain ⟨ρ, rfl⟩ := hf2269.ex
   refine CJ.front 2 rfl <| CJ.wit Row.hn fun hn2172 => CJ.seq <| CJ.seq <| CJ.region <| jm (ii i2173) rfl <| jv _ (V.fad Try.underlying53 rfl nz23 rfl) ?_
   refine jv (.slice adxa_2 xa.2.2.1.length cpxa_2) (V.ld rfl (Ld.sc sc23 (Rd.cl 1 rfl rfl))) <| jv (ii (((xa.2.2.1.length : Nat) : Int))) (V.len Try.underlying23 rfl) <| jv (.bool (decide (i2173 < (((xa.2.2.1.length : Nat) : Int))))) (V.lss rfl rfl) <| J.nil <| cc rfl h2268 (fun hc2272 h2268 => ?_) fun hc2272 h2268 => ?_
   · refine CJ.skip <| CJ.seq <| CJ.block <| CJ.seq <| CJ.region <| jv _ (V.fad Try.underlying53 rfl nz23 rfl) <| jv (.slice adxa_2 xa.2.2.1.length cpxa_2) (V.ld rfl (Ld.sc sc23 (Rd.cl 1 rfl rfl))) ?_
     refine jm (ii i2173) rfl ?_
     obtain ⟨x2273, hx2274, h2268⟩ := ob h2268
     obtain ⟨p2275, p2276, p2277⟩ := getI_some hx2274
     obtain ⟨b2278, o2279, e2280, a2281⟩ := ((fxa_2.mono hk2270)).at p2276
     refine jv _ (V.iad Try.underlying23 sz26 rfl e2280 rfl p2275 p2277) ?_
     obtain ⟨ad2282, cp2283, c2284, f2285⟩ := ((a2281).one).sl
     refine jv (.agg #[.slice ad2282 x2273.length cp2283]) (V.ld rfl (Ld.aggK (cs := [.slice ad2282 x2273.length cp2283]) Try.underlying26 sz26 rfl ⟨c2284, trivial⟩ (Hp.le_refl _))) <| jm (.slice adxb_0 xb.length cpxb_0) rfl ?_
     obtain ⟨r2286, hr2287, h2268⟩ := ob h2268
     refine J.op rfl (A.call (L1 := []) Try.call79 rfl (ref15_Subst_ok f2285 (fxb_0.mono hk2270) hr2287) rfl rfl) ?_
     rintro _ _ _ ⟨v2293, _, rfl, ⟨⟨l2288, i2289, ad2290, cp2291, rfl, rfl, rfl⟩, rfl⟩, _, rfl⟩
     refine J.wit Row.hn fun hn2292 => jm (.tuple #[.agg #[.slice ad2290 l2288.length cp2291], ii i2289]) rfl <| jx (.agg #[.slice ad2290 l2288.length cp2291]) rfl rfl <| jx (ii i2289) rfl rfl <| jal inf26 [.slice none 0 0] rfl fun b2297 => js [.slice ad2290 l2288.length cp2291] sz26 rfl rfl rfl rfl rfl rfl <| ja (ii i2289) rfl ?_
     refine J.nil <| CJ.seq <| CJ.mix [Cl b2297 26 [.slice ad2290 l2288.length cp2291], Row Hp.nil 121 (.cons (.int .i64) (.cons (.int .i64) (.cons (.int .i64) (.cons (.int .i64) (.one .bool))))) (.slice ad2169 l2168.length cp2170) l2168, Cl b1200 53 [ii xa.1, .slice adxa_1 xa.2.1.length cpxa_1, .slice adxa_2 xa.2.2.1.length cpxa_2, .slice adxa_3 xa.2.2.2.length cpxa_3], Cl b1201 26 [.slice adxd_0 xd.length cpxd_0]] [([0, 1, 2, 3, 4, 5, 6], 7)] [8, 9, 10, 11, 12] [] mixO (by decide +kernel) ⟨0, rfl, 1, rfl, 1, rfl, 1, rfl, trivial⟩ rfl rfl rfl <| JM.cons <| qm (.slice adxc_0 xc.length cpxc_0) rfl <| qm (ii i2173) rfl ?_
     obtain ⟨x2325, hx2326, h2268⟩ := ob h2268
     obtain ⟨p2327, p2328, p2329⟩ := getI_some hx2326
     obtain ⟨b2330, o2331, e2332, a2333⟩ := ((fxc_0.mono hk2270)).at p2328
     refine qv _ (V.iad Try.underlying23 sz26 rfl e2332 rfl p2327 p2329) ?_
     obtain ⟨ad2334, cp2335, c2336, f2337⟩ := ((a2333).one).sl
     refine qv (.agg #[.slice ad2334 x2325.length cp2335]) (V.ld rfl (Ld.aggK (cs := [.slice ad2334 x2325.length cp2335]) Try.underlying26 sz26 rfl ⟨c2336, trivial⟩ (Hp.le_refl _))) <| qv (.agg #[.slice ad2290 l2288.length cp2291]) (V.ld rfl (Ld.agg (cs := [.slice ad2290 l2288.length cp2291]) Try.underlying26 sz26 rfl (Rd.cls 0 0 rfl rfl))) <| qm (ii i2173) rfl <| qv (ii (IntKind.wrap .i64 (16 * i2173))) (V.mul rfl rfl) <| JQ.nil <| JA.front 1 rfl <| JA.persist (Hp.nil_le _) (by decide) fun K2338 hK2339 f2340 => ?_
     obtain ⟨r2341, hr2342, h2268⟩ := ob h2268
     refine JA.op rfl (A.call (L1 := []) Try.call61 rfl (ref16_Flow_ok (f2337.mono hK2339) f2340 hr2342) rfl rfl) ?_
     rintro _ _ _ ⟨v2348, _, rfl, ⟨⟨l2343, i2344, ad2345, cp2346, rfl, rfl, rfl⟩, rfl⟩, _, rfl⟩
     refine ⟨fun w hs => Hold.sub hK2339 ⟨1, rfl, 1, rfl, 1, rfl, 1, rfl, trivial⟩ hs, ?_⟩
     refine JM.wit Row.hn fun hn2347 => JM.nil <| qm (.tuple #[.slice ad2345 l2343.length cp2346, ii i2344]) rfl <| qv (.slice ad2345 l2343.length cp2346) (V.ext rfl rfl) <| qv (ii i2344) (V.ext rfl rfl) <| qa (.slice ad2345 l2343.length cp2346) rfl <| qa (ii i2344) rfl ?_
     refine JQ.nil <| J.nil <| CJ.seq <| CJ.seq <| CJ.region <| jm (ii i2344) rfl <| jv (.bool (!decide (i2344 = 0))) (V.neq rfl rfl) ?_
     refine J.nil <| cc rfl h2268 (fun hc2352 h2268 => ?_) fun hc2352 h2268 => ?_
     · refine CJ.seq <| CJ.region <| jm (ii i2344) rfl <| ja (.slice none 0 0) rfl <| ja (ii i2344) rfl <| J.nil <| CJ.by (fun w hs => Sep.rowNil (e := 121) (t := (.cons (.int .i64) (.cons (.int .i64) (.cons (.int .i64) (.cons (.int .i64) (.one .bool)))))) hs) ?_
       refine CJ.ret ?_
       obtain rfl := si h2268
       refine ⟨nofun, fun e => ?_⟩
       subst e
       refine .inr ⟨nofun, ?_⟩
       obtain rfl := si h
       exact ⟨_, _, Res.two rfl rfl rfl, ⟨[], i2344, none, 0, rfl, rfl, rfl⟩, (hk2270.trans hK2339), fun w hs => (Sep.dropAt 1 rfl (Sep.dropAt 1 rfl (Sep.dropAt 1 rfl (Sep.dropAt 1 rfl (Sep.dropAt 1 rfl hs)))))⟩
     refine CJ.skip <| CJ.region <| jm (.slice ad2169 l2168.length cp2170) rfl <| jm (.slice ad2345 l2343.length cp2346) rfl ?_
     obtain ⟨z2354, hz2355, h2268⟩ := ob h2268
     refine J.front 2 rfl <| J.op rfl (A.appR (Kr := Hp.nil) Try.underlying90 inf121 rfl rfl (by decide) (by decide) rfl rfl (Els.flat rfl) (Els.flat rfl) hz2355) ?_
     rintro _ _ _ ⟨v2356, rfl, rfl, rfl⟩
     refine J.wit Row.form ?_
     rintro ⟨ad2357, cp2358, rfl, _, _, hn2359⟩
     refine ja (.slice ad2357 z2354.length cp2358) rfl <| J.nil <| CJ.region <| jm (ii i2173) rfl <| jv (ii (IntKind.wrap .i64 (i2173 + 1))) (V.add rfl rfl) <| ja (ii (IntKind.wrap .i64 (i2173 + 1))) rfl <| J.dropAt 1 rfl ?_
     refine J.front 2 rfl <| J.front 2 rfl <| J.nil ?_
     obtain rfl := si h2268
     exact ⟨rfl, ⟨z2354, IntKind.wrap .i64 (i2173 + 1), ad2357, cp2358, rfl, ⟨rfl, rfl, rfl, rfl, rfl, rfl, trivial⟩, (hk2270.trans hK2339), rfl⟩⟩
   refine CJ.front 2 rfl <| CJ.front 2 rfl <| CJ.exit ?_
   obtain rfl := si h2268
   refine ⟨nofun, fun e => ?_⟩
   subst e
   exact .inl ⟨rfl, _, rfl, ⟨l2168, ad2169, cp2170, rfl, ⟨rfl, rfl, rfl, rfl, trivial⟩, hk2270, rfl⟩⟩
 rintro s ρ K2066 _ ho2360 ⟨l2067, ad2068, cp2069, rfl, hf2361, hk2362, rfl⟩
 subst ho2360
 obtain ⟨ρ, rfl⟩ := hf2361.ex
 refine PJ.front 2 rfl <| PJ.wit Row.hn fun hn2071 => PJ.done <| CJ.seq <| CJ.region <| jv _ (V.fad Try.underlying53 rfl nz26 rfl) <| jv (.agg #[.slice adxa_3 xa.2.2.2.length cpxa_3]) (V.ld rfl (Ld.agg (cs := [.slice adxa_3 xa.2.2.2.length cpxa_3]) Try.underlying26 sz26 rfl (Rd.cls 1 3 rfl rfl))) ?_
 refine jm (.slice adxb_0 xb.length cpxb_0) rfl ?_
 obtain ⟨r2363, hr2364, h⟩ := ob h
 refine J.op rfl (A.call (L1 := []) Try.call79 rfl (ref15_Subst_ok (fxa_3.mono hk2362) (fxb_0.mono hk2362) hr2364) rfl rfl) ?_
 rintro _ _ _ ⟨v2370, _, rfl, ⟨⟨l2365, i2366, ad2367, cp2368, rfl, rfl, rfl⟩, rfl⟩, _, rfl⟩
 refine J.wit Row.hn fun hn2369 => jm (.tuple #[.agg #[.slice ad2367 l2365.length cp2368], ii i2366]) rfl <| jx (.agg #[.slice ad2367 l2365.length cp2368]) rfl rfl <| jx (ii i2366) rfl rfl <| jal inf26 [.slice none 0 0] rfl fun b2374 => js [.slice ad2367 l2365.length cp2368] sz26 rfl rfl rfl rfl rfl rfl <| ja (ii i2366) rfl ?_
 refine J.nil <| CJ.seq <| CJ.region <| jv (.agg #[.slice ad2367 l2365.length cp2368]) (V.ld rfl (Ld.agg (cs := [.slice ad2367 l2365.length cp2368]) Try.underlying26 sz26 rfl (Rd.cls 0 0 rfl rfl))) <| jv (.agg #[.slice adxd_0 xd.length cpxd_0]) (V.ld rfl (Ld.agg (cs := [.slice adxd_0 xd.length cpxd_0]) Try.underlying26 sz26 rfl (Rd.cls 4 0 rfl rfl))) <| J.front 1 rfl <| J.persist (Hp.nil_le _) (by decide) fun K2375 hK2376 f2377 => ?_
 obtain ⟨r2378, hr2379, h⟩ := ob h
 refine J.op rfl (A.call (L1 := []) Try.call61 rfl (ref16_Flow_ok f2377 (fxd_0.mono (hk2362.trans hK2376)) hr2379) rfl rfl) ?_
 rintro _ _ _ ⟨v2385, _, rfl, ⟨⟨l2380, i2381, ad2382, cp2383, rfl, rfl, rfl⟩, rfl⟩, _, rfl⟩
 refine J.wit Row.hn fun hn2384 => jm (.tuple #[.slice ad2382 l2380.length cp2383, ii i2381]) rfl <| jx (.slice ad2382 l2380.length cp2383) rfl rfl <| jx (ii i2381) rfl rfl <| ja (.slice ad2382 l2380.length cp2383) rfl <| ja (ii i2381) rfl <| J.nil ?_
 refine CJ.seq <| CJ.seq <| CJ.region <| jm (ii i2381) rfl <| jv (.bool (!decide (i2381 = 0))) (V.neq rfl rfl) <| J.nil <| cc rfl h (fun hc2389 h => ?_) fun hc2389 h => ?_
 · refine CJ.seq <| CJ.region <| jm (ii i2381) rfl <| ja (.slice none 0 0) rfl <| ja (ii i2381) rfl <| J.nil <| CJ.by (fun w hs => Sep.rowNil (e := 121) (t := (.cons (.int .i64) (.cons (.int .i64) (.cons (.int .i64) (.cons (.int .i64) (.one .bool)))))) hs) ?_
   refine CJ.ret ?_
   obtain rfl := si h
   exact ⟨_, _, Res.two rfl rfl rfl, ⟨[], i2381, none, 0, rfl, rfl, rfl⟩, (hk2362.trans hK2376), fun w hs => (Sep.dropAt 1 rfl (Sep.dropAt 1 rfl (Sep.dropAt 1 rfl (Sep.dropAt 1 rfl (Sep.dropAt 1 rfl hs)))))⟩
 refine CJ.skip <| CJ.seq <| CJ.region <| jm (.slice ad2068 l2067.length cp2069) rfl <| jm (.slice ad2382 l2380.length cp2383) rfl ?_
 obtain ⟨z2391, hz2392, h⟩ := ob h
 refine J.front 2 rfl <| J.op rfl (A.appR (Kr := Hp.nil) Try.underlying90 inf121 rfl rfl (by decide) (by decide) rfl rfl (Els.flat rfl) (Els.flat rfl) hz2392) ?_
 rintro _ _ _ ⟨v2393, rfl, rfl, rfl⟩
 refine J.wit Row.form ?_
 rintro ⟨ad2394, cp2395, rfl, _, _, hn2396⟩
 refine ja (.slice ad2394 z2391.length cp2395) rfl <| ja (ii 0) rfl <| J.nil <| CJ.ret ?_
 obtain rfl := si h
 exact ⟨_, _, Res.two rfl rfl rfl, ⟨z2391, 0, ad2394, cp2395, rfl, rfl, rfl⟩, (hk2362.trans hK2376), fun w hs => (Sep.dropAt 1 rfl (Sep.dropAt 1 rfl (Sep.dropAt 1 rfl hs)))⟩
noncomputable def fn_ref19_Needs_l1 (xa : (Int × Int × Int × (List Int) × (List Int) × (List Int))) (xb : (Int × Int × (List (List (Int × Bool))) × (List (Int × Bool)) × (List (Int × (List (Int × Int)) × (List (List (Int × Bool))) × (List (Int × Bool)))))) : ((List (List (Int × Bool))) × Int) → Option (((List (List (Int × Bool))) × Int) ⊕ (List (List (Int × Bool)))) := fun ((l1145, i1150) : ((List (List (Int × Bool))) × Int)) => cond (decide (i1150 < (((xa.2.2.2.2.1.length : Nat) : Int)))) ((getI xa.2.2.2.2.1 i1150).bind fun x1244 => (getI xb.2.2.1 x1244).bind fun x1253 => (app l1145 (([x1253] : List (List (Int × Bool))))).bind fun z1269 => some (.inl ((z1269, IntKind.wrap .i64 (i1150 + 1))))) (some (.inr (l1145)))
noncomputable def fn_ref19_Needs (xa : (Int × Int × Int × (List Int) × (List Int) × (List Int))) (xb : (Int × Int × (List (List (Int × Bool))) × (List (Int × Bool)) × (List (Int × (List (Int × Int)) × (List (List (Int × Bool))) × (List (Int × Bool)))))) : Option (((List (Int × Int × Int × Int × Bool)) × Int)) :=
  (fn_ref19_Form (xa.1, xa.2.1, xa.2.2.1, xa.2.2.2.1, xa.2.2.2.2.1, xa.2.2.2.2.2)).bind fun i692 => cond (!decide (i692 = 0)) (some (([], i692))) ((fn_ref19_within xa.2.2.2.1 xb.1).bind fun t700 => (cond (!t700) (some (true)) ((fn_ref19_within xa.2.2.2.2.1 (((xb.2.2.1.length : Nat) : Int))).bind fun t716 => some (!t716))).bind fun t711 => (cond (t711) (some (true)) ((fn_ref19_within xa.2.2.2.2.2 xb.2.1).bind fun t732 => some (!t732))).bind fun t727 => cond (t727) (some (([], 7))) ((cond (decide (xa.1 = 4)) ((fn_ref19_within ([xa.2.2.1] : List Int) (((xb.2.2.1.length : Nat) : Int))).bind fun t790 => (cond (!t790) (some (true)) ((fn_ref19_within ([xa.2.1] : List Int) (((xb.2.2.2.2.length : Nat) : Int))).bind fun t818 => some (!t818))).bind fun t807 => some (t807)) (some (false))).bind fun t779 => cond (t779) (some (([], 7))) (cond ((decide (xa.1 = 3)) && (decide ((((xb.2.2.1.length : Nat) : Int)) = 0))) (some (([], 14))) (cond (decide (xa.1 = 3)) ((getI xb.2.2.1 0).bind fun x854 => (fn_ref16_Flow x854 xb.2.2.2.1 7 0).bind fun (l869, i870) => some ((l869, i870))) (cond (decide (xa.1 = 4)) ((loop (fn_ref19_Needs_l1 xa xb) ((([] : List (List (Int × Bool))), 0)) : Option ((List (List (Int × Bool))))).bind fun l1075 => (getI xb.2.2.2.2 xa.2.1).bind fun x1325 => (getI xb.2.2.1 xa.2.2.1).bind fun x1346 => (fn_ref17_Call (x1325.1, x1325.2.1, x1325.2.2.1, x1325.2.2.2) xa.2.2.2.2.2 l1075 x1346).bind fun (l1364, i1365) => some ((l1364, i1365))) (some (([], 0))))))))
set_option maxRecDepth 100000 in
set_option maxHeartbeats 4000000 in
theorem ref19_Needs_ok {K : Hp} {xa : (Int × Int × Int × (List Int) × (List Int) × (List Int))} {xb : (Int × Int × (List (List (Int × Bool))) × (List (Int × Bool)) × (List (Int × (List (Int × Int)) × (List (List (Int × Bool))) × (List (Int × Bool)))))} {adxa_3 : Option Addr} {cpxa_3 : Nat} {adxa_4 : Option Addr} {cpxa_4 : Nat} {adxa_5 : Option Addr} {cpxa_5 : Nat} {adxb_2 : Option Addr} {cpxb_2 : Nat} {adxb_3 : Option Addr} {cpxb_3 : Nat} {adxb_4 : Option Addr} {cpxb_4 : Nat} (fxa_3 : Is K (.sl (.int .i64)) [.slice adxa_3 xa.2.2.2.1.length cpxa_3] xa.2.2.2.1) (fxa_4 : Is K (.sl (.int .i64)) [.slice adxa_4 xa.2.2.2.2.1.length cpxa_4] xa.2.2.2.2.1) (fxa_5 : Is K (.sl (.int .i64)) [.slice adxa_5 xa.2.2.2.2.2.length cpxa_5] xa.2.2.2.2.2) (fxb_2 : Is K (.sl (.one (.sl (.cons (.int .i64) (.one .bool))))) [.slice adxb_2 xb.2.2.1.length cpxb_2] xb.2.2.1) (fxb_3 : Is K (.sl (.cons (.int .i64) (.one .bool))) [.slice adxb_3 xb.2.2.2.1.length cpxb_3] xb.2.2.2.1) (fxb_4 : Is K (.sl (.cons (.int .i64) (.cons (.sl (.cons (.int .i64) (.one (.int .i64)))) (.cons (.sl (.one (.sl (.cons (.int .i64) (.one .bool))))) (.one (.one (.sl (.cons (.int .i64) (.one .bool))))))))) [.slice adxb_4 xb.2.2.2.2.length cpxb_4] xb.2.2.2.2) {r : ((List (Int × Int × Int × Int × Bool)) × Int)} (h : fn_ref19_Needs xa xb = some r) :
    Tr Try.prog 50 #[.agg #[ii xa.1, ii xa.2.1, ii xa.2.2.1, .slice adxa_3 xa.2.2.2.1.length cpxa_3, .slice adxa_4 xa.2.2.2.2.1.length cpxa_4, .slice adxa_5 xa.2.2.2.2.2.length cpxa_5], .agg #[ii xb.1, ii xb.2.1, .slice adxb_2 xb.2.2.1.length cpxb_2, .slice adxb_3 xb.2.2.2.1.length cpxb_3, .slice adxb_4 xb.2.2.2.2.length cpxb_4]] K [] (fun v K' L' => (∃ (l682 : (List (Int × Int × Int × Int × Bool))) (i687 : Int) (ad683 : Option Addr) (cp684 : Nat), (l682, i687) = r ∧ .tuple #[.slice ad683 l682.length cp684, ii i687] = v ∧ L' = [Row Hp.nil 121 (.cons (.int .i64) (.cons (.int .i64) (.cons (.int .i64) (.cons (.int .i64) (.one .bool))))) (.slice ad683 l682.length cp684) l682]) ∧ K = K') := by
 refine Tr.k <| Tr.of Try.func50 rfl Try.ntmps50 rfl fun E F => ?_
 unfold fn_ref19_Needs at h
 refine CJ.seq <| CJ.region <| jbx [ii xa.1, ii xa.2.1, ii xa.2.2.1, .slice adxa_3 xa.2.2.2.1.length cpxa_3, .slice adxa_4 xa.2.2.2.2.1.length cpxa_4, .slice adxa_5 xa.2.2.2.2.2.length cpxa_5] rfl rfl fun b688 => jbx [ii xb.1, ii xb.2.1, .slice adxb_2 xb.2.2.1.length cpxb_2, .slice adxb_3 xb.2.2.2.1.length cpxb_3, .slice adxb_4 xb.2.2.2.2.length cpxb_4] rfl rfl fun b689 => ja (.slice none 0 0) rfl <| ja (ii 0) rfl <| J.nil ?_
 refine CJ.seq <| CJ.region <| jv (.agg #[ii xa.1, ii xa.2.1, ii xa.2.2.1, .slice adxa_3 xa.2.2.2.1.length cpxa_3, .slice adxa_4 xa.2.2.2.2.1.length cpxa_4, .slice adxa_5 xa.2.2.2.2.2.length cpxa_5]) (V.ld rfl (Ld.agg (cs := [ii xa.1, ii xa.2.1, ii xa.2.2.1, .slice adxa_3 xa.2.2.2.1.length cpxa_3, .slice adxa_4 xa.2.2.2.2.1.length cpxa_4, .slice adxa_5 xa.2.2.2.2.2.length cpxa_5]) Try.underlying56 sz56 rfl (Rd.cls 1 0 rfl rfl))) ?_
 obtain ⟨r690, hr691, h⟩ := ob h
 refine J.op rfl (A.call (L1 := []) Try.call64 rfl (ref19_Form_ok fxa_3 fxa_4 fxa_5 hr691) rfl rfl) ?_
 rintro _ _ _ ⟨v693, _, rfl, ⟨⟨i692, rfl, rfl, rfl⟩, rfl⟩, _, rfl⟩
 refine ja (ii i692) rfl <| J.nil <| CJ.seq <| CJ.seq <| CJ.region <| jm (ii i692) rfl <| jv (.bool (!decide (i692 = 0))) (V.neq rfl rfl) ?_
 refine J.nil <| cc rfl h (fun hc696 h => ?_) fun hc696 h => ?_
 · refine CJ.seq <| CJ.region <| jm (ii i692) rfl <| ja (.slice none 0 0) rfl <| ja (ii i692) rfl <| J.nil <| CJ.by (fun w hs => Sep.rowNil (e := 121) (t := (.cons (.int .i64) (.cons (.int .i64) (.cons (.int .i64) (.cons (.int .i64) (.one .bool)))))) hs) ?_
   refine CJ.ret ?_
   obtain rfl := si h
   exact ⟨_, _, Res.two rfl rfl rfl, ⟨[], i692, none, 0, rfl, rfl, rfl⟩, (Hp.le_refl _), fun w hs => (Sep.dropAt 1 rfl (Sep.dropAt 1 rfl hs))⟩
 refine CJ.skip <| CJ.seq <| CJ.seq <| CJ.region <| jv _ (V.fad Try.underlying56 rfl nz37 rfl) <| jv (.slice adxa_3 xa.2.2.2.1.length cpxa_3) (V.ld rfl (Ld.sc sc37 (Rd.cl 1 rfl rfl))) <| jv _ (V.fad Try.underlying89 rfl nz3 rfl) ?_
 refine jv (ii xb.1) (V.ld rfl (Ld.sc sc3 (Rd.cl 0 rfl rfl))) ?_
 obtain ⟨r698, hr699, h⟩ := ob h
 refine J.op rfl (A.call (L1 := []) Try.call65 rfl (ref19_within_ok fxa_3 hr699) rfl rfl) ?_
 rintro _ _ _ ⟨v701, _, rfl, ⟨⟨t700, rfl, rfl, rfl⟩, rfl⟩, _, rfl⟩
 refine jv (.bool (!t700)) (V.not rfl) <| jm (.bool (!t700)) rfl <| J.cut 8 ?_
 obtain ⟨t711, ht712, h⟩ := ob h
 refine jmeet [(28, .bool t711), (2, .pointer (some ⟨b688, 0, none⟩)), (3, .pointer (some ⟨b689, 0, none⟩))] ?_ ?_
 · rcases bt (!t700) with hc713 | hc713
   · have ht712 := ct hc713 ht712
     refine J.skip rfl rfl rfl rfl hc713 <| J.skip rfl rfl rfl rfl hc713 <| J.skip rfl rfl rfl rfl hc713 <| J.skip rfl rfl rfl rfl hc713 <| J.skip rfl rfl rfl rfl hc713 <| J.skip rfl rfl rfl rfl hc713 <| J.skip rfl rfl rfl rfl hc713 ?_
     refine jv (.bool true) (V.pickT rfl hc713 rfl) <| J.nil ?_
     obtain rfl := si ht712
     exact ⟨rfl, ⟨rfl, rfl, rfl, trivial⟩, rfl, rfl⟩
   have ht712 := cf hc713 ht712
   refine J.run rfl rfl rfl hc713 <| jv _ (V.fad Try.underlying56 rfl nz37 rfl) <| J.run rfl rfl rfl hc713 <| jv (.slice adxa_4 xa.2.2.2.2.1.length cpxa_4) (V.ld rfl (Ld.sc sc37 (Rd.cl 1 rfl rfl))) <| J.run rfl rfl rfl hc713 <| jv _ (V.fad Try.underlying89 rfl nz23 rfl) <| J.run rfl rfl rfl hc713 ?_
   refine jv (.slice adxb_2 xb.2.2.1.length cpxb_2) (V.ld rfl (Ld.sc sc23 (Rd.cl 0 rfl rfl))) <| J.run rfl rfl rfl hc713 <| jv (ii (((xb.2.2.1.length : Nat) : Int))) (V.len Try.underlying23 rfl) <| J.run rfl rfl rfl hc713 ?_
   obtain ⟨r714, hr715, ht712⟩ := ob ht712
   refine J.op rfl (A.call (L1 := []) Try.call65 rfl (ref19_within_ok fxa_4 hr715) rfl rfl) ?_
   rintro _ _ _ ⟨v717, _, rfl, ⟨⟨t716, rfl, rfl, rfl⟩, rfl⟩, _, rfl⟩
   refine J.run rfl rfl rfl hc713 <| jv (.bool (!t716)) (V.not rfl) <| jv (.bool (!t716)) (V.pickF rfl hc713 rfl) <| J.nil ?_
   obtain rfl := si ht712
   exact ⟨rfl, ⟨rfl, rfl, rfl, trivial⟩, rfl, rfl⟩
 intro ρ
 refine jm (.bool t711) rfl <| J.cut 7 ?_
 obtain ⟨t727, ht728, h⟩ := ob h
 refine jmeet [(36, .bool t727), (2, .pointer (some ⟨b688, 0, none⟩)), (3, .pointer (some ⟨b689, 0, none⟩))] ?_ ?_
 · rcases bt (t711) with hc729 | hc729
   · have ht728 := ct hc729 ht728
     refine J.skip rfl rfl rfl rfl hc729 <| J.skip rfl rfl rfl rfl hc729 <| J.skip rfl rfl rfl rfl hc729 <| J.skip rfl rfl rfl rfl hc729 <| J.skip rfl rfl rfl rfl hc729 <| J.skip rfl rfl rfl rfl hc729 <| jv (.bool true) (V.pickT rfl hc729 rfl) ?_
     refine J.nil ?_
     obtain rfl := si ht728
     exact ⟨rfl, ⟨rfl, rfl, rfl, trivial⟩, rfl, rfl⟩
   have ht728 := cf hc729 ht728
   refine J.run rfl rfl rfl hc729 <| jv _ (V.fad Try.underlying56 rfl nz37 rfl) <| J.run rfl rfl rfl hc729 <| jv (.slice adxa_5 xa.2.2.2.2.2.length cpxa_5) (V.ld rfl (Ld.sc sc37 (Rd.cl 1 rfl rfl))) <| J.run rfl rfl rfl hc729 <| jv _ (V.fad Try.underlying89 rfl nz3 rfl) <| J.run rfl rfl rfl hc729 ?_
   refine jv (ii xb.2.1) (V.ld rfl (Ld.sc sc3 (Rd.cl 0 rfl rfl))) <| J.run rfl rfl rfl hc729 ?_
   obtain ⟨r730, hr731, ht728⟩ := ob ht728
   refine J.op rfl (A.call (L1 := []) Try.call65 rfl (ref19_within_ok fxa_5 hr731) rfl rfl) ?_
   rintro _ _ _ ⟨v733, _, rfl, ⟨⟨t732, rfl, rfl, rfl⟩, rfl⟩, _, rfl⟩
   refine J.run rfl rfl rfl hc729 <| jv (.bool (!t732)) (V.not rfl) <| jv (.bool (!t732)) (V.pickF rfl hc729 rfl) <| J.nil ?_
   obtain rfl := si ht728
   exact ⟨rfl, ⟨rfl, rfl, rfl, trivial⟩, rfl, rfl⟩
 intro ρ
 refine J.nil <| cc rfl h (fun hc736 h => ?_) fun hc736 h => ?_
 · refine CJ.seq <| CJ.region <| ja (.slice none 0 0) rfl <| ja (ii 7) rfl <| J.nil <| CJ.by (fun w hs => Sep.rowNil (e := 121) (t := (.cons (.int .i64) (.cons (.int .i64) (.cons (.int .i64) (.cons (.int .i64) (.one .bool)))))) hs) <| CJ.ret ?_
   obtain rfl := si h
   exact ⟨_, _, Res.two rfl rfl rfl, ⟨[], 7, none, 0, rfl, rfl, rfl⟩, (Hp.le_refl _), fun w hs => (Sep.dropAt 1 rfl (Sep.dropAt 1 rfl hs))⟩
 refine CJ.skip <| CJ.seq <| CJ.seq <| CJ.region <| jv _ (V.fad Try.underlying56 rfl nz3 rfl) <| jv (ii xa.1) (V.ld rfl (Ld.sc sc3 (Rd.cl 1 rfl rfl))) <| jv (.bool (decide (xa.1 = 4))) (V.eql rfl rfl) ?_
 refine jm (.bool (decide (xa.1 = 4))) rfl <| J.cut 19 ?_
 obtain ⟨t779, ht780, h⟩ := ob h
 refine jmeet [(59, .bool t779), (2, .pointer (some ⟨b688, 0, none⟩)), (3, .pointer (some ⟨b689, 0, none⟩))] ?_ ?_
 · rcases bt (decide (xa.1 = 4)) with hc781 | hc781
   · have ht780 := ct hc781 ht780
     refine J.run rfl rfl rfl hc781 <| jv _ (V.fad Try.underlying56 rfl nz3 rfl) <| J.run rfl rfl rfl hc781 <| jv (ii xa.2.2.1) (V.ld rfl (Ld.sc sc3 (Rd.cl 1 rfl rfl))) <| J.run rfl rfl rfl hc781 ?_
     refine J.op rfl (A.lit (K0 := Hp.nil) (ty := (.int .i64)) (xs := ([xa.2.2.1] : List Int)) Try.underlying37 inf3 rfl (by decide) rfl rfl rfl ⟨_, _, rfl, rfl, rfl⟩ rfl (by decide)) ?_
     rintro _ _ _ ⟨b782, rfl, rfl, rfl⟩
     have hn783 : ([xa.2.2.1] : List Int) ≠ [] → ∃ g, (some ⟨b782, 0, none⟩ : Option Addr) = some ⟨g, 0, none⟩ := fun _ => ⟨b782, rfl⟩
     refine J.run rfl rfl rfl hc781 <| jv _ (V.fad Try.underlying89 rfl nz23 rfl) <| J.run rfl rfl rfl hc781 <| jv (.slice adxb_2 xb.2.2.1.length cpxb_2) (V.ld rfl (Ld.sc sc23 (Rd.cl 1 rfl rfl))) <| J.run rfl rfl rfl hc781 <| jv (ii (((xb.2.2.1.length : Nat) : Int))) (V.len Try.underlying23 rfl) <| J.run rfl rfl rfl hc781 ?_
     obtain ⟨r785, hr786, ht780⟩ := ob ht780
     refine J.op rfl (A.call (L1 := [Row Hp.nil 3 (.int .i64) (.slice (some ⟨b782, 0, none⟩) (([xa.2.2.1] : List Int).length) 1) ([xa.2.2.1] : List Int)]) Try.call65 rfl (Tr.lend (Hp.nil_le _) (by decide) (fun K787 hK788 f789 => ref19_within_ok f789 hr786)) rfl rfl) ?_
     rintro _ _ _ ⟨v791, _, rfl, ⟨⟨_, ⟨t790, rfl, rfl, rfl⟩, rfl⟩, rfl⟩, _, rfl⟩
     refine J.run rfl rfl rfl hc781 <| jv (.bool (!t790)) (V.not rfl) <| J.run rfl rfl rfl hc781 <| jm (.bool (!t790)) rfl <| J.cut 9 ?_
     obtain ⟨t807, ht808, ht780⟩ := ob ht780
     refine jmeet [(58, .bool t807), (2, .pointer (some ⟨b688, 0, none⟩)), (3, .pointer (some ⟨b689, 0, none⟩)), (40, .bool (decide (xa.1 = 4)))] ?_ ?_
     · rcases bt (!t790) with hc809 | hc809
       · have ht808 := ct hc809 ht808
         refine J.skip rfl rfl rfl rfl hc809 <| J.skip rfl rfl rfl rfl hc809 <| J.skip rfl rfl rfl rfl hc809 <| J.skip rfl rfl rfl rfl hc809 <| J.skip rfl rfl rfl rfl hc809 <| J.skip rfl rfl rfl rfl hc809 <| J.skip rfl rfl rfl rfl hc809 ?_
         refine J.skip rfl rfl rfl rfl hc809 <| J.run rfl rfl rfl hc781 <| jv (.bool true) (V.pickT rfl hc809 rfl) <| J.nil ?_
         obtain rfl := si ht808
         exact ⟨rfl, ⟨rfl, rfl, rfl, rfl, trivial⟩, rfl, rfl⟩
       have ht808 := cf hc809 ht808
       refine J.run rfl rfl rfl hc809 <| jv _ (V.fad Try.underlying56 rfl nz3 rfl) <| J.run rfl rfl rfl hc809 <| jv (ii xa.2.1) (V.ld rfl (Ld.sc sc3 (Rd.cl 2 rfl rfl))) <| J.run rfl rfl rfl hc809 ?_
       refine J.op rfl (A.lit (K0 := Hp.nil) (ty := (.int .i64)) (xs := ([xa.2.1] : List Int)) Try.underlying37 inf3 rfl (by decide) rfl rfl rfl ⟨_, _, rfl, rfl, rfl⟩ rfl (by decide)) ?_
       rintro _ _ _ ⟨b810, rfl, rfl, rfl⟩
       have hn811 : ([xa.2.1] : List Int) ≠ [] → ∃ g, (some ⟨b810, 0, none⟩ : Option Addr) = some ⟨g, 0, none⟩ := fun _ => ⟨b810, rfl⟩
       refine J.run rfl rfl rfl hc809 <| jv _ (V.fad Try.underlying89 rfl nz27 rfl) <| J.run rfl rfl rfl hc809 <| jv (.slice adxb_4 xb.2.2.2.2.length cpxb_4) (V.ld rfl (Ld.sc sc27 (Rd.cl 2 rfl rfl))) <| J.run rfl rfl rfl hc809 <| jv (ii (((xb.2.2.2.2.length : Nat) : Int))) (V.len Try.underlying27 rfl) <| J.run rfl rfl rfl hc809 ?_
       obtain ⟨r813, hr814, ht808⟩ := ob ht808
       refine J.op rfl (A.call (L1 := [Row Hp.nil 3 (.int .i64) (.slice (some ⟨b810, 0, none⟩) (([xa.2.1] : List Int).length) 1) ([xa.2.1] : List Int)]) Try.call65 rfl (Tr.lend (Hp.nil_le _) (by decide) (fun K815 hK816 f817 => ref19_within_ok f817 hr814)) rfl rfl) ?_
       rintro _ _ _ ⟨v819, _, rfl, ⟨⟨_, ⟨t818, rfl, rfl, rfl⟩, rfl⟩, rfl⟩, _, rfl⟩
       refine J.run rfl rfl rfl hc809 <| jv (.bool (!t818)) (V.not rfl) <| J.run rfl rfl rfl hc781 <| jv (.bool (!t818)) (V.pickF rfl hc809 rfl) <| J.dropAt 0 rfl <| J.nil ?_
       obtain rfl := si ht808
       exact ⟨rfl, ⟨rfl, rfl, rfl, rfl, trivial⟩, rfl, rfl⟩
     intro ρ
     refine jv (.bool t807) (V.pickT rfl hc781 rfl) <| J.dropAt 0 rfl <| J.nil ?_
     obtain rfl := si ht780
     exact ⟨rfl, ⟨rfl, rfl, rfl, trivial⟩, rfl, rfl⟩
   have ht780 := cf hc781 ht780
   refine J.skip rfl rfl rfl rfl hc781 <| J.skip rfl rfl rfl rfl hc781 <| J.skip rfl rfl rfl rfl hc781 <| J.skip rfl rfl rfl rfl hc781 <| J.skip rfl rfl rfl rfl hc781 <| J.skip rfl rfl rfl rfl hc781 <| J.skip rfl rfl rfl rfl hc781 ?_
   refine J.skip rfl rfl rfl rfl hc781 <| J.skip rfl rfl rfl rfl hc781 <| J.skipu rfl rfl rfl rfl <| J.skipu rfl rfl rfl rfl <| J.skipu rfl rfl rfl rfl <| J.skipu rfl rfl rfl rfl <| J.skipu rfl rfl rfl rfl ?_
   refine J.skipu rfl rfl rfl rfl <| J.skipu rfl rfl rfl rfl <| J.skipu rfl rfl rfl rfl <| J.skip rfl rfl rfl rfl hc781 <| jv (.bool false) (V.pickF rfl hc781 rfl) <| J.nil ?_
   obtain rfl := si ht780
   exact ⟨rfl, ⟨rfl, rfl, rfl, trivial⟩, rfl, rfl⟩
 intro ρ
 refine J.nil <| cc rfl h (fun hc822 h => ?_) fun hc822 h => ?_
 · refine CJ.seq <| CJ.region <| ja (.slice none 0 0) rfl <| ja (ii 7) rfl <| J.nil <| CJ.by (fun w hs => Sep.rowNil (e := 121) (t := (.cons (.int .i64) (.cons (.int .i64) (.cons (.int .i64) (.cons (.int .i64) (.one .bool)))))) hs) <| CJ.ret ?_
   obtain rfl := si h
   exact ⟨_, _, Res.two rfl rfl rfl, ⟨[], 7, none, 0, rfl, rfl, rfl⟩, (Hp.le_refl _), fun w hs => (Sep.dropAt 1 rfl (Sep.dropAt 1 rfl hs))⟩
 refine CJ.skip <| CJ.seq <| CJ.seq <| CJ.region <| jv _ (V.fad Try.underlying56 rfl nz3 rfl) <| jv (ii xa.1) (V.ld rfl (Ld.sc sc3 (Rd.cl 1 rfl rfl))) <| jv (.bool (decide (xa.1 = 3))) (V.eql rfl rfl) ?_
 refine jm (.bool (decide (xa.1 = 3))) rfl <| J.cut 5 <| jmeet [(68, .bool ((decide (xa.1 = 3)) && (decide ((((xb.2.2.1.length : Nat) : Int)) = 0)))), (2, .pointer (some ⟨b688, 0, none⟩)), (3, .pointer (some ⟨b689, 0, none⟩))] ?_ ?_
 · rcases bt (decide (xa.1 = 3)) with hc826 | hc826
   · refine J.run rfl rfl rfl hc826 <| jv _ (V.fad Try.underlying89 rfl nz23 rfl) <| J.run rfl rfl rfl hc826 <| jv (.slice adxb_2 xb.2.2.1.length cpxb_2) (V.ld rfl (Ld.sc sc23 (Rd.cl 0 rfl rfl))) <| J.run rfl rfl rfl hc826 <| jv (ii (((xb.2.2.1.length : Nat) : Int))) (V.len Try.underlying23 rfl) <| J.run rfl rfl rfl hc826 ?_
     refine jv (.bool (decide ((((xb.2.2.1.length : Nat) : Int)) = 0))) (V.eql rfl rfl) <| jv (.bool (decide ((((xb.2.2.1.length : Nat) : Int)) = 0))) (V.pickT rfl hc826 rfl) <| J.nil ?_
     exact ⟨rfl, ⟨(by simp only [hc826]; rfl), rfl, rfl, trivial⟩, rfl, rfl⟩
   refine J.skip rfl rfl rfl rfl hc826 <| J.skip rfl rfl rfl rfl hc826 <| J.skip rfl rfl rfl rfl hc826 <| J.skip rfl rfl rfl rfl hc826 <| jv (.bool false) (V.pickF rfl hc826 rfl) <| J.nil ?_
   exact ⟨rfl, ⟨(by simp only [hc826]; rfl), rfl, rfl, trivial⟩, rfl, rfl⟩
 intro ρ
 refine J.nil <| cc rfl h (fun hc827 h => ?_) fun hc827 h => ?_
 · refine CJ.seq <| CJ.region <| ja (.slice none 0 0) rfl <| ja (ii 14) rfl <| J.nil <| CJ.by (fun w hs => Sep.rowNil (e := 121) (t := (.cons (.int .i64) (.cons (.int .i64) (.cons (.int .i64) (.cons (.int .i64) (.one .bool)))))) hs) <| CJ.ret ?_
   obtain rfl := si h
   exact ⟨_, _, Res.two rfl rfl rfl, ⟨[], 14, none, 0, rfl, rfl, rfl⟩, (Hp.le_refl _), fun w hs => (Sep.dropAt 1 rfl (Sep.dropAt 1 rfl hs))⟩
 refine CJ.skip <| CJ.seq <| CJ.seq <| CJ.region <| jv _ (V.fad Try.underlying56 rfl nz3 rfl) <| jv (ii xa.1) (V.ld rfl (Ld.sc sc3 (Rd.cl 1 rfl rfl))) <| jv (.bool (decide (xa.1 = 3))) (V.eql rfl rfl) ?_
 refine J.nil <| cc rfl h (fun hc829 h => ?_) fun hc829 h => ?_
 · refine CJ.seq <| CJ.mix [Cl b689 89 [ii xb.1, ii xb.2.1, .slice adxb_2 xb.2.2.1.length cpxb_2, .slice adxb_3 xb.2.2.2.1.length cpxb_3, .slice adxb_4 xb.2.2.2.2.length cpxb_4], Cl b688 56 [ii xa.1, ii xa.2.1, ii xa.2.2.1, .slice adxa_3 xa.2.2.2.1.length cpxa_3, .slice adxa_4 xa.2.2.2.2.1.length cpxa_4, .slice adxa_5 xa.2.2.2.2.2.length cpxa_5]] [([0, 1, 2, 3, 4, 5], 6)] [7, 8, 9, 10] [] mixO (by decide +kernel) ⟨0, rfl, 0, rfl, trivial⟩ rfl rfl rfl <| JM.cons <| qv _ (V.fad Try.underlying89 rfl nz23 rfl) <| qv (.slice adxb_2 xb.2.2.1.length cpxb_2) (V.ld rfl (Ld.sc sc23 (Rd.cl 0 rfl rfl))) ?_
   obtain ⟨x854, hx855, h⟩ := ob h
   obtain ⟨p856, p857, p858⟩ := getI_some hx855
   obtain ⟨b859, o860, e861, a862⟩ := (fxb_2).at p857
   refine qv _ (V.iad Try.underlying23 sz26 rfl e861 rfl p856 p858) ?_
   obtain ⟨ad863, cp864, c865, f866⟩ := ((a862).one).sl
   refine qv (.agg #[.slice ad863 x854.length cp864]) (V.ld rfl (Ld.aggK (cs := [.slice ad863 x854.length cp864]) Try.underlying26 sz26 rfl ⟨c865, trivial⟩ (Hp.le_refl _))) <| qv _ (V.fad Try.underlying89 rfl nz26 rfl) <| qv (.agg #[.slice adxb_3 xb.2.2.2.1.length cpxb_3]) (V.ld rfl (Ld.agg (cs := [.slice adxb_3 xb.2.2.2.1.length cpxb_3]) Try.underlying26 sz26 rfl (Rd.cls 0 3 rfl rfl))) <| JQ.nil ?_
   obtain ⟨r867, hr868, h⟩ := ob h
   refine JA.op rfl (A.call (L1 := []) Try.call61 rfl (ref16_Flow_ok f866 fxb_3 hr868) rfl rfl) ?_
   rintro _ _ _ ⟨v874, _, rfl, ⟨⟨l869, i870, ad871, cp872, rfl, rfl, rfl⟩, rfl⟩, _, rfl⟩
   refine ⟨fun w hs => Hold.sub (Hp.le_refl _) ⟨1, rfl, 1, rfl, trivial⟩ hs, ?_⟩
   refine JM.wit Row.hn fun hn873 => JM.nil <| qv (.slice ad871 l869.length cp872) (V.ext rfl rfl) <| qv (ii i870) (V.ext rfl rfl) <| qa (.slice ad871 l869.length cp872) rfl <| qa (ii i870) rfl <| JQ.nil ?_
   refine J.nil <| CJ.ret ?_
   obtain rfl := si h
   exact ⟨_, _, Res.two rfl rfl rfl, ⟨l869, i870, ad871, cp872, rfl, rfl, rfl⟩, (Hp.le_refl _), fun w hs => (Sep.dropAt 1 rfl (Sep.dropAt 1 rfl hs))⟩
 refine CJ.skip <| CJ.seq <| CJ.seq <| CJ.region <| jv _ (V.fad Try.underlying56 rfl nz3 rfl) <| jv (ii xa.1) (V.ld rfl (Ld.sc sc3 (Rd.cl 1 rfl rfl))) <| jv (.bool (decide (xa.1 = 4))) (V.eql rfl rfl) ?_
 refine J.nil <| cc rfl h (fun hc878 h => ?_) fun hc878 h => ?_
 · refine CJ.seq <| CJ.region ?_
   refine J.op rfl (A.lit (K0 := K) (ty := (.one (.sl (.cons (.int .i64) (.one .bool))))) (xs := ([] : List (List (Int × Bool)))) Try.underlying23 inf26 rfl (by decide) rfl rfl rfl rfl rfl (by decide)) ?_
   rintro _ _ _ ⟨b879, rfl, rfl, rfl⟩
   have hn880 : ([] : List (List (Int × Bool))) ≠ [] → ∃ g, (some ⟨b879, 0, none⟩ : Option Addr) = some ⟨g, 0, none⟩ := fun _ => ⟨b879, rfl⟩
   refine ja (.slice (some ⟨b879, 0, none⟩) ((([] : List (List (Int × Bool)))).length) 0) rfl <| J.nil <| CJ.seq <| CJ.seq <| CJ.region <| ja (ii 0) rfl <| J.nil ?_
   obtain ⟨o1080, ho1081, h⟩ := ob h
   refine CJ.meetN (fun ρ K' L' => ∃ (l1075 : (List (List (Int × Bool)))) (ad1076 : Option Addr) (cp1077 : Nat), l1075 = o1080 ∧ Fits [(2, .pointer (some ⟨b688, 0, none⟩)), (3, .pointer (some ⟨b689, 0, none⟩)), (7, .slice ad1076 l1075.length cp1077)] ρ ∧ K = K' ∧ L' = Cl b688 56 [ii xa.1, ii xa.2.1, ii xa.2.2.1, .slice adxa_3 xa.2.2.2.1.length cpxa_3, .slice adxa_4 xa.2.2.2.2.1.length cpxa_4, .slice adxa_5 xa.2.2.2.2.2.length cpxa_5] :: Cl b689 89 [ii xb.1, ii xb.2.1, .slice adxb_2 xb.2.2.1.length cpxb_2, .slice adxb_3 xb.2.2.2.1.length cpxb_3, .slice adxb_4 xb.2.2.2.2.length cpxb_4] :: Row K 26 (.one (.sl (.cons (.int .i64) (.one .bool)))) (.slice ad1076 l1075.length cp1077) l1075 :: F) ?_ ?_
   · refine CJ.block <| CJ.front 1 rfl <| CJ.front 2 rfl <| CJ.loop (fun s ρ K' L' => ∃ (l1145 : (List (List (Int × Bool)))) (i1150 : Int) (ad1146 : Option Addr) (cp1147 : Nat), (l1145, i1150) = s ∧ Fits [(2, .pointer (some ⟨b688, 0, none⟩)), (3, .pointer (some ⟨b689, 0, none⟩)), (7, .slice ad1146 l1145.length cp1147), (8, ii i1150)] ρ ∧ K = K' ∧ L' = Cl b688 56 [ii xa.1, ii xa.2.1, ii xa.2.2.1, .slice adxa_3 xa.2.2.2.1.length cpxa_3, .slice adxa_4 xa.2.2.2.2.1.length cpxa_4, .slice adxa_5 xa.2.2.2.2.2.length cpxa_5] :: Cl b689 89 [ii xb.1, ii xb.2.1, .slice adxb_2 xb.2.2.1.length cpxb_2, .slice adxb_3 xb.2.2.2.1.length cpxb_3, .slice adxb_4 xb.2.2.2.2.length cpxb_4] :: Row K 26 (.one (.sl (.cons (.int .i64) (.one .bool)))) (.slice ad1146 l1145.length cp1147) l1145 :: F) ho1081 ⟨([] : List (List (Int × Bool))), 0, (some ⟨b879, 0, none⟩), 0, rfl, ⟨rfl, rfl, rfl, rfl, trivial⟩, rfl, rfl⟩ ?_
     rintro s ρ _ _ r1217 ⟨l1145, i1150, ad1146, cp1147, rfl, hf1215, rfl, rfl⟩ h1214
     obtain ⟨ρ, rfl⟩ := hf1215.ex
     refine CJ.front 2 rfl <| CJ.wit Row.hn fun hn1149 => CJ.seq <| CJ.seq <| CJ.region <| jm (ii i1150) rfl <| jv _ (V.fad Try.underlying56 rfl nz37 rfl) ?_
     refine jv (.slice adxa_4 xa.2.2.2.2.1.length cpxa_4) (V.ld rfl (Ld.sc sc37 (Rd.cl 1 rfl rfl))) <| jv (ii (((xa.2.2.2.2.1.length : Nat) : Int))) (V.len Try.underlying37 rfl) <| jv (.bool (decide (i1150 < (((xa.2.2.2.2.1.length : Nat) : Int))))) (V.lss rfl rfl) <| J.nil <| cc rfl h1214 (fun hc1218 h1214 => ?_) fun hc1218 h1214 => ?_
     · refine CJ.skip <| CJ.seq <| CJ.block <| CJ.mix [Row K 26 (.one (.sl (.cons (.int .i64) (.one .bool)))) (.slice ad1146 l1145.length cp1147) l1145, Cl b688 56 [ii xa.1, ii xa.2.1, ii xa.2.2.1, .slice adxa_3 xa.2.2.2.1.length cpxa_3, .slice adxa_4 xa.2.2.2.2.1.length cpxa_4, .slice adxa_5 xa.2.2.2.2.2.length cpxa_5], Cl b689 89 [ii xb.1, ii xb.2.1, .slice adxb_2 xb.2.2.1.length cpxb_2, .slice adxb_3 xb.2.2.2.1.length cpxb_3, .slice adxb_4 xb.2.2.2.2.length cpxb_4]] [([0, 1, 2, 3, 4, 5, 6, 7, 8, 9], 10)] [] [11, 12] mixO (by decide +kernel) ⟨0, rfl, 0, rfl, 0, rfl, trivial⟩ rfl rfl rfl <| JM.cons <| qm (.slice ad1146 l1145.length cp1147) rfl <| qv _ (V.fad Try.underlying89 rfl nz23 rfl) ?_
       refine qv (.slice adxb_2 xb.2.2.1.length cpxb_2) (V.ld rfl (Ld.sc sc23 (Rd.cl 2 rfl rfl))) <| qv _ (V.fad Try.underlying56 rfl nz37 rfl) <| qv (.slice adxa_4 xa.2.2.2.2.1.length cpxa_4) (V.ld rfl (Ld.sc sc37 (Rd.cl 1 rfl rfl))) <| qm (ii i1150) rfl ?_
       obtain ⟨x1244, hx1245, h1214⟩ := ob h1214
       obtain ⟨p1246, p1247, p1248⟩ := getI_some hx1245
       obtain ⟨b1249, o1250, e1251, a1252⟩ := (fxa_4).at p1247
       refine qv _ (V.iad Try.underlying37 sz3 rfl e1251 rfl p1246 p1248) <| qv (ii x1244) (V.ld rfl (Ld.sc sc3 (Rd.k (a1252).int (Hp.le_refl _)))) ?_
       obtain ⟨x1253, hx1254, h1214⟩ := ob h1214
       obtain ⟨p1255, p1256, p1257⟩ := getI_some hx1254
       obtain ⟨b1258, o1259, e1260, a1261⟩ := (fxb_2).at p1256
       refine qv _ (V.iad Try.underlying23 sz26 rfl e1260 rfl p1255 p1257) ?_
       obtain ⟨ad1262, cp1263, c1264, f1265⟩ := ((a1261).one).sl
       refine qv (.agg #[.slice ad1262 x1253.length cp1263]) (V.ld rfl (Ld.aggK (cs := [.slice ad1262 x1253.length cp1263]) Try.underlying26 sz26 rfl ⟨c1264, trivial⟩ (Hp.le_refl _))) <| JQ.nil ?_
       refine JA.op rfl (A.lit (K0 := K) (ty := (.one (.sl (.cons (.int .i64) (.one .bool))))) (xs := ([x1253] : List (List (Int × Bool)))) Try.underlying23 inf26 rfl (by decide) rfl rfl rfl ⟨_, _, rfl, f1265, rfl⟩ rfl (by decide)) ?_
       rintro _ _ _ ⟨b1266, rfl, rfl, rfl⟩
       have hn1267 : ([x1253] : List (List (Int × Bool))) ≠ [] → ∃ g, (some ⟨b1266, 0, none⟩ : Option Addr) = some ⟨g, 0, none⟩ := fun _ => ⟨b1266, rfl⟩
       refine ⟨fun w hs => Hold.sub (Hp.le_refl _) ⟨1, rfl, 1, rfl, 1, rfl, trivial⟩ hs, ?_⟩
       refine JM.nil <| JQ.nil ?_
       obtain ⟨z1269, hz1270, h1214⟩ := ob h1214
       refine J.front 1 rfl <| J.op rfl (A.appR (Kr := K) Try.underlying23 inf26 rfl rfl (by decide) (by decide) rfl rfl (Els.mono (Hp.le_refl _)) (Els.mono (Hp.le_refl _)) hz1270) ?_
       rintro _ _ _ ⟨v1271, rfl, rfl, rfl⟩
       refine J.wit Row.form ?_
       rintro ⟨ad1272, cp1273, rfl, _, _, hn1274⟩
       refine ja (.slice ad1272 z1269.length cp1273) rfl <| J.nil <| CJ.region <| jm (ii i1150) rfl <| jv (ii (IntKind.wrap .i64 (i1150 + 1))) (V.add rfl rfl) <| ja (ii (IntKind.wrap .i64 (i1150 + 1))) rfl <| J.front 2 rfl ?_
       refine J.front 2 rfl <| J.nil ?_
       obtain rfl := si h1214
       exact ⟨rfl, ⟨z1269, IntKind.wrap .i64 (i1150 + 1), ad1272, cp1273, rfl, ⟨rfl, rfl, rfl, rfl, trivial⟩, rfl, rfl⟩⟩
     refine CJ.front 2 rfl <| CJ.front 2 rfl <| CJ.exit ?_
     obtain rfl := si h1214
     refine ⟨nofun, fun e => ?_⟩
     subst e
     exact ⟨rfl, ⟨l1145, ad1146, cp1147, rfl, ⟨rfl, rfl, rfl, trivial⟩, rfl, rfl⟩⟩
   rintro ρ _ _ ⟨l1075, ad1076, cp1077, rfl, hf1275, rfl, rfl⟩
   obtain ⟨ρ, rfl⟩ := hf1275.ex
   refine PJ.front 2 rfl <| PJ.wit Row.hn fun hn1079 => PJ.done <| CJ.seq <| CJ.mix [Cl b688 56 [ii xa.1, ii xa.2.1, ii xa.2.2.1, .slice adxa_3 xa.2.2.2.1.length cpxa_3, .slice adxa_4 xa.2.2.2.2.1.length cpxa_4, .slice adxa_5 xa.2.2.2.2.2.length cpxa_5], Cl b689 89 [ii xb.1, ii xb.2.1, .slice adxb_2 xb.2.2.1.length cpxb_2, .slice adxb_3 xb.2.2.2.1.length cpxb_3, .slice adxb_4 xb.2.2.2.2.length cpxb_4]] [([0, 1, 2, 3, 4, 5, 6, 7, 8, 9, 10, 11, 12, 13, 14], 15)] [16, 17, 18, 19] [] mixO (by decide +kernel) ⟨1, rfl, 1, rfl, trivial⟩ rfl rfl rfl <| JM.cons <| qv _ (V.fad Try.underlying89 rfl nz27 rfl) ?_
   refine qv (.slice adxb_4 xb.2.2.2.2.length cpxb_4) (V.ld rfl (Ld.sc sc27 (Rd.cl 1 rfl rfl))) <| qv _ (V.fad Try.underlying56 rfl nz3 rfl) <| qv (ii xa.2.1) (V.ld rfl (Ld.sc sc3 (Rd.cl 0 rfl rfl))) ?_
   obtain ⟨x1325, hx1326, h⟩ := ob h
   obtain ⟨p1327, p1328, p1329⟩ := getI_some hx1326
   obtain ⟨b1330, o1331, e1332, a1333⟩ := (fxb_4).at p1328
   refine qv _ (V.iad Try.underlying27 sz53 rfl e1332 rfl p1327 p1329) ?_
   obtain ⟨ad1334, cp1335, c1336, f1337⟩ := (((a1333).snd).fst).sl
   obtain ⟨ad1338, cp1339, c1340, f1341⟩ := ((((a1333).snd).snd).fst).sl
   obtain ⟨ad1342, cp1343, c1344, f1345⟩ := ((((((a1333).snd).snd).snd).one).one).sl
   refine qv (.agg #[ii x1325.1, .slice ad1334 x1325.2.1.length cp1335, .slice ad1338 x1325.2.2.1.length cp1339, .slice ad1342 x1325.2.2.2.length cp1343]) (V.ld rfl (Ld.aggK (cs := [ii x1325.1, .slice ad1334 x1325.2.1.length cp1335, .slice ad1338 x1325.2.2.1.length cp1339, .slice ad1342 x1325.2.2.2.length cp1343]) Try.underlying53 sz53 rfl ⟨((a1333).fst).int, c1336, c1340, c1344, trivial⟩ (Hp.le_refl _))) <| qv _ (V.fad Try.underlying56 rfl nz37 rfl) <| qv (.slice adxa_5 xa.2.2.2.2.2.length cpxa_5) (V.ld rfl (Ld.sc sc37 (Rd.cl 0 rfl rfl))) <| qm (.slice ad1076 l1075.length cp1077) rfl <| qv _ (V.fad Try.underlying89 rfl nz23 rfl) <| qv (.slice adxb_2 xb.2.2.1.length cpxb_2) (V.ld rfl (Ld.sc sc23 (Rd.cl 1 rfl rfl))) <| qv _ (V.fad Try.underlying56 rfl nz3 rfl) ?_
   refine qv (ii xa.2.2.1) (V.ld rfl (Ld.sc sc3 (Rd.cl 0 rfl rfl))) ?_
   obtain ⟨x1346, hx1347, h⟩ := ob h
   obtain ⟨p1348, p1349, p1350⟩ := getI_some hx1347
   obtain ⟨b1351, o1352, e1353, a1354⟩ := (fxb_2).at p1349
   refine qv _ (V.iad Try.underlying23 sz26 rfl e1353 rfl p1348 p1350) ?_
   obtain ⟨ad1355, cp1356, c1357, f1358⟩ := ((a1354).one).sl
   refine qv (.agg #[.slice ad1355 x1346.length cp1356]) (V.ld rfl (Ld.aggK (cs := [.slice ad1355 x1346.length cp1356]) Try.underlying26 sz26 rfl ⟨c1357, trivial⟩ (Hp.le_refl _))) <| JQ.nil <| JA.persist (Hp.le_refl _) (by decide) fun K1359 hK1360 f1361 => ?_
   obtain ⟨r1362, hr1363, h⟩ := ob h
   refine JA.op rfl (A.call (L1 := []) Try.call66 rfl (ref17_Call_ok (f1337.mono hK1360) (f1341.mono hK1360) (f1345.mono hK1360) (fxa_5.mono hK1360) f1361 (f1358.mono hK1360) hr1363) rfl rfl) ?_
   rintro _ _ _ ⟨v1369, _, rfl, ⟨⟨l1364, i1365, ad1366, cp1367, rfl, rfl, rfl⟩, rfl⟩, _, rfl⟩
   refine ⟨fun w hs => Hold.sub hK1360 ⟨1, rfl, 1, rfl, trivial⟩ hs, ?_⟩
   refine JM.wit Row.hn fun hn1368 => JM.nil <| qv (.slice ad1366 l1364.length cp1367) (V.ext rfl rfl) <| qv (ii i1365) (V.ext rfl rfl) <| qa (.slice ad1366 l1364.length cp1367) rfl <| qa (ii i1365) rfl <| JQ.nil ?_
   refine J.nil <| CJ.ret ?_
   obtain rfl := si h
   exact ⟨_, _, Res.two rfl rfl rfl, ⟨l1364, i1365, ad1366, cp1367, rfl, rfl, rfl⟩, hK1360, fun w hs => (Sep.dropAt 1 rfl (Sep.dropAt 1 rfl hs))⟩
 refine CJ.skip <| CJ.seq <| CJ.region <| ja (.slice none 0 0) rfl <| ja (ii 0) rfl <| J.nil <| CJ.by (fun w hs => Sep.rowNil (e := 121) (t := (.cons (.int .i64) (.cons (.int .i64) (.cons (.int .i64) (.cons (.int .i64) (.one .bool)))))) hs) ?_
 refine CJ.ret ?_
 obtain rfl := si h
 exact ⟨_, _, Res.two rfl rfl rfl, ⟨[], 0, none, 0, rfl, rfl, rfl⟩, (Hp.le_refl _), fun w hs => (Sep.dropAt 1 rfl (Sep.dropAt 1 rfl hs))⟩
noncomputable def fn_ref21_blocks_l1 (xa : (Int × Int × (List (Int × Int)) × (List (List (Int × Bool))) × (List (Int × Bool)) × (List (Int × (List (Int × Int)) × (List (List (Int × Bool))) × (List (Int × Bool)))) × (List ((List (Int × Int × Int × Int × Bool)) × (Int × Int × Int × (List Int) × (List Int) × (List Int)))))) : (Int × Int) → Option ((Int × Int) ⊕ (Unit ⊕ (Int × Int × Int × Int))) := fun ((i2322, i2323) : (Int × Int)) => cond (decide (i2323 < (((xa.2.2.2.2.2.2.length : Nat) : Int)))) ((getI xa.2.2.2.2.2.2 i2323).bind fun x2346 => cond (decide (65536 < (IntKind.wrap .i64 (i2322 + (((x2346.1.length : Nat) : Int)))))) (some (.inr ((.inr ((6, 5, i2323, 0)))))) (some (.inl ((IntKind.wrap .i64 (i2322 + (((x2346.1.length : Nat) : Int))), IntKind.wrap .i64 (i2323 + 1)))))) (some (.inr ((.inl ()))))
noncomputable def fn_ref21_blocks_l2 (xa : (Int × Int × (List (Int × Int)) × (List (List (Int × Bool))) × (List (Int × Bool)) × (List (Int × (List (Int × Int)) × (List (List (Int × Bool))) × (List (Int × Bool)))) × (List ((List (Int × Int × Int × Int × Bool)) × (Int × Int × Int × (List Int) × (List Int) × (List Int)))))) (i3774 : Int) (x4131 : ((List (Int × Int × Int × Int × Bool)) × (Int × Int × Int × (List Int) × (List Int) × (List Int)))) : Int → Option (Int ⊕ (Unit ⊕ (Int ⊕ (Unit ⊕ (Int × Int × Int × Int))))) := fun (i4322 : Int) => cond (decide (i4322 < (((x4131.1.length : Nat) : Int)))) ((getI x4131.1 i4322).bind fun x4391 => (fn_ref18_Needs (x4391.1, x4391.2.1, x4391.2.2.1, x4391.2.2.2.1, x4391.2.2.2.2) xa.2.2.2.1 xa.2.1).bind fun (l4402, i4403) => cond (!decide (i4403 = 0)) (some (.inr ((.inr (.inr ((.inr ((i4403, 6, i3774, i4322))))))))) (some (.inl (IntKind.wrap .i64 (i4322 + 1))))) (some (.inr ((.inl ()))))
noncomputable def fn_ref21_blocks_l3 (xa : (Int × Int × (List (Int × Int)) × (List (List (Int × Bool))) × (List (Int × Bool)) × (List (Int × (List (Int × Int)) × (List (List (Int × Bool))) × (List (Int × Bool)))) × (List ((List (Int × Int × Int × Int × Bool)) × (Int × Int × Int × (List Int) × (List Int) × (List Int)))))) : Int → Option (Int ⊕ (Unit ⊕ (Int × Int × Int × Int))) := fun (i3774 : Int) => cond (decide (i3774 < (((xa.2.2.2.2.2.2.length : Nat) : Int)))) ((getI xa.2.2.2.2.2.2 i3774).bind fun x4131 => (loop (fn_ref21_blocks_l2 xa i3774 x4131) 0 : Option (Unit ⊕ (Int ⊕ (Unit ⊕ (Int × Int × Int × Int))))).bind fun o => match o with | .inr r => some r | .inl () => (getI xa.2.2.2.2.2.2 i3774).bind fun x4447 => (fn_ref19_Needs (x4447.2.1, x4447.2.2.1, x4447.2.2.2.1, x4447.2.2.2.2.1, x4447.2.2.2.2.2.1, x4447.2.2.2.2.2.2) ((((xa.2.2.2.2.2.2.length : Nat) : Int), xa.2.1, xa.2.2.2.1, xa.2.2.2.2.1, xa.2.2.2.2.2.1))).bind fun (l4470, i4471) => cond (!decide (i4471 = 0)) (some (.inr ((.inr ((i4471, 7, i3774, 0)))))) (some (.inl (IntKind.wrap .i64 (i3774 + 1))))) (some (.inr ((.inl ()))))
noncomputable def fn_ref21_blocks (xa : (Int × Int × (List (Int × Int)) × (List (List (Int × Bool))) × (List (Int × Bool)) × (List (Int × (List (Int × Int)) × (List (List (Int × Bool))) × (List (Int × Bool)))) × (List ((List (Int × Int × Int × Int × Bool)) × (Int × Int × Int × (List Int) × (List Int) × (List Int)))))) : Option (Int × Int × Int × Int) :=
  cond (decide ((((xa.2.2.2.2.2.2.length : Nat) : Int)) = 0)) (some ((14, 5, 0, 0))) (cond (decide (65536 < (((xa.2.2.2.2.2.2.length : Nat) : Int)))) (some ((6, 5, 0, 0))) ((loop (fn_ref21_blocks_l1 xa) (0, 0) : Option (Unit ⊕ (Int × Int × Int × Int))).bind fun o => match o with | .inr r => some r | .inl () => (loop (fn_ref21_blocks_l3 xa) 0 : Option (Unit ⊕ (Int × Int × Int × Int))).bind fun o => match o with | .inr r => some r | .inl () => some ((0, 0, 0, 0))))
set_option maxRecDepth 100000 in
set_option maxHeartbeats 4000000 in
theorem ref21_blocks_ok {K : Hp} {xa : (Int × Int × (List (Int × Int)) × (List (List (Int × Bool))) × (List (Int × Bool)) × (List (Int × (List (Int × Int)) × (List (List (Int × Bool))) × (List (Int × Bool)))) × (List ((List (Int × Int × Int × Int × Bool)) × (Int × Int × Int × (List Int) × (List Int) × (List Int)))))} {adxa_2 : Option Addr} {cpxa_2 : Nat} {adxa_3 : Option Addr} {cpxa_3 : Nat} {adxa_4 : Option Addr} {cpxa_4 : Nat} {adxa_5 : Option Addr} {cpxa_5 : Nat} {adxa_6 : Option Addr} {cpxa_6 : Nat} (fxa_2 : Is K (.sl (.cons (.int .i64) (.one (.int .i64)))) [.slice adxa_2 xa.2.2.1.length cpxa_2] xa.2.2.1) (fxa_3 : Is K (.sl (.one (.sl (.cons (.int .i64) (.one .bool))))) [.slice adxa_3 xa.2.2.2.1.length cpxa_3] xa.2.2.2.1) (fxa_4 : Is K (.sl (.cons (.int .i64) (.one .bool))) [.slice adxa_4 xa.2.2.2.2.1.length cpxa_4] xa.2.2.2.2.1) (fxa_5 : Is K (.sl (.cons (.int .i64) (.cons (.sl (.cons (.int .i64) (.one (.int .i64)))) (.cons (.sl (.one (.sl (.cons (.int .i64) (.one .bool))))) (.one (.one (.sl (.cons (.int .i64) (.one .bool))))))))) [.slice adxa_5 xa.2.2.2.2.2.1.length cpxa_5] xa.2.2.2.2.2.1) (fxa_6 : Is K (.sl (.cons (.sl (.cons (.int .i64) (.cons (.int .i64) (.cons (.int .i64) (.cons (.int .i64) (.one .bool)))))) (.one (.cons (.int .i64) (.cons (.int .i64) (.cons (.int .i64) (.cons (.sl (.int .i64)) (.cons (.sl (.int .i64)) (.one (.sl (.int .i64))))))))))) [.slice adxa_6 xa.2.2.2.2.2.2.length cpxa_6] xa.2.2.2.2.2.2) {r : (Int × Int × Int × Int)} (h : fn_ref21_blocks xa = some r) :
    Tr Try.prog 37 #[.agg #[ii xa.1, ii xa.2.1, .slice adxa_2 xa.2.2.1.length cpxa_2, .slice adxa_3 xa.2.2.2.1.length cpxa_3, .slice adxa_4 xa.2.2.2.2.1.length cpxa_4, .slice adxa_5 xa.2.2.2.2.2.1.length cpxa_5, .slice adxa_6 xa.2.2.2.2.2.2.length cpxa_6]] K [] (fun v K' L' => (∃ (i2240 : Int) (i2241 : Int) (i2242 : Int) (i2243 : Int), (i2240, i2241, i2242, i2243) = r ∧ .agg #[ii i2240, ii i2241, ii i2242, ii i2243] = v ∧ L' = []) ∧ K = K') := by
 refine Tr.k <| Tr.of Try.func37 rfl Try.ntmps37 rfl fun E F => ?_
 unfold fn_ref21_blocks at h
 refine CJ.seq <| CJ.region <| jbx [ii xa.1, ii xa.2.1, .slice adxa_2 xa.2.2.1.length cpxa_2, .slice adxa_3 xa.2.2.2.1.length cpxa_3, .slice adxa_4 xa.2.2.2.2.1.length cpxa_4, .slice adxa_5 xa.2.2.2.2.2.1.length cpxa_5, .slice adxa_6 xa.2.2.2.2.2.2.length cpxa_6] rfl rfl fun b2244 => jal inf70 [ii 0, ii 0, ii 0, ii 0] rfl fun b2245 => J.nil <| CJ.seq <| CJ.seq ?_
 refine CJ.region <| jv _ (V.fad Try.underlying30 rfl nz28 rfl) <| jv (.slice adxa_6 xa.2.2.2.2.2.2.length cpxa_6) (V.ld rfl (Ld.sc sc28 (Rd.cl 1 rfl rfl))) <| jv (ii (((xa.2.2.2.2.2.2.length : Nat) : Int))) (V.len Try.underlying28 rfl) <| jv (.bool (decide ((((xa.2.2.2.2.2.2.length : Nat) : Int)) = 0))) (V.eql rfl rfl) <| J.nil <| cc rfl h (fun hc2246 h => ?_) fun hc2246 h => ?_
 · refine CJ.seq <| CJ.region <| jv (.agg #[ii 14, ii 5, ii 0, ii 0]) (V.build inf70 places70 rfl rfl) <| js [ii 14, ii 5, ii 0, ii 0] sz70 rfl rfl rfl rfl rfl rfl <| J.nil <| CJ.ret ?_
   obtain rfl := si h
   exact ⟨_, _, Res.one rfl ⟨_, _, rfl, Ld.agg (cs := [ii 14, ii 5, ii 0, ii 0]) Try.underlying70 sz70 rfl (Rd.cls 0 0 rfl rfl)⟩, ⟨14, 5, 0, 0, rfl, rfl, rfl⟩, (Hp.le_refl _), fun w hs => (Sep.dropAt 0 rfl (Sep.dropAt 0 rfl hs))⟩
 refine CJ.skip <| CJ.seq <| CJ.seq <| CJ.region <| jv _ (V.fad Try.underlying30 rfl nz28 rfl) <| jv (.slice adxa_6 xa.2.2.2.2.2.2.length cpxa_6) (V.ld rfl (Ld.sc sc28 (Rd.cl 1 rfl rfl))) <| jv (ii (((xa.2.2.2.2.2.2.length : Nat) : Int))) (V.len Try.underlying28 rfl) ?_
 refine jv (.bool (decide (65536 < (((xa.2.2.2.2.2.2.length : Nat) : Int))))) (V.gtr rfl rfl) <| J.nil <| cc rfl h (fun hc2247 h => ?_) fun hc2247 h => ?_
 · refine CJ.seq <| CJ.region <| jv (.agg #[ii 6, ii 5, ii 0, ii 0]) (V.build inf70 places70 rfl rfl) <| js [ii 6, ii 5, ii 0, ii 0] sz70 rfl rfl rfl rfl rfl rfl <| J.nil <| CJ.ret ?_
   obtain rfl := si h
   exact ⟨_, _, Res.one rfl ⟨_, _, rfl, Ld.agg (cs := [ii 6, ii 5, ii 0, ii 0]) Try.underlying70 sz70 rfl (Rd.cls 0 0 rfl rfl)⟩, ⟨6, 5, 0, 0, rfl, rfl, rfl⟩, (Hp.le_refl _), fun w hs => (Sep.dropAt 0 rfl (Sep.dropAt 0 rfl hs))⟩
 refine CJ.skip <| CJ.seq <| CJ.region <| ja (ii 0) rfl <| J.nil <| CJ.seq <| CJ.seq ?_
 refine CJ.region <| ja (ii 0) rfl <| J.nil ?_
 obtain ⟨o2303, ho2304, h⟩ := ob h
 refine CJ.joinN (o := o2303) (fun s ρ K' L' => () = s ∧ Fits [(1, .pointer (some ⟨b2244, 0, none⟩)), (2, .pointer (some ⟨b2245, 0, none⟩))] ρ ∧ K = K' ∧ L' = Cl b2244 30 [ii xa.1, ii xa.2.1, .slice adxa_2 xa.2.2.1.length cpxa_2, .slice adxa_3 xa.2.2.2.1.length cpxa_3, .slice adxa_4 xa.2.2.2.2.1.length cpxa_4, .slice adxa_5 xa.2.2.2.2.2.1.length cpxa_5, .slice adxa_6 xa.2.2.2.2.2.2.length cpxa_6] :: Cl b2245 70 [ii 0, ii 0, ii 0, ii 0] :: F) ?_ ?_
 · refine CJ.block <| CJ.front 1 rfl <| CJ.loop (fun s ρ K' L' => ∃ (i2322 : Int) (i2323 : Int), (i2322, i2323) = s ∧ Fits [(1, .pointer (some ⟨b2244, 0, none⟩)), (2, .pointer (some ⟨b2245, 0, none⟩)), (3, ii i2322), (4, ii i2323)] ρ ∧ K = K' ∧ L' = Cl b2244 30 [ii xa.1, ii xa.2.1, .slice adxa_2 xa.2.2.1.length cpxa_2, .slice adxa_3 xa.2.2.2.1.length cpxa_3, .slice adxa_4 xa.2.2.2.2.1.length cpxa_4, .slice adxa_5 xa.2.2.2.2.2.1.length cpxa_5, .slice adxa_6 xa.2.2.2.2.2.2.length cpxa_6] :: Cl b2245 70 [ii 0, ii 0, ii 0, ii 0] :: F) ho2304 ⟨0, 0, rfl, ⟨rfl, rfl, rfl, rfl, trivial⟩, rfl, rfl⟩ ?_
   rintro s ρ _ _ r2344 ⟨i2322, i2323, rfl, hf2342, rfl, rfl⟩ h2341
   obtain ⟨ρ, rfl⟩ := hf2342.ex
   refine CJ.seq <| CJ.seq <| CJ.region <| jm (ii i2323) rfl <| jv _ (V.fad Try.underlying30 rfl nz28 rfl) <| jv (.slice adxa_6 xa.2.2.2.2.2.2.length cpxa_6) (V.ld rfl (Ld.sc sc28 (Rd.cl 0 rfl rfl))) <| jv (ii (((xa.2.2.2.2.2.2.length : Nat) : Int))) (V.len Try.underlying28 rfl) ?_
   refine jv (.bool (decide (i2323 < (((xa.2.2.2.2.2.2.length : Nat) : Int))))) (V.lss rfl rfl) <| J.nil <| cc rfl h2341 (fun hc2345 h2341 => ?_) fun hc2345 h2341 => ?_
   · refine CJ.skip <| CJ.seq <| CJ.block <| CJ.seq <| CJ.region <| jm (ii i2322) rfl <| jv _ (V.fad Try.underlying30 rfl nz28 rfl) ?_
     refine jv (.slice adxa_6 xa.2.2.2.2.2.2.length cpxa_6) (V.ld rfl (Ld.sc sc28 (Rd.cl 0 rfl rfl))) <| jm (ii i2323) rfl ?_
     obtain ⟨x2346, hx2347, h2341⟩ := ob h2341
     obtain ⟨p2348, p2349, p2350⟩ := getI_some hx2347
     obtain ⟨b2351, o2352, e2353, a2354⟩ := (fxa_6).at p2349
     refine jv _ (V.iad Try.underlying28 sz58 rfl e2353 rfl p2348 p2350) <| jv _ (V.fad Try.underlying58 rfl nz54 rfl) ?_
     obtain ⟨ad2355, cp2356, c2357, f2358⟩ := ((a2354).fst).sl
     refine jv (.slice ad2355 x2346.1.length cp2356) (V.ld rfl (Ld.sc sc54 (Rd.k c2357 (Hp.le_refl _)))) <| jv (ii (((x2346.1.length : Nat) : Int))) (V.len Try.underlying54 rfl) <| jv (ii (IntKind.wrap .i64 (i2322 + (((x2346.1.length : Nat) : Int))))) (V.add rfl rfl) <| ja (ii (IntKind.wrap .i64 (i2322 + (((x2346.1.length : Nat) : Int))))) rfl <| J.nil <| CJ.seq <| CJ.region ?_
     refine jm (ii (IntKind.wrap .i64 (i2322 + (((x2346.1.length : Nat) : Int))))) rfl <| jv (.bool (decide (65536 < (IntKind.wrap .i64 (i2322 + (((x2346.1.length : Nat) : Int))))))) (V.gtr rfl rfl) <| J.nil <| cc rfl h2341 (fun hc2359 h2341 => ?_) fun hc2359 h2341 => ?_
     · refine CJ.seq <| CJ.region <| jm (ii i2323) rfl <| jv (.agg #[ii 6, ii 5, ii i2323, ii 0]) (V.build inf70 places70 rfl rfl) <| J.front 1 rfl <| js [ii 6, ii 5, ii i2323, ii 0] sz70 rfl rfl rfl rfl rfl rfl <| J.nil ?_
       refine CJ.ret ?_
       obtain rfl := si h2341
       refine ⟨nofun, fun e => ?_⟩
       subst e
       refine .inr ⟨nofun, ?_⟩
       obtain rfl := si h
       exact ⟨_, _, Res.one rfl ⟨_, _, rfl, Ld.agg (cs := [ii 6, ii 5, ii i2323, ii 0]) Try.underlying70 sz70 rfl (Rd.cls 0 0 rfl rfl)⟩, ⟨6, 5, i2323, 0, rfl, rfl, rfl⟩, (Hp.le_refl _), fun w hs => (Sep.dropAt 0 rfl (Sep.dropAt 0 rfl hs))⟩
     refine CJ.skip <| CJ.region <| jm (ii i2323) rfl <| jv (ii (IntKind.wrap .i64 (i2323 + 1))) (V.add rfl rfl) <| ja (ii (IntKind.wrap .i64 (i2323 + 1))) rfl <| J.nil ?_
     obtain rfl := si h2341
     exact ⟨rfl, ⟨IntKind.wrap .i64 (i2322 + (((x2346.1.length : Nat) : Int))), IntKind.wrap .i64 (i2323 + 1), rfl, ⟨rfl, rfl, rfl, rfl, trivial⟩, rfl, rfl⟩⟩
   refine CJ.exit ?_
   obtain rfl := si h2341
   refine ⟨nofun, fun e => ?_⟩
   subst e
   exact .inl ⟨rfl, _, rfl, ⟨rfl, ⟨rfl, rfl, trivial⟩, rfl, rfl⟩⟩
 rintro s ρ _ _ ho2360 ⟨rfl, hf2361, rfl, rfl⟩
 subst ho2360
 obtain ⟨ρ, rfl⟩ := hf2361.ex
 refine PJ.done <| CJ.seq <| CJ.region <| jv _ (V.fad Try.underlying30 rfl nz28 rfl) <| jv (.slice adxa_6 xa.2.2.2.2.2.2.length cpxa_6) (V.ld rfl (Ld.sc sc28 (Rd.cl 0 rfl rfl))) <| jv (ii (((xa.2.2.2.2.2.2.length : Nat) : Int))) (V.len Try.underlying28 rfl) <| jv _ (V.fad Try.underlying30 rfl nz3 rfl) ?_
 refine jv (ii xa.2.1) (V.ld rfl (Ld.sc sc3 (Rd.cl 0 rfl rfl))) <| jv _ (V.fad Try.underlying30 rfl nz23 rfl) <| jv (.slice adxa_3 xa.2.2.2.1.length cpxa_3) (V.ld rfl (Ld.sc sc23 (Rd.cl 0 rfl rfl))) <| jv _ (V.fad Try.underlying30 rfl nz26 rfl) <| jv (.agg #[.slice adxa_4 xa.2.2.2.2.1.length cpxa_4]) (V.ld rfl (Ld.agg (cs := [.slice adxa_4 xa.2.2.2.2.1.length cpxa_4]) Try.underlying26 sz26 rfl (Rd.cls 0 4 rfl rfl))) <| jv _ (V.fad Try.underlying30 rfl nz27 rfl) <| jv (.slice adxa_5 xa.2.2.2.2.2.1.length cpxa_5) (V.ld rfl (Ld.sc sc27 (Rd.cl 0 rfl rfl))) ?_
 refine jv (.agg #[ii (((xa.2.2.2.2.2.2.length : Nat) : Int)), ii xa.2.1, .slice adxa_3 xa.2.2.2.1.length cpxa_3, .slice adxa_4 xa.2.2.2.2.1.length cpxa_4, .slice adxa_5 xa.2.2.2.2.2.1.length cpxa_5]) (V.build inf89 places89 rfl rfl) <| jal inf89 [ii 0, ii 0, .slice none 0 0, .slice none 0 0, .slice none 0 0] rfl fun b2363 => js [ii (((xa.2.2.2.2.2.2.length : Nat) : Int)), ii xa.2.1, .slice adxa_3 xa.2.2.2.1.length cpxa_3, .slice adxa_4 xa.2.2.2.2.1.length cpxa_4, .slice adxa_5 xa.2.2.2.2.2.1.length cpxa_5] sz89 rfl rfl rfl rfl rfl rfl <| J.nil <| CJ.seq <| CJ.seq <| CJ.region ?_
 refine ja (ii 0) rfl <| J.nil ?_
 obtain ⟨o3421, ho3422, h⟩ := ob h
 refine CJ.joinN (o := o3421) (fun s ρ K' L' => () = s ∧ Fits [(2, .pointer (some ⟨b2245, 0, none⟩))] ρ ∧ K = K' ∧ L' = Cl b2245 70 [ii 0, ii 0, ii 0, ii 0] :: F) ?_ ?_
 · refine CJ.block <| CJ.front 2 rfl <| CJ.front 2 rfl <| CJ.loop (fun s ρ K' L' => ∃ (i3774 : Int), i3774 = s ∧ Fits [(1, .pointer (some ⟨b2244, 0, none⟩)), (2, .pointer (some ⟨b2245, 0, none⟩)), (5, .pointer (some ⟨b2363, 0, none⟩)), (6, ii i3774)] ρ ∧ K = K' ∧ L' = Cl b2244 30 [ii xa.1, ii xa.2.1, .slice adxa_2 xa.2.2.1.length cpxa_2, .slice adxa_3 xa.2.2.2.1.length cpxa_3, .slice adxa_4 xa.2.2.2.2.1.length cpxa_4, .slice adxa_5 xa.2.2.2.2.2.1.length cpxa_5, .slice adxa_6 xa.2.2.2.2.2.2.length cpxa_6] :: Cl b2245 70 [ii 0, ii 0, ii 0, ii 0] :: Cl b2363 89 [ii (((xa.2.2.2.2.2.2.length : Nat) : Int)), ii xa.2.1, .slice adxa_3 xa.2.2.2.1.length cpxa_3, .slice adxa_4 xa.2.2.2.2.1.length cpxa_4, .slice adxa_5 xa.2.2.2.2.2.1.length cpxa_5] :: F) ho3422 ⟨0, rfl, ⟨rfl, rfl, rfl, rfl, trivial⟩, rfl, rfl⟩ ?_
   rintro s ρ _ _ r4129 ⟨i3774, rfl, hf4127, rfl, rfl⟩ h4126
   obtain ⟨ρ, rfl⟩ := hf4127.ex
   refine CJ.seq <| CJ.seq <| CJ.region <| jm (ii i3774) rfl <| jv _ (V.fad Try.underlying30 rfl nz28 rfl) <| jv (.slice adxa_6 xa.2.2.2.2.2.2.length cpxa_6) (V.ld rfl (Ld.sc sc28 (Rd.cl 0 rfl rfl))) <| jv (ii (((xa.2.2.2.2.2.2.length : Nat) : Int))) (V.len Try.underlying28 rfl) ?_
   refine jv (.bool (decide (i3774 < (((xa.2.2.2.2.2.2.length : Nat) : Int))))) (V.lss rfl rfl) <| J.nil <| cc rfl h4126 (fun hc4130 h4126 => ?_) fun hc4130 h4126 => ?_
   · refine CJ.skip <| CJ.seq <| CJ.block <| CJ.seq <| CJ.region <| jv _ (V.fad Try.underlying30 rfl nz28 rfl) <| jv (.slice adxa_6 xa.2.2.2.2.2.2.length cpxa_6) (V.ld rfl (Ld.sc sc28 (Rd.cl 0 rfl rfl))) ?_
     refine jm (ii i3774) rfl ?_
     obtain ⟨x4131, hx4132, h4126⟩ := ob h4126
     obtain ⟨p4133, p4134, p4135⟩ := getI_some hx4132
     obtain ⟨b4136, o4137, e4138, a4139⟩ := (fxa_6).at p4134
     refine jv _ (V.iad Try.underlying28 sz58 rfl e4138 rfl p4133 p4135) <| jv _ (V.fad Try.underlying58 rfl nz54 rfl) ?_
     obtain ⟨ad4140, cp4141, c4142, f4143⟩ := ((a4139).fst).sl
     refine jv (.slice ad4140 x4131.1.length cp4141) (V.ld rfl (Ld.sc sc54 (Rd.k c4142 (Hp.le_refl _)))) <| ja (.slice ad4140 x4131.1.length cp4141) rfl <| J.nil <| CJ.seq <| CJ.seq <| CJ.region <| ja (ii 0) rfl ?_
     refine J.nil ?_
     obtain ⟨o4277, ho4278, h4126⟩ := ob h4126
     refine CJ.joinN (o := o4277) (fun s ρ K' L' => () = s ∧ Fits [(1, .pointer (some ⟨b2244, 0, none⟩)), (2, .pointer (some ⟨b2245, 0, none⟩)), (5, .pointer (some ⟨b2363, 0, none⟩)), (6, ii i3774)] ρ ∧ K = K' ∧ L' = Cl b2244 30 [ii xa.1, ii xa.2.1, .slice adxa_2 xa.2.2.1.length cpxa_2, .slice adxa_3 xa.2.2.2.1.length cpxa_3, .slice adxa_4 xa.2.2.2.2.1.length cpxa_4, .slice adxa_5 xa.2.2.2.2.2.1.length cpxa_5, .slice adxa_6 xa.2.2.2.2.2.2.length cpxa_6] :: Cl b2245 70 [ii 0, ii 0, ii 0, ii 0] :: Cl b2363 89 [ii (((xa.2.2.2.2.2.2.length : Nat) : Int)), ii xa.2.1, .slice adxa_3 xa.2.2.2.1.length cpxa_3, .slice adxa_4 xa.2.2.2.2.1.length cpxa_4, .slice adxa_5 xa.2.2.2.2.2.1.length cpxa_5] :: F) ?_ ?_
     · refine CJ.block <| CJ.loop (fun s ρ K' L' => ∃ (i4322 : Int), i4322 = s ∧ Fits [(1, .pointer (some ⟨b2244, 0, none⟩)), (2, .pointer (some ⟨b2245, 0, none⟩)), (5, .pointer (some ⟨b2363, 0, none⟩)), (6, ii i3774), (7, .slice ad4140 x4131.1.length cp4141), (8, ii i4322)] ρ ∧ K = K' ∧ L' = Cl b2244 30 [ii xa.1, ii xa.2.1, .slice adxa_2 xa.2.2.1.length cpxa_2, .slice adxa_3 xa.2.2.2.1.length cpxa_3, .slice adxa_4 xa.2.2.2.2.1.length cpxa_4, .slice adxa_5 xa.2.2.2.2.2.1.length cpxa_5, .slice adxa_6 xa.2.2.2.2.2.2.length cpxa_6] :: Cl b2245 70 [ii 0, ii 0, ii 0, ii 0] :: Cl b2363 89 [ii (((xa.2.2.2.2.2.2.length : Nat) : Int)), ii xa.2.1, .slice adxa_3 xa.2.2.2.1.length cpxa_3, .slice adxa_4 xa.2.2.2.2.1.length cpxa_4, .slice adxa_5 xa.2.2.2.2.2.1.length cpxa_5] :: F) ho4278 ⟨0, rfl, ⟨rfl, rfl, rfl, rfl, rfl, rfl, trivial⟩, rfl, rfl⟩ ?_
       rintro s ρ _ _ r4369 ⟨i4322, rfl, hf4367, rfl, rfl⟩ h4366
       obtain ⟨ρ, rfl⟩ := hf4367.ex
       refine CJ.seq <| CJ.seq <| CJ.region <| jm (ii i4322) rfl <| jm (.slice ad4140 x4131.1.length cp4141) rfl <| jv (ii (((x4131.1.length : Nat) : Int))) (V.len Try.underlying54 rfl) <| jv (.bool (decide (i4322 < (((x4131.1.length : Nat) : Int))))) (V.lss rfl rfl) ?_
       refine J.nil <| cc rfl h4366 (fun hc4370 h4366 => ?_) fun hc4370 h4366 => ?_
       · refine CJ.skip <| CJ.seq <| CJ.block <| CJ.seq <| CJ.mix [Cl b2244 30 [ii xa.1, ii xa.2.1, .slice adxa_2 xa.2.2.1.length cpxa_2, .slice adxa_3 xa.2.2.2.1.length cpxa_3, .slice adxa_4 xa.2.2.2.2.1.length cpxa_4, .slice adxa_5 xa.2.2.2.2.2.1.length cpxa_5, .slice adxa_6 xa.2.2.2.2.2.2.length cpxa_6], Cl b2245 70 [ii 0, ii 0, ii 0, ii 0], Cl b2363 89 [ii (((xa.2.2.2.2.2.2.length : Nat) : Int)), ii xa.2.1, .slice adxa_3 xa.2.2.2.1.length cpxa_3, .slice adxa_4 xa.2.2.2.2.1.length cpxa_4, .slice adxa_5 xa.2.2.2.2.2.1.length cpxa_5]] [([0, 1, 2, 3, 4, 5, 6, 7], 8)] [9, 10, 11, 12, 13] [] mixO (by decide +kernel) ⟨0, rfl, 0, rfl, 0, rfl, trivial⟩ rfl rfl rfl <| JM.cons <| qm (.slice ad4140 x4131.1.length cp4141) rfl ?_
         refine qm (ii i4322) rfl ?_
         obtain ⟨x4391, hx4392, h4366⟩ := ob h4366
         obtain ⟨p4393, p4394, p4395⟩ := getI_some hx4392
         obtain ⟨b4396, o4397, e4398, a4399⟩ := (f4143).at p4394
         refine qv _ (V.iad Try.underlying54 sz60 rfl e4398 rfl p4393 p4395) <| qv (.agg #[ii x4391.1, ii x4391.2.1, ii x4391.2.2.1, ii x4391.2.2.2.1, .bool x4391.2.2.2.2]) (V.ld rfl (Ld.aggK (cs := [ii x4391.1, ii x4391.2.1, ii x4391.2.2.1, ii x4391.2.2.2.1, .bool x4391.2.2.2.2]) Try.underlying60 sz60 rfl ⟨((a4399).fst).int, (((a4399).snd).fst).int, ((((a4399).snd).snd).fst).int, (((((a4399).snd).snd).snd).fst).int, ((((((a4399).snd).snd).snd).snd).one).bool, trivial⟩ (Hp.le_refl _))) <| qv _ (V.fad Try.underlying30 rfl nz23 rfl) <| qv (.slice adxa_3 xa.2.2.2.1.length cpxa_3) (V.ld rfl (Ld.sc sc23 (Rd.cl 0 rfl rfl))) <| qv _ (V.fad Try.underlying30 rfl nz3 rfl) <| qv (ii xa.2.1) (V.ld rfl (Ld.sc sc3 (Rd.cl 0 rfl rfl))) <| JQ.nil ?_
         obtain ⟨r4400, hr4401, h4366⟩ := ob h4366
         refine JA.op rfl (A.call (L1 := []) Try.call49 rfl (ref18_Needs_ok fxa_3 hr4401) rfl rfl) ?_
         rintro _ _ _ ⟨v4407, _, rfl, ⟨⟨l4402, i4403, ad4404, cp4405, rfl, rfl, rfl⟩, rfl⟩, _, rfl⟩
         refine ⟨fun w hs => Hold.sub (Hp.le_refl _) ⟨1, rfl, 1, rfl, 1, rfl, trivial⟩ hs, ?_⟩
         refine JM.wit Row.hn fun hn4406 => JM.nil <| qm (.tuple #[.slice ad4404 l4402.length cp4405, ii i4403]) rfl <| qv (.slice ad4404 l4402.length cp4405) (V.ext rfl rfl) <| qv (ii i4403) (V.ext rfl rfl) <| qa (.slice ad4404 l4402.length cp4405) rfl <| qa (ii i4403) rfl ?_
         refine JQ.nil <| J.nil <| CJ.seq <| CJ.region <| jm (ii i4403) rfl <| jv (.bool (!decide (i4403 = 0))) (V.neq rfl rfl) <| J.nil ?_
         refine cc rfl h4366 (fun hc4411 h4366 => ?_) fun hc4411 h4366 => ?_
         · refine CJ.seq <| CJ.region <| jm (ii i4403) rfl <| jm (ii i3774) rfl <| jm (ii i4322) rfl <| jv (.agg #[ii i4403, ii 6, ii i3774, ii i4322]) (V.build inf70 places70 rfl rfl) <| J.front 2 rfl ?_
           refine js [ii i4403, ii 6, ii i3774, ii i4322] sz70 rfl rfl rfl rfl rfl rfl <| J.nil <| CJ.ret ?_
           obtain rfl := si h4366
           refine ⟨nofun, fun e => ?_⟩
           subst e
           refine .inr ⟨nofun, ?_⟩
           obtain rfl := si h4126
           refine ⟨nofun, fun e => ?_⟩
           subst e
           refine .inr ⟨nofun, ?_⟩
           obtain rfl := si h
           exact ⟨_, _, Res.one rfl ⟨_, _, rfl, Ld.agg (cs := [ii i4403, ii 6, ii i3774, ii i4322]) Try.underlying70 sz70 rfl (Rd.cls 0 0 rfl rfl)⟩, ⟨i4403, 6, i3774, i4322, rfl, rfl, rfl⟩, (Hp.le_refl _), fun w hs => (Sep.dropAt 0 rfl (Sep.dropAt 0 rfl (Sep.dropAt 0 rfl (Sep.dropAt 0 rfl hs))))⟩
         refine CJ.skip <| CJ.region <| jm (ii i4322) rfl <| jv (ii (IntKind.wrap .i64 (i4322 + 1))) (V.add rfl rfl) <| ja (ii (IntKind.wrap .i64 (i4322 + 1))) rfl <| J.dropAt 0 rfl <| J.nil ?_
         obtain rfl := si h4366
         exact ⟨rfl, ⟨IntKind.wrap .i64 (i4322 + 1), rfl, ⟨rfl, rfl, rfl, rfl, rfl, rfl, trivial⟩, rfl, rfl⟩⟩
       refine CJ.exit ?_
       obtain rfl := si h4366
       refine ⟨nofun, fun e => ?_⟩
       subst e
       exact .inl ⟨rfl, _, rfl, ⟨rfl, ⟨rfl, rfl, rfl, rfl, trivial⟩, rfl, rfl⟩⟩
     rintro s ρ _ _ ho4412 ⟨rfl, hf4413, rfl, rfl⟩
     subst ho4412
     obtain ⟨ρ, rfl⟩ := hf4413.ex
     refine PJ.done <| CJ.seq <| CJ.mix [Cl b2244 30 [ii xa.1, ii xa.2.1, .slice adxa_2 xa.2.2.1.length cpxa_2, .slice adxa_3 xa.2.2.2.1.length cpxa_3, .slice adxa_4 xa.2.2.2.2.1.length cpxa_4, .slice adxa_5 xa.2.2.2.2.2.1.length cpxa_5, .slice adxa_6 xa.2.2.2.2.2.2.length cpxa_6], Cl b2245 70 [ii 0, ii 0, ii 0, ii 0], Cl b2363 89 [ii (((xa.2.2.2.2.2.2.length : Nat) : Int)), ii xa.2.1, .slice adxa_3 xa.2.2.2.1.length cpxa_3, .slice adxa_4 xa.2.2.2.2.1.length cpxa_4, .slice adxa_5 xa.2.2.2.2.2.1.length cpxa_5]] [([0, 1, 2, 3, 4, 5, 6], 7)] [8, 9, 10, 11, 12] [] mixO (by decide +kernel) ⟨0, rfl, 0, rfl, 0, rfl, trivial⟩ rfl rfl rfl <| JM.cons <| qv _ (V.fad Try.underlying30 rfl nz28 rfl) <| qv (.slice adxa_6 xa.2.2.2.2.2.2.length cpxa_6) (V.ld rfl (Ld.sc sc28 (Rd.cl 0 rfl rfl))) <| qm (ii i3774) rfl ?_
     obtain ⟨x4447, hx4448, h4126⟩ := ob h4126
     obtain ⟨p4449, p4450, p4451⟩ := getI_some hx4448
     obtain ⟨b4452, o4453, e4454, a4455⟩ := (fxa_6).at p4450
     refine qv _ (V.iad Try.underlying28 sz58 rfl e4454 rfl p4449 p4451) <| qv _ (V.fad Try.underlying58 rfl nz56 rfl) ?_
     obtain ⟨ad4456, cp4457, c4458, f4459⟩ := (((((((a4455).snd).one).snd).snd).snd).fst).sl
     obtain ⟨ad4460, cp4461, c4462, f4463⟩ := ((((((((a4455).snd).one).snd).snd).snd).snd).fst).sl
     obtain ⟨ad4464, cp4465, c4466, f4467⟩ := (((((((((a4455).snd).one).snd).snd).snd).snd).snd).one).sl
     refine qv (.agg #[ii x4447.2.1, ii x4447.2.2.1, ii x4447.2.2.2.1, .slice ad4456 x4447.2.2.2.2.1.length cp4457, .slice ad4460 x4447.2.2.2.2.2.1.length cp4461, .slice ad4464 x4447.2.2.2.2.2.2.length cp4465]) (V.ld rfl (Ld.aggK (cs := [ii x4447.2.1, ii x4447.2.2.1, ii x4447.2.2.2.1, .slice ad4456 x4447.2.2.2.2.1.length cp4457, .slice ad4460 x4447.2.2.2.2.2.1.length cp4461, .slice ad4464 x4447.2.2.2.2.2.2.length cp4465]) Try.underlying56 sz56 rfl ⟨((((a4455).snd).one).fst).int, (((((a4455).snd).one).snd).fst).int, ((((((a4455).snd).one).snd).snd).fst).int, c4458, c4462, c4466, trivial⟩ (Hp.le_refl _))) <| qv (.agg #[ii (((xa.2.2.2.2.2.2.length : Nat) : Int)), ii xa.2.1, .slice adxa_3 xa.2.2.2.1.length cpxa_3, .slice adxa_4 xa.2.2.2.2.1.length cpxa_4, .slice adxa_5 xa.2.2.2.2.2.1.length cpxa_5]) (V.ld rfl (Ld.agg (cs := [ii (((xa.2.2.2.2.2.2.length : Nat) : Int)), ii xa.2.1, .slice adxa_3 xa.2.2.2.1.length cpxa_3, .slice adxa_4 xa.2.2.2.2.1.length cpxa_4, .slice adxa_5 xa.2.2.2.2.2.1.length cpxa_5]) Try.underlying89 sz89 rfl (Rd.cls 2 0 rfl rfl))) <| JQ.nil ?_
     obtain ⟨r4468, hr4469, h4126⟩ := ob h4126
     refine JA.op rfl (A.call (L1 := []) Try.call50 rfl (ref19_Needs_ok f4459 f4463 f4467 fxa_3 fxa_4 fxa_5 hr4469) rfl rfl) ?_
     rintro _ _ _ ⟨v4475, _, rfl, ⟨⟨l4470, i4471, ad4472, cp4473, rfl, rfl, rfl⟩, rfl⟩, _, rfl⟩
     refine ⟨fun w hs => Hold.sub (Hp.le_refl _) ⟨1, rfl, 1, rfl, 1, rfl, trivial⟩ hs, ?_⟩
     refine JM.wit Row.hn fun hn4474 => JM.nil <| qm (.tuple #[.slice ad4472 l4470.length cp4473, ii i4471]) rfl <| qv (.slice ad4472 l4470.length cp4473) (V.ext rfl rfl) <| qv (ii i4471) (V.ext rfl rfl) <| qa (.slice ad4472 l4470.length cp4473) rfl <| qa (ii i4471) rfl ?_
     refine JQ.nil <| J.nil <| CJ.seq <| CJ.region <| jm (ii i4471) rfl <| jv (.bool (!decide (i4471 = 0))) (V.neq rfl rfl) <| J.nil ?_
     refine cc rfl h4126 (fun hc4479 h4126 => ?_) fun hc4479 h4126 => ?_
     · refine CJ.seq <| CJ.region <| jm (ii i4471) rfl <| jm (ii i3774) rfl <| jv (.agg #[ii i4471, ii 7, ii i3774, ii 0]) (V.build inf70 places70 rfl rfl) <| J.front 2 rfl <| js [ii i4471, ii 7, ii i3774, ii 0] sz70 rfl rfl rfl rfl rfl rfl ?_
       refine J.nil <| CJ.ret ?_
       obtain rfl := si h4126
       refine ⟨nofun, fun e => ?_⟩
       subst e
       refine .inr ⟨nofun, ?_⟩
       obtain rfl := si h
       exact ⟨_, _, Res.one rfl ⟨_, _, rfl, Ld.agg (cs := [ii i4471, ii 7, ii i3774, ii 0]) Try.underlying70 sz70 rfl (Rd.cls 0 0 rfl rfl)⟩, ⟨i4471, 7, i3774, 0, rfl, rfl, rfl⟩, (Hp.le_refl _), fun w hs => (Sep.dropAt 0 rfl (Sep.dropAt 0 rfl (Sep.dropAt 0 rfl (Sep.dropAt 0 rfl hs))))⟩
     refine CJ.skip <| CJ.region <| jm (ii i3774) rfl <| jv (ii (IntKind.wrap .i64 (i3774 + 1))) (V.add rfl rfl) <| ja (ii (IntKind.wrap .i64 (i3774 + 1))) rfl <| J.dropAt 0 rfl <| J.nil ?_
     obtain rfl := si h4126
     exact ⟨rfl, ⟨IntKind.wrap .i64 (i3774 + 1), rfl, ⟨rfl, rfl, rfl, rfl, trivial⟩, rfl, rfl⟩⟩
   refine CJ.dropAt 0 rfl <| CJ.dropAt 1 rfl <| CJ.exit ?_
   obtain rfl := si h4126
   refine ⟨nofun, fun e => ?_⟩
   subst e
   exact .inl ⟨rfl, _, rfl, ⟨rfl, ⟨rfl, trivial⟩, rfl, rfl⟩⟩
 rintro s ρ _ _ ho4480 ⟨rfl, hf4481, rfl, rfl⟩
 subst ho4480
 obtain ⟨ρ, rfl⟩ := hf4481.ex
 refine PJ.done <| CJ.seq <| CJ.region <| jv (.agg #[ii 0, ii 0, ii 0, ii 0]) (V.build inf70 places70 rfl rfl) <| js [ii 0, ii 0, ii 0, ii 0] sz70 rfl rfl rfl rfl rfl rfl <| J.nil <| CJ.ret ?_
 obtain rfl := si h
 exact ⟨_, _, Res.one rfl ⟨_, _, rfl, Ld.agg (cs := [ii 0, ii 0, ii 0, ii 0]) Try.underlying70 sz70 rfl (Rd.cls 0 0 rfl rfl)⟩, ⟨0, 0, 0, 0, rfl, rfl, rfl⟩, (Hp.le_refl _), fun w hs => (Sep.dropAt 0 rfl hs)⟩

noncomputable def fn_ref21_Check (xa : (Int × Int × (List (Int × Int)) × (List (List (Int × Bool))) × (List (Int × Bool)) × (List (Int × (List (Int × Int)) × (List (List (Int × Bool))) × (List (Int × Bool)))) × (List ((List (Int × Int × Int × Int × Bool)) × (Int × Int × Int × (List Int) × (List Int) × (List Int)))))) : Option (Int × Int × Int × Int) :=
  (fn_ref21_head (xa.1, xa.2.1, xa.2.2.1, xa.2.2.2.1, xa.2.2.2.2.1, xa.2.2.2.2.2.1, xa.2.2.2.2.2.2)).bind fun (i42, i43, i44, i45) => cond (!decide (i42 = 0)) (some ((i42, i43, i44, i45))) ((fn_ref21_types (xa.1, xa.2.1, xa.2.2.1, xa.2.2.2.1, xa.2.2.2.2.1, xa.2.2.2.2.2.1, xa.2.2.2.2.2.2)).bind fun (i53, i54, i55, i56) => cond (!decide (i53 = 0)) (some ((i53, i54, i55, i56))) ((fn_ref21_blocks (xa.1, xa.2.1, xa.2.2.1, xa.2.2.2.1, xa.2.2.2.2.1, xa.2.2.2.2.2.1, xa.2.2.2.2.2.2)).bind fun (i63, i65, i66, i67) => some ((i63, i65, i66, i67))))
set_option maxRecDepth 100000 in
set_option maxHeartbeats 4000000 in
theorem ref21_Check_ok {K : Hp} {xa : (Int × Int × (List (Int × Int)) × (List (List (Int × Bool))) × (List (Int × Bool)) × (List (Int × (List (Int × Int)) × (List (List (Int × Bool))) × (List (Int × Bool)))) × (List ((List (Int × Int × Int × Int × Bool)) × (Int × Int × Int × (List Int) × (List Int) × (List Int)))))} {adxa_2 : Option Addr} {cpxa_2 : Nat} {adxa_3 : Option Addr} {cpxa_3 : Nat} {adxa_4 : Option Addr} {cpxa_4 : Nat} {adxa_5 : Option Addr} {cpxa_5 : Nat} {adxa_6 : Option Addr} {cpxa_6 : Nat} (fxa_2 : Is K (.sl (.cons (.int .i64) (.one (.int .i64)))) [.slice adxa_2 xa.2.2.1.length cpxa_2] xa.2.2.1) (fxa_3 : Is K (.sl (.one (.sl (.cons (.int .i64) (.one .bool))))) [.slice adxa_3 xa.2.2.2.1.length cpxa_3] xa.2.2.2.1) (fxa_4 : Is K (.sl (.cons (.int .i64) (.one .bool))) [.slice adxa_4 xa.2.2.2.2.1.length cpxa_4] xa.2.2.2.2.1) (fxa_5 : Is K (.sl (.cons (.int .i64) (.cons (.sl (.cons (.int .i64) (.one (.int .i64)))) (.cons (.sl (.one (.sl (.cons (.int .i64) (.one .bool))))) (.one (.one (.sl (.cons (.int .i64) (.one .bool))))))))) [.slice adxa_5 xa.2.2.2.2.2.1.length cpxa_5] xa.2.2.2.2.2.1) (fxa_6 : Is K (.sl (.cons (.sl (.cons (.int .i64) (.cons (.int .i64) (.cons (.int .i64) (.cons (.int .i64) (.one .bool)))))) (.one (.cons (.int .i64) (.cons (.int .i64) (.cons (.int .i64) (.cons (.sl (.int .i64)) (.cons (.sl (.int .i64)) (.one (.sl (.int .i64))))))))))) [.slice adxa_6 xa.2.2.2.2.2.2.length cpxa_6] xa.2.2.2.2.2.2) {r : (Int × Int × Int × Int)} (h : fn_ref21_Check xa = some r) :
    Tr Try.prog 26 #[.agg #[ii xa.1, ii xa.2.1, .slice adxa_2 xa.2.2.1.length cpxa_2, .slice adxa_3 xa.2.2.2.1.length cpxa_3, .slice adxa_4 xa.2.2.2.2.1.length cpxa_4, .slice adxa_5 xa.2.2.2.2.2.1.length cpxa_5, .slice adxa_6 xa.2.2.2.2.2.2.length cpxa_6]] K [] (fun v K' L' => (∃ (i34 : Int) (i35 : Int) (i36 : Int) (i37 : Int), (i34, i35, i36, i37) = r ∧ .agg #[ii i34, ii i35, ii i36, ii i37] = v ∧ L' = []) ∧ K = K') := by
 refine Tr.k <| Tr.of Try.func26 rfl Try.ntmps26 rfl fun E F => ?_
 unfold fn_ref21_Check at h
 refine CJ.seq <| CJ.region <| jbx [ii xa.1, ii xa.2.1, .slice adxa_2 xa.2.2.1.length cpxa_2, .slice adxa_3 xa.2.2.2.1.length cpxa_3, .slice adxa_4 xa.2.2.2.2.1.length cpxa_4, .slice adxa_5 xa.2.2.2.2.2.1.length cpxa_5, .slice adxa_6 xa.2.2.2.2.2.2.length cpxa_6] rfl rfl fun b38 => jal inf70 [ii 0, ii 0, ii 0, ii 0] rfl fun b39 => J.nil <| CJ.seq <| CJ.region ?_
 refine jv (.agg #[ii xa.1, ii xa.2.1, .slice adxa_2 xa.2.2.1.length cpxa_2, .slice adxa_3 xa.2.2.2.1.length cpxa_3, .slice adxa_4 xa.2.2.2.2.1.length cpxa_4, .slice adxa_5 xa.2.2.2.2.2.1.length cpxa_5, .slice adxa_6 xa.2.2.2.2.2.2.length cpxa_6]) (V.ld rfl (Ld.agg (cs := [ii xa.1, ii xa.2.1, .slice adxa_2 xa.2.2.1.length cpxa_2, .slice adxa_3 xa.2.2.2.1.length cpxa_3, .slice adxa_4 xa.2.2.2.2.1.length cpxa_4, .slice adxa_5 xa.2.2.2.2.2.1.length cpxa_5, .slice adxa_6 xa.2.2.2.2.2.2.length cpxa_6]) Try.underlying30 sz30 rfl (Rd.cls 1 0 rfl rfl))) ?_
 obtain ⟨r40, hr41, h⟩ := ob h
 refine J.op rfl (A.call (L1 := []) Try.call35 rfl (ref21_head_ok fxa_2 fxa_3 fxa_4 fxa_5 fxa_6 hr41) rfl rfl) ?_
 rintro _ _ _ ⟨v46, _, rfl, ⟨⟨i42, i43, i44, i45, rfl, rfl, rfl⟩, rfl⟩, _, rfl⟩
 refine jal inf70 [ii 0, ii 0, ii 0, ii 0] rfl fun b49 => js [ii i42, ii i43, ii i44, ii i45] sz70 rfl rfl rfl rfl rfl rfl <| J.nil <| CJ.seq <| CJ.seq <| CJ.region <| jv _ (V.fad Try.underlying70 rfl nz66 rfl) ?_
 refine jv (ii i42) (V.ld rfl (Ld.sc sc66 (Rd.cl 0 rfl rfl))) <| jv (.bool (!decide (i42 = 0))) (V.neq rfl rfl) <| J.nil <| cc rfl h (fun hc50 h => ?_) fun hc50 h => ?_
 · refine CJ.seq <| CJ.region <| jv (.agg #[ii i42, ii i43, ii i44, ii i45]) (V.ld rfl (Ld.agg (cs := [ii i42, ii i43, ii i44, ii i45]) Try.underlying70 sz70 rfl (Rd.cls 0 0 rfl rfl))) <| J.front 1 rfl <| js [ii i42, ii i43, ii i44, ii i45] sz70 rfl rfl rfl rfl rfl rfl <| J.nil <| CJ.ret ?_
   obtain rfl := si h
   exact ⟨_, _, Res.one rfl ⟨_, _, rfl, Ld.agg (cs := [ii i42, ii i43, ii i44, ii i45]) Try.underlying70 sz70 rfl (Rd.cls 0 0 rfl rfl)⟩, ⟨i42, i43, i44, i45, rfl, rfl, rfl⟩, (Hp.le_refl _), fun w hs => (Sep.dropAt 0 rfl (Sep.dropAt 0 rfl (Sep.dropAt 0 rfl hs)))⟩
 refine CJ.skip <| CJ.seq <| CJ.region <| jv (.agg #[ii xa.1, ii xa.2.1, .slice adxa_2 xa.2.2.1.length cpxa_2, .slice adxa_3 xa.2.2.2.1.length cpxa_3, .slice adxa_4 xa.2.2.2.2.1.length cpxa_4, .slice adxa_5 xa.2.2.2.2.2.1.length cpxa_5, .slice adxa_6 xa.2.2.2.2.2.2.length cpxa_6]) (V.ld rfl (Ld.agg (cs := [ii xa.1, ii xa.2.1, .slice adxa_2 xa.2.2.1.length cpxa_2, .slice adxa_3 xa.2.2.2.1.length cpxa_3, .slice adxa_4 xa.2.2.2.2.1.length cpxa_4, .slice adxa_5 xa.2.2.2.2.2.1.length cpxa_5, .slice adxa_6 xa.2.2.2.2.2.2.length cpxa_6]) Try.underlying30 sz30 rfl (Rd.cls 2 0 rfl rfl))) ?_
 obtain ⟨r51, hr52, h⟩ := ob h
 refine J.op rfl (A.call (L1 := []) Try.call36 rfl (ref21_types_ok fxa_2 fxa_3 fxa_4 fxa_5 fxa_6 hr52) rfl rfl) ?_
 rintro _ _ _ ⟨v57, _, rfl, ⟨⟨i53, i54, i55, i56, rfl, rfl, rfl⟩, rfl⟩, _, rfl⟩
 refine js [ii i53, ii i54, ii i55, ii i56] sz70 rfl rfl rfl rfl rfl rfl <| J.nil <| CJ.seq <| CJ.seq <| CJ.region <| jv _ (V.fad Try.underlying70 rfl nz66 rfl) <| jv (ii i53) (V.ld rfl (Ld.sc sc66 (Rd.cl 0 rfl rfl))) ?_
 refine jv (.bool (!decide (i53 = 0))) (V.neq rfl rfl) <| J.nil <| cc rfl h (fun hc60 h => ?_) fun hc60 h => ?_
 · refine CJ.seq <| CJ.region <| jv (.agg #[ii i53, ii i54, ii i55, ii i56]) (V.ld rfl (Ld.agg (cs := [ii i53, ii i54, ii i55, ii i56]) Try.underlying70 sz70 rfl (Rd.cls 0 0 rfl rfl))) <| J.front 1 rfl <| js [ii i53, ii i54, ii i55, ii i56] sz70 rfl rfl rfl rfl rfl rfl <| J.nil <| CJ.ret ?_
   obtain rfl := si h
   exact ⟨_, _, Res.one rfl ⟨_, _, rfl, Ld.agg (cs := [ii i53, ii i54, ii i55, ii i56]) Try.underlying70 sz70 rfl (Rd.cls 0 0 rfl rfl)⟩, ⟨i53, i54, i55, i56, rfl, rfl, rfl⟩, (Hp.le_refl _), fun w hs => (Sep.dropAt 0 rfl (Sep.dropAt 0 rfl (Sep.dropAt 0 rfl hs)))⟩
 refine CJ.skip <| CJ.seq <| CJ.region <| jv (.agg #[ii xa.1, ii xa.2.1, .slice adxa_2 xa.2.2.1.length cpxa_2, .slice adxa_3 xa.2.2.2.1.length cpxa_3, .slice adxa_4 xa.2.2.2.2.1.length cpxa_4, .slice adxa_5 xa.2.2.2.2.2.1.length cpxa_5, .slice adxa_6 xa.2.2.2.2.2.2.length cpxa_6]) (V.ld rfl (Ld.agg (cs := [ii xa.1, ii xa.2.1, .slice adxa_2 xa.2.2.1.length cpxa_2, .slice adxa_3 xa.2.2.2.1.length cpxa_3, .slice adxa_4 xa.2.2.2.2.1.length cpxa_4, .slice adxa_5 xa.2.2.2.2.2.1.length cpxa_5, .slice adxa_6 xa.2.2.2.2.2.2.length cpxa_6]) Try.underlying30 sz30 rfl (Rd.cls 2 0 rfl rfl))) ?_
 obtain ⟨r61, hr62, h⟩ := ob h
 refine J.op rfl (A.call (L1 := []) Try.call37 rfl (ref21_blocks_ok fxa_2 fxa_3 fxa_4 fxa_5 fxa_6 hr62) rfl rfl) ?_
 rintro _ _ _ ⟨v68, _, rfl, ⟨⟨i63, i65, i66, i67, rfl, rfl, rfl⟩, rfl⟩, _, rfl⟩
 refine J.front 1 rfl <| js [ii i63, ii i65, ii i66, ii i67] sz70 rfl rfl rfl rfl rfl rfl <| J.nil <| CJ.ret ?_
 obtain rfl := si h
 exact ⟨_, _, Res.one rfl ⟨_, _, rfl, Ld.agg (cs := [ii i63, ii i65, ii i66, ii i67]) Try.underlying70 sz70 rfl (Rd.cls 0 0 rfl rfl)⟩, ⟨i63, i65, i66, i67, rfl, rfl, rfl⟩, (Hp.le_refl _), fun w hs => (Sep.dropAt 0 rfl (Sep.dropAt 0 rfl (Sep.dropAt 0 rfl hs)))⟩

noncomputable def fn_ref21_OK (xa : (Int × Int × (List (Int × Int)) × (List (List (Int × Bool))) × (List (Int × Bool)) × (List (Int × (List (Int × Int)) × (List (List (Int × Bool))) × (List (Int × Bool)))) × (List ((List (Int × Int × Int × Int × Bool)) × (Int × Int × Int × (List Int) × (List Int) × (List Int)))))) : Option Bool :=
  (fn_ref21_Check (xa.1, xa.2.1, xa.2.2.1, xa.2.2.2.1, xa.2.2.2.2.1, xa.2.2.2.2.2.1, xa.2.2.2.2.2.2)).bind fun (i15, i17, i18, i19) => some (decide (i15 = 0))
set_option maxRecDepth 100000 in
set_option maxHeartbeats 4000000 in
theorem ref21_OK_ok {K : Hp} {xa : (Int × Int × (List (Int × Int)) × (List (List (Int × Bool))) × (List (Int × Bool)) × (List (Int × (List (Int × Int)) × (List (List (Int × Bool))) × (List (Int × Bool)))) × (List ((List (Int × Int × Int × Int × Bool)) × (Int × Int × Int × (List Int) × (List Int) × (List Int)))))} {adxa_2 : Option Addr} {cpxa_2 : Nat} {adxa_3 : Option Addr} {cpxa_3 : Nat} {adxa_4 : Option Addr} {cpxa_4 : Nat} {adxa_5 : Option Addr} {cpxa_5 : Nat} {adxa_6 : Option Addr} {cpxa_6 : Nat} (fxa_2 : Is K (.sl (.cons (.int .i64) (.one (.int .i64)))) [.slice adxa_2 xa.2.2.1.length cpxa_2] xa.2.2.1) (fxa_3 : Is K (.sl (.one (.sl (.cons (.int .i64) (.one .bool))))) [.slice adxa_3 xa.2.2.2.1.length cpxa_3] xa.2.2.2.1) (fxa_4 : Is K (.sl (.cons (.int .i64) (.one .bool))) [.slice adxa_4 xa.2.2.2.2.1.length cpxa_4] xa.2.2.2.2.1) (fxa_5 : Is K (.sl (.cons (.int .i64) (.cons (.sl (.cons (.int .i64) (.one (.int .i64)))) (.cons (.sl (.one (.sl (.cons (.int .i64) (.one .bool))))) (.one (.one (.sl (.cons (.int .i64) (.one .bool))))))))) [.slice adxa_5 xa.2.2.2.2.2.1.length cpxa_5] xa.2.2.2.2.2.1) (fxa_6 : Is K (.sl (.cons (.sl (.cons (.int .i64) (.cons (.int .i64) (.cons (.int .i64) (.cons (.int .i64) (.one .bool)))))) (.one (.cons (.int .i64) (.cons (.int .i64) (.cons (.int .i64) (.cons (.sl (.int .i64)) (.cons (.sl (.int .i64)) (.one (.sl (.int .i64))))))))))) [.slice adxa_6 xa.2.2.2.2.2.2.length cpxa_6] xa.2.2.2.2.2.2) {r : Bool} (h : fn_ref21_OK xa = some r) :
    Tr Try.prog 20 #[.agg #[ii xa.1, ii xa.2.1, .slice adxa_2 xa.2.2.1.length cpxa_2, .slice adxa_3 xa.2.2.2.1.length cpxa_3, .slice adxa_4 xa.2.2.2.2.1.length cpxa_4, .slice adxa_5 xa.2.2.2.2.2.1.length cpxa_5, .slice adxa_6 xa.2.2.2.2.2.2.length cpxa_6]] K [] (fun v K' L' => (∃ (t11 : Bool), t11 = r ∧ .bool t11 = v ∧ L' = []) ∧ K = K') := by
 refine Tr.k <| Tr.of Try.func20 rfl Try.ntmps20 rfl fun E F => ?_
 unfold fn_ref21_OK at h
 refine CJ.seq <| CJ.region <| jbx [ii xa.1, ii xa.2.1, .slice adxa_2 xa.2.2.1.length cpxa_2, .slice adxa_3 xa.2.2.2.1.length cpxa_3, .slice adxa_4 xa.2.2.2.2.1.length cpxa_4, .slice adxa_5 xa.2.2.2.2.2.1.length cpxa_5, .slice adxa_6 xa.2.2.2.2.2.2.length cpxa_6] rfl rfl fun b12 => ja (.bool false) rfl <| J.nil <| CJ.seq <| CJ.region ?_
 refine jv (.agg #[ii xa.1, ii xa.2.1, .slice adxa_2 xa.2.2.1.length cpxa_2, .slice adxa_3 xa.2.2.2.1.length cpxa_3, .slice adxa_4 xa.2.2.2.2.1.length cpxa_4, .slice adxa_5 xa.2.2.2.2.2.1.length cpxa_5, .slice adxa_6 xa.2.2.2.2.2.2.length cpxa_6]) (V.ld rfl (Ld.agg (cs := [ii xa.1, ii xa.2.1, .slice adxa_2 xa.2.2.1.length cpxa_2, .slice adxa_3 xa.2.2.2.1.length cpxa_3, .slice adxa_4 xa.2.2.2.2.1.length cpxa_4, .slice adxa_5 xa.2.2.2.2.2.1.length cpxa_5, .slice adxa_6 xa.2.2.2.2.2.2.length cpxa_6]) Try.underlying30 sz30 rfl (Rd.cls 0 0 rfl rfl))) ?_
 obtain ⟨r13, hr14, h⟩ := ob h
 refine J.op rfl (A.call (L1 := []) Try.call26 rfl (ref21_Check_ok fxa_2 fxa_3 fxa_4 fxa_5 fxa_6 hr14) rfl rfl) ?_
 rintro _ _ _ ⟨v20, _, rfl, ⟨⟨i15, i17, i18, i19, rfl, rfl, rfl⟩, rfl⟩, _, rfl⟩
 refine jv (ii i15) (V.fld (ft := 0) Try.underlying70 rfl (Ld0.sc sc66 rfl) rfl) <| jv (.bool (decide (i15 = 0))) (V.eql rfl rfl) <| ja (.bool (decide (i15 = 0))) rfl <| J.nil <| CJ.ret ?_
 obtain rfl := si h
 exact ⟨_, _, Res.one rfl rfl, ⟨decide (i15 = 0), rfl, rfl, rfl⟩, (Hp.le_refl _), fun w hs => (Sep.dropAt 0 rfl hs)⟩
noncomputable def fn_ref22_All_l1 (i1391 : Int) (x1530 : ((List (Int × Int × Int × Int × Bool)) × (Int × Int × Int × (List Int) × (List Int) × (List Int)))) : ((List (Int × Int × Bool)) × Int) → Option (((List (Int × Int × Bool)) × Int) ⊕ (List (Int × Int × Bool))) := fun ((l1618, i1623) : ((List (Int × Int × Bool)) × Int)) => cond (decide (i1623 ≤ (((x1530.1.length : Nat) : Int)))) ((app l1618 (([(i1391, i1623, decide (i1623 = (((x1530.1.length : Nat) : Int))))] : List (Int × Int × Bool)))).bind fun z1648 => some (.inl ((z1648, IntKind.wrap .i64 (i1623 + 1))))) (some (.inr (l1618)))
noncomputable def fn_ref22_All_l2 (xa : (Int × Int × (List (Int × Int)) × (List (List (Int × Bool))) × (List (Int × Bool)) × (List (Int × (List (Int × Int)) × (List (List (Int × Bool))) × (List (Int × Bool)))) × (List ((List (Int × Int × Int × Int × Bool)) × (Int × Int × Int × (List Int) × (List Int) × (List Int)))))) : ((List (Int × Int × Bool)) × Int) → Option (((List (Int × Int × Bool)) × Int) ⊕ (List (Int × Int × Bool))) := fun ((l1386, i1391) : ((List (Int × Int × Bool)) × Int)) => cond (decide (i1391 < (((xa.2.2.2.2.2.2.length : Nat) : Int)))) ((getI xa.2.2.2.2.2.2 i1391).bind fun x1530 => (loop (fn_ref22_All_l1 i1391 x1530) (l1386, 0) : Option ((List (Int × Int × Bool)))).bind fun l1595 => some (.inl ((l1595, IntKind.wrap .i64 (i1391 + 1))))) (some (.inr (l1386)))
noncomputable def fn_ref22_All (xa : (Int × Int × (List (Int × Int)) × (List (List (Int × Bool))) × (List (Int × Bool)) × (List (Int × (List (Int × Int)) × (List (List (Int × Bool))) × (List (Int × Bool)))) × (List ((List (Int × Int × Int × Int × Bool)) × (Int × Int × Int × (List Int) × (List Int) × (List Int)))))) : Option ((List (Int × Int × Bool))) :=
  (fn_ref21_OK (xa.1, xa.2.1, xa.2.2.1, xa.2.2.2.1, xa.2.2.2.2.1, xa.2.2.2.2.2.1, xa.2.2.2.2.2.2)).bind fun t838 => cond (!t838) (some (([] : List (Int × Int × Bool)))) ((loop (fn_ref22_All_l2 xa) ((([] : List (Int × Int × Bool)), 0)) : Option ((List (Int × Int × Bool)))).bind fun l1246 => some (l1246))
set_option maxRecDepth 100000 in
set_option maxHeartbeats 4000000 in
theorem ref22_All_ok {K : Hp} {xa : (Int × Int × (List (Int × Int)) × (List (List (Int × Bool))) × (List (Int × Bool)) × (List (Int × (List (Int × Int)) × (List (List (Int × Bool))) × (List (Int × Bool)))) × (List ((List (Int × Int × Int × Int × Bool)) × (Int × Int × Int × (List Int) × (List Int) × (List Int)))))} {adxa_2 : Option Addr} {cpxa_2 : Nat} {adxa_3 : Option Addr} {cpxa_3 : Nat} {adxa_4 : Option Addr} {cpxa_4 : Nat} {adxa_5 : Option Addr} {cpxa_5 : Nat} {adxa_6 : Option Addr} {cpxa_6 : Nat} (fxa_2 : Is K (.sl (.cons (.int .i64) (.one (.int .i64)))) [.slice adxa_2 xa.2.2.1.length cpxa_2] xa.2.2.1) (fxa_3 : Is K (.sl (.one (.sl (.cons (.int .i64) (.one .bool))))) [.slice adxa_3 xa.2.2.2.1.length cpxa_3] xa.2.2.2.1) (fxa_4 : Is K (.sl (.cons (.int .i64) (.one .bool))) [.slice adxa_4 xa.2.2.2.2.1.length cpxa_4] xa.2.2.2.2.1) (fxa_5 : Is K (.sl (.cons (.int .i64) (.cons (.sl (.cons (.int .i64) (.one (.int .i64)))) (.cons (.sl (.one (.sl (.cons (.int .i64) (.one .bool))))) (.one (.one (.sl (.cons (.int .i64) (.one .bool))))))))) [.slice adxa_5 xa.2.2.2.2.2.1.length cpxa_5] xa.2.2.2.2.2.1) (fxa_6 : Is K (.sl (.cons (.sl (.cons (.int .i64) (.cons (.int .i64) (.cons (.int .i64) (.cons (.int .i64) (.one .bool)))))) (.one (.cons (.int .i64) (.cons (.int .i64) (.cons (.int .i64) (.cons (.sl (.int .i64)) (.cons (.sl (.int .i64)) (.one (.sl (.int .i64))))))))))) [.slice adxa_6 xa.2.2.2.2.2.2.length cpxa_6] xa.2.2.2.2.2.2) {r : (List (Int × Int × Bool))} (h : fn_ref22_All xa = some r) :
    Tr Try.prog 8 #[.agg #[ii xa.1, ii xa.2.1, .slice adxa_2 xa.2.2.1.length cpxa_2, .slice adxa_3 xa.2.2.2.1.length cpxa_3, .slice adxa_4 xa.2.2.2.2.1.length cpxa_4, .slice adxa_5 xa.2.2.2.2.2.1.length cpxa_5, .slice adxa_6 xa.2.2.2.2.2.2.length cpxa_6]] K [] (fun v K' L' => (∃ (l827 : (List (Int × Int × Bool))) (ad828 : Option Addr) (cp829 : Nat), l827 = r ∧ .slice ad828 l827.length cp829 = v ∧ L' = [Row Hp.nil 39 (.cons (.int .i64) (.cons (.int .i64) (.one .bool))) (.slice ad828 l827.length cp829) l827]) ∧ K = K') := by
 refine Tr.k <| Tr.of Try.func8 rfl Try.ntmps8 rfl fun E F => ?_
 unfold fn_ref22_All at h
 refine CJ.seq <| CJ.region <| jbx [ii xa.1, ii xa.2.1, .slice adxa_2 xa.2.2.1.length cpxa_2, .slice adxa_3 xa.2.2.2.1.length cpxa_3, .slice adxa_4 xa.2.2.2.2.1.length cpxa_4, .slice adxa_5 xa.2.2.2.2.2.1.length cpxa_5, .slice adxa_6 xa.2.2.2.2.2.2.length cpxa_6] rfl rfl fun b832 => ja (.slice none 0 0) rfl <| J.nil <| CJ.seq <| CJ.region ?_
 refine J.op rfl (A.lit (K0 := Hp.nil) (ty := (.cons (.int .i64) (.cons (.int .i64) (.one .bool)))) (xs := ([] : List (Int × Int × Bool))) Try.underlying35 inf39 rfl (by decide) rfl rfl rfl rfl rfl (by decide)) ?_
 rintro _ _ _ ⟨b833, rfl, rfl, rfl⟩
 have hn834 : ([] : List (Int × Int × Bool)) ≠ [] → ∃ g, (some ⟨b833, 0, none⟩ : Option Addr) = some ⟨g, 0, none⟩ := fun _ => ⟨b833, rfl⟩
 refine ja (.slice (some ⟨b833, 0, none⟩) ((([] : List (Int × Int × Bool))).length) 0) rfl <| J.nil <| CJ.seq <| CJ.seq <| CJ.region <| jv (.agg #[ii xa.1, ii xa.2.1, .slice adxa_2 xa.2.2.1.length cpxa_2, .slice adxa_3 xa.2.2.2.1.length cpxa_3, .slice adxa_4 xa.2.2.2.2.1.length cpxa_4, .slice adxa_5 xa.2.2.2.2.2.1.length cpxa_5, .slice adxa_6 xa.2.2.2.2.2.2.length cpxa_6]) (V.ld rfl (Ld.agg (cs := [ii xa.1, ii xa.2.1, .slice adxa_2 xa.2.2.1.length cpxa_2, .slice adxa_3 xa.2.2.2.1.length cpxa_3, .slice adxa_4 xa.2.2.2.2.1.length cpxa_4, .slice adxa_5 xa.2.2.2.2.2.1.length cpxa_5, .slice adxa_6 xa.2.2.2.2.2.2.length cpxa_6]) Try.underlying30 sz30 rfl (Rd.cls 1 0 rfl rfl))) ?_
 obtain ⟨r836, hr837, h⟩ := ob h
 refine J.op rfl (A.call (L1 := []) Try.call20 rfl (ref21_OK_ok fxa_2 fxa_3 fxa_4 fxa_5 fxa_6 hr837) rfl rfl) ?_
 rintro _ _ _ ⟨v839, _, rfl, ⟨⟨t838, rfl, rfl, rfl⟩, rfl⟩, _, rfl⟩
 refine jv (.bool (!t838)) (V.not rfl) <| J.nil <| cc rfl h (fun hc842 h => ?_) fun hc842 h => ?_
 · refine CJ.seq <| CJ.region <| jm (.slice (some ⟨b833, 0, none⟩) ((([] : List (Int × Int × Bool))).length) 0) rfl <| ja (.slice (some ⟨b833, 0, none⟩) ((([] : List (Int × Int × Bool))).length) 0) rfl <| J.nil <| CJ.ret ?_
   obtain rfl := si h
   exact ⟨_, _, Res.one rfl rfl, ⟨([] : List (Int × Int × Bool)), (some ⟨b833, 0, none⟩), 0, rfl, rfl, rfl⟩, (Hp.le_refl _), fun w hs => (Sep.dropAt 1 rfl hs)⟩
 refine CJ.skip <| CJ.seq <| CJ.seq <| CJ.region <| ja (ii 0) rfl <| J.nil ?_
 obtain ⟨o1251, ho1252, h⟩ := ob h
 refine CJ.meetN (fun ρ K' L' => ∃ (l1246 : (List (Int × Int × Bool))) (ad1247 : Option Addr) (cp1248 : Nat), l1246 = o1251 ∧ Fits [(3, .slice ad1247 l1246.length cp1248)] ρ ∧ K = K' ∧ L' = Row Hp.nil 39 (.cons (.int .i64) (.cons (.int .i64) (.one .bool))) (.slice ad1247 l1246.length cp1248) l1246 :: F) ?_ ?_
 · refine CJ.block <| CJ.front 1 rfl <| CJ.loop (fun s ρ K' L' => ∃ (l1386 : (List (Int × Int × Bool))) (i1391 : Int) (ad1387 : Option Addr) (cp1388 : Nat), (l1386, i1391) = s ∧ Fits [(1, .pointer (some ⟨b832, 0, none⟩)), (3, .slice ad1387 l1386.length cp1388), (4, ii i1391)] ρ ∧ K = K' ∧ L' = Cl b832 30 [ii xa.1, ii xa.2.1, .slice adxa_2 xa.2.2.1.length cpxa_2, .slice adxa_3 xa.2.2.2.1.length cpxa_3, .slice adxa_4 xa.2.2.2.2.1.length cpxa_4, .slice adxa_5 xa.2.2.2.2.2.1.length cpxa_5, .slice adxa_6 xa.2.2.2.2.2.2.length cpxa_6] :: Row Hp.nil 39 (.cons (.int .i64) (.cons (.int .i64) (.one .bool))) (.slice ad1387 l1386.length cp1388) l1386 :: F) ho1252 ⟨([] : List (Int × Int × Bool)), 0, (some ⟨b833, 0, none⟩), 0, rfl, ⟨rfl, rfl, rfl, trivial⟩, rfl, rfl⟩ ?_
   rintro s ρ _ _ r1528 ⟨l1386, i1391, ad1387, cp1388, rfl, hf1526, rfl, rfl⟩ h1525
   obtain ⟨ρ, rfl⟩ := hf1526.ex
   refine CJ.front 1 rfl <| CJ.wit Row.hn fun hn1390 => CJ.seq <| CJ.seq <| CJ.region <| jm (ii i1391) rfl <| jv _ (V.fad Try.underlying30 rfl nz28 rfl) ?_
   refine jv (.slice adxa_6 xa.2.2.2.2.2.2.length cpxa_6) (V.ld rfl (Ld.sc sc28 (Rd.cl 1 rfl rfl))) <| jv (ii (((xa.2.2.2.2.2.2.length : Nat) : Int))) (V.len Try.underlying28 rfl) <| jv (.bool (decide (i1391 < (((xa.2.2.2.2.2.2.length : Nat) : Int))))) (V.lss rfl rfl) <| J.nil <| cc rfl h1525 (fun hc1529 h1525 => ?_) fun hc1529 h1525 => ?_
   · refine CJ.skip <| CJ.seq <| CJ.block <| CJ.seq <| CJ.region <| jv _ (V.fad Try.underlying30 rfl nz28 rfl) <| jv (.slice adxa_6 xa.2.2.2.2.2.2.length cpxa_6) (V.ld rfl (Ld.sc sc28 (Rd.cl 1 rfl rfl))) ?_
     refine jm (ii i1391) rfl ?_
     obtain ⟨x1530, hx1531, h1525⟩ := ob h1525
     obtain ⟨p1532, p1533, p1534⟩ := getI_some hx1531
     obtain ⟨b1535, o1536, e1537, a1538⟩ := (fxa_6).at p1533
     refine jv _ (V.iad Try.underlying28 sz58 rfl e1537 rfl p1532 p1534) <| jv _ (V.fad Try.underlying58 rfl nz54 rfl) ?_
     obtain ⟨ad1539, cp1540, c1541, f1542⟩ := ((a1538).fst).sl
     refine jv (.slice ad1539 x1530.1.length cp1540) (V.ld rfl (Ld.sc sc54 (Rd.k c1541 (Hp.le_refl _)))) <| jv (ii (((x1530.1.length : Nat) : Int))) (V.len Try.underlying54 rfl) <| ja (ii (((x1530.1.length : Nat) : Int))) rfl <| J.nil <| CJ.seq <| CJ.region <| ja (ii 0) rfl ?_
     refine J.nil ?_
     obtain ⟨o1600, ho1601, h1525⟩ := ob h1525
     refine CJ.meetN (fun ρ K' L' => ∃ (l1595 : (List (Int × Int × Bool))) (ad1596 : Option Addr) (cp1597 : Nat), l1595 = o1600 ∧ Fits [(1, .pointer (some ⟨b832, 0, none⟩)), (3, .slice ad1596 l1595.length cp1597), (4, ii i1391)] ρ ∧ K = K' ∧ L' = Cl b832 30 [ii xa.1, ii xa.2.1, .slice adxa_2 xa.2.2.1.length cpxa_2, .slice adxa_3 xa.2.2.2.1.length cpxa_3, .slice adxa_4 xa.2.2.2.2.1.length cpxa_4, .slice adxa_5 xa.2.2.2.2.2.1.length cpxa_5, .slice adxa_6 xa.2.2.2.2.2.2.length cpxa_6] :: Row Hp.nil 39 (.cons (.int .i64) (.cons (.int .i64) (.one .bool))) (.slice ad1596 l1595.length cp1597) l1595 :: F) ?_ ?_
     · refine CJ.block <| CJ.front 1 rfl <| CJ.loop (fun s ρ K' L' => ∃ (l1618 : (List (Int × Int × Bool))) (i1623 : Int) (ad1619 : Option Addr) (cp1620 : Nat), (l1618, i1623) = s ∧ Fits [(1, .pointer (some ⟨b832, 0, none⟩)), (3, .slice ad1619 l1618.length cp1620), (4, ii i1391), (5, ii (((x1530.1.length : Nat) : Int))), (6, ii i1623)] ρ ∧ K = K' ∧ L' = Cl b832 30 [ii xa.1, ii xa.2.1, .slice adxa_2 xa.2.2.1.length cpxa_2, .slice adxa_3 xa.2.2.2.1.length cpxa_3, .slice adxa_4 xa.2.2.2.2.1.length cpxa_4, .slice adxa_5 xa.2.2.2.2.2.1.length cpxa_5, .slice adxa_6 xa.2.2.2.2.2.2.length cpxa_6] :: Row Hp.nil 39 (.cons (.int .i64) (.cons (.int .i64) (.one .bool))) (.slice ad1619 l1618.length cp1620) l1618 :: F) ho1601 ⟨l1386, 0, ad1387, cp1388, rfl, ⟨rfl, rfl, rfl, rfl, rfl, trivial⟩, rfl, rfl⟩ ?_
       rintro s ρ _ _ r1643 ⟨l1618, i1623, ad1619, cp1620, rfl, hf1641, rfl, rfl⟩ h1640
       obtain ⟨ρ, rfl⟩ := hf1641.ex
       refine CJ.front 1 rfl <| CJ.wit Row.hn fun hn1622 => CJ.seq <| CJ.seq <| CJ.region <| jm (ii i1623) rfl <| jm (ii (((x1530.1.length : Nat) : Int))) rfl ?_
       refine jv (.bool (decide (i1623 ≤ (((x1530.1.length : Nat) : Int))))) (V.leq rfl rfl) <| J.nil <| cc rfl h1640 (fun hc1644 h1640 => ?_) fun hc1644 h1640 => ?_
       · refine CJ.skip <| CJ.seq <| CJ.block <| CJ.region <| jm (.slice ad1619 l1618.length cp1620) rfl <| jm (ii i1391) rfl <| jm (ii i1623) rfl ?_
         refine jm (ii i1623) rfl <| jm (ii (((x1530.1.length : Nat) : Int))) rfl <| jv (.bool (decide (i1623 = (((x1530.1.length : Nat) : Int))))) (V.eql rfl rfl) <| jv (.agg #[ii i1391, ii i1623, .bool (decide (i1623 = (((x1530.1.length : Nat) : Int))))]) (V.build inf39 places39 rfl rfl) ?_
         refine J.op rfl (A.lit (K0 := Hp.nil) (ty := (.cons (.int .i64) (.cons (.int .i64) (.one .bool)))) (xs := ([(i1391, i1623, decide (i1623 = (((x1530.1.length : Nat) : Int))))] : List (Int × Int × Bool))) Try.underlying35 inf39 rfl (by decide) rfl rfl rfl ⟨_, _, rfl, ⟨_, _, rfl, rfl, rfl, ⟨_, _, rfl, rfl, rfl, rfl⟩⟩, rfl⟩ rfl (by decide)) ?_
         rintro _ _ _ ⟨b1645, rfl, rfl, rfl⟩
         have hn1646 : ([(i1391, i1623, decide (i1623 = (((x1530.1.length : Nat) : Int))))] : List (Int × Int × Bool)) ≠ [] → ∃ g, (some ⟨b1645, 0, none⟩ : Option Addr) = some ⟨g, 0, none⟩ := fun _ => ⟨b1645, rfl⟩
         obtain ⟨z1648, hz1649, h1640⟩ := ob h1640
         refine J.front 1 rfl <| J.op rfl (A.appR (Kr := Hp.nil) Try.underlying35 inf39 rfl rfl (by decide) (by decide) rfl rfl (Els.flat rfl) (Els.flat rfl) hz1649) ?_
         rintro _ _ _ ⟨v1650, rfl, rfl, rfl⟩
         refine J.wit Row.form ?_
         rintro ⟨ad1651, cp1652, rfl, _, _, hn1653⟩
         refine ja (.slice ad1651 z1648.length cp1652) rfl <| J.nil <| CJ.region <| jm (ii i1623) rfl <| jv (ii (IntKind.wrap .i64 (i1623 + 1))) (V.add rfl rfl) <| ja (ii (IntKind.wrap .i64 (i1623 + 1))) rfl <| J.front 1 rfl ?_
         refine J.nil ?_
         obtain rfl := si h1640
         exact ⟨rfl, ⟨z1648, IntKind.wrap .i64 (i1623 + 1), ad1651, cp1652, rfl, ⟨rfl, rfl, rfl, rfl, rfl, trivial⟩, rfl, rfl⟩⟩
       refine CJ.front 1 rfl <| CJ.exit ?_
       obtain rfl := si h1640
       refine ⟨nofun, fun e => ?_⟩
       subst e
       exact ⟨rfl, ⟨l1618, ad1619, cp1620, rfl, ⟨rfl, rfl, rfl, trivial⟩, rfl, rfl⟩⟩
     rintro ρ _ _ ⟨l1595, ad1596, cp1597, rfl, hf1654, rfl, rfl⟩
     obtain ⟨ρ, rfl⟩ := hf1654.ex
     refine PJ.front 1 rfl <| PJ.wit Row.hn fun hn1599 => PJ.done <| CJ.region <| jm (ii i1391) rfl <| jv (ii (IntKind.wrap .i64 (i1391 + 1))) (V.add rfl rfl) <| ja (ii (IntKind.wrap .i64 (i1391 + 1))) rfl ?_
     refine J.front 1 rfl <| J.nil ?_
     obtain rfl := si h1525
     exact ⟨rfl, ⟨l1595, IntKind.wrap .i64 (i1391 + 1), ad1596, cp1597, rfl, ⟨rfl, rfl, rfl, trivial⟩, rfl, rfl⟩⟩
   refine CJ.dropAt 1 rfl <| CJ.exit ?_
   obtain rfl := si h1525
   refine ⟨nofun, fun e => ?_⟩
   subst e
   exact ⟨rfl, ⟨l1386, ad1387, cp1388, rfl, ⟨rfl, trivial⟩, rfl, rfl⟩⟩
 rintro ρ _ _ ⟨l1246, ad1247, cp1248, rfl, hf1656, rfl, rfl⟩
 obtain ⟨ρ, rfl⟩ := hf1656.ex
 refine PJ.wit Row.hn fun hn1250 => PJ.done <| CJ.seq <| CJ.region <| jm (.slice ad1247 l1246.length cp1248) rfl <| ja (.slice ad1247 l1246.length cp1248) rfl <| J.nil ?_
 refine CJ.ret ?_
 obtain rfl := si h
 exact ⟨_, _, Res.one rfl rfl, ⟨l1246, ad1247, cp1248, rfl, rfl, rfl⟩, (Hp.le_refl _), fun w hs => hs⟩

noncomputable def fn_point_Points_Blocks (xa : (Option ((List Int) × Int))) : Option Int :=
  cond (xa.isNone) (some (0)) ((xa : Option ((List Int) × Int)).bind fun y14 => some (((y14.1.length : Nat) : Int)))
set_option maxRecDepth 100000 in
set_option maxHeartbeats 4000000 in
theorem point_Points_Blocks_ok {K : Hp} {xa : (Option ((List Int) × Int))} {vxa_0 : Value} (fxa_0 : Is K (.ptr (.cons (.sl (.int .i64)) (.one (.int .i64)))) [vxa_0] xa) {r : Int} (h : fn_point_Points_Blocks xa = some r) :
    Tr Try.prog 12 #[vxa_0] K [] (fun v K' L' => (∃ (i12 : Int), i12 = r ∧ ii i12 = v ∧ L' = []) ∧ K = K') := by
 refine Tr.k <| Tr.of Try.func12 rfl Try.ntmps12 rfl fun E F => ?_
 unfold fn_point_Points_Blocks at h
 refine CJ.seq <| CJ.region <| ja (ii 0) rfl <| J.nil <| CJ.seq <| CJ.seq <| CJ.region ?_
 refine jm vxa_0 rfl <| jv (.bool xa.isNone) (V.kp_eql Try.underlying33 fxa_0 rfl rfl) <| J.nil <| cc rfl h (fun hc13 h => ?_) fun hc13 h => ?_
 · refine CJ.seq <| CJ.region <| ja (ii 0) rfl <| J.nil <| CJ.ret ?_
   obtain rfl := si h
   exact ⟨_, _, Res.one rfl rfl, ⟨0, rfl, rfl, rfl⟩, (Hp.le_refl _), fun w hs => hs⟩
 refine CJ.skip <| CJ.seq <| CJ.region <| jm vxa_0 rfl ?_
 obtain ⟨y14, hy15, h⟩ := ob h
 obtain ⟨b16, o17, hv18, a19⟩ := Is.psome fxa_0 hy15
 refine jv _ (V.nck hv18) <| jv _ (V.fad Try.underlying62 rfl nz37 rfl) ?_
 obtain ⟨ad20, cp21, c22, f23⟩ := ((a19).fst).sl
 refine jv (.slice ad20 y14.1.length cp21) (V.ld rfl (Ld.sc sc37 (Rd.k c22 (Hp.le_refl _)))) <| jv (ii (((y14.1.length : Nat) : Int))) (V.len Try.underlying37 rfl) <| ja (ii (((y14.1.length : Nat) : Int))) rfl <| J.nil <| CJ.ret ?_
 obtain rfl := si h
 exact ⟨_, _, Res.one rfl rfl, ⟨((y14.1.length : Nat) : Int), rfl, rfl, rfl⟩, (Hp.le_refl _), fun w hs => hs⟩
end Go.Proofs.Ytejndphglkpnnaa
