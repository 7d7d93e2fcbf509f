/- What Go functions answer: generated. -/
import Derived.Test.YtaokbmfhobbmaaaDoorF1
namespace Go.Proofs.YtaokbmfhobbmaaaDoor
open Go.RowKit
set_option linter.unusedVariables false
set_option linter.unnecessarySimpa false
set_option linter.unusedSimpArgs false
set_option maxRecDepth 20000

noncomputable def fn_prov_Compare (xa : (Int × Int × Int × Int × Bool)) (xb : (Int × Int × Int × Int × Bool)) : Option Int :=
  (fn_cmp_Compare_int xa.1 xb.1).bind fun i170 => (fn_cmp_Compare_int xa.2.1 xb.2.1).bind fun i176 => (fn_cmp_Compare_int xa.2.2.1 xb.2.2.1).bind fun i182 => (fn_cmp_Compare_int xa.2.2.2.1 xb.2.2.2.1).bind fun i188 => (fn_prov_Compare_1 (xa.1, xa.2.1, xa.2.2.1, xa.2.2.2.1, xa.2.2.2.2)).bind fun i194 => (fn_prov_Compare_1 (xb.1, xb.2.1, xb.2.2.1, xb.2.2.2.1, xb.2.2.2.2)).bind fun i200 => (fn_cmp_Compare_int i194 i200).bind fun i206 => (fn_cmp_Or_int ([i170, i176, i182, i188, i206] : List Int)).bind fun i218 => some (i218)
set_option maxRecDepth 100000 in
set_option maxHeartbeats 4000000 in
theorem prov_Compare_ok {K : Hp} {xa : (Int × Int × Int × Int × Bool)} {xb : (Int × Int × Int × Int × Bool)}   {r : Int} (h : fn_prov_Compare xa xb = some r) :
    Tr Tryd.prog 19 #[.agg #[ii xa.1, ii xa.2.1, ii xa.2.2.1, ii xa.2.2.2.1, .bool xa.2.2.2.2], .agg #[ii xb.1, ii xb.2.1, ii xb.2.2.1, ii xb.2.2.2.1, .bool xb.2.2.2.2]] K [] (fun v K' L' => (∃ (i111 : Int), i111 = r ∧ ii i111 = v ∧ L' = []) ∧ K = K') := by
 refine Tr.k <| Tr.of Tryd.func19 rfl Tryd.ntmps19 rfl fun E F => ?_
 unfold fn_prov_Compare at h
 refine cr <| jbx [ii xa.1, ii xa.2.1, ii xa.2.2.1, ii xa.2.2.2.1, .bool xa.2.2.2.2] rfl rfl fun b112 => jbx [ii xb.1, ii xb.2.1, ii xb.2.2.1, ii xb.2.2.2.1, .bool xb.2.2.2.2] rfl rfl fun b113 => ja (ii 0) rfl <| J.nil <| CJ.seq ?_
 refine CJ.region <| ja (.func (.func 32) #[] #[]) rfl <| J.nil <| CJ.seq <| CJ.mix [Cl b113 23 [ii xb.1, ii xb.2.1, ii xb.2.2.1, ii xb.2.2.2.1, .bool xb.2.2.2.2], Cl b112 23 [ii xa.1, ii xa.2.1, ii xa.2.2.1, ii xa.2.2.2.1, .bool xa.2.2.2.2]] [([0, 1, 2, 3, 5, 6, 7, 8, 10, 11, 12, 13, 15, 16, 17, 18, 20, 21, 23, 24], 4), ([], 9), ([], 14), ([], 19), ([], 22), ([], 25), ([], 26), ([], 27), ([], 28)] [29] [] mixO (by decide +kernel) ⟨0, rfl, 0, rfl, trivial⟩ rfl rfl rfl <| JM.cons <| qv _ (V.fad Tryd.underlying23 rfl nz3 rfl) ?_
 refine qv (ii xa.1) (V.ld rfl (Ld.sc sc3 (Rd.cl 1 rfl rfl))) <| qv _ (V.fad Tryd.underlying23 rfl nz3 rfl) <| qv (ii xb.1) (V.ld rfl (Ld.sc sc3 (Rd.cl 0 rfl rfl))) <| qv _ (V.fad Tryd.underlying23 rfl nz3 rfl) <| qv (ii xa.2.1) (V.ld rfl (Ld.sc sc3 (Rd.cl 1 rfl rfl))) <| qv _ (V.fad Tryd.underlying23 rfl nz3 rfl) <| qv (ii xb.2.1) (V.ld rfl (Ld.sc sc3 (Rd.cl 0 rfl rfl))) ?_
 refine qv _ (V.fad Tryd.underlying23 rfl nz3 rfl) <| qv (ii xa.2.2.1) (V.ld rfl (Ld.sc sc3 (Rd.cl 1 rfl rfl))) <| qv _ (V.fad Tryd.underlying23 rfl nz3 rfl) <| qv (ii xb.2.2.1) (V.ld rfl (Ld.sc sc3 (Rd.cl 0 rfl rfl))) <| qv _ (V.fad Tryd.underlying23 rfl nz3 rfl) <| qv (ii xa.2.2.2.1) (V.ld rfl (Ld.sc sc3 (Rd.cl 1 rfl rfl))) <| qv _ (V.fad Tryd.underlying23 rfl nz3 rfl) ?_
 refine qv (ii xb.2.2.2.1) (V.ld rfl (Ld.sc sc3 (Rd.cl 0 rfl rfl))) <| qm (.func (.func 32) #[] #[]) rfl <| qv (.agg #[ii xa.1, ii xa.2.1, ii xa.2.2.1, ii xa.2.2.2.1, .bool xa.2.2.2.2]) (V.ld rfl (Ld.agg (cs := [ii xa.1, ii xa.2.1, ii xa.2.2.1, ii xa.2.2.2.1, .bool xa.2.2.2.2]) Tryd.underlying23 sz23 rfl (Rd.cls 1 0 rfl rfl))) <| qm (.func (.func 32) #[] #[]) rfl <| qv (.agg #[ii xb.1, ii xb.2.1, ii xb.2.2.1, ii xb.2.2.2.1, .bool xb.2.2.2.2]) (V.ld rfl (Ld.agg (cs := [ii xb.1, ii xb.2.1, ii xb.2.2.1, ii xb.2.2.2.1, .bool xb.2.2.2.2]) Tryd.underlying23 sz23 rfl (Rd.cls 0 0 rfl rfl))) <| JQ.nil ?_
 obtain ⟨r168, hr169, h⟩ := ob h
 refine JA.op rfl (A.call (L1 := []) Tryd.call34 rfl (cmp_Compare_int_ok hr169) rfl rfl) ?_
 rintro _ _ _ ⟨v171, _, rfl, ⟨⟨i170, rfl, rfl, rfl⟩, rfl⟩, _, rfl⟩
 refine ⟨fun w hs => Hold.sub (Hp.le_refl _) ⟨0, rfl, 0, rfl, trivial⟩ hs, ?_⟩
 refine JM.cons <| JQ.nil ?_
 obtain ⟨r174, hr175, h⟩ := ob h
 refine JA.op rfl (A.call (L1 := []) Tryd.call34 rfl (cmp_Compare_int_ok hr175) rfl rfl) ?_
 rintro _ _ _ ⟨v177, _, rfl, ⟨⟨i176, rfl, rfl, rfl⟩, rfl⟩, _, rfl⟩
 refine ⟨fun w hs => Hold.sub (Hp.le_refl _) ⟨0, rfl, 0, rfl, trivial⟩ hs, ?_⟩
 refine JM.cons <| JQ.nil ?_
 obtain ⟨r180, hr181, h⟩ := ob h
 refine JA.op rfl (A.call (L1 := []) Tryd.call34 rfl (cmp_Compare_int_ok hr181) rfl rfl) ?_
 rintro _ _ _ ⟨v183, _, rfl, ⟨⟨i182, rfl, rfl, rfl⟩, rfl⟩, _, rfl⟩
 refine ⟨fun w hs => Hold.sub (Hp.le_refl _) ⟨0, rfl, 0, rfl, trivial⟩ hs, ?_⟩
 refine JM.cons <| JQ.nil ?_
 obtain ⟨r186, hr187, h⟩ := ob h
 refine JA.op rfl (A.call (L1 := []) Tryd.call34 rfl (cmp_Compare_int_ok hr187) rfl rfl) ?_
 rintro _ _ _ ⟨v189, _, rfl, ⟨⟨i188, rfl, rfl, rfl⟩, rfl⟩, _, rfl⟩
 refine ⟨fun w hs => Hold.sub (Hp.le_refl _) ⟨0, rfl, 0, rfl, trivial⟩ hs, ?_⟩
 refine JM.cons <| JQ.nil ?_
 obtain ⟨r192, hr193, h⟩ := ob h
 refine JA.op rfl (A.call (L1 := []) Tryd.call32 rfl (prov_Compare_1_ok hr193) rfl rfl) ?_
 rintro _ _ _ ⟨v195, _, rfl, ⟨⟨i194, rfl, rfl, rfl⟩, rfl⟩, _, rfl⟩
 refine ⟨fun w hs => Hold.sub (Hp.le_refl _) ⟨0, rfl, 0, rfl, trivial⟩ hs, ?_⟩
 refine JM.cons <| JQ.nil ?_
 obtain ⟨r198, hr199, h⟩ := ob h
 refine JA.op rfl (A.call (L1 := []) Tryd.call32 rfl (prov_Compare_1_ok hr199) rfl rfl) ?_
 rintro _ _ _ ⟨v201, _, rfl, ⟨⟨i200, rfl, rfl, rfl⟩, rfl⟩, _, rfl⟩
 refine ⟨fun w hs => Hold.sub (Hp.le_refl _) ⟨0, rfl, 0, rfl, trivial⟩ hs, ?_⟩
 refine JM.cons <| JQ.nil ?_
 obtain ⟨r204, hr205, h⟩ := ob h
 refine JA.op rfl (A.call (L1 := []) Tryd.call34 rfl (cmp_Compare_int_ok hr205) rfl rfl) ?_
 rintro _ _ _ ⟨v207, _, rfl, ⟨⟨i206, rfl, rfl, rfl⟩, rfl⟩, _, rfl⟩
 refine ⟨fun w hs => Hold.sub (Hp.le_refl _) ⟨0, rfl, 0, rfl, trivial⟩ hs, ?_⟩
 refine JM.cons <| JQ.nil ?_
 refine JA.op rfl (A.lit (K0 := Hp.nil) (ty := (.int .i64)) (xs := ([i170, i176, i182, i188, i206] : List Int)) Tryd.underlying71 inf3 rfl (by decide) rfl rfl rfl ⟨_, _, rfl, rfl, ⟨_, _, rfl, rfl, ⟨_, _, rfl, rfl, ⟨_, _, rfl, rfl, ⟨_, _, rfl, rfl, rfl⟩⟩⟩⟩⟩ rfl (by decide)) ?_
 rintro _ _ _ ⟨b210, rfl, rfl, rfl⟩
 have hn211 : ([i170, i176, i182, i188, i206] : List Int) ≠ [] → ∃ g, (some ⟨b210, 0, none⟩ : Option Addr) = some ⟨g, 0, none⟩ := fun _ => ⟨b210, rfl⟩
 refine ⟨fun w hs => Hold.sub (Hp.le_refl _) ⟨1, rfl, 1, rfl, trivial⟩ hs, ?_⟩
 refine JM.cons <| JQ.nil ?_
 obtain ⟨r213, hr214, h⟩ := ob h
 refine JA.op rfl (A.call (L1 := [Row Hp.nil 3 (.int .i64) (.slice (some ⟨b210, 0, none⟩) (([i170, i176, i182, i188, i206] : List Int).length) 5) ([i170, i176, i182, i188, i206] : List Int)]) Tryd.call33 rfl (Tr.lend (Hp.nil_le _) (by decide) (fun K215 hK216 f217 => cmp_Or_int_ok f217 hr214)) rfl rfl) ?_
 rintro _ _ _ ⟨v219, _, rfl, ⟨⟨_, ⟨i218, rfl, rfl, rfl⟩, rfl⟩, rfl⟩, _, rfl⟩
 refine ⟨fun w hs => Hold.sub (Hp.le_refl _) ⟨1, rfl, 1, rfl, trivial⟩ hs, ?_⟩
 refine JM.nil <| qa (ii i218) rfl <| JQ.nil <| J.nil <| CJ.ret ?_
 obtain rfl := si h
 exact ⟨_, _, Res.one rfl rfl, ⟨i218, rfl, rfl, rfl⟩, (Hp.le_refl _), fun w hs => (Sep.dropAt 0 rfl (Sep.dropAt 0 rfl (Sep.dropAt 0 rfl hs)))⟩

noncomputable def fn_ref26_Ahead (xa : (Int × Int × Int × Int × Bool)) (xb : (Int × Int × Int × Int × Bool)) : Option Bool :=
  cond (!decide (xa.1 = xb.1)) (some (decide (xa.1 < xb.1))) (cond (!decide (xa.2.1 = xb.2.1)) (some (decide (xa.2.1 < xb.2.1))) (cond (!decide (xa.2.2.1 = xb.2.2.1)) (some (decide (xa.2.2.1 < xb.2.2.1))) (cond (!decide (xa.2.2.2.1 = xb.2.2.2.1)) (some (decide (xa.2.2.2.1 < xb.2.2.2.1))) (some ((!xa.2.2.2.2) && xb.2.2.2.2)))))
set_option maxRecDepth 100000 in
set_option maxHeartbeats 4000000 in
theorem ref26_Ahead_ok {K : Hp} {xa : (Int × Int × Int × Int × Bool)} {xb : (Int × Int × Int × Int × Bool)}   {r : Bool} (h : fn_ref26_Ahead xa xb = some r) :
    Tr Tryd.prog 20 #[.agg #[ii xa.1, ii xa.2.1, ii xa.2.2.1, ii xa.2.2.2.1, .bool xa.2.2.2.2], .agg #[ii xb.1, ii xb.2.1, ii xb.2.2.1, ii xb.2.2.2.1, .bool xb.2.2.2.2]] K [] (fun v K' L' => (∃ (t10 : Bool), t10 = r ∧ .bool t10 = v ∧ L' = []) ∧ K = K') := by
 refine Tr.k <| Tr.of Tryd.func20 rfl Tryd.ntmps20 rfl fun E F => ?_
 unfold fn_ref26_Ahead at h
 refine cr <| jbx [ii xa.1, ii xa.2.1, ii xa.2.2.1, ii xa.2.2.2.1, .bool xa.2.2.2.2] rfl rfl fun b11 => jbx [ii xb.1, ii xb.2.1, ii xb.2.2.1, ii xb.2.2.2.1, .bool xb.2.2.2.2] rfl rfl fun b12 => ja (.bool false) rfl <| J.nil <| CJ.seq ?_
 refine cr <| jv _ (V.fad Tryd.underlying23 rfl nz3 rfl) <| jv (ii xa.1) (V.ld rfl (Ld.sc sc3 (Rd.cl 1 rfl rfl))) <| jv _ (V.fad Tryd.underlying23 rfl nz3 rfl) <| jv (ii xb.1) (V.ld rfl (Ld.sc sc3 (Rd.cl 0 rfl rfl))) <| jv (.bool (!decide (xa.1 = xb.1))) (V.neq rfl rfl) ?_
 refine J.nil <| cc rfl h (fun hc13 h => ?_) fun hc13 h => ?_
 · refine cr <| jv _ (V.fad Tryd.underlying23 rfl nz3 rfl) <| jv (ii xa.1) (V.ld rfl (Ld.sc sc3 (Rd.cl 1 rfl rfl))) <| jv _ (V.fad Tryd.underlying23 rfl nz3 rfl) <| jv (ii xb.1) (V.ld rfl (Ld.sc sc3 (Rd.cl 0 rfl rfl))) <| jv (.bool (decide (xa.1 < xb.1))) (V.lss rfl rfl) ?_
   refine ja (.bool (decide (xa.1 < xb.1))) rfl <| J.nil <| CJ.ret ?_
   obtain rfl := si h
   exact ⟨_, _, Res.one rfl rfl, ⟨decide (xa.1 < xb.1), rfl, rfl, rfl⟩, (Hp.le_refl _), fun w hs => (Sep.dropAt 0 rfl (Sep.dropAt 0 rfl hs))⟩
 refine CJ.skip <| CJ.seq <| cr <| jv _ (V.fad Tryd.underlying23 rfl nz3 rfl) <| jv (ii xa.2.1) (V.ld rfl (Ld.sc sc3 (Rd.cl 1 rfl rfl))) <| jv _ (V.fad Tryd.underlying23 rfl nz3 rfl) ?_
 refine jv (ii xb.2.1) (V.ld rfl (Ld.sc sc3 (Rd.cl 0 rfl rfl))) <| jv (.bool (!decide (xa.2.1 = xb.2.1))) (V.neq rfl rfl) <| J.nil <| cc rfl h (fun hc14 h => ?_) fun hc14 h => ?_
 · refine cr <| jv _ (V.fad Tryd.underlying23 rfl nz3 rfl) <| jv (ii xa.2.1) (V.ld rfl (Ld.sc sc3 (Rd.cl 1 rfl rfl))) <| jv _ (V.fad Tryd.underlying23 rfl nz3 rfl) <| jv (ii xb.2.1) (V.ld rfl (Ld.sc sc3 (Rd.cl 0 rfl rfl))) <| jv (.bool (decide (xa.2.1 < xb.2.1))) (V.lss rfl rfl) ?_
   refine ja (.bool (decide (xa.2.1 < xb.2.1))) rfl <| J.nil <| CJ.ret ?_
   obtain rfl := si h
   exact ⟨_, _, Res.one rfl rfl, ⟨decide (xa.2.1 < xb.2.1), rfl, rfl, rfl⟩, (Hp.le_refl _), fun w hs => (Sep.dropAt 0 rfl (Sep.dropAt 0 rfl hs))⟩
 refine CJ.skip <| CJ.seq <| cr <| jv _ (V.fad Tryd.underlying23 rfl nz3 rfl) <| jv (ii xa.2.2.1) (V.ld rfl (Ld.sc sc3 (Rd.cl 1 rfl rfl))) <| jv _ (V.fad Tryd.underlying23 rfl nz3 rfl) ?_
 refine jv (ii xb.2.2.1) (V.ld rfl (Ld.sc sc3 (Rd.cl 0 rfl rfl))) <| jv (.bool (!decide (xa.2.2.1 = xb.2.2.1))) (V.neq rfl rfl) <| J.nil <| cc rfl h (fun hc15 h => ?_) fun hc15 h => ?_
 · refine cr <| jv _ (V.fad Tryd.underlying23 rfl nz3 rfl) <| jv (ii xa.2.2.1) (V.ld rfl (Ld.sc sc3 (Rd.cl 1 rfl rfl))) <| jv _ (V.fad Tryd.underlying23 rfl nz3 rfl) <| jv (ii xb.2.2.1) (V.ld rfl (Ld.sc sc3 (Rd.cl 0 rfl rfl))) <| jv (.bool (decide (xa.2.2.1 < xb.2.2.1))) (V.lss rfl rfl) ?_
   refine ja (.bool (decide (xa.2.2.1 < xb.2.2.1))) rfl <| J.nil <| CJ.ret ?_
   obtain rfl := si h
   exact ⟨_, _, Res.one rfl rfl, ⟨decide (xa.2.2.1 < xb.2.2.1), rfl, rfl, rfl⟩, (Hp.le_refl _), fun w hs => (Sep.dropAt 0 rfl (Sep.dropAt 0 rfl hs))⟩
 refine CJ.skip <| CJ.seq <| cr <| jv _ (V.fad Tryd.underlying23 rfl nz3 rfl) <| jv (ii xa.2.2.2.1) (V.ld rfl (Ld.sc sc3 (Rd.cl 1 rfl rfl))) <| jv _ (V.fad Tryd.underlying23 rfl nz3 rfl) ?_
 refine jv (ii xb.2.2.2.1) (V.ld rfl (Ld.sc sc3 (Rd.cl 0 rfl rfl))) <| jv (.bool (!decide (xa.2.2.2.1 = xb.2.2.2.1))) (V.neq rfl rfl) <| J.nil <| cc rfl h (fun hc16 h => ?_) fun hc16 h => ?_
 · refine cr <| jv _ (V.fad Tryd.underlying23 rfl nz3 rfl) <| jv (ii xa.2.2.2.1) (V.ld rfl (Ld.sc sc3 (Rd.cl 1 rfl rfl))) <| jv _ (V.fad Tryd.underlying23 rfl nz3 rfl) <| jv (ii xb.2.2.2.1) (V.ld rfl (Ld.sc sc3 (Rd.cl 0 rfl rfl))) <| jv (.bool (decide (xa.2.2.2.1 < xb.2.2.2.1))) (V.lss rfl rfl) ?_
   refine ja (.bool (decide (xa.2.2.2.1 < xb.2.2.2.1))) rfl <| J.nil <| CJ.ret ?_
   obtain rfl := si h
   exact ⟨_, _, Res.one rfl rfl, ⟨decide (xa.2.2.2.1 < xb.2.2.2.1), rfl, rfl, rfl⟩, (Hp.le_refl _), fun w hs => (Sep.dropAt 0 rfl (Sep.dropAt 0 rfl hs))⟩
 refine CJ.skip <| cr <| jv _ (V.fad Tryd.underlying23 rfl nz4 rfl) <| jv (.bool xa.2.2.2.2) (V.ld rfl (Ld.sc sc4 (Rd.cl 1 rfl rfl))) <| jv (.bool (!xa.2.2.2.2)) (V.not rfl) <| jm (.bool (!xa.2.2.2.2)) rfl ?_
 refine J.cut 3 <| jmeet [(51, .bool ((!xa.2.2.2.2) && xb.2.2.2.2))] ?_ ?_
 · rcases bt (!xa.2.2.2.2) with hc19 | hc19
   · refine J.run rfl rfl rfl hc19 <| jv _ (V.fad Tryd.underlying23 rfl nz4 rfl) <| J.run rfl rfl rfl hc19 <| jv (.bool xb.2.2.2.2) (V.ld rfl (Ld.sc sc4 (Rd.cl 0 rfl rfl))) <| jv (.bool xb.2.2.2.2) (V.pickT rfl hc19 rfl) <| J.nil ?_
     exact ⟨rfl, ⟨(by simp only [hc19]; rfl), trivial⟩, rfl, rfl⟩
   refine J.skip rfl rfl rfl rfl hc19 <| J.skip rfl rfl rfl rfl hc19 <| jv (.bool false) (V.pickF rfl hc19 rfl) <| J.nil ?_
   exact ⟨rfl, ⟨(by simp only [hc19]; rfl), trivial⟩, rfl, rfl⟩
 intro ρ
 refine ja (.bool ((!xa.2.2.2.2) && xb.2.2.2.2)) rfl <| J.nil <| CJ.ret ?_
 obtain rfl := si h
 exact ⟨_, _, Res.one rfl rfl, ⟨(!xa.2.2.2.2) && xb.2.2.2.2, rfl, rfl, rfl⟩, (Hp.le_refl _), fun w hs => (Sep.dropAt 0 rfl (Sep.dropAt 0 rfl hs))⟩

noncomputable def fn_law26_ProvOrder (xa : (Int × Int × Int × Int × Bool)) (xb : (Int × Int × Int × Int × Bool)) (xc : (Int × Int × Int × Int × Bool)) : Option Bool :=
  (fn_prov_Compare (xa.1, xa.2.1, xa.2.2.1, xa.2.2.2.1, xa.2.2.2.2) (xb.1, xb.2.1, xb.2.2.1, xb.2.2.2.1, xb.2.2.2.2)).bind fun i128 => (fn_prov_Compare (xb.1, xb.2.1, xb.2.2.1, xb.2.2.2.1, xb.2.2.2.2) (xc.1, xc.2.1, xc.2.2.1, xc.2.2.2.1, xc.2.2.2.2)).bind fun i134 => (fn_prov_Compare (xa.1, xa.2.1, xa.2.2.1, xa.2.2.2.1, xa.2.2.2.2) (xc.1, xc.2.1, xc.2.2.1, xc.2.2.2.1, xc.2.2.2.2)).bind fun i140 => (fn_ref26_Ahead (xa.1, xa.2.1, xa.2.2.1, xa.2.2.2.1, xa.2.2.2.2) (xb.1, xb.2.1, xb.2.2.1, xb.2.2.2.1, xb.2.2.2.2)).bind fun t146 => (cond (!((decide (i128 < 0)) == t146)) (some (true)) ((fn_ref26_Ahead (xb.1, xb.2.1, xb.2.2.1, xb.2.2.2.1, xb.2.2.2.2) (xa.1, xa.2.1, xa.2.2.1, xa.2.2.2.1, xa.2.2.2.2)).bind fun t162 => some (!((decide (0 < i128)) == t162)))).bind fun t157 => cond (t157 || (!((decide (i128 = 0)) == ((decide (xa.1 = xb.1)) && ((decide (xa.2.1 = xb.2.1)) && ((decide (xa.2.2.1 = xb.2.2.1)) && ((decide (xa.2.2.2.1 = xb.2.2.2.1)) && (xa.2.2.2.2 == xb.2.2.2.2)))))))) (some (false)) ((cond (((decide (0 ≤ i128)) || (decide (0 ≤ i134))) || (decide (i140 < 0))) ((fn_prov_Compare (xb.1, xb.2.1, xb.2.2.1, xb.2.2.2.1, xb.2.2.2.2) (xa.1, xa.2.1, xa.2.2.1, xa.2.2.2.1, xa.2.2.2.2)).bind fun i188 => some ((decide (i188 < 0)) == (decide (0 < i128)))) (some (false))).bind fun t183 => (cond (t183) ((fn_law26_awake).bind fun t204 => some (t204)) (some (false))).bind fun t199 => some (t199))
set_option maxRecDepth 100000 in
set_option maxHeartbeats 4000000 in
theorem law26_ProvOrder_ok {K : Hp} {xa : (Int × Int × Int × Int × Bool)} {xb : (Int × Int × Int × Int × Bool)} {xc : (Int × Int × Int × Int × Bool)}  (fG : Gk K) {r : Bool} (h : fn_law26_ProvOrder xa xb xc = some r) :
    Tr Tryd.prog 5 #[.agg #[ii xa.1, ii xa.2.1, ii xa.2.2.1, ii xa.2.2.2.1, .bool xa.2.2.2.2], .agg #[ii xb.1, ii xb.2.1, ii xb.2.2.1, ii xb.2.2.2.1, .bool xb.2.2.2.2], .agg #[ii xc.1, ii xc.2.1, ii xc.2.2.1, ii xc.2.2.2.1, .bool xc.2.2.2.2]] K [] (fun v K' L' => (∃ (t104 : Bool), t104 = r ∧ .bool t104 = v ∧ L' = []) ∧ K = K') := by
 refine Tr.k <| Tr.of Tryd.func5 rfl Tryd.ntmps5 rfl fun E F => ?_
 unfold fn_law26_ProvOrder at h
 refine cr <| jbx [ii xa.1, ii xa.2.1, ii xa.2.2.1, ii xa.2.2.2.1, .bool xa.2.2.2.2] rfl rfl fun b105 => jbx [ii xb.1, ii xb.2.1, ii xb.2.2.1, ii xb.2.2.2.1, .bool xb.2.2.2.2] rfl rfl fun b106 => jbx [ii xc.1, ii xc.2.1, ii xc.2.2.1, ii xc.2.2.2.1, .bool xc.2.2.2.2] rfl rfl fun b107 => ja (.bool false) rfl <| J.nil ?_
 refine CJ.seq <| CJ.mix [Cl b107 23 [ii xc.1, ii xc.2.1, ii xc.2.2.1, ii xc.2.2.2.1, .bool xc.2.2.2.2], Cl b106 23 [ii xb.1, ii xb.2.1, ii xb.2.2.1, ii xb.2.2.2.1, .bool xb.2.2.2.2], Cl b105 23 [ii xa.1, ii xa.2.1, ii xa.2.2.1, ii xa.2.2.2.1, .bool xa.2.2.2.2]] [([0, 1, 3, 4, 6, 7], 2), ([], 5), ([], 8)] [9, 10, 11] [] mixO (by decide +kernel) ⟨0, rfl, 0, rfl, 0, rfl, trivial⟩ rfl rfl rfl <| JM.cons <| qv (.agg #[ii xa.1, ii xa.2.1, ii xa.2.2.1, ii xa.2.2.2.1, .bool xa.2.2.2.2]) (V.ld rfl (Ld.agg (cs := [ii xa.1, ii xa.2.1, ii xa.2.2.1, ii xa.2.2.2.1, .bool xa.2.2.2.2]) Tryd.underlying23 sz23 rfl (Rd.cls 2 0 rfl rfl))) <| qv (.agg #[ii xb.1, ii xb.2.1, ii xb.2.2.1, ii xb.2.2.2.1, .bool xb.2.2.2.2]) (V.ld rfl (Ld.agg (cs := [ii xb.1, ii xb.2.1, ii xb.2.2.1, ii xb.2.2.2.1, .bool xb.2.2.2.2]) Tryd.underlying23 sz23 rfl (Rd.cls 1 0 rfl rfl))) <| qv (.agg #[ii xb.1, ii xb.2.1, ii xb.2.2.1, ii xb.2.2.2.1, .bool xb.2.2.2.2]) (V.ld rfl (Ld.agg (cs := [ii xb.1, ii xb.2.1, ii xb.2.2.1, ii xb.2.2.2.1, .bool xb.2.2.2.2]) Tryd.underlying23 sz23 rfl (Rd.cls 1 0 rfl rfl))) <| qv (.agg #[ii xc.1, ii xc.2.1, ii xc.2.2.1, ii xc.2.2.2.1, .bool xc.2.2.2.2]) (V.ld rfl (Ld.agg (cs := [ii xc.1, ii xc.2.1, ii xc.2.2.1, ii xc.2.2.2.1, .bool xc.2.2.2.2]) Tryd.underlying23 sz23 rfl (Rd.cls 0 0 rfl rfl))) ?_
 refine qv (.agg #[ii xa.1, ii xa.2.1, ii xa.2.2.1, ii xa.2.2.2.1, .bool xa.2.2.2.2]) (V.ld rfl (Ld.agg (cs := [ii xa.1, ii xa.2.1, ii xa.2.2.1, ii xa.2.2.2.1, .bool xa.2.2.2.2]) Tryd.underlying23 sz23 rfl (Rd.cls 2 0 rfl rfl))) <| qv (.agg #[ii xc.1, ii xc.2.1, ii xc.2.2.1, ii xc.2.2.2.1, .bool xc.2.2.2.2]) (V.ld rfl (Ld.agg (cs := [ii xc.1, ii xc.2.1, ii xc.2.2.1, ii xc.2.2.2.1, .bool xc.2.2.2.2]) Tryd.underlying23 sz23 rfl (Rd.cls 0 0 rfl rfl))) <| JQ.nil ?_
 obtain ⟨r126, hr127, h⟩ := ob h
 refine JA.op rfl (A.call (L1 := []) Tryd.call19 rfl (prov_Compare_ok hr127) rfl rfl) ?_
 rintro _ _ _ ⟨v129, _, rfl, ⟨⟨i128, rfl, rfl, rfl⟩, rfl⟩, _, rfl⟩
 refine ⟨fun w hs => Hold.sub (Hp.le_refl _) ⟨0, rfl, 0, rfl, 0, rfl, trivial⟩ hs, ?_⟩
 refine JM.cons <| JQ.nil ?_
 obtain ⟨r132, hr133, h⟩ := ob h
 refine JA.op rfl (A.call (L1 := []) Tryd.call19 rfl (prov_Compare_ok hr133) rfl rfl) ?_
 rintro _ _ _ ⟨v135, _, rfl, ⟨⟨i134, rfl, rfl, rfl⟩, rfl⟩, _, rfl⟩
 refine ⟨fun w hs => Hold.sub (Hp.le_refl _) ⟨0, rfl, 0, rfl, 0, rfl, trivial⟩ hs, ?_⟩
 refine JM.cons <| JQ.nil ?_
 obtain ⟨r138, hr139, h⟩ := ob h
 refine JA.op rfl (A.call (L1 := []) Tryd.call19 rfl (prov_Compare_ok hr139) rfl rfl) ?_
 rintro _ _ _ ⟨v141, _, rfl, ⟨⟨i140, rfl, rfl, rfl⟩, rfl⟩, _, rfl⟩
 refine ⟨fun w hs => Hold.sub (Hp.le_refl _) ⟨0, rfl, 0, rfl, 0, rfl, trivial⟩ hs, ?_⟩
 refine JM.nil <| qa (ii i128) rfl <| qa (ii i134) rfl <| qa (ii i140) rfl <| JQ.nil <| J.nil <| CJ.seq ?_
 refine cr <| jm (ii i128) rfl <| jv (.bool (decide (i128 < 0))) (V.lss rfl rfl) <| jv (.agg #[ii xa.1, ii xa.2.1, ii xa.2.2.1, ii xa.2.2.2.1, .bool xa.2.2.2.2]) (V.ld rfl (Ld.agg (cs := [ii xa.1, ii xa.2.1, ii xa.2.2.1, ii xa.2.2.2.1, .bool xa.2.2.2.2]) Tryd.underlying23 sz23 rfl (Rd.cls 2 0 rfl rfl))) <| jv (.agg #[ii xb.1, ii xb.2.1, ii xb.2.2.1, ii xb.2.2.2.1, .bool xb.2.2.2.2]) (V.ld rfl (Ld.agg (cs := [ii xb.1, ii xb.2.1, ii xb.2.2.1, ii xb.2.2.2.1, .bool xb.2.2.2.2]) Tryd.underlying23 sz23 rfl (Rd.cls 1 0 rfl rfl))) ?_
 obtain ⟨r144, hr145, h⟩ := ob h
 refine J.op rfl (A.call (L1 := []) Tryd.call20 rfl (ref26_Ahead_ok hr145) rfl rfl) ?_
 rintro _ _ _ ⟨v147, _, rfl, ⟨⟨t146, rfl, rfl, rfl⟩, rfl⟩, _, rfl⟩
 refine jv (.bool (!((decide (i128 < 0)) == t146))) (V.neb Tryd.underlying4 rfl rfl) <| jm (.bool (!((decide (i128 < 0)) == t146))) rfl <| J.cut 7 ?_
 obtain ⟨t157, ht158, h⟩ := ob h
 refine jmeet [(32, .bool t157), (3, .pointer (some ⟨b105, 0, none⟩)), (4, .pointer (some ⟨b106, 0, none⟩)), (7, ii i128), (8, ii i134), (9, ii i140)] ?_ ?_
 · rcases bt (!((decide (i128 < 0)) == t146)) with hc159 | hc159
   · have ht158 := ct hc159 ht158
     refine J.skip rfl rfl rfl rfl hc159 <| J.skip rfl rfl rfl rfl hc159 <| J.skip rfl rfl rfl rfl hc159 <| J.skip rfl rfl rfl rfl hc159 <| J.skip rfl rfl rfl rfl hc159 <| J.skip rfl rfl rfl rfl hc159 <| jv (.bool true) (V.pickT rfl hc159 rfl) ?_
     refine J.nil ?_
     obtain rfl := si ht158
     exact ⟨rfl, ⟨rfl, rfl, rfl, rfl, rfl, rfl, trivial⟩, rfl, rfl⟩
   have ht158 := cf hc159 ht158
   refine J.run rfl rfl rfl hc159 <| jm (ii i128) rfl <| J.run rfl rfl rfl hc159 <| jv (.bool (decide (0 < i128))) (V.gtr rfl rfl) <| J.run rfl rfl rfl hc159 <| jv (.agg #[ii xb.1, ii xb.2.1, ii xb.2.2.1, ii xb.2.2.2.1, .bool xb.2.2.2.2]) (V.ld rfl (Ld.agg (cs := [ii xb.1, ii xb.2.1, ii xb.2.2.1, ii xb.2.2.2.1, .bool xb.2.2.2.2]) Tryd.underlying23 sz23 rfl (Rd.cls 1 0 rfl rfl))) <| J.run rfl rfl rfl hc159 ?_
   refine jv (.agg #[ii xa.1, ii xa.2.1, ii xa.2.2.1, ii xa.2.2.2.1, .bool xa.2.2.2.2]) (V.ld rfl (Ld.agg (cs := [ii xa.1, ii xa.2.1, ii xa.2.2.1, ii xa.2.2.2.1, .bool xa.2.2.2.2]) Tryd.underlying23 sz23 rfl (Rd.cls 2 0 rfl rfl))) <| J.run rfl rfl rfl hc159 ?_
   obtain ⟨r160, hr161, ht158⟩ := ob ht158
   refine J.op rfl (A.call (L1 := []) Tryd.call20 rfl (ref26_Ahead_ok hr161) rfl rfl) ?_
   rintro _ _ _ ⟨v163, _, rfl, ⟨⟨t162, rfl, rfl, rfl⟩, rfl⟩, _, rfl⟩
   refine J.run rfl rfl rfl hc159 <| jv (.bool (!((decide (0 < i128)) == t162))) (V.neb Tryd.underlying4 rfl rfl) <| jv (.bool (!((decide (0 < i128)) == t162))) (V.pickF rfl hc159 rfl) <| J.nil ?_
   obtain rfl := si ht158
   exact ⟨rfl, ⟨rfl, rfl, rfl, rfl, rfl, rfl, trivial⟩, rfl, rfl⟩
 intro ρ
 refine jm (.bool t157) rfl <| J.cut 7 <| jmeet [(40, .bool (t157 || (!((decide (i128 = 0)) == ((decide (xa.1 = xb.1)) && ((decide (xa.2.1 = xb.2.1)) && ((decide (xa.2.2.1 = xb.2.2.1)) && ((decide (xa.2.2.2.1 = xb.2.2.2.1)) && (xa.2.2.2.2 == xb.2.2.2.2))))))))), (3, .pointer (some ⟨b105, 0, none⟩)), (4, .pointer (some ⟨b106, 0, none⟩)), (7, ii i128), (8, ii i134), (9, ii i140)] ?_ ?_
 · rcases bt (t157) with hc168 | hc168
   · refine J.skip rfl rfl rfl rfl hc168 <| J.skip rfl rfl rfl rfl hc168 <| J.skip rfl rfl rfl rfl hc168 <| J.skip rfl rfl rfl rfl hc168 <| J.skip rfl rfl rfl rfl hc168 <| J.skip rfl rfl rfl rfl hc168 <| jv (.bool true) (V.pickT rfl hc168 rfl) ?_
     refine J.nil ?_
     exact ⟨rfl, ⟨(by simp only [hc168]; rfl), rfl, rfl, rfl, rfl, rfl, trivial⟩, rfl, rfl⟩
   refine J.run rfl rfl rfl hc168 <| jm (ii i128) rfl <| J.run rfl rfl rfl hc168 <| jv (.bool (decide (i128 = 0))) (V.eql rfl rfl) <| J.run rfl rfl rfl hc168 <| jv (.agg #[ii xa.1, ii xa.2.1, ii xa.2.2.1, ii xa.2.2.2.1, .bool xa.2.2.2.2]) (V.ld rfl (Ld.agg (cs := [ii xa.1, ii xa.2.1, ii xa.2.2.1, ii xa.2.2.2.1, .bool xa.2.2.2.2]) Tryd.underlying23 sz23 rfl (Rd.cls 2 0 rfl rfl))) <| J.run rfl rfl rfl hc168 ?_
   refine jv (.agg #[ii xb.1, ii xb.2.1, ii xb.2.2.1, ii xb.2.2.2.1, .bool xb.2.2.2.2]) (V.ld rfl (Ld.agg (cs := [ii xb.1, ii xb.2.1, ii xb.2.2.1, ii xb.2.2.2.1, .bool xb.2.2.2.2]) Tryd.underlying23 sz23 rfl (Rd.cls 1 0 rfl rfl))) <| J.run rfl rfl rfl hc168 <| jv (.bool ((decide (xa.1 = xb.1)) && ((decide (xa.2.1 = xb.2.1)) && ((decide (xa.2.2.1 = xb.2.2.1)) && ((decide (xa.2.2.2.1 = xb.2.2.2.1)) && (xa.2.2.2.2 == xb.2.2.2.2)))))) (V.eqst eqg23 (EqIn.st (d := 9999) rfl Tryd.underlying23 sih23 (EqFs.cons (by decide) (Ld0.sc sc3 rfl) (Ld0.sc sc3 rfl) (EqIn.int (d := 9998) rfl Tryd.underlying3) (EqFs.cons (by decide) (Ld0.sc sc3 rfl) (Ld0.sc sc3 rfl) (EqIn.int (d := 9998) rfl Tryd.underlying3) (EqFs.cons (by decide) (Ld0.sc sc3 rfl) (Ld0.sc sc3 rfl) (EqIn.int (d := 9998) rfl Tryd.underlying3) (EqFs.cons (by decide) (Ld0.sc sc3 rfl) (Ld0.sc sc3 rfl) (EqIn.int (d := 9998) rfl Tryd.underlying3) (EqFs.last (by decide) (Ld0.sc sc4 rfl) (Ld0.sc sc4 rfl) (EqIn.bool (d := 9998) rfl Tryd.underlying4))))))) rfl rfl) <| J.run rfl rfl rfl hc168 <| jv (.bool (!((decide (i128 = 0)) == ((decide (xa.1 = xb.1)) && ((decide (xa.2.1 = xb.2.1)) && ((decide (xa.2.2.1 = xb.2.2.1)) && ((decide (xa.2.2.2.1 = xb.2.2.2.1)) && (xa.2.2.2.2 == xb.2.2.2.2)))))))) (V.neb Tryd.underlying4 rfl rfl) <| jv (.bool (!((decide (i128 = 0)) == ((decide (xa.1 = xb.1)) && ((decide (xa.2.1 = xb.2.1)) && ((decide (xa.2.2.1 = xb.2.2.1)) && ((decide (xa.2.2.2.1 = xb.2.2.2.1)) && (xa.2.2.2.2 == xb.2.2.2.2)))))))) (V.pickF rfl hc168 rfl) <| J.nil ?_
   exact ⟨rfl, ⟨(by simp only [hc168]; rfl), rfl, rfl, rfl, rfl, rfl, trivial⟩, rfl, rfl⟩
 intro ρ
 refine J.nil <| cc rfl h (fun hc169 h => ?_) fun hc169 h => ?_
 · refine cr <| ja (.bool false) rfl <| J.nil <| CJ.ret ?_
   obtain rfl := si h
   exact ⟨_, _, Res.one rfl rfl, ⟨false, rfl, rfl, rfl⟩, (Hp.le_refl _), fun w hs => (Sep.dropAt 0 rfl (Sep.dropAt 0 rfl (Sep.dropAt 0 rfl hs)))⟩
 refine CJ.skip <| cr <| jm (ii i128) rfl <| jv (.bool (decide (0 ≤ i128))) (V.geq rfl rfl) <| jm (.bool (decide (0 ≤ i128))) rfl <| J.cut 3 ?_
 refine jmeet [(46, .bool ((decide (0 ≤ i128)) || (decide (0 ≤ i134)))), (3, .pointer (some ⟨b105, 0, none⟩)), (4, .pointer (some ⟨b106, 0, none⟩)), (7, ii i128), (9, ii i140)] ?_ ?_
 · rcases bt (decide (0 ≤ i128)) with hc172 | hc172
   · refine J.skip rfl rfl rfl rfl hc172 <| J.skip rfl rfl rfl rfl hc172 <| jv (.bool true) (V.pickT rfl hc172 rfl) <| J.nil ?_
     exact ⟨rfl, ⟨(by simp only [hc172]; rfl), rfl, rfl, rfl, rfl, trivial⟩, rfl, rfl⟩
   refine J.run rfl rfl rfl hc172 <| jm (ii i134) rfl <| J.run rfl rfl rfl hc172 <| jv (.bool (decide (0 ≤ i134))) (V.geq rfl rfl) <| jv (.bool (decide (0 ≤ i134))) (V.pickF rfl hc172 rfl) <| J.nil ?_
   exact ⟨rfl, ⟨(by simp only [hc172]; rfl), rfl, rfl, rfl, rfl, trivial⟩, rfl, rfl⟩
 intro ρ
 refine jm (.bool ((decide (0 ≤ i128)) || (decide (0 ≤ i134)))) rfl <| J.cut 3 <| jmeet [(50, .bool (((decide (0 ≤ i128)) || (decide (0 ≤ i134))) || (decide (i140 < 0)))), (3, .pointer (some ⟨b105, 0, none⟩)), (4, .pointer (some ⟨b106, 0, none⟩)), (7, ii i128)] ?_ ?_
 · rcases bt ((decide (0 ≤ i128)) || (decide (0 ≤ i134))) with hc175 | hc175
   · refine J.skip rfl rfl rfl rfl hc175 <| J.skip rfl rfl rfl rfl hc175 <| jv (.bool true) (V.pickT rfl hc175 rfl) <| J.nil ?_
     exact ⟨rfl, ⟨(by simp only [hc175]; rfl), rfl, rfl, rfl, trivial⟩, rfl, rfl⟩
   refine J.run rfl rfl rfl hc175 <| jm (ii i140) rfl <| J.run rfl rfl rfl hc175 <| jv (.bool (decide (i140 < 0))) (V.lss rfl rfl) <| jv (.bool (decide (i140 < 0))) (V.pickF rfl hc175 rfl) <| J.nil ?_
   exact ⟨rfl, ⟨(by simp only [hc175]; rfl), rfl, rfl, rfl, trivial⟩, rfl, rfl⟩
 intro ρ
 refine jm (.bool (((decide (0 ≤ i128)) || (decide (0 ≤ i134))) || (decide (i140 < 0)))) rfl <| J.cut 8 ?_
 obtain ⟨t183, ht184, h⟩ := ob h
 refine jmeet [(59, .bool t183)] ?_ ?_
 · rcases bt (((decide (0 ≤ i128)) || (decide (0 ≤ i134))) || (decide (i140 < 0))) with hc185 | hc185
   · have ht184 := ct hc185 ht184
     refine J.run rfl rfl rfl hc185 <| jv (.agg #[ii xb.1, ii xb.2.1, ii xb.2.2.1, ii xb.2.2.2.1, .bool xb.2.2.2.2]) (V.ld rfl (Ld.agg (cs := [ii xb.1, ii xb.2.1, ii xb.2.2.1, ii xb.2.2.2.1, .bool xb.2.2.2.2]) Tryd.underlying23 sz23 rfl (Rd.cls 1 0 rfl rfl))) <| J.run rfl rfl rfl hc185 <| jv (.agg #[ii xa.1, ii xa.2.1, ii xa.2.2.1, ii xa.2.2.2.1, .bool xa.2.2.2.2]) (V.ld rfl (Ld.agg (cs := [ii xa.1, ii xa.2.1, ii xa.2.2.1, ii xa.2.2.2.1, .bool xa.2.2.2.2]) Tryd.underlying23 sz23 rfl (Rd.cls 2 0 rfl rfl))) <| J.run rfl rfl rfl hc185 ?_
     obtain ⟨r186, hr187, ht184⟩ := ob ht184
     refine J.op rfl (A.call (L1 := []) Tryd.call19 rfl (prov_Compare_ok hr187) rfl rfl) ?_
     rintro _ _ _ ⟨v189, _, rfl, ⟨⟨i188, rfl, rfl, rfl⟩, rfl⟩, _, rfl⟩
     refine J.run rfl rfl rfl hc185 <| jv (.bool (decide (i188 < 0))) (V.lss rfl rfl) <| J.run rfl rfl rfl hc185 <| jm (ii i128) rfl <| J.run rfl rfl rfl hc185 <| jv (.bool (decide (0 < i128))) (V.gtr rfl rfl) <| J.run rfl rfl rfl hc185 ?_
     refine jv (.bool ((decide (i188 < 0)) == (decide (0 < i128)))) (V.eqb Tryd.underlying4 rfl rfl) <| jv (.bool ((decide (i188 < 0)) == (decide (0 < i128)))) (V.pickT rfl hc185 rfl) <| J.nil ?_
     obtain rfl := si ht184
     exact ⟨rfl, ⟨rfl, trivial⟩, rfl, rfl⟩
   have ht184 := cf hc185 ht184
   refine J.skip rfl rfl rfl rfl hc185 <| J.skip rfl rfl rfl rfl hc185 <| J.skip rfl rfl rfl rfl hc185 <| J.skip rfl rfl rfl rfl hc185 <| J.skip rfl rfl rfl rfl hc185 <| J.skip rfl rfl rfl rfl hc185 <| J.skip rfl rfl rfl rfl hc185 ?_
   refine jv (.bool false) (V.pickF rfl hc185 rfl) <| J.nil ?_
   obtain rfl := si ht184
   exact ⟨rfl, ⟨rfl, trivial⟩, rfl, rfl⟩
 intro ρ
 refine jm (.bool t183) rfl <| J.cut 2 ?_
 obtain ⟨t199, ht200, h⟩ := ob h
 refine jmeet [(62, .bool t199)] ?_ ?_
 · rcases bt (t183) with hc201 | hc201
   · have ht200 := ct hc201 ht200
     refine J.run rfl rfl rfl hc201 ?_
     obtain ⟨r202, hr203, ht200⟩ := ob ht200
     refine J.op rfl (A.call (L1 := []) Tryd.call6 rfl (law26_awake_ok fG hr203) rfl rfl) ?_
     rintro _ _ _ ⟨v205, _, rfl, ⟨⟨t204, rfl, rfl, rfl⟩, rfl⟩, _, rfl⟩
     refine jv (.bool t204) (V.pickT rfl hc201 rfl) <| J.nil ?_
     obtain rfl := si ht200
     exact ⟨rfl, ⟨rfl, trivial⟩, rfl, rfl⟩
   have ht200 := cf hc201 ht200
   refine J.skip rfl rfl rfl rfl hc201 <| jv (.bool false) (V.pickF rfl hc201 rfl) <| J.nil ?_
   obtain rfl := si ht200
   exact ⟨rfl, ⟨rfl, trivial⟩, rfl, rfl⟩
 intro ρ
 refine ja (.bool t199) rfl <| J.nil <| CJ.ret ?_
 obtain rfl := si h
 exact ⟨_, _, Res.one rfl rfl, ⟨t199, rfl, rfl, rfl⟩, (Hp.le_refl _), fun w hs => (Sep.dropAt 0 rfl (Sep.dropAt 0 rfl (Sep.dropAt 0 rfl hs)))⟩
end Go.Proofs.YtaokbmfhobbmaaaDoor
