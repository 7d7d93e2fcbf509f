/- What Go functions answer: generated. -/
import Derived.Test.YtelekeapfgfknaaF1
namespace Go.Proofs.Ytelekeapfgfknaa
open Go.RowKit
set_option linter.unusedVariables false
set_option linter.unnecessarySimpa false
set_option linter.unusedSimpArgs false
set_option maxRecDepth 20000

noncomputable def fn_stmt_Needs (xa : (Int × Int × Int × Int × Bool)) (xb : (List (List (Int × Bool)))) (xc : Int) : Option (((List (Int × Int × Int × Int × Bool)) × Int)) :=
  (fn_stmt_form (xa.1, xa.2.1, xa.2.2.1, xa.2.2.2.1, xa.2.2.2.2)).bind fun (t324, t325, t326, i327) => cond (!decide (i327 = 0)) (some (([], i327))) ((cond (t324) ((fn_stmt_Needs_1_ip0_k xa.2.1 xb).bind fun t346 => some (!t346)) (some (false))).bind fun t341 => (cond (t341) (some (true)) ((cond (t325) ((fn_stmt_Needs_1_ip0_k xa.2.2.1 xb).bind fun t382 => some (!t382)) (some (false))).bind fun t377 => some (t377))).bind fun t367 => cond (t367 || (t326 && ((decide (xa.2.2.2.1 < 0)) || (decide (xc ≤ xa.2.2.2.1))))) (some (([], 7))) (cond (decide (xa.1 = 1)) ((getI xb xa.2.2.1).bind fun x447 => (getI xb xa.2.1).bind fun x460 => (fn_relate_Flow x447 x460 1 0).bind fun (l475, i476) => some ((l475, i476))) (cond (decide (xa.1 = 2)) ((getI xb xa.2.2.1).bind fun x522 => (getI xb xa.2.1).bind fun x535 => (fn_relate_Loan x522 x535 xa.2.2.2.1 xa.2.2.2.2).bind fun (l550, i551) => some ((l550, i551))) (cond (decide (xa.1 = 3)) ((getI xb xa.2.2.1).bind fun x597 => (getI xb xa.2.1).bind fun x610 => (fn_relate_Again x597 x610 xa.2.2.2.1 xa.2.2.2.2).bind fun (l625, i626) => some ((l625, i626))) (some (([], 0)))))))
set_option maxRecDepth 100000 in
set_option maxHeartbeats 4000000 in
theorem stmt_Needs_ok {K : Hp} {xa : (Int × Int × Int × Int × Bool)} {xb : (List (List (Int × Bool)))} {xc : Int} {adxb_0 : Option Addr} {cpxb_0 : Nat} (fxb_0 : Is K (.sl (.one (.sl (.cons (.int .i64) (.one .bool))))) [.slice adxb_0 xb.length cpxb_0] xb) {r : ((List (Int × Int × Int × Int × Bool)) × Int)} (h : fn_stmt_Needs xa xb xc = some r) :
    Tr Try.prog 38 #[.agg #[ii xa.1, ii xa.2.1, ii xa.2.2.1, ii xa.2.2.2.1, .bool xa.2.2.2.2], .slice adxb_0 xb.length cpxb_0, ii xc] K [] (fun v K' L' => (∃ (l314 : (List (Int × Int × Int × Int × Bool))) (i319 : Int) (ad315 : Option Addr) (cp316 : Nat), (l314, i319) = r ∧ .tuple #[.slice ad315 l314.length cp316, ii i319] = v ∧ L' = [Row Hp.nil 93 (.cons (.int .i64) (.cons (.int .i64) (.cons (.int .i64) (.cons (.int .i64) (.one .bool))))) (.slice ad315 l314.length cp316) l314]) ∧ K = K') := by
 refine Tr.k <| Tr.of Try.func38 rfl Try.ntmps38 rfl fun E F => ?_
 unfold fn_stmt_Needs at h
 refine cr <| jbx [ii xa.1, ii xa.2.1, ii xa.2.2.1, ii xa.2.2.2.1, .bool xa.2.2.2.2] rfl rfl fun b320 => jbx [.slice adxb_0 xb.length cpxb_0] rfl rfl fun b321 => ja (nos) rfl <| ja (ii 0) rfl <| J.nil ?_
 refine cr <| jv (.agg #[ii xa.1, ii xa.2.1, ii xa.2.2.1, ii xa.2.2.2.1, .bool xa.2.2.2.2]) (V.ld rfl (Ld.agg (cs := [ii xa.1, ii xa.2.1, ii xa.2.2.1, ii xa.2.2.2.1, .bool xa.2.2.2.2]) Try.underlying52 sz52 rfl (Rd.cls 1 0 rfl rfl))) ?_
 obtain ⟨r322, hr323, h⟩ := ob h
 refine J.op rfl (A.call (L1 := []) Try.call51 rfl (stmt_form_ok hr323) rfl rfl) ?_
 rintro _ _ _ ⟨v328, _, rfl, ⟨⟨t324, t325, t326, i327, rfl, rfl, rfl⟩, rfl⟩, _, rfl⟩
 refine jm (.tuple #[.agg #[.bool t324, .bool t325, .bool t326], ii i327]) rfl <| jx (.agg #[.bool t324, .bool t325, .bool t326]) rfl rfl <| jx (ii i327) rfl rfl <| jal inf126 [.bool false, .bool false, .bool false] rfl fun b331 => js [.bool t324, .bool t325, .bool t326] sz126 rfl rfl rfl rfl rfl rfl <| ja (ii i327) rfl <| J.nil ?_
 refine CJ.seq <| cr <| jm (ii i327) rfl <| jv (.bool (!decide (i327 = 0))) (V.neq rfl rfl) <| J.nil <| cc rfl h (fun hc332 h => ?_) fun hc332 h => ?_
 · refine cr <| jm (ii i327) rfl <| ja (nos) rfl <| ja (ii i327) rfl <| J.nil <| CJ.by (fun w hs => Sep.rowNil (e := 93) (t := (.cons (.int .i64) (.cons (.int .i64) (.cons (.int .i64) (.cons (.int .i64) (.one .bool)))))) hs) ?_
   refine CJ.ret ?_
   obtain rfl := si h
   exact ⟨_, _, Res.two rfl rfl rfl, ⟨[], i327, none, 0, rfl, rfl, rfl⟩, (Hp.le_refl _), fun w hs => (Sep.dropAt 1 rfl (Sep.dropAt 1 rfl (Sep.dropAt 1 rfl hs)))⟩
 refine CJ.skip <| cr <| jv (.func (.func 52) #[] #[.pointer (some ⟨b321, 0, none⟩)]) (V.mkf rfl) <| ja (.func (.func 52) #[] #[.pointer (some ⟨b321, 0, none⟩)]) rfl <| J.nil <| CJ.seq ?_
 refine cr <| jv _ (V.fad Try.underlying126 rfl nz4 rfl) <| jv (.bool t324) (V.ld rfl (Ld.sc sc4 (Rd.cl 0 rfl rfl))) <| jm (.bool t324) rfl <| J.cut 6 ?_
 obtain ⟨t341, ht342, h⟩ := ob h
 refine jmeet [(28, .bool t341), (2, ii xc), (3, .pointer (some ⟨b320, 0, none⟩)), (4, .pointer (some ⟨b321, 0, none⟩)), (8, .pointer (some ⟨b331, 0, none⟩)), (10, .func (.func 52) #[] #[.pointer (some ⟨b321, 0, none⟩)])] ?_ ?_
 · rcases bt (t324) with hc343 | hc343
   · have ht342 := ct hc343 ht342
     refine J.run rfl rfl rfl hc343 <| jm (.func (.func 52) #[] #[.pointer (some ⟨b321, 0, none⟩)]) rfl <| J.run rfl rfl rfl hc343 <| jv _ (V.fad Try.underlying52 rfl nz3 rfl) <| J.run rfl rfl rfl hc343 <| jv (ii xa.2.1) (V.ld rfl (Ld.sc sc3 (Rd.cl 2 rfl rfl))) <| J.run rfl rfl rfl hc343 ?_
     obtain ⟨r344, hr345, ht342⟩ := ob ht342
     refine J.front 1 rfl <| J.op rfl (A.call (L1 := [Cl b321 27 [.slice adxb_0 xb.length cpxb_0]]) Try.call52 rfl (stmt_Needs_1_ip0_k_ok fxb_0 hr345) rfl rfl) ?_
     rintro _ _ _ ⟨v347, _, rfl, ⟨⟨t346, rfl, rfl, rfl⟩, rfl⟩, _, rfl⟩
     refine J.run rfl rfl rfl hc343 <| jv (.bool (!t346)) (V.not rfl) <| jv (.bool (!t346)) (V.pickT rfl hc343 rfl) <| J.front 2 rfl <| J.front 1 rfl <| J.front 2 rfl <| J.nil ?_
     obtain rfl := si ht342
     exact ⟨rfl, ⟨rfl, rfl, rfl, rfl, rfl, rfl, trivial⟩, rfl, rfl⟩
   have ht342 := cf hc343 ht342
   refine J.skip rfl rfl rfl rfl hc343 <| J.skip rfl rfl rfl rfl hc343 <| J.skip rfl rfl rfl rfl hc343 <| J.skip rfl rfl rfl rfl hc343 <| J.skip rfl rfl rfl rfl hc343 <| jv (.bool false) (V.pickF rfl hc343 rfl) <| J.nil ?_
   obtain rfl := si ht342
   exact ⟨rfl, ⟨rfl, rfl, rfl, rfl, rfl, rfl, trivial⟩, rfl, rfl⟩
 intro ρ
 refine jm (.bool t341) rfl <| J.cut 10 ?_
 obtain ⟨t367, ht368, h⟩ := ob h
 refine jmeet [(39, .bool t367), (2, ii xc), (3, .pointer (some ⟨b320, 0, none⟩)), (4, .pointer (some ⟨b321, 0, none⟩)), (8, .pointer (some ⟨b331, 0, none⟩))] ?_ ?_
 · rcases bt (t341) with hc369 | hc369
   · have ht368 := ct hc369 ht368
     refine J.skip rfl rfl rfl rfl hc369 <| J.skip rfl rfl rfl rfl hc369 <| J.skip rfl rfl rfl rfl hc369 <| J.skipu rfl rfl rfl rfl <| J.skipu rfl rfl rfl rfl <| J.skipu rfl rfl rfl rfl <| J.skipu rfl rfl rfl rfl ?_
     refine J.skipu rfl rfl rfl rfl <| J.skip rfl rfl rfl rfl hc369 <| jv (.bool true) (V.pickT rfl hc369 rfl) <| J.nil ?_
     obtain rfl := si ht368
     exact ⟨rfl, ⟨rfl, rfl, rfl, rfl, rfl, trivial⟩, rfl, rfl⟩
   have ht368 := cf hc369 ht368
   refine J.run rfl rfl rfl hc369 <| jv _ (V.fad Try.underlying126 rfl nz4 rfl) <| J.run rfl rfl rfl hc369 <| jv (.bool t325) (V.ld rfl (Ld.sc sc4 (Rd.cl 0 rfl rfl))) <| J.run rfl rfl rfl hc369 <| jm (.bool t325) rfl <| J.cut 6 ?_
   obtain ⟨t377, ht378, ht368⟩ := ob ht368
   refine jmeet [(38, .bool t377), (2, ii xc), (3, .pointer (some ⟨b320, 0, none⟩)), (4, .pointer (some ⟨b321, 0, none⟩)), (8, .pointer (some ⟨b331, 0, none⟩)), (29, .bool t341)] ?_ ?_
   · rcases bt (t325) with hc379 | hc379
     · have ht378 := ct hc379 ht378
       refine J.run rfl rfl rfl hc379 <| jm (.func (.func 52) #[] #[.pointer (some ⟨b321, 0, none⟩)]) rfl <| J.run rfl rfl rfl hc379 <| jv _ (V.fad Try.underlying52 rfl nz3 rfl) <| J.run rfl rfl rfl hc379 <| jv (ii xa.2.2.1) (V.ld rfl (Ld.sc sc3 (Rd.cl 2 rfl rfl))) <| J.run rfl rfl rfl hc379 ?_
       obtain ⟨r380, hr381, ht378⟩ := ob ht378
       refine J.front 1 rfl <| J.op rfl (A.call (L1 := [Cl b321 27 [.slice adxb_0 xb.length cpxb_0]]) Try.call52 rfl (stmt_Needs_1_ip0_k_ok fxb_0 hr381) rfl rfl) ?_
       rintro _ _ _ ⟨v383, _, rfl, ⟨⟨t382, rfl, rfl, rfl⟩, rfl⟩, _, rfl⟩
       refine J.run rfl rfl rfl hc379 <| jv (.bool (!t382)) (V.not rfl) <| J.run rfl rfl rfl hc369 <| jv (.bool (!t382)) (V.pickT rfl hc379 rfl) <| J.front 2 rfl <| J.front 1 rfl <| J.front 2 rfl ?_
       refine J.nil ?_
       obtain rfl := si ht378
       exact ⟨rfl, ⟨rfl, rfl, rfl, rfl, rfl, rfl, trivial⟩, rfl, rfl⟩
     have ht378 := cf hc379 ht378
     refine J.skip rfl rfl rfl rfl hc379 <| J.skip rfl rfl rfl rfl hc379 <| J.skip rfl rfl rfl rfl hc379 <| J.skip rfl rfl rfl rfl hc379 <| J.skip rfl rfl rfl rfl hc379 <| J.run rfl rfl rfl hc369 <| jv (.bool false) (V.pickF rfl hc379 rfl) ?_
     refine J.nil ?_
     obtain rfl := si ht378
     exact ⟨rfl, ⟨rfl, rfl, rfl, rfl, rfl, rfl, trivial⟩, rfl, rfl⟩
   intro ρ
   refine jv (.bool t377) (V.pickF rfl hc369 rfl) <| J.nil ?_
   obtain rfl := si ht368
   exact ⟨rfl, ⟨rfl, rfl, rfl, rfl, rfl, trivial⟩, rfl, rfl⟩
 intro ρ
 refine jm (.bool t367) rfl <| J.cut 14 <| jmeet [(54, .bool (t367 || (t326 && ((decide (xa.2.2.2.1 < 0)) || (decide (xc ≤ xa.2.2.2.1)))))), (3, .pointer (some ⟨b320, 0, none⟩)), (4, .pointer (some ⟨b321, 0, none⟩))] ?_ ?_
 · rcases bt (t367) with hc397 | hc397
   · refine J.skip rfl rfl rfl rfl hc397 <| J.skip rfl rfl rfl rfl hc397 <| J.skip rfl rfl rfl rfl hc397 <| J.skipu rfl rfl rfl rfl <| J.skipu rfl rfl rfl rfl <| J.skipu rfl rfl rfl rfl <| J.skipu rfl rfl rfl rfl ?_
     refine J.skipu rfl rfl rfl rfl <| J.skipu rfl rfl rfl rfl <| J.skipu rfl rfl rfl rfl <| J.skipu rfl rfl rfl rfl <| J.skipu rfl rfl rfl rfl <| J.skip rfl rfl rfl rfl hc397 <| jv (.bool true) (V.pickT rfl hc397 rfl) ?_
     refine J.nil ?_
     exact ⟨rfl, ⟨(by simp only [hc397]; rfl), rfl, rfl, trivial⟩, rfl, rfl⟩
   refine J.run rfl rfl rfl hc397 <| jv _ (V.fad Try.underlying126 rfl nz4 rfl) <| J.run rfl rfl rfl hc397 <| jv (.bool t326) (V.ld rfl (Ld.sc sc4 (Rd.cl 0 rfl rfl))) <| J.run rfl rfl rfl hc397 <| jm (.bool t326) rfl <| J.cut 10 ?_
   refine jmeet [(53, .bool (t326 && ((decide (xa.2.2.2.1 < 0)) || (decide (xc ≤ xa.2.2.2.1))))), (3, .pointer (some ⟨b320, 0, none⟩)), (4, .pointer (some ⟨b321, 0, none⟩)), (40, .bool t367)] ?_ ?_
   · rcases bt (t326) with hc403 | hc403
     · refine J.run rfl rfl rfl hc403 <| jv _ (V.fad Try.underlying52 rfl nz3 rfl) <| J.run rfl rfl rfl hc403 <| jv (ii xa.2.2.2.1) (V.ld rfl (Ld.sc sc3 (Rd.cl 2 rfl rfl))) <| J.run rfl rfl rfl hc403 <| jv (.bool (decide (xa.2.2.2.1 < 0))) (V.lss rfl rfl) <| J.run rfl rfl rfl hc403 ?_
       refine jm (.bool (decide (xa.2.2.2.1 < 0))) rfl <| J.cut 5 <| jmeet [(52, .bool ((decide (xa.2.2.2.1 < 0)) || (decide (xc ≤ xa.2.2.2.1)))), (3, .pointer (some ⟨b320, 0, none⟩)), (4, .pointer (some ⟨b321, 0, none⟩)), (40, .bool t367), (43, .bool t326)] ?_ ?_
       · rcases bt (decide (xa.2.2.2.1 < 0)) with hc406 | hc406
         · refine J.skip rfl rfl rfl rfl hc406 <| J.skip rfl rfl rfl rfl hc406 <| J.skip rfl rfl rfl rfl hc406 <| J.skip rfl rfl rfl rfl hc406 <| J.run rfl rfl rfl hc403 <| jv (.bool true) (V.pickT rfl hc406 rfl) <| J.nil ?_
           exact ⟨rfl, ⟨(by simp only [hc406]; rfl), rfl, rfl, rfl, rfl, trivial⟩, rfl, rfl⟩
         refine J.run rfl rfl rfl hc406 <| jv _ (V.fad Try.underlying52 rfl nz3 rfl) <| J.run rfl rfl rfl hc406 <| jv (ii xa.2.2.2.1) (V.ld rfl (Ld.sc sc3 (Rd.cl 2 rfl rfl))) <| J.run rfl rfl rfl hc406 <| jm (ii xc) rfl <| J.run rfl rfl rfl hc406 ?_
         refine jv (.bool (decide (xc ≤ xa.2.2.2.1))) (V.geq rfl rfl) <| J.run rfl rfl rfl hc403 <| jv (.bool (decide (xc ≤ xa.2.2.2.1))) (V.pickF rfl hc406 rfl) <| J.nil ?_
         exact ⟨rfl, ⟨(by simp only [hc406]; rfl), rfl, rfl, rfl, rfl, trivial⟩, rfl, rfl⟩
       intro ρ
       refine J.run rfl rfl rfl hc397 <| jv (.bool ((decide (xa.2.2.2.1 < 0)) || (decide (xc ≤ xa.2.2.2.1)))) (V.pickT rfl hc403 rfl) <| J.nil ?_
       exact ⟨rfl, ⟨(by simp only [hc403]; rfl), rfl, rfl, rfl, trivial⟩, rfl, rfl⟩
     refine J.skip rfl rfl rfl rfl hc403 <| J.skip rfl rfl rfl rfl hc403 <| J.skip rfl rfl rfl rfl hc403 <| J.skip rfl rfl rfl rfl hc403 <| J.skipu rfl rfl rfl rfl <| J.skipu rfl rfl rfl rfl <| J.skipu rfl rfl rfl rfl ?_
     refine J.skipu rfl rfl rfl rfl <| J.skip rfl rfl rfl rfl hc403 <| J.run rfl rfl rfl hc397 <| jv (.bool false) (V.pickF rfl hc403 rfl) <| J.nil ?_
     exact ⟨rfl, ⟨(by simp only [hc403]; rfl), rfl, rfl, rfl, trivial⟩, rfl, rfl⟩
   intro ρ
   refine jv (.bool (t326 && ((decide (xa.2.2.2.1 < 0)) || (decide (xc ≤ xa.2.2.2.1))))) (V.pickF rfl hc397 rfl) <| J.nil ?_
   exact ⟨rfl, ⟨(by simp only [hc397]; rfl), rfl, rfl, trivial⟩, rfl, rfl⟩
 intro ρ
 refine J.nil <| cc rfl h (fun hc407 h => ?_) fun hc407 h => ?_
 · refine cr <| ja (nos) rfl <| ja (ii 7) rfl <| J.nil <| CJ.by (fun w hs => Sep.rowNil (e := 93) (t := (.cons (.int .i64) (.cons (.int .i64) (.cons (.int .i64) (.cons (.int .i64) (.one .bool)))))) hs) <| CJ.ret ?_
   obtain rfl := si h
   exact ⟨_, _, Res.two rfl rfl rfl, ⟨[], 7, none, 0, rfl, rfl, rfl⟩, (Hp.le_refl _), fun w hs => (Sep.dropAt 1 rfl (Sep.dropAt 1 rfl (Sep.dropAt 1 rfl hs)))⟩
 refine CJ.skip <| CJ.seq <| cr <| jv _ (V.fad Try.underlying52 rfl nz3 rfl) <| jv (ii xa.1) (V.ld rfl (Ld.sc sc3 (Rd.cl 2 rfl rfl))) <| J.nil ?_
 refine CJ.block <| cr <| jv (.bool (decide (xa.1 = 1))) (V.eql rfl rfl) <| ja (.bool (decide (xa.1 = 1))) rfl <| J.nil <| cc rfl h (fun hc409 h => ?_) fun hc409 h => ?_
 · refine CJ.seq <| CJ.mix [Cl b331 126 [.bool t324, .bool t325, .bool t326], Cl b321 27 [.slice adxb_0 xb.length cpxb_0], Cl b320 52 [ii xa.1, ii xa.2.1, ii xa.2.2.1, ii xa.2.2.2.1, .bool xa.2.2.2.2]] [([0, 1, 2, 3, 4, 5, 6, 7, 8, 9], 10)] [11, 12, 13, 14] [] mixO (by decide +kernel) ⟨0, rfl, 0, rfl, 0, rfl, trivial⟩ rfl rfl rfl <| JM.cons <| qv (.slice adxb_0 xb.length cpxb_0) (V.ld rfl (Ld.sc sc27 (Rd.cl 1 rfl rfl))) <| qv _ (V.fad Try.underlying52 rfl nz3 rfl) <| qv (ii xa.2.2.1) (V.ld rfl (Ld.sc sc3 (Rd.cl 2 rfl rfl))) ?_
   obtain ⟨x447, hx448, h⟩ := ob h
   obtain ⟨p449, p450, p451⟩ := getI_some hx448
   obtain ⟨b452, o453, e454, a455⟩ := (fxb_0).at p450
   refine qv _ (V.iad Try.underlying27 sz30 rfl e454 rfl p449 p451) ?_
   obtain ⟨ad456, cp457, c458, f459⟩ := ((a455).one).sl
   refine qv (.agg #[.slice ad456 x447.length cp457]) (V.ld rfl (Ld.aggK (cs := [.slice ad456 x447.length cp457]) Try.underlying30 sz30 rfl ⟨c458, trivial⟩ (Hp.le_refl _))) <| qv (.slice adxb_0 xb.length cpxb_0) (V.ld rfl (Ld.sc sc27 (Rd.cl 1 rfl rfl))) <| qv _ (V.fad Try.underlying52 rfl nz3 rfl) <| qv (ii xa.2.1) (V.ld rfl (Ld.sc sc3 (Rd.cl 2 rfl rfl))) ?_
   obtain ⟨x460, hx461, h⟩ := ob h
   obtain ⟨p462, p463, p464⟩ := getI_some hx461
   obtain ⟨b465, o466, e467, a468⟩ := (fxb_0).at p463
   refine qv _ (V.iad Try.underlying27 sz30 rfl e467 rfl p462 p464) ?_
   obtain ⟨ad469, cp470, c471, f472⟩ := ((a468).one).sl
   refine qv (.agg #[.slice ad469 x460.length cp470]) (V.ld rfl (Ld.aggK (cs := [.slice ad469 x460.length cp470]) Try.underlying30 sz30 rfl ⟨c471, trivial⟩ (Hp.le_refl _))) <| JQ.nil ?_
   obtain ⟨r473, hr474, h⟩ := ob h
   refine JA.op rfl (A.call (L1 := []) Try.call53 rfl (relate_Flow_ok f459 f472 hr474) rfl rfl) ?_
   rintro _ _ _ ⟨v480, _, rfl, ⟨⟨l475, i476, ad477, cp478, rfl, rfl, rfl⟩, rfl⟩, _, rfl⟩
   refine ⟨fun w hs => Hold.sub (Hp.le_refl _) ⟨1, rfl, 1, rfl, 1, rfl, trivial⟩ hs, ?_⟩
   refine JM.wit Row.hn fun hn479 => JM.nil <| qv (.slice ad477 l475.length cp478) (V.ext rfl rfl) <| qv (ii i476) (V.ext rfl rfl) <| qa (.slice ad477 l475.length cp478) rfl <| qa (ii i476) rfl <| JQ.nil ?_
   refine J.nil <| CJ.ret ?_
   obtain rfl := si h
   exact ⟨_, _, Res.two rfl rfl rfl, ⟨l475, i476, ad477, cp478, rfl, rfl, rfl⟩, (Hp.le_refl _), fun w hs => (Sep.dropAt 1 rfl (Sep.dropAt 1 rfl (Sep.dropAt 1 rfl hs)))⟩
 refine cr <| jv (.bool (decide (xa.1 = 2))) (V.eql rfl rfl) <| ja (.bool (decide (xa.1 = 2))) rfl <| J.nil <| cc rfl h (fun hc484 h => ?_) fun hc484 h => ?_
 · refine CJ.seq <| CJ.mix [Cl b331 126 [.bool t324, .bool t325, .bool t326], Cl b321 27 [.slice adxb_0 xb.length cpxb_0], Cl b320 52 [ii xa.1, ii xa.2.1, ii xa.2.2.1, ii xa.2.2.2.1, .bool xa.2.2.2.2]] [([0, 1, 2, 3, 4, 5, 6, 7, 8, 9, 10, 11, 12, 13], 14)] [15, 16, 17, 18] [] mixO (by decide +kernel) ⟨0, rfl, 0, rfl, 0, rfl, trivial⟩ rfl rfl rfl <| JM.cons <| qv (.slice adxb_0 xb.length cpxb_0) (V.ld rfl (Ld.sc sc27 (Rd.cl 1 rfl rfl))) <| qv _ (V.fad Try.underlying52 rfl nz3 rfl) <| qv (ii xa.2.2.1) (V.ld rfl (Ld.sc sc3 (Rd.cl 2 rfl rfl))) ?_
   obtain ⟨x522, hx523, h⟩ := ob h
   obtain ⟨p524, p525, p526⟩ := getI_some hx523
   obtain ⟨b527, o528, e529, a530⟩ := (fxb_0).at p525
   refine qv _ (V.iad Try.underlying27 sz30 rfl e529 rfl p524 p526) ?_
   obtain ⟨ad531, cp532, c533, f534⟩ := ((a530).one).sl
   refine qv (.agg #[.slice ad531 x522.length cp532]) (V.ld rfl (Ld.aggK (cs := [.slice ad531 x522.length cp532]) Try.underlying30 sz30 rfl ⟨c533, trivial⟩ (Hp.le_refl _))) <| qv (.slice adxb_0 xb.length cpxb_0) (V.ld rfl (Ld.sc sc27 (Rd.cl 1 rfl rfl))) <| qv _ (V.fad Try.underlying52 rfl nz3 rfl) <| qv (ii xa.2.1) (V.ld rfl (Ld.sc sc3 (Rd.cl 2 rfl rfl))) ?_
   obtain ⟨x535, hx536, h⟩ := ob h
   obtain ⟨p537, p538, p539⟩ := getI_some hx536
   obtain ⟨b540, o541, e542, a543⟩ := (fxb_0).at p538
   refine qv _ (V.iad Try.underlying27 sz30 rfl e542 rfl p537 p539) ?_
   obtain ⟨ad544, cp545, c546, f547⟩ := ((a543).one).sl
   refine qv (.agg #[.slice ad544 x535.length cp545]) (V.ld rfl (Ld.aggK (cs := [.slice ad544 x535.length cp545]) Try.underlying30 sz30 rfl ⟨c546, trivial⟩ (Hp.le_refl _))) <| qv _ (V.fad Try.underlying52 rfl nz3 rfl) <| qv (ii xa.2.2.2.1) (V.ld rfl (Ld.sc sc3 (Rd.cl 2 rfl rfl))) <| qv _ (V.fad Try.underlying52 rfl nz4 rfl) <| qv (.bool xa.2.2.2.2) (V.ld rfl (Ld.sc sc4 (Rd.cl 2 rfl rfl))) <| JQ.nil ?_
   obtain ⟨r548, hr549, h⟩ := ob h
   refine JA.op rfl (A.call (L1 := []) Try.call54 rfl (relate_Loan_ok f534 f547 hr549) rfl rfl) ?_
   rintro _ _ _ ⟨v555, _, rfl, ⟨⟨l550, i551, ad552, cp553, rfl, rfl, rfl⟩, rfl⟩, _, rfl⟩
   refine ⟨fun w hs => Hold.sub (Hp.le_refl _) ⟨1, rfl, 1, rfl, 1, rfl, trivial⟩ hs, ?_⟩
   refine JM.wit Row.hn fun hn554 => JM.nil <| qv (.slice ad552 l550.length cp553) (V.ext rfl rfl) <| qv (ii i551) (V.ext rfl rfl) <| qa (.slice ad552 l550.length cp553) rfl <| qa (ii i551) rfl <| JQ.nil ?_
   refine J.nil <| CJ.ret ?_
   obtain rfl := si h
   exact ⟨_, _, Res.two rfl rfl rfl, ⟨l550, i551, ad552, cp553, rfl, rfl, rfl⟩, (Hp.le_refl _), fun w hs => (Sep.dropAt 1 rfl (Sep.dropAt 1 rfl (Sep.dropAt 1 rfl hs)))⟩
 refine cr <| jv (.bool (decide (xa.1 = 3))) (V.eql rfl rfl) <| ja (.bool (decide (xa.1 = 3))) rfl <| J.nil <| cc rfl h (fun hc559 h => ?_) fun hc559 h => ?_
 · refine CJ.seq <| CJ.mix [Cl b331 126 [.bool t324, .bool t325, .bool t326], Cl b321 27 [.slice adxb_0 xb.length cpxb_0], Cl b320 52 [ii xa.1, ii xa.2.1, ii xa.2.2.1, ii xa.2.2.2.1, .bool xa.2.2.2.2]] [([0, 1, 2, 3, 4, 5, 6, 7, 8, 9, 10, 11, 12, 13], 14)] [15, 16, 17, 18] [] mixO (by decide +kernel) ⟨0, rfl, 0, rfl, 0, rfl, trivial⟩ rfl rfl rfl <| JM.cons <| qv (.slice adxb_0 xb.length cpxb_0) (V.ld rfl (Ld.sc sc27 (Rd.cl 1 rfl rfl))) <| qv _ (V.fad Try.underlying52 rfl nz3 rfl) <| qv (ii xa.2.2.1) (V.ld rfl (Ld.sc sc3 (Rd.cl 2 rfl rfl))) ?_
   obtain ⟨x597, hx598, h⟩ := ob h
   obtain ⟨p599, p600, p601⟩ := getI_some hx598
   obtain ⟨b602, o603, e604, a605⟩ := (fxb_0).at p600
   refine qv _ (V.iad Try.underlying27 sz30 rfl e604 rfl p599 p601) ?_
   obtain ⟨ad606, cp607, c608, f609⟩ := ((a605).one).sl
   refine qv (.agg #[.slice ad606 x597.length cp607]) (V.ld rfl (Ld.aggK (cs := [.slice ad606 x597.length cp607]) Try.underlying30 sz30 rfl ⟨c608, trivial⟩ (Hp.le_refl _))) <| qv (.slice adxb_0 xb.length cpxb_0) (V.ld rfl (Ld.sc sc27 (Rd.cl 1 rfl rfl))) <| qv _ (V.fad Try.underlying52 rfl nz3 rfl) <| qv (ii xa.2.1) (V.ld rfl (Ld.sc sc3 (Rd.cl 2 rfl rfl))) ?_
   obtain ⟨x610, hx611, h⟩ := ob h
   obtain ⟨p612, p613, p614⟩ := getI_some hx611
   obtain ⟨b615, o616, e617, a618⟩ := (fxb_0).at p613
   refine qv _ (V.iad Try.underlying27 sz30 rfl e617 rfl p612 p614) ?_
   obtain ⟨ad619, cp620, c621, f622⟩ := ((a618).one).sl
   refine qv (.agg #[.slice ad619 x610.length cp620]) (V.ld rfl (Ld.aggK (cs := [.slice ad619 x610.length cp620]) Try.underlying30 sz30 rfl ⟨c621, trivial⟩ (Hp.le_refl _))) <| qv _ (V.fad Try.underlying52 rfl nz3 rfl) <| qv (ii xa.2.2.2.1) (V.ld rfl (Ld.sc sc3 (Rd.cl 2 rfl rfl))) <| qv _ (V.fad Try.underlying52 rfl nz4 rfl) <| qv (.bool xa.2.2.2.2) (V.ld rfl (Ld.sc sc4 (Rd.cl 2 rfl rfl))) <| JQ.nil ?_
   obtain ⟨r623, hr624, h⟩ := ob h
   refine JA.op rfl (A.call (L1 := []) Try.call55 rfl (relate_Again_ok f609 f622 hr624) rfl rfl) ?_
   rintro _ _ _ ⟨v630, _, rfl, ⟨⟨l625, i626, ad627, cp628, rfl, rfl, rfl⟩, rfl⟩, _, rfl⟩
   refine ⟨fun w hs => Hold.sub (Hp.le_refl _) ⟨1, rfl, 1, rfl, 1, rfl, trivial⟩ hs, ?_⟩
   refine JM.wit Row.hn fun hn629 => JM.nil <| qv (.slice ad627 l625.length cp628) (V.ext rfl rfl) <| qv (ii i626) (V.ext rfl rfl) <| qa (.slice ad627 l625.length cp628) rfl <| qa (ii i626) rfl <| JQ.nil ?_
   refine J.nil <| CJ.ret ?_
   obtain rfl := si h
   exact ⟨_, _, Res.two rfl rfl rfl, ⟨l625, i626, ad627, cp628, rfl, rfl, rfl⟩, (Hp.le_refl _), fun w hs => (Sep.dropAt 1 rfl (Sep.dropAt 1 rfl (Sep.dropAt 1 rfl hs)))⟩
 refine CJ.skip <| cr <| ja (nos) rfl <| ja (ii 0) rfl <| J.nil <| CJ.by (fun w hs => Sep.rowNil (e := 93) (t := (.cons (.int .i64) (.cons (.int .i64) (.cons (.int .i64) (.cons (.int .i64) (.one .bool)))))) hs) ?_
 refine CJ.ret ?_
 obtain rfl := si h
 exact ⟨_, _, Res.two rfl rfl rfl, ⟨[], 0, none, 0, rfl, rfl, rfl⟩, (Hp.le_refl _), fun w hs => (Sep.dropAt 1 rfl (Sep.dropAt 1 rfl (Sep.dropAt 1 rfl hs)))⟩

noncomputable def fn_stmt_Check (xa : (Int × Int × Int × Int × Bool)) (xb : (List (List (Int × Bool)))) (xc : Int) : Option Int :=
  (fn_stmt_Needs (xa.1, xa.2.1, xa.2.2.1, xa.2.2.2.1, xa.2.2.2.2) xb xc).bind fun (l17, i18) => some (i18)
set_option maxRecDepth 100000 in
set_option maxHeartbeats 4000000 in
theorem stmt_Check_ok {K : Hp} {xa : (Int × Int × Int × Int × Bool)} {xb : (List (List (Int × Bool)))} {xc : Int} {adxb_0 : Option Addr} {cpxb_0 : Nat} (fxb_0 : Is K (.sl (.one (.sl (.cons (.int .i64) (.one .bool))))) [.slice adxb_0 xb.length cpxb_0] xb) {r : Int} (h : fn_stmt_Check xa xb xc = some r) :
    Tr Try.prog 65 #[.agg #[ii xa.1, ii xa.2.1, ii xa.2.2.1, ii xa.2.2.2.1, .bool xa.2.2.2.2], .slice adxb_0 xb.length cpxb_0, ii xc] K [] (fun v K' L' => (∃ (i13 : Int), i13 = r ∧ ii i13 = v ∧ L' = []) ∧ K = K') := by
 refine Tr.k <| Tr.of Try.func65 rfl Try.ntmps65 rfl fun E F => ?_
 unfold fn_stmt_Check at h
 refine cr <| jbx [ii xa.1, ii xa.2.1, ii xa.2.2.1, ii xa.2.2.2.1, .bool xa.2.2.2.2] rfl rfl fun b14 => ja (ii 0) rfl <| J.nil <| CJ.seq <| CJ.region ?_
 refine jv (.agg #[ii xa.1, ii xa.2.1, ii xa.2.2.1, ii xa.2.2.2.1, .bool xa.2.2.2.2]) (V.ld rfl (Ld.agg (cs := [ii xa.1, ii xa.2.1, ii xa.2.2.1, ii xa.2.2.2.1, .bool xa.2.2.2.2]) Try.underlying52 sz52 rfl (Rd.cls 0 0 rfl rfl))) <| jm (.slice adxb_0 xb.length cpxb_0) rfl <| jm (ii xc) rfl ?_
 obtain ⟨r15, hr16, h⟩ := ob h
 refine J.op rfl (A.call (L1 := []) Try.call38 rfl (stmt_Needs_ok fxb_0 hr16) rfl rfl) ?_
 rintro _ _ _ ⟨v22, _, rfl, ⟨⟨l17, i18, ad19, cp20, rfl, rfl, rfl⟩, rfl⟩, _, rfl⟩
 refine J.wit Row.hn fun hn21 => jm (.tuple #[.slice ad19 l17.length cp20, ii i18]) rfl <| jx (.slice ad19 l17.length cp20) rfl rfl <| jx (ii i18) rfl rfl <| ja (.slice ad19 l17.length cp20) rfl <| ja (ii i18) rfl <| J.nil ?_
 refine cr <| jm (ii i18) rfl <| ja (ii i18) rfl <| J.nil <| CJ.ret ?_
 obtain rfl := si h
 exact ⟨_, _, Res.one rfl rfl, ⟨i18, rfl, rfl, rfl⟩, (Hp.le_refl _), fun w hs => (Sep.dropAt 0 rfl (Sep.dropAt 0 rfl hs))⟩

noncomputable def fn_term_calls (xa : (Int × Int × Int × (List Int) × (List Int) × (List Int))) : Option Bool :=
  some (((!decide (xa.2.1 = 0)) || (!decide (xa.2.2.1 = 0))) || (decide (0 < (((xa.2.2.2.2.2.length : Nat) : Int)))))
set_option maxRecDepth 100000 in
set_option maxHeartbeats 4000000 in
theorem term_calls_ok {K : Hp} {xa : (Int × Int × Int × (List Int) × (List Int) × (List Int))} {adxa_3 : Option Addr} {cpxa_3 : Nat} {adxa_4 : Option Addr} {cpxa_4 : Nat} {adxa_5 : Option Addr} {cpxa_5 : Nat} (fxa_3 : Is K (.sl (.int .i64)) [.slice adxa_3 xa.2.2.2.1.length cpxa_3] xa.2.2.2.1) (fxa_4 : Is K (.sl (.int .i64)) [.slice adxa_4 xa.2.2.2.2.1.length cpxa_4] xa.2.2.2.2.1) (fxa_5 : Is K (.sl (.int .i64)) [.slice adxa_5 xa.2.2.2.2.2.length cpxa_5] xa.2.2.2.2.2) {r : Bool} (h : fn_term_calls xa = some r) :
    Tr Try.prog 72 #[.agg #[ii xa.1, ii xa.2.1, ii xa.2.2.1, .slice adxa_3 xa.2.2.2.1.length cpxa_3, .slice adxa_4 xa.2.2.2.2.1.length cpxa_4, .slice adxa_5 xa.2.2.2.2.2.length cpxa_5]] K [] (fun v K' L' => (∃ (t8 : Bool), t8 = r ∧ .bool t8 = v ∧ L' = []) ∧ K = K') := by
 refine Tr.k <| Tr.of Try.func72 rfl Try.ntmps72 rfl fun E F => ?_
 unfold fn_term_calls at h
 refine cr <| jbx [ii xa.1, ii xa.2.1, ii xa.2.2.1, .slice adxa_3 xa.2.2.2.1.length cpxa_3, .slice adxa_4 xa.2.2.2.2.1.length cpxa_4, .slice adxa_5 xa.2.2.2.2.2.length cpxa_5] rfl rfl fun b9 => ja (.bool false) rfl <| J.nil <| CJ.seq <| CJ.region ?_
 refine jv _ (V.fad Try.underlying56 rfl nz3 rfl) <| jv (ii xa.2.1) (V.ld rfl (Ld.sc sc3 (Rd.cl 0 rfl rfl))) <| jv (.bool (!decide (xa.2.1 = 0))) (V.neq rfl rfl) <| jm (.bool (!decide (xa.2.1 = 0))) rfl <| J.cut 4 <| jmeet [(10, .bool ((!decide (xa.2.1 = 0)) || (!decide (xa.2.2.1 = 0)))), (1, .pointer (some ⟨b9, 0, none⟩))] ?_ ?_
 · rcases bt (!decide (xa.2.1 = 0)) with hc12 | hc12
   · refine J.skip rfl rfl rfl rfl hc12 <| J.skip rfl rfl rfl rfl hc12 <| J.skip rfl rfl rfl rfl hc12 <| jv (.bool true) (V.pickT rfl hc12 rfl) <| J.nil ?_
     exact ⟨rfl, ⟨(by simp only [hc12]; rfl), rfl, trivial⟩, rfl, rfl⟩
   refine J.run rfl rfl rfl hc12 <| jv _ (V.fad Try.underlying56 rfl nz3 rfl) <| J.run rfl rfl rfl hc12 <| jv (ii xa.2.2.1) (V.ld rfl (Ld.sc sc3 (Rd.cl 0 rfl rfl))) <| J.run rfl rfl rfl hc12 <| jv (.bool (!decide (xa.2.2.1 = 0))) (V.neq rfl rfl) <| jv (.bool (!decide (xa.2.2.1 = 0))) (V.pickF rfl hc12 rfl) ?_
   refine J.nil ?_
   exact ⟨rfl, ⟨(by simp only [hc12]; rfl), rfl, trivial⟩, rfl, rfl⟩
 intro ρ
 refine jm (.bool ((!decide (xa.2.1 = 0)) || (!decide (xa.2.2.1 = 0)))) rfl <| J.cut 5 <| jmeet [(16, .bool (((!decide (xa.2.1 = 0)) || (!decide (xa.2.2.1 = 0))) || (decide (0 < (((xa.2.2.2.2.2.length : Nat) : Int))))))] ?_ ?_
 · rcases bt ((!decide (xa.2.1 = 0)) || (!decide (xa.2.2.1 = 0))) with hc15 | hc15
   · refine J.skip rfl rfl rfl rfl hc15 <| J.skip rfl rfl rfl rfl hc15 <| J.skip rfl rfl rfl rfl hc15 <| J.skip rfl rfl rfl rfl hc15 <| jv (.bool true) (V.pickT rfl hc15 rfl) <| J.nil ?_
     exact ⟨rfl, ⟨(by simp only [hc15]; rfl), trivial⟩, rfl, rfl⟩
   refine J.run rfl rfl rfl hc15 <| jv _ (V.fad Try.underlying56 rfl nz54 rfl) <| J.run rfl rfl rfl hc15 <| jv (.slice adxa_5 xa.2.2.2.2.2.length cpxa_5) (V.ld rfl (Ld.sc sc54 (Rd.cl 0 rfl rfl))) <| J.run rfl rfl rfl hc15 <| jv (ii (((xa.2.2.2.2.2.length : Nat) : Int))) (V.len Try.underlying54 rfl) <| J.run rfl rfl rfl hc15 ?_
   refine jv (.bool (decide (0 < (((xa.2.2.2.2.2.length : Nat) : Int))))) (V.gtr rfl rfl) <| jv (.bool (decide (0 < (((xa.2.2.2.2.2.length : Nat) : Int))))) (V.pickF rfl hc15 rfl) <| J.nil ?_
   exact ⟨rfl, ⟨(by simp only [hc15]; rfl), trivial⟩, rfl, rfl⟩
 intro ρ
 refine ja (.bool (((!decide (xa.2.1 = 0)) || (!decide (xa.2.2.1 = 0))) || (decide (0 < (((xa.2.2.2.2.2.length : Nat) : Int)))))) rfl <| J.nil <| CJ.ret ?_
 obtain rfl := si h
 exact ⟨_, _, Res.one rfl rfl, ⟨((!decide (xa.2.1 = 0)) || (!decide (xa.2.2.1 = 0))) || (decide (0 < (((xa.2.2.2.2.2.length : Nat) : Int)))), rfl, rfl, rfl⟩, (Hp.le_refl _), fun w hs => (Sep.dropAt 0 rfl hs)⟩

noncomputable def fn_term_form (xa : (Int × Int × Int × (List Int) × (List Int) × (List Int))) : Option Int :=
  (cond (decide (xa.1 = 1)) ((cond ((decide ((((xa.2.2.2.1.length : Nat) : Int)) = 1)) && (decide ((((xa.2.2.2.2.1.length : Nat) : Int)) = 0))) ((fn_term_calls (xa.1, xa.2.1, xa.2.2.1, xa.2.2.2.1, xa.2.2.2.2.1, xa.2.2.2.2.2)).bind fun t210 => some (!t210)) (some (false))).bind fun t205 => some (t205)) (cond (decide (xa.1 = 2)) ((cond (decide (0 < (((xa.2.2.2.1.length : Nat) : Int)))) ((fn_term_calls (xa.1, xa.2.1, xa.2.2.1, xa.2.2.2.1, xa.2.2.2.2.1, xa.2.2.2.2.2)).bind fun t227 => some (!t227)) (some (false))).bind fun t222 => some (t222)) (cond (decide (xa.1 = 3)) ((cond ((decide ((((xa.2.2.2.1.length : Nat) : Int)) = 0)) && (decide ((((xa.2.2.2.2.1.length : Nat) : Int)) = 0))) ((fn_term_calls (xa.1, xa.2.1, xa.2.2.1, xa.2.2.2.1, xa.2.2.2.2.1, xa.2.2.2.2.2)).bind fun t247 => some (!t247)) (some (false))).bind fun t242 => some (t242)) (cond (decide (xa.1 = 4)) (some (decide ((((xa.2.2.2.1.length : Nat) : Int)) = 1))) (some (false))))) : Option Bool).bind fun t191 => cond (!t191) (some (3)) (cond (((decide (16 < (((xa.2.2.2.1.length : Nat) : Int)))) || (decide (16 < (((xa.2.2.2.2.1.length : Nat) : Int))))) || (decide (16 < (((xa.2.2.2.2.2.length : Nat) : Int))))) (some (6)) (some (0)))
set_option maxRecDepth 100000 in
set_option maxHeartbeats 4000000 in
theorem term_form_ok {K : Hp} {xa : (Int × Int × Int × (List Int) × (List Int) × (List Int))} {adxa_3 : Option Addr} {cpxa_3 : Nat} {adxa_4 : Option Addr} {cpxa_4 : Nat} {adxa_5 : Option Addr} {cpxa_5 : Nat} (fxa_3 : Is K (.sl (.int .i64)) [.slice adxa_3 xa.2.2.2.1.length cpxa_3] xa.2.2.2.1) (fxa_4 : Is K (.sl (.int .i64)) [.slice adxa_4 xa.2.2.2.2.1.length cpxa_4] xa.2.2.2.2.1) (fxa_5 : Is K (.sl (.int .i64)) [.slice adxa_5 xa.2.2.2.2.2.length cpxa_5] xa.2.2.2.2.2) {r : Int} (h : fn_term_form xa = some r) :
    Tr Try.prog 56 #[.agg #[ii xa.1, ii xa.2.1, ii xa.2.2.1, .slice adxa_3 xa.2.2.2.1.length cpxa_3, .slice adxa_4 xa.2.2.2.2.1.length cpxa_4, .slice adxa_5 xa.2.2.2.2.2.length cpxa_5]] K [] (fun v K' L' => (∃ (i131 : Int), i131 = r ∧ ii i131 = v ∧ L' = []) ∧ K = K') := by
 refine Tr.k <| Tr.of Try.func56 rfl Try.ntmps56 rfl fun E F => ?_
 unfold fn_term_form at h
 refine cr <| jbx [ii xa.1, ii xa.2.1, ii xa.2.2.1, .slice adxa_3 xa.2.2.2.1.length cpxa_3, .slice adxa_4 xa.2.2.2.2.1.length cpxa_4, .slice adxa_5 xa.2.2.2.2.2.length cpxa_5] rfl rfl fun b132 => ja (ii 0) rfl <| J.nil <| CJ.seq <| CJ.region ?_
 refine ja (.bool false) rfl <| J.nil <| CJ.seq ?_
 obtain ⟨o192, ho193, h⟩ := ob h
 refine CJ.meetN (fun ρ K' L' => ∃ (t191 : Bool), t191 = o192 ∧ Fits [(1, .pointer (some ⟨b132, 0, none⟩)), (3, .bool t191)] ρ ∧ K = K' ∧ L' = Cl b132 56 [ii xa.1, ii xa.2.1, ii xa.2.2.1, .slice adxa_3 xa.2.2.2.1.length cpxa_3, .slice adxa_4 xa.2.2.2.2.1.length cpxa_4, .slice adxa_5 xa.2.2.2.2.2.length cpxa_5] :: F) ?_ ?_
 · refine cr <| jv _ (V.fad Try.underlying56 rfl nz3 rfl) <| jv (ii xa.1) (V.ld rfl (Ld.sc sc3 (Rd.cl 0 rfl rfl))) <| J.nil <| CJ.block <| CJ.seq ?_
   refine CJ.region <| jv (.bool (decide (xa.1 = 1))) (V.eql rfl rfl) <| ja (.bool (decide (xa.1 = 1))) rfl <| J.nil <| cc rfl ho193 (fun hc194 ho193 => ?_) fun hc194 ho193 => ?_
   · refine CJ.region <| jv _ (V.fad Try.underlying56 rfl nz54 rfl) <| jv (.slice adxa_3 xa.2.2.2.1.length cpxa_3) (V.ld rfl (Ld.sc sc54 (Rd.cl 0 rfl rfl))) <| jv (ii (((xa.2.2.2.1.length : Nat) : Int))) (V.len Try.underlying54 rfl) <| jv (.bool (decide ((((xa.2.2.2.1.length : Nat) : Int)) = 1))) (V.eql rfl rfl) <| jm (.bool (decide ((((xa.2.2.2.1.length : Nat) : Int)) = 1))) rfl <| J.cut 5 ?_
     refine jmeet [(17, .bool ((decide ((((xa.2.2.2.1.length : Nat) : Int)) = 1)) && (decide ((((xa.2.2.2.2.1.length : Nat) : Int)) = 0)))), (1, .pointer (some ⟨b132, 0, none⟩))] ?_ ?_
     · rcases bt (decide ((((xa.2.2.2.1.length : Nat) : Int)) = 1)) with hc197 | hc197
       · refine J.run rfl rfl rfl hc197 <| jv _ (V.fad Try.underlying56 rfl nz54 rfl) <| J.run rfl rfl rfl hc197 <| jv (.slice adxa_4 xa.2.2.2.2.1.length cpxa_4) (V.ld rfl (Ld.sc sc54 (Rd.cl 0 rfl rfl))) <| J.run rfl rfl rfl hc197 <| jv (ii (((xa.2.2.2.2.1.length : Nat) : Int))) (V.len Try.underlying54 rfl) <| J.run rfl rfl rfl hc197 ?_
         refine jv (.bool (decide ((((xa.2.2.2.2.1.length : Nat) : Int)) = 0))) (V.eql rfl rfl) <| jv (.bool (decide ((((xa.2.2.2.2.1.length : Nat) : Int)) = 0))) (V.pickT rfl hc197 rfl) <| J.nil ?_
         exact ⟨rfl, ⟨(by simp only [hc197]; rfl), rfl, trivial⟩, rfl, rfl⟩
       refine J.skip rfl rfl rfl rfl hc197 <| J.skip rfl rfl rfl rfl hc197 <| J.skip rfl rfl rfl rfl hc197 <| J.skip rfl rfl rfl rfl hc197 <| jv (.bool false) (V.pickF rfl hc197 rfl) <| J.nil ?_
       exact ⟨rfl, ⟨(by simp only [hc197]; rfl), rfl, trivial⟩, rfl, rfl⟩
     intro ρ
     refine jm (.bool ((decide ((((xa.2.2.2.1.length : Nat) : Int)) = 1)) && (decide ((((xa.2.2.2.2.1.length : Nat) : Int)) = 0)))) rfl <| J.cut 4 ?_
     obtain ⟨t205, ht206, ho193⟩ := ob ho193
     refine jmeet [(22, .bool t205), (1, .pointer (some ⟨b132, 0, none⟩))] ?_ ?_
     · rcases bt ((decide ((((xa.2.2.2.1.length : Nat) : Int)) = 1)) && (decide ((((xa.2.2.2.2.1.length : Nat) : Int)) = 0))) with hc207 | hc207
       · have ht206 := ct hc207 ht206
         refine J.run rfl rfl rfl hc207 <| jv (.agg #[ii xa.1, ii xa.2.1, ii xa.2.2.1, .slice adxa_3 xa.2.2.2.1.length cpxa_3, .slice adxa_4 xa.2.2.2.2.1.length cpxa_4, .slice adxa_5 xa.2.2.2.2.2.length cpxa_5]) (V.ld rfl (Ld.agg (cs := [ii xa.1, ii xa.2.1, ii xa.2.2.1, .slice adxa_3 xa.2.2.2.1.length cpxa_3, .slice adxa_4 xa.2.2.2.2.1.length cpxa_4, .slice adxa_5 xa.2.2.2.2.2.length cpxa_5]) Try.underlying56 sz56 rfl (Rd.cls 0 0 rfl rfl))) <| J.run rfl rfl rfl hc207 ?_
         obtain ⟨r208, hr209, ht206⟩ := ob ht206
         refine J.op rfl (A.call (L1 := []) Try.call72 rfl (term_calls_ok fxa_3 fxa_4 fxa_5 hr209) rfl rfl) ?_
         rintro _ _ _ ⟨v211, _, rfl, ⟨⟨t210, rfl, rfl, rfl⟩, rfl⟩, _, rfl⟩
         refine J.run rfl rfl rfl hc207 <| jv (.bool (!t210)) (V.not rfl) <| jv (.bool (!t210)) (V.pickT rfl hc207 rfl) <| J.nil ?_
         obtain rfl := si ht206
         exact ⟨rfl, ⟨rfl, rfl, trivial⟩, rfl, rfl⟩
       have ht206 := cf hc207 ht206
       refine J.skip rfl rfl rfl rfl hc207 <| J.skip rfl rfl rfl rfl hc207 <| J.skip rfl rfl rfl rfl hc207 <| jv (.bool false) (V.pickF rfl hc207 rfl) <| J.nil ?_
       obtain rfl := si ht206
       exact ⟨rfl, ⟨rfl, rfl, trivial⟩, rfl, rfl⟩
     intro ρ
     refine ja (.bool t205) rfl <| J.nil ?_
     obtain rfl := si ho193
     exact ⟨rfl, ⟨t205, rfl, ⟨rfl, rfl, trivial⟩, rfl, rfl⟩⟩
   refine cr <| jv (.bool (decide (xa.1 = 2))) (V.eql rfl rfl) <| ja (.bool (decide (xa.1 = 2))) rfl <| J.nil <| cc rfl ho193 (fun hc214 ho193 => ?_) fun hc214 ho193 => ?_
   · refine CJ.region <| jv _ (V.fad Try.underlying56 rfl nz54 rfl) <| jv (.slice adxa_3 xa.2.2.2.1.length cpxa_3) (V.ld rfl (Ld.sc sc54 (Rd.cl 0 rfl rfl))) <| jv (ii (((xa.2.2.2.1.length : Nat) : Int))) (V.len Try.underlying54 rfl) <| jv (.bool (decide (0 < (((xa.2.2.2.1.length : Nat) : Int))))) (V.gtr rfl rfl) <| jm (.bool (decide (0 < (((xa.2.2.2.1.length : Nat) : Int))))) rfl <| J.cut 4 ?_
     obtain ⟨t222, ht223, ho193⟩ := ob ho193
     refine jmeet [(33, .bool t222), (1, .pointer (some ⟨b132, 0, none⟩))] ?_ ?_
     · rcases bt (decide (0 < (((xa.2.2.2.1.length : Nat) : Int)))) with hc224 | hc224
       · have ht223 := ct hc224 ht223
         refine J.run rfl rfl rfl hc224 <| jv (.agg #[ii xa.1, ii xa.2.1, ii xa.2.2.1, .slice adxa_3 xa.2.2.2.1.length cpxa_3, .slice adxa_4 xa.2.2.2.2.1.length cpxa_4, .slice adxa_5 xa.2.2.2.2.2.length cpxa_5]) (V.ld rfl (Ld.agg (cs := [ii xa.1, ii xa.2.1, ii xa.2.2.1, .slice adxa_3 xa.2.2.2.1.length cpxa_3, .slice adxa_4 xa.2.2.2.2.1.length cpxa_4, .slice adxa_5 xa.2.2.2.2.2.length cpxa_5]) Try.underlying56 sz56 rfl (Rd.cls 0 0 rfl rfl))) <| J.run rfl rfl rfl hc224 ?_
         obtain ⟨r225, hr226, ht223⟩ := ob ht223
         refine J.op rfl (A.call (L1 := []) Try.call72 rfl (term_calls_ok fxa_3 fxa_4 fxa_5 hr226) rfl rfl) ?_
         rintro _ _ _ ⟨v228, _, rfl, ⟨⟨t227, rfl, rfl, rfl⟩, rfl⟩, _, rfl⟩
         refine J.run rfl rfl rfl hc224 <| jv (.bool (!t227)) (V.not rfl) <| jv (.bool (!t227)) (V.pickT rfl hc224 rfl) <| J.nil ?_
         obtain rfl := si ht223
         exact ⟨rfl, ⟨rfl, rfl, trivial⟩, rfl, rfl⟩
       have ht223 := cf hc224 ht223
       refine J.skip rfl rfl rfl rfl hc224 <| J.skip rfl rfl rfl rfl hc224 <| J.skip rfl rfl rfl rfl hc224 <| jv (.bool false) (V.pickF rfl hc224 rfl) <| J.nil ?_
       obtain rfl := si ht223
       exact ⟨rfl, ⟨rfl, rfl, trivial⟩, rfl, rfl⟩
     intro ρ
     refine ja (.bool t222) rfl <| J.nil ?_
     obtain rfl := si ho193
     exact ⟨rfl, ⟨t222, rfl, ⟨rfl, rfl, trivial⟩, rfl, rfl⟩⟩
   refine cr <| jv (.bool (decide (xa.1 = 3))) (V.eql rfl rfl) <| ja (.bool (decide (xa.1 = 3))) rfl <| J.nil <| cc rfl ho193 (fun hc231 ho193 => ?_) fun hc231 ho193 => ?_
   · refine CJ.region <| jv _ (V.fad Try.underlying56 rfl nz54 rfl) <| jv (.slice adxa_3 xa.2.2.2.1.length cpxa_3) (V.ld rfl (Ld.sc sc54 (Rd.cl 0 rfl rfl))) <| jv (ii (((xa.2.2.2.1.length : Nat) : Int))) (V.len Try.underlying54 rfl) <| jv (.bool (decide ((((xa.2.2.2.1.length : Nat) : Int)) = 0))) (V.eql rfl rfl) <| jm (.bool (decide ((((xa.2.2.2.1.length : Nat) : Int)) = 0))) rfl <| J.cut 5 ?_
     refine jmeet [(45, .bool ((decide ((((xa.2.2.2.1.length : Nat) : Int)) = 0)) && (decide ((((xa.2.2.2.2.1.length : Nat) : Int)) = 0)))), (1, .pointer (some ⟨b132, 0, none⟩))] ?_ ?_
     · rcases bt (decide ((((xa.2.2.2.1.length : Nat) : Int)) = 0)) with hc234 | hc234
       · refine J.run rfl rfl rfl hc234 <| jv _ (V.fad Try.underlying56 rfl nz54 rfl) <| J.run rfl rfl rfl hc234 <| jv (.slice adxa_4 xa.2.2.2.2.1.length cpxa_4) (V.ld rfl (Ld.sc sc54 (Rd.cl 0 rfl rfl))) <| J.run rfl rfl rfl hc234 <| jv (ii (((xa.2.2.2.2.1.length : Nat) : Int))) (V.len Try.underlying54 rfl) <| J.run rfl rfl rfl hc234 ?_
         refine jv (.bool (decide ((((xa.2.2.2.2.1.length : Nat) : Int)) = 0))) (V.eql rfl rfl) <| jv (.bool (decide ((((xa.2.2.2.2.1.length : Nat) : Int)) = 0))) (V.pickT rfl hc234 rfl) <| J.nil ?_
         exact ⟨rfl, ⟨(by simp only [hc234]; rfl), rfl, trivial⟩, rfl, rfl⟩
       refine J.skip rfl rfl rfl rfl hc234 <| J.skip rfl rfl rfl rfl hc234 <| J.skip rfl rfl rfl rfl hc234 <| J.skip rfl rfl rfl rfl hc234 <| jv (.bool false) (V.pickF rfl hc234 rfl) <| J.nil ?_
       exact ⟨rfl, ⟨(by simp only [hc234]; rfl), rfl, trivial⟩, rfl, rfl⟩
     intro ρ
     refine jm (.bool ((decide ((((xa.2.2.2.1.length : Nat) : Int)) = 0)) && (decide ((((xa.2.2.2.2.1.length : Nat) : Int)) = 0)))) rfl <| J.cut 4 ?_
     obtain ⟨t242, ht243, ho193⟩ := ob ho193
     refine jmeet [(50, .bool t242), (1, .pointer (some ⟨b132, 0, none⟩))] ?_ ?_
     · rcases bt ((decide ((((xa.2.2.2.1.length : Nat) : Int)) = 0)) && (decide ((((xa.2.2.2.2.1.length : Nat) : Int)) = 0))) with hc244 | hc244
       · have ht243 := ct hc244 ht243
         refine J.run rfl rfl rfl hc244 <| jv (.agg #[ii xa.1, ii xa.2.1, ii xa.2.2.1, .slice adxa_3 xa.2.2.2.1.length cpxa_3, .slice adxa_4 xa.2.2.2.2.1.length cpxa_4, .slice adxa_5 xa.2.2.2.2.2.length cpxa_5]) (V.ld rfl (Ld.agg (cs := [ii xa.1, ii xa.2.1, ii xa.2.2.1, .slice adxa_3 xa.2.2.2.1.length cpxa_3, .slice adxa_4 xa.2.2.2.2.1.length cpxa_4, .slice adxa_5 xa.2.2.2.2.2.length cpxa_5]) Try.underlying56 sz56 rfl (Rd.cls 0 0 rfl rfl))) <| J.run rfl rfl rfl hc244 ?_
         obtain ⟨r245, hr246, ht243⟩ := ob ht243
         refine J.op rfl (A.call (L1 := []) Try.call72 rfl (term_calls_ok fxa_3 fxa_4 fxa_5 hr246) rfl rfl) ?_
         rintro _ _ _ ⟨v248, _, rfl, ⟨⟨t247, rfl, rfl, rfl⟩, rfl⟩, _, rfl⟩
         refine J.run rfl rfl rfl hc244 <| jv (.bool (!t247)) (V.not rfl) <| jv (.bool (!t247)) (V.pickT rfl hc244 rfl) <| J.nil ?_
         obtain rfl := si ht243
         exact ⟨rfl, ⟨rfl, rfl, trivial⟩, rfl, rfl⟩
       have ht243 := cf hc244 ht243
       refine J.skip rfl rfl rfl rfl hc244 <| J.skip rfl rfl rfl rfl hc244 <| J.skip rfl rfl rfl rfl hc244 <| jv (.bool false) (V.pickF rfl hc244 rfl) <| J.nil ?_
       obtain rfl := si ht243
       exact ⟨rfl, ⟨rfl, rfl, trivial⟩, rfl, rfl⟩
     intro ρ
     refine ja (.bool t242) rfl <| J.nil ?_
     obtain rfl := si ho193
     exact ⟨rfl, ⟨t242, rfl, ⟨rfl, rfl, trivial⟩, rfl, rfl⟩⟩
   refine cr <| jv (.bool (decide (xa.1 = 4))) (V.eql rfl rfl) <| ja (.bool (decide (xa.1 = 4))) rfl <| J.nil <| cc rfl ho193 (fun hc251 ho193 => ?_) fun hc251 ho193 => ?_
   · refine CJ.region <| jv _ (V.fad Try.underlying56 rfl nz54 rfl) <| jv (.slice adxa_3 xa.2.2.2.1.length cpxa_3) (V.ld rfl (Ld.sc sc54 (Rd.cl 0 rfl rfl))) <| jv (ii (((xa.2.2.2.1.length : Nat) : Int))) (V.len Try.underlying54 rfl) <| jv (.bool (decide ((((xa.2.2.2.1.length : Nat) : Int)) = 1))) (V.eql rfl rfl) <| ja (.bool (decide ((((xa.2.2.2.1.length : Nat) : Int)) = 1))) rfl <| J.nil ?_
     obtain rfl := si ho193
     exact ⟨rfl, ⟨decide ((((xa.2.2.2.1.length : Nat) : Int)) = 1), rfl, ⟨rfl, rfl, trivial⟩, rfl, rfl⟩⟩
   refine CJ.skip ?_
   obtain rfl := si ho193
   exact ⟨rfl, ⟨false, rfl, ⟨rfl, rfl, trivial⟩, rfl, rfl⟩⟩
 rintro ρ _ _ ⟨t191, rfl, hf252, rfl, rfl⟩
 obtain ⟨ρ, rfl⟩ := hf252.ex
 refine PJ.done <| CJ.seq <| cr <| jm (.bool t191) rfl <| jv (.bool (!t191)) (V.not rfl) <| J.nil ?_
 refine cc rfl h (fun hc254 h => ?_) fun hc254 h => ?_
 · refine cr <| ja (ii 3) rfl <| J.nil <| CJ.ret ?_
   obtain rfl := si h
   exact ⟨_, _, Res.one rfl rfl, ⟨3, rfl, rfl, rfl⟩, (Hp.le_refl _), fun w hs => (Sep.dropAt 0 rfl hs)⟩
 refine CJ.skip <| CJ.seq <| cr <| jv _ (V.fad Try.underlying56 rfl nz54 rfl) <| jv (.slice adxa_3 xa.2.2.2.1.length cpxa_3) (V.ld rfl (Ld.sc sc54 (Rd.cl 0 rfl rfl))) <| jv (ii (((xa.2.2.2.1.length : Nat) : Int))) (V.len Try.underlying54 rfl) ?_
 refine jv (.bool (decide (16 < (((xa.2.2.2.1.length : Nat) : Int))))) (V.gtr rfl rfl) <| jm (.bool (decide (16 < (((xa.2.2.2.1.length : Nat) : Int))))) rfl <| J.cut 5 <| jmeet [(68, .bool ((decide (16 < (((xa.2.2.2.1.length : Nat) : Int)))) || (decide (16 < (((xa.2.2.2.2.1.length : Nat) : Int)))))), (1, .pointer (some ⟨b132, 0, none⟩))] ?_ ?_
 · rcases bt (decide (16 < (((xa.2.2.2.1.length : Nat) : Int)))) with hc257 | hc257
   · refine J.skip rfl rfl rfl rfl hc257 <| J.skip rfl rfl rfl rfl hc257 <| J.skip rfl rfl rfl rfl hc257 <| J.skip rfl rfl rfl rfl hc257 <| jv (.bool true) (V.pickT rfl hc257 rfl) <| J.nil ?_
     exact ⟨rfl, ⟨(by simp only [hc257]; rfl), rfl, trivial⟩, rfl, rfl⟩
   refine J.run rfl rfl rfl hc257 <| jv _ (V.fad Try.underlying56 rfl nz54 rfl) <| J.run rfl rfl rfl hc257 <| jv (.slice adxa_4 xa.2.2.2.2.1.length cpxa_4) (V.ld rfl (Ld.sc sc54 (Rd.cl 0 rfl rfl))) <| J.run rfl rfl rfl hc257 <| jv (ii (((xa.2.2.2.2.1.length : Nat) : Int))) (V.len Try.underlying54 rfl) <| J.run rfl rfl rfl hc257 ?_
   refine jv (.bool (decide (16 < (((xa.2.2.2.2.1.length : Nat) : Int))))) (V.gtr rfl rfl) <| jv (.bool (decide (16 < (((xa.2.2.2.2.1.length : Nat) : Int))))) (V.pickF rfl hc257 rfl) <| J.nil ?_
   exact ⟨rfl, ⟨(by simp only [hc257]; rfl), rfl, trivial⟩, rfl, rfl⟩
 intro ρ
 refine jm (.bool ((decide (16 < (((xa.2.2.2.1.length : Nat) : Int)))) || (decide (16 < (((xa.2.2.2.2.1.length : Nat) : Int)))))) rfl <| J.cut 5 <| jmeet [(74, .bool (((decide (16 < (((xa.2.2.2.1.length : Nat) : Int)))) || (decide (16 < (((xa.2.2.2.2.1.length : Nat) : Int))))) || (decide (16 < (((xa.2.2.2.2.2.length : Nat) : Int))))))] ?_ ?_
 · rcases bt ((decide (16 < (((xa.2.2.2.1.length : Nat) : Int)))) || (decide (16 < (((xa.2.2.2.2.1.length : Nat) : Int))))) with hc260 | hc260
   · refine J.skip rfl rfl rfl rfl hc260 <| J.skip rfl rfl rfl rfl hc260 <| J.skip rfl rfl rfl rfl hc260 <| J.skip rfl rfl rfl rfl hc260 <| jv (.bool true) (V.pickT rfl hc260 rfl) <| J.nil ?_
     exact ⟨rfl, ⟨(by simp only [hc260]; rfl), trivial⟩, rfl, rfl⟩
   refine J.run rfl rfl rfl hc260 <| jv _ (V.fad Try.underlying56 rfl nz54 rfl) <| J.run rfl rfl rfl hc260 <| jv (.slice adxa_5 xa.2.2.2.2.2.length cpxa_5) (V.ld rfl (Ld.sc sc54 (Rd.cl 0 rfl rfl))) <| J.run rfl rfl rfl hc260 <| jv (ii (((xa.2.2.2.2.2.length : Nat) : Int))) (V.len Try.underlying54 rfl) <| J.run rfl rfl rfl hc260 ?_
   refine jv (.bool (decide (16 < (((xa.2.2.2.2.2.length : Nat) : Int))))) (V.gtr rfl rfl) <| jv (.bool (decide (16 < (((xa.2.2.2.2.2.length : Nat) : Int))))) (V.pickF rfl hc260 rfl) <| J.nil ?_
   exact ⟨rfl, ⟨(by simp only [hc260]; rfl), trivial⟩, rfl, rfl⟩
 intro ρ
 refine J.nil <| cc rfl h (fun hc261 h => ?_) fun hc261 h => ?_
 · refine cr <| ja (ii 6) rfl <| J.nil <| CJ.ret ?_
   obtain rfl := si h
   exact ⟨_, _, Res.one rfl rfl, ⟨6, rfl, rfl, rfl⟩, (Hp.le_refl _), fun w hs => (Sep.dropAt 0 rfl hs)⟩
 refine CJ.skip <| cr <| ja (ii 0) rfl <| J.nil <| CJ.ret ?_
 obtain rfl := si h
 exact ⟨_, _, Res.one rfl rfl, ⟨0, rfl, rfl, rfl⟩, (Hp.le_refl _), fun w hs => (Sep.dropAt 0 rfl hs)⟩

noncomputable def fn_term_beyond (xa : Int) : Option Unit :=
  some (())
set_option maxRecDepth 100000 in
set_option maxHeartbeats 4000000 in
theorem term_beyond_ok {K : Hp} {xa : Int}   {r : Unit} (h : fn_term_beyond xa = some r) :
    Tr Try.prog 73 #[ii xa] K [] (fun v K' L' => (∃ (b2 : Nat), () = r ∧ .func (.func 85) #[] #[.pointer (some ⟨b2, 0, none⟩)] = v ∧ L' = [Cl b2 3 [ii xa]]) ∧ K = K') := by
 refine Tr.k <| Tr.of Try.func73 rfl Try.ntmps73 rfl fun E F => ?_
 unfold fn_term_beyond at h
 refine cr <| jbx [ii xa] rfl rfl fun b3 => ja .nilFunc rfl <| J.nil <| CJ.seq <| CJ.region ?_
 refine jv (.func (.func 85) #[] #[.pointer (some ⟨b3, 0, none⟩)]) (V.mkf rfl) <| ja (.func (.func 85) #[] #[.pointer (some ⟨b3, 0, none⟩)]) rfl <| J.nil <| CJ.ret ?_
 obtain rfl := si h
 exact ⟨_, _, Res.one rfl rfl, ⟨b3, rfl, rfl, rfl⟩, (Hp.le_refl _), fun w hs => hs⟩

noncomputable def fn_term_beyond_1_ip0_i (xa : Int) (qa0 : Int) : Option Bool :=
  some ((decide (xa < 0)) || (decide (qa0 ≤ xa)))
set_option maxRecDepth 100000 in
set_option maxHeartbeats 4000000 in
theorem term_beyond_1_ip0_i_ok {K : Hp} {xa : Int} {qa0 : Int} {pba : Nat}  {r : Bool} (h : fn_term_beyond_1_ip0_i xa qa0 = some r) :
    Tr Try.prog 85 #[ii xa, .pointer (some ⟨pba, 0, none⟩)] K [Cl pba 3 [ii qa0]] (fun v K' L' => (∃ (t4 : Bool), t4 = r ∧ .bool t4 = v ∧ L' = [Cl pba 3 [ii qa0]]) ∧ K = K') := by
 refine Tr.k <| Tr.of Try.func85 rfl Try.ntmps85 rfl fun E F => ?_
 unfold fn_term_beyond_1_ip0_i at h
 refine cr <| ja (.bool false) rfl <| J.nil <| cr <| jm (ii xa) rfl ?_
 refine jv (.bool (decide (xa < 0))) (V.lss rfl rfl) <| jm (.bool (decide (xa < 0))) rfl <| J.cut 4 <| jmeet [(10, .bool ((decide (xa < 0)) || (decide (qa0 ≤ xa))))] ?_ ?_
 · rcases bt (decide (xa < 0)) with hc7 | hc7
   · refine J.skip rfl rfl rfl rfl hc7 <| J.skip rfl rfl rfl rfl hc7 <| J.skip rfl rfl rfl rfl hc7 <| jv (.bool true) (V.pickT rfl hc7 rfl) <| J.nil ?_
     exact ⟨rfl, ⟨(by simp only [hc7]; rfl), trivial⟩, rfl, rfl⟩
   refine J.run rfl rfl rfl hc7 <| jm (ii xa) rfl <| J.run rfl rfl rfl hc7 <| jv (ii qa0) (V.ld rfl (Ld.sc sc3 (Rd.cl 0 rfl rfl))) <| J.run rfl rfl rfl hc7 <| jv (.bool (decide (qa0 ≤ xa))) (V.geq rfl rfl) <| jv (.bool (decide (qa0 ≤ xa))) (V.pickF rfl hc7 rfl) ?_
   refine J.nil ?_
   exact ⟨rfl, ⟨(by simp only [hc7]; rfl), trivial⟩, rfl, rfl⟩
 intro ρ
 refine ja (.bool ((decide (xa < 0)) || (decide (qa0 ≤ xa)))) rfl <| J.nil <| CJ.ret ?_
 obtain rfl := si h
 exact ⟨_, _, Res.one rfl rfl, ⟨(decide (xa < 0)) || (decide (qa0 ≤ xa)), rfl, rfl, rfl⟩, (Hp.le_refl _), fun w hs => hs⟩
noncomputable def fn_slices_IndexFunc_int_int_k_term_beyond_1_p0_i_l1 (xa : (List Int)) (qa0 : Int) : Int → Option (Int ⊕ (Unit ⊕ Int)) := fun (i201 : Int) => cond (decide (i201 < (((xa.length : Nat) : Int)))) ((getI xa i201).bind fun x225 => (fn_term_beyond_1_ip0_i x225 qa0).bind fun t236 => cond (t236) (some (.inr ((.inr (i201))))) (some (.inl (IntKind.wrap .i64 (i201 + 1))))) (some (.inr ((.inl ()))))
noncomputable def fn_slices_IndexFunc_int_int_k_term_beyond_1_p0_i (xa : (List Int)) (qa0 : Int) : Option Int :=
  (loop (fn_slices_IndexFunc_int_int_k_term_beyond_1_p0_i_l1 xa qa0) 0 : Option (Unit ⊕ Int)).bind fun o => match o with | .inr r => some r | .inl () => some ((-1))
set_option maxRecDepth 100000 in
set_option maxHeartbeats 4000000 in
theorem slices_IndexFunc_int_int_k_term_beyond_1_p0_i_ok {K : Hp} {xa : (List Int)} {qa0 : Int} {pba : Nat} {adxa_0 : Option Addr} {cpxa_0 : Nat} (fxa_0 : Is K (.sl (.int .i64)) [.slice adxa_0 xa.length cpxa_0] xa) {r : Int} (h : fn_slices_IndexFunc_int_int_k_term_beyond_1_p0_i xa qa0 = some r) :
    Tr Try.prog 86 #[.slice adxa_0 xa.length cpxa_0, .func (.func 85) #[] #[.pointer (some ⟨pba, 0, none⟩)]] K [Cl pba 3 [ii qa0]] (fun v K' L' => (∃ (i122 : Int), i122 = r ∧ ii i122 = v ∧ L' = [Cl pba 3 [ii qa0]]) ∧ K = K') := by
 refine Tr.k <| Tr.of Try.func86 rfl Try.ntmps86 rfl fun E F => ?_
 unfold fn_slices_IndexFunc_int_int_k_term_beyond_1_p0_i at h
 refine cr <| ja (ii 0) rfl <| J.nil <| CJ.seq <| CJ.seq <| CJ.region ?_
 refine jm (.slice adxa_0 xa.length cpxa_0) rfl <| jv (ii (((xa.length : Nat) : Int))) (V.len Try.underlying54 rfl) <| jm (ii 0) rfl <| J.nil ?_
 obtain ⟨o181, ho182, h⟩ := ob h
 refine CJ.joinN (o := o181) (fun s ρ K' L' => () = s ∧ Fits [] ρ ∧ K = K' ∧ L' = Cl pba 3 [ii qa0] :: F) ?_ ?_
 · refine CJ.block <| CJ.loop (fun s ρ K' L' => ∃ (i201 : Int), i201 = s ∧ Fits [(0, .slice adxa_0 xa.length cpxa_0), (1, .func (.func 85) #[] #[.pointer (some ⟨pba, 0, none⟩)]), (7, ii (((xa.length : Nat) : Int))), (8, ii i201)] ρ ∧ K = K' ∧ L' = Cl pba 3 [ii qa0] :: F) ho182 ⟨0, rfl, ⟨rfl, rfl, rfl, rfl, trivial⟩, rfl, rfl⟩ ?_
   rintro s ρ _ _ r223 ⟨i201, rfl, hf221, rfl, rfl⟩ h220
   obtain ⟨ρ, rfl⟩ := hf221.ex
   refine cr <| jv (.bool (decide (i201 < (((xa.length : Nat) : Int))))) (V.lss rfl rfl) <| J.nil <| CJ.seq <| cc rfl h220 (fun hc224 h220 => ?_) fun hc224 h220 => ?_
   · refine CJ.skip <| CJ.seq <| CJ.block <| cr <| jm (ii i201) rfl <| ja (ii i201) rfl ?_
     refine J.nil <| cr <| jm (.func (.func 85) #[] #[.pointer (some ⟨pba, 0, none⟩)]) rfl <| jm (.slice adxa_0 xa.length cpxa_0) rfl <| jm (ii i201) rfl ?_
     obtain ⟨x225, hx226, h220⟩ := ob h220
     obtain ⟨p227, p228, p229⟩ := getI_some hx226
     obtain ⟨b230, o231, e232, a233⟩ := (fxa_0).at p228
     refine jv _ (V.iad Try.underlying54 sz3 rfl e232 rfl p227 p229) <| jv (ii x225) (V.ld rfl (Ld.sc sc3 (Rd.k (a233).int (Hp.le_refl _)))) ?_
     obtain ⟨r234, hr235, h220⟩ := ob h220
     refine J.op rfl (A.call (L1 := [Cl pba 3 [ii qa0]]) Try.call85 rfl (term_beyond_1_ip0_i_ok hr235) rfl rfl) ?_
     rintro _ _ _ ⟨v237, _, rfl, ⟨⟨t236, rfl, rfl, rfl⟩, rfl⟩, _, rfl⟩
     refine J.nil <| cc rfl h220 (fun hc240 h220 => ?_) fun hc240 h220 => ?_
     · refine cr <| jm (ii i201) rfl <| ja (ii i201) rfl <| J.nil <| CJ.ret ?_
       obtain rfl := si h220
       refine ⟨nofun, fun e => ?_⟩
       subst e
       refine .inr ⟨nofun, ?_⟩
       obtain rfl := si h
       exact ⟨_, _, Res.one rfl rfl, ⟨i201, rfl, rfl, rfl⟩, (Hp.le_refl _), fun w hs => hs⟩
     refine CJ.skip <| CJ.region <| jv (ii (IntKind.wrap .i64 (i201 + 1))) (V.add rfl rfl) <| jm (ii (IntKind.wrap .i64 (i201 + 1))) rfl <| J.nil ?_
     obtain rfl := si h220
     exact ⟨rfl, ⟨IntKind.wrap .i64 (i201 + 1), rfl, ⟨rfl, rfl, rfl, rfl, trivial⟩, rfl, rfl⟩⟩
   refine CJ.exit ?_
   obtain rfl := si h220
   refine ⟨nofun, fun e => ?_⟩
   subst e
   exact .inl ⟨rfl, _, rfl, ⟨rfl, trivial, rfl, rfl⟩⟩
 rintro s ρ _ _ ho241 ⟨rfl, hf242, rfl, rfl⟩
 subst ho241
 obtain ⟨ρ, rfl⟩ := hf242.ex
 refine PJ.done <| cr <| ja (ii (-1)) rfl <| J.nil <| CJ.ret ?_
 obtain rfl := si h
 exact ⟨_, _, Res.one rfl rfl, ⟨(-1), rfl, rfl, rfl⟩, (Hp.le_refl _), fun w hs => hs⟩

noncomputable def fn_slices_ContainsFunc_int_int_k_term_beyond_1_p0_i (xa : (List Int)) (qa0 : Int) : Option Bool :=
  (fn_slices_IndexFunc_int_int_k_term_beyond_1_p0_i xa qa0).bind fun i10 => some (decide (0 ≤ i10))
set_option maxRecDepth 100000 in
set_option maxHeartbeats 4000000 in
theorem slices_ContainsFunc_int_int_k_term_beyond_1_p0_i_ok {K : Hp} {xa : (List Int)} {qa0 : Int} {pba : Nat} {adxa_0 : Option Addr} {cpxa_0 : Nat} (fxa_0 : Is K (.sl (.int .i64)) [.slice adxa_0 xa.length cpxa_0] xa) {r : Bool} (h : fn_slices_ContainsFunc_int_int_k_term_beyond_1_p0_i xa qa0 = some r) :
    Tr Try.prog 74 #[.slice adxa_0 xa.length cpxa_0, .func (.func 85) #[] #[.pointer (some ⟨pba, 0, none⟩)]] K [Cl pba 3 [ii qa0]] (fun v K' L' => (∃ (t7 : Bool), t7 = r ∧ .bool t7 = v ∧ L' = [Cl pba 3 [ii qa0]]) ∧ K = K') := by
 refine Tr.k <| Tr.of Try.func74 rfl Try.ntmps74 rfl fun E F => ?_
 unfold fn_slices_ContainsFunc_int_int_k_term_beyond_1_p0_i at h
 refine cr <| ja (.bool false) rfl <| J.nil <| cr <| jm (.slice adxa_0 xa.length cpxa_0) rfl ?_
 refine jm (.func (.func 85) #[] #[.pointer (some ⟨pba, 0, none⟩)]) rfl ?_
 obtain ⟨r8, hr9, h⟩ := ob h
 refine J.op rfl (A.call (L1 := [Cl pba 3 [ii qa0]]) Try.call86 rfl (slices_IndexFunc_int_int_k_term_beyond_1_p0_i_ok fxa_0 hr9) rfl rfl) ?_
 rintro _ _ _ ⟨v11, _, rfl, ⟨⟨i10, rfl, rfl, rfl⟩, rfl⟩, _, rfl⟩
 refine jv (.bool (decide (0 ≤ i10))) (V.geq rfl rfl) <| ja (.bool (decide (0 ≤ i10))) rfl <| J.nil <| CJ.ret ?_
 obtain rfl := si h
 exact ⟨_, _, Res.one rfl rfl, ⟨decide (0 ≤ i10), rfl, rfl, rfl⟩, (Hp.le_refl _), fun w hs => hs⟩

noncomputable def fn_term_within (xa : (Int × Int × Int × (List Int) × (List Int) × (List Int))) (xb : (Int × Int × (List (List (Int × Bool))) × (List (Int × Bool)) × (List (Int × (List (Int × Int)) × (List (List (Int × Bool))) × (List (Int × Bool)))))) : Option Bool :=
  (fn_term_beyond (((xb.2.2.1.length : Nat) : Int))).bind fun _ => (fn_term_beyond xb.1).bind fun _ => (fn_slices_ContainsFunc_int_int_k_term_beyond_1_p0_i xa.2.2.2.1 xb.1).bind fun t163 => cond (t163) (some (false)) ((fn_slices_ContainsFunc_int_int_k_term_beyond_1_p0_i xa.2.2.2.2.1 ((((xb.2.2.1.length : Nat) : Int)))).bind fun t170 => cond (t170) (some (false)) ((fn_term_beyond xb.2.1).bind fun _ => (fn_slices_ContainsFunc_int_int_k_term_beyond_1_p0_i xa.2.2.2.2.2 xb.2.1).bind fun t183 => cond (t183) (some (false)) (cond (!decide (xa.1 = 4)) (some (true)) ((fn_term_beyond_1_ip0_i xa.2.2.1 (((((xb.2.2.1.length : Nat) : Int))))).bind fun t211 => cond (!t211) ((fn_term_beyond (((xb.2.2.2.2.length : Nat) : Int))).bind fun _ => (fn_term_beyond_1_ip0_i xa.2.1 ((((xb.2.2.2.2.length : Nat) : Int)))).bind fun t224 => some (!t224)) (some (false))))))
set_option maxRecDepth 100000 in
set_option maxHeartbeats 4000000 in
theorem term_within_ok {K : Hp} {xa : (Int × Int × Int × (List Int) × (List Int) × (List Int))} {xb : (Int × Int × (List (List (Int × Bool))) × (List (Int × Bool)) × (List (Int × (List (Int × Int)) × (List (List (Int × Bool))) × (List (Int × Bool)))))} {adxa_3 : Option Addr} {cpxa_3 : Nat} {adxa_4 : Option Addr} {cpxa_4 : Nat} {adxa_5 : Option Addr} {cpxa_5 : Nat} {adxb_2 : Option Addr} {cpxb_2 : Nat} {adxb_3 : Option Addr} {cpxb_3 : Nat} {adxb_4 : Option Addr} {cpxb_4 : Nat} (fxa_3 : Is K (.sl (.int .i64)) [.slice adxa_3 xa.2.2.2.1.length cpxa_3] xa.2.2.2.1) (fxa_4 : Is K (.sl (.int .i64)) [.slice adxa_4 xa.2.2.2.2.1.length cpxa_4] xa.2.2.2.2.1) (fxa_5 : Is K (.sl (.int .i64)) [.slice adxa_5 xa.2.2.2.2.2.length cpxa_5] xa.2.2.2.2.2) (fxb_2 : Is K (.sl (.one (.sl (.cons (.int .i64) (.one .bool))))) [.slice adxb_2 xb.2.2.1.length cpxb_2] xb.2.2.1) (fxb_3 : Is K (.sl (.cons (.int .i64) (.one .bool))) [.slice adxb_3 xb.2.2.2.1.length cpxb_3] xb.2.2.2.1) (fxb_4 : Is K (.sl (.cons (.int .i64) (.cons (.sl (.cons (.int .i64) (.one (.int .i64)))) (.cons (.sl (.one (.sl (.cons (.int .i64) (.one .bool))))) (.one (.one (.sl (.cons (.int .i64) (.one .bool))))))))) [.slice adxb_4 xb.2.2.2.2.length cpxb_4] xb.2.2.2.2) {r : Bool} (h : fn_term_within xa xb = some r) :
    Tr Try.prog 57 #[.agg #[ii xa.1, ii xa.2.1, ii xa.2.2.1, .slice adxa_3 xa.2.2.2.1.length cpxa_3, .slice adxa_4 xa.2.2.2.2.1.length cpxa_4, .slice adxa_5 xa.2.2.2.2.2.length cpxa_5], .agg #[ii xb.1, ii xb.2.1, .slice adxb_2 xb.2.2.1.length cpxb_2, .slice adxb_3 xb.2.2.2.1.length cpxb_3, .slice adxb_4 xb.2.2.2.2.length cpxb_4]] K [] (fun v K' L' => (∃ (t114 : Bool), t114 = r ∧ .bool t114 = v ∧ L' = []) ∧ K = K') := by
 refine Tr.k <| Tr.of Try.func57 rfl Try.ntmps57 rfl fun E F => ?_
 unfold fn_term_within at h
 refine cr <| jbx [ii xa.1, ii xa.2.1, ii xa.2.2.1, .slice adxa_3 xa.2.2.2.1.length cpxa_3, .slice adxa_4 xa.2.2.2.2.1.length cpxa_4, .slice adxa_5 xa.2.2.2.2.2.length cpxa_5] rfl rfl fun b115 => jbx [ii xb.1, ii xb.2.1, .slice adxb_2 xb.2.2.1.length cpxb_2, .slice adxb_3 xb.2.2.2.1.length cpxb_3, .slice adxb_4 xb.2.2.2.2.length cpxb_4] rfl rfl fun b116 => ja (.bool false) rfl <| J.nil <| CJ.seq ?_
 refine CJ.region <| jv _ (V.fad Try.underlying111 rfl nz27 rfl) <| jv (.slice adxb_2 xb.2.2.1.length cpxb_2) (V.ld rfl (Ld.sc sc27 (Rd.cl 0 rfl rfl))) <| jv (ii (((xb.2.2.1.length : Nat) : Int))) (V.len Try.underlying27 rfl) ?_
 obtain ⟨r117, hr118, h⟩ := ob h
 refine J.op rfl (A.call (L1 := []) Try.call73 rfl (term_beyond_ok hr118) rfl rfl) ?_
 rintro _ _ _ ⟨v120, _, rfl, ⟨⟨b119, rfl, rfl, rfl⟩, rfl⟩, _, rfl⟩
 refine ja (.func (.func 85) #[] #[.pointer (some ⟨b119, 0, none⟩)]) rfl <| J.nil <| CJ.seq <| CJ.seq <| CJ.mix [Cl b116 111 [ii xb.1, ii xb.2.1, .slice adxb_2 xb.2.2.1.length cpxb_2, .slice adxb_3 xb.2.2.2.1.length cpxb_3, .slice adxb_4 xb.2.2.2.2.length cpxb_4], Cl b115 56 [ii xa.1, ii xa.2.1, ii xa.2.2.1, .slice adxa_3 xa.2.2.2.1.length cpxa_3, .slice adxa_4 xa.2.2.2.2.1.length cpxa_4, .slice adxa_5 xa.2.2.2.2.2.length cpxa_5]] [([0, 1, 2, 3], 4), ([], 5), ([6, 7, 8, 9], 10), ([11, 12, 13, 14, 15, 16], 17), ([], 18)] [19] [] mixO (by decide +kernel) ⟨1, rfl, 1, rfl, trivial⟩ rfl rfl rfl <| JM.cons <| qv _ (V.fad Try.underlying56 rfl nz54 rfl) ?_
 refine qv (.slice adxa_3 xa.2.2.2.1.length cpxa_3) (V.ld rfl (Ld.sc sc54 (Rd.cl 1 rfl rfl))) <| qv _ (V.fad Try.underlying111 rfl nz3 rfl) <| qv (ii xb.1) (V.ld rfl (Ld.sc sc3 (Rd.cl 0 rfl rfl))) <| JQ.nil ?_
 obtain ⟨r155, hr156, h⟩ := ob h
 refine JA.op rfl (A.call (L1 := []) Try.call73 rfl (term_beyond_ok hr156) rfl rfl) ?_
 rintro _ _ _ ⟨v158, _, rfl, ⟨⟨b157, rfl, rfl, rfl⟩, rfl⟩, _, rfl⟩
 refine ⟨fun w hs => Hold.sub (Hp.le_refl _) ⟨2, rfl, 2, rfl, trivial⟩ hs, ?_⟩
 refine JM.cons <| JQ.nil ?_
 obtain ⟨r161, hr162, h⟩ := ob h
 refine JA.op rfl (A.call (L1 := [Cl b157 3 [ii xb.1]]) Try.call74 rfl (slices_ContainsFunc_int_int_k_term_beyond_1_p0_i_ok fxa_3 hr162) rfl rfl) ?_
 rintro _ _ _ ⟨v164, _, rfl, ⟨⟨t163, rfl, rfl, rfl⟩, rfl⟩, _, rfl⟩
 refine ⟨fun w hs => Hold.sub (Hp.le_refl _) ⟨2, rfl, 2, rfl, trivial⟩ hs, ?_⟩
 refine JM.cons <| qm (.bool t163) rfl ?_
 rcases bt (t163) with hc167 | hc167
 · have h := ct hc167 h
   refine JQ.skip rfl rfl rfl rfl hc167 <| JQ.skip rfl rfl rfl rfl hc167 <| JQ.skip rfl rfl rfl rfl hc167 <| JQ.nil <| JA.skip rfl rfl rfl rfl hc167 <| JM.cons <| qv (.bool true) (V.pickT rfl hc167 rfl) ?_
   refine qm (.bool true) rfl <| JQ.skip rfl rfl rfl rfl rfl <| JQ.skip rfl rfl rfl rfl rfl <| JQ.skip rfl rfl rfl rfl rfl <| JQ.skip rfl rfl rfl rfl rfl <| JQ.nil <| JA.skip rfl rfl rfl rfl rfl ?_
   refine JM.cons <| JQ.nil <| JA.skip rfl rfl rfl rfl rfl <| JM.nil <| qv (.bool true) (V.pickT rfl rfl rfl) <| JQ.nil <| J.nil ?_
   refine CJ.condK (b := true) rfl rfl <| cr <| ja (.bool false) rfl <| J.nil <| CJ.ret ?_
   obtain rfl := si h
   exact ⟨_, _, Res.one rfl rfl, ⟨false, rfl, rfl, rfl⟩, (Hp.le_refl _), fun w hs => (Sep.dropAt 0 rfl (Sep.dropAt 0 rfl (Sep.dropAt 0 rfl (Sep.dropAt 0 rfl hs))))⟩
 have h := cf hc167 h
 refine JQ.run rfl rfl rfl hc167 <| qv _ (V.fad Try.underlying56 rfl nz54 rfl) <| JQ.run rfl rfl rfl hc167 <| qv (.slice adxa_4 xa.2.2.2.2.1.length cpxa_4) (V.ld rfl (Ld.sc sc54 (Rd.cl 1 rfl rfl))) <| JQ.run rfl rfl rfl hc167 <| qm (.func (.func 85) #[] #[.pointer (some ⟨b119, 0, none⟩)]) rfl <| JQ.nil ?_
 refine JA.run rfl rfl rfl hc167 ?_
 obtain ⟨r168, hr169, h⟩ := ob h
 refine JA.front 1 rfl <| JA.op rfl (A.call (L1 := [Cl b119 3 [ii ((((xb.2.2.1.length : Nat) : Int)))]]) Try.call74 rfl (slices_ContainsFunc_int_int_k_term_beyond_1_p0_i_ok fxa_4 hr169) rfl rfl) ?_
 rintro _ _ _ ⟨v171, _, rfl, ⟨⟨t170, rfl, rfl, rfl⟩, rfl⟩, _, rfl⟩
 refine ⟨fun w hs => Hold.sub (Hp.le_refl _) ⟨2, rfl, 2, rfl, trivial⟩ hs, ?_⟩
 refine JM.cons <| qv (.bool t170) (V.pickF rfl hc167 rfl) <| qm (.bool t170) rfl ?_
 rcases bt (t170) with hc174 | hc174
 · have h := ct hc174 h
   refine JQ.skip rfl rfl rfl rfl hc174 <| JQ.skip rfl rfl rfl rfl hc174 <| JQ.skip rfl rfl rfl rfl hc174 <| JQ.skip rfl rfl rfl rfl hc174 <| JQ.nil <| JA.skip rfl rfl rfl rfl hc174 <| JM.cons ?_
   refine JQ.nil <| JA.skip rfl rfl rfl rfl hc174 <| JM.nil <| qv (.bool true) (V.pickT rfl hc174 rfl) <| JQ.nil <| J.nil <| CJ.condK (b := true) rfl rfl ?_
   refine cr <| ja (.bool false) rfl <| J.nil <| CJ.ret ?_
   obtain rfl := si h
   exact ⟨_, _, Res.one rfl rfl, ⟨false, rfl, rfl, rfl⟩, (Hp.le_refl _), fun w hs => (Sep.dropAt 0 rfl (Sep.dropAt 0 rfl (Sep.dropAt 0 rfl (Sep.dropAt 0 rfl hs))))⟩
 have h := cf hc174 h
 refine JQ.run rfl rfl rfl hc174 <| qv _ (V.fad Try.underlying56 rfl nz54 rfl) <| JQ.run rfl rfl rfl hc174 <| qv (.slice adxa_5 xa.2.2.2.2.2.length cpxa_5) (V.ld rfl (Ld.sc sc54 (Rd.cl 1 rfl rfl))) <| JQ.run rfl rfl rfl hc174 <| qv _ (V.fad Try.underlying111 rfl nz3 rfl) <| JQ.run rfl rfl rfl hc174 ?_
 refine qv (ii xb.2.1) (V.ld rfl (Ld.sc sc3 (Rd.cl 0 rfl rfl))) <| JQ.nil <| JA.run rfl rfl rfl hc174 ?_
 obtain ⟨r175, hr176, h⟩ := ob h
 refine JA.op rfl (A.call (L1 := []) Try.call73 rfl (term_beyond_ok hr176) rfl rfl) ?_
 rintro _ _ _ ⟨v178, _, rfl, ⟨⟨b177, rfl, rfl, rfl⟩, rfl⟩, _, rfl⟩
 refine ⟨fun w hs => Hold.sub (Hp.le_refl _) ⟨3, rfl, 3, rfl, trivial⟩ hs, ?_⟩
 refine JM.cons <| JQ.nil <| JA.run rfl rfl rfl hc174 ?_
 obtain ⟨r181, hr182, h⟩ := ob h
 refine JA.op rfl (A.call (L1 := [Cl b177 3 [ii xb.2.1]]) Try.call74 rfl (slices_ContainsFunc_int_int_k_term_beyond_1_p0_i_ok fxa_5 hr182) rfl rfl) ?_
 rintro _ _ _ ⟨v184, _, rfl, ⟨⟨t183, rfl, rfl, rfl⟩, rfl⟩, _, rfl⟩
 refine ⟨fun w hs => Hold.sub (Hp.le_refl _) ⟨3, rfl, 3, rfl, trivial⟩ hs, ?_⟩
 refine JM.nil <| qv (.bool t183) (V.pickF rfl hc174 rfl) <| JQ.nil <| J.nil <| cc rfl h (fun hc187 h => ?_) fun hc187 h => ?_
 · refine cr <| ja (.bool false) rfl <| J.nil <| CJ.ret ?_
   obtain rfl := si h
   exact ⟨_, _, Res.one rfl rfl, ⟨false, rfl, rfl, rfl⟩, (Hp.le_refl _), fun w hs => (Sep.dropAt 0 rfl (Sep.dropAt 0 rfl (Sep.dropAt 0 rfl (Sep.dropAt 0 rfl (Sep.dropAt 0 rfl hs)))))⟩
 refine CJ.skip <| CJ.seq <| CJ.mix [Cl b177 3 [ii xb.2.1], Cl b157 3 [ii xb.1], Cl b116 111 [ii xb.1, ii xb.2.1, .slice adxb_2 xb.2.2.1.length cpxb_2, .slice adxb_3 xb.2.2.2.1.length cpxb_3, .slice adxb_4 xb.2.2.2.2.length cpxb_4], Cl b115 56 [ii xa.1, ii xa.2.1, ii xa.2.2.1, .slice adxa_3 xa.2.2.2.1.length cpxa_3, .slice adxa_4 xa.2.2.2.2.1.length cpxa_4, .slice adxa_5 xa.2.2.2.2.2.length cpxa_5]] [([0, 1, 2, 3, 4, 5, 6], 7), ([8, 9, 10, 11, 12, 14, 15], 13), ([], 16)] [17, 18, 19, 20] [] mixO (by decide +kernel) ⟨0, rfl, 1, rfl, 1, rfl, 1, rfl, trivial⟩ rfl rfl rfl <| JM.cons <| qv _ (V.fad Try.underlying56 rfl nz3 rfl) <| qv (ii xa.1) (V.ld rfl (Ld.sc sc3 (Rd.cl 3 rfl rfl))) <| qv (.bool (!decide (xa.1 = 4))) (V.neq rfl rfl) ?_
 refine qm (.bool (!decide (xa.1 = 4))) rfl ?_
 rcases bt (!decide (xa.1 = 4)) with hc208 | hc208
 · have h := ct hc208 h
   refine JQ.skip rfl rfl rfl rfl hc208 <| JQ.skip rfl rfl rfl rfl hc208 <| JQ.skip rfl rfl rfl rfl hc208 <| JQ.nil <| JA.skip rfl rfl rfl rfl hc208 <| JM.cons <| JQ.skip rfl rfl rfl rfl hc208 ?_
   refine JQ.skip rfl rfl rfl rfl hc208 <| JQ.skipu rfl rfl rfl rfl <| JQ.skipu rfl rfl rfl rfl <| JQ.skipu rfl rfl rfl rfl <| JQ.skipu rfl rfl rfl rfl <| JQ.skipu rfl rfl rfl rfl <| JQ.nil ?_
   refine JA.skipu rfl rfl rfl rfl <| JM.cons <| JQ.nil <| JA.skipu rfl rfl rfl rfl <| JM.nil <| JQ.skipu rfl rfl rfl rfl <| JQ.skip rfl rfl rfl rfl hc208 ?_
   refine qv (.bool true) (V.pickT rfl hc208 rfl) <| qa (.bool true) rfl <| JQ.nil <| J.nil <| CJ.ret ?_
   obtain rfl := si h
   exact ⟨_, _, Res.one rfl rfl, ⟨true, rfl, rfl, rfl⟩, (Hp.le_refl _), fun w hs => (Sep.dropAt 0 rfl (Sep.dropAt 0 rfl (Sep.dropAt 0 rfl (Sep.dropAt 0 rfl (Sep.dropAt 0 rfl hs)))))⟩
 have h := cf hc208 h
 refine JQ.run rfl rfl rfl hc208 <| qm (.func (.func 85) #[] #[.pointer (some ⟨b119, 0, none⟩)]) rfl <| JQ.run rfl rfl rfl hc208 <| qv _ (V.fad Try.underlying56 rfl nz3 rfl) <| JQ.run rfl rfl rfl hc208 <| qv (ii xa.2.2.1) (V.ld rfl (Ld.sc sc3 (Rd.cl 3 rfl rfl))) <| JQ.nil ?_
 refine JA.run rfl rfl rfl hc208 ?_
 obtain ⟨r209, hr210, h⟩ := ob h
 refine JA.front 1 rfl <| JA.op rfl (A.call (L1 := [Cl b119 3 [ii (((((xb.2.2.1.length : Nat) : Int))))]]) Try.call85 rfl (term_beyond_1_ip0_i_ok hr210) rfl rfl) ?_
 rintro _ _ _ ⟨v212, _, rfl, ⟨⟨t211, rfl, rfl, rfl⟩, rfl⟩, _, rfl⟩
 refine ⟨fun w hs => Hold.sub (Hp.le_refl _) ⟨1, rfl, 1, rfl, 1, rfl, 1, rfl, trivial⟩ hs, ?_⟩
 refine JM.cons <| JQ.run rfl rfl rfl hc208 <| qv (.bool (!t211)) (V.not rfl) <| JQ.run rfl rfl rfl hc208 <| qm (.bool (!t211)) rfl ?_
 rcases bt (!t211) with hc215 | hc215
 · have h := ct hc215 h
   refine JQ.run rfl rfl rfl hc215 <| qv _ (V.fad Try.underlying111 rfl nz31 rfl) <| JQ.run rfl rfl rfl hc215 <| qv (.slice adxb_4 xb.2.2.2.2.length cpxb_4) (V.ld rfl (Ld.sc sc31 (Rd.cl 2 rfl rfl))) <| JQ.run rfl rfl rfl hc215 <| qv (ii (((xb.2.2.2.2.length : Nat) : Int))) (V.len Try.underlying31 rfl) <| JQ.run rfl rfl rfl hc215 ?_
   refine qv _ (V.fad Try.underlying56 rfl nz3 rfl) <| JQ.run rfl rfl rfl hc215 <| qv (ii xa.2.1) (V.ld rfl (Ld.sc sc3 (Rd.cl 3 rfl rfl))) <| JQ.nil <| JA.run rfl rfl rfl hc215 ?_
   obtain ⟨r216, hr217, h⟩ := ob h
   refine JA.op rfl (A.call (L1 := []) Try.call73 rfl (term_beyond_ok hr217) rfl rfl) ?_
   rintro _ _ _ ⟨v219, _, rfl, ⟨⟨b218, rfl, rfl, rfl⟩, rfl⟩, _, rfl⟩
   refine ⟨fun w hs => Hold.sub (Hp.le_refl _) ⟨2, rfl, 2, rfl, 2, rfl, 2, rfl, trivial⟩ hs, ?_⟩
   refine JM.cons <| JQ.nil <| JA.run rfl rfl rfl hc215 ?_
   obtain ⟨r222, hr223, h⟩ := ob h
   refine JA.op rfl (A.call (L1 := [Cl b218 3 [ii ((((xb.2.2.2.2.length : Nat) : Int)))]]) Try.call85 rfl (term_beyond_1_ip0_i_ok hr223) rfl rfl) ?_
   rintro _ _ _ ⟨v225, _, rfl, ⟨⟨t224, rfl, rfl, rfl⟩, rfl⟩, _, rfl⟩
   refine ⟨fun w hs => Hold.sub (Hp.le_refl _) ⟨2, rfl, 2, rfl, 2, rfl, 2, rfl, trivial⟩ hs, ?_⟩
   refine JM.nil <| JQ.run rfl rfl rfl hc215 <| qv (.bool (!t224)) (V.not rfl) <| JQ.run rfl rfl rfl hc208 <| qv (.bool (!t224)) (V.pickT rfl hc215 rfl) <| qv (.bool (!t224)) (V.pickF rfl hc208 rfl) <| qa (.bool (!t224)) rfl ?_
   refine JQ.nil <| J.nil <| CJ.ret ?_
   obtain rfl := si h
   exact ⟨_, _, Res.one rfl rfl, ⟨!t224, rfl, rfl, rfl⟩, (Hp.le_refl _), fun w hs => (Sep.dropAt 0 rfl (Sep.dropAt 0 rfl (Sep.dropAt 0 rfl (Sep.dropAt 0 rfl (Sep.dropAt 0 rfl (Sep.dropAt 0 rfl hs))))))⟩
 have h := cf hc215 h
 refine JQ.skip rfl rfl rfl rfl hc215 <| JQ.skip rfl rfl rfl rfl hc215 <| JQ.skip rfl rfl rfl rfl hc215 <| JQ.skip rfl rfl rfl rfl hc215 <| JQ.skip rfl rfl rfl rfl hc215 <| JQ.nil <| JA.skip rfl rfl rfl rfl hc215 ?_
 refine JM.cons <| JQ.nil <| JA.skip rfl rfl rfl rfl hc215 <| JM.nil <| JQ.skip rfl rfl rfl rfl hc215 <| JQ.run rfl rfl rfl hc208 <| qv (.bool false) (V.pickF rfl hc215 rfl) ?_
 refine qv (.bool false) (V.pickF rfl hc208 rfl) <| qa (.bool false) rfl <| JQ.nil <| J.nil <| CJ.ret ?_
 obtain rfl := si h
 exact ⟨_, _, Res.one rfl rfl, ⟨false, rfl, rfl, rfl⟩, (Hp.le_refl _), fun w hs => (Sep.dropAt 0 rfl (Sep.dropAt 0 rfl (Sep.dropAt 0 rfl (Sep.dropAt 0 rfl (Sep.dropAt 0 rfl hs)))))⟩
noncomputable def fn_sig_callable_l1 (xa : (Int × (List (Int × Int)) × (List (List (Int × Bool))) × (List (Int × Bool)))) (xc : (List (List (Int × Bool)))) : Int → Option (Int ⊕ (Unit ⊕ Int)) := fun (i604 : Int) => cond (decide (i604 < (((xa.2.2.1.length : Nat) : Int)))) ((getI xa.2.2.1 i604).bind fun x665 => (getI xc i604).bind fun x698 => (fn_row_Shape x698 x665).bind fun t713 => cond (!t713) (some (.inr ((.inr (8))))) (some (.inl (IntKind.wrap .i64 (i604 + 1))))) (some (.inr ((.inl ()))))
noncomputable def fn_sig_callable (xa : (Int × (List (Int × Int)) × (List (List (Int × Bool))) × (List (Int × Bool)))) (xb : (List Int)) (xc : (List (List (Int × Bool)))) (xd : (List (Int × Bool))) : Option Int :=
  (fn_sig_Check (xa.1, xa.2.1, xa.2.2.1, xa.2.2.2)).bind fun i369 => cond (!decide (i369 = 0)) (some (i369)) (cond ((!decide ((((xb.length : Nat) : Int)) = xa.1)) || (!decide ((((xc.length : Nat) : Int)) = (((xa.2.2.1.length : Nat) : Int))))) (some (2)) ((loop (fn_sig_callable_l1 xa xc) 0 : Option (Unit ⊕ Int)).bind fun o => match o with | .inr r => some r | .inl () => (fn_row_Shape xd xa.2.2.2).bind fun t723 => cond (!t723) (some (8)) (some (0))))
set_option maxRecDepth 100000 in
set_option maxHeartbeats 4000000 in
theorem sig_callable_ok {K : Hp} {xa : (Int × (List (Int × Int)) × (List (List (Int × Bool))) × (List (Int × Bool)))} {xb : (List Int)} {xc : (List (List (Int × Bool)))} {xd : (List (Int × Bool))} {adxa_1 : Option Addr} {cpxa_1 : Nat} {adxa_2 : Option Addr} {cpxa_2 : Nat} {adxa_3 : Option Addr} {cpxa_3 : Nat} {adxb_0 : Option Addr} {cpxb_0 : Nat} {adxc_0 : Option Addr} {cpxc_0 : Nat} {adxd_0 : Option Addr} {cpxd_0 : Nat} (fxa_1 : Is K (.sl (.cons (.int .i64) (.one (.int .i64)))) [.slice adxa_1 xa.2.1.length cpxa_1] xa.2.1) (fxa_2 : Is K (.sl (.one (.sl (.cons (.int .i64) (.one .bool))))) [.slice adxa_2 xa.2.2.1.length cpxa_2] xa.2.2.1) (fxa_3 : Is K (.sl (.cons (.int .i64) (.one .bool))) [.slice adxa_3 xa.2.2.2.length cpxa_3] xa.2.2.2) (fxb_0 : Is K (.sl (.int .i64)) [.slice adxb_0 xb.length cpxb_0] xb) (fxc_0 : Is K (.sl (.one (.sl (.cons (.int .i64) (.one .bool))))) [.slice adxc_0 xc.length cpxc_0] xc) (fxd_0 : Is K (.sl (.cons (.int .i64) (.one .bool))) [.slice adxd_0 xd.length cpxd_0] xd) {r : Int} (h : fn_sig_callable xa xb xc xd = some r) :
    Tr Try.prog 75 #[.agg #[ii xa.1, .slice adxa_1 xa.2.1.length cpxa_1, .slice adxa_2 xa.2.2.1.length cpxa_2, .slice adxa_3 xa.2.2.2.length cpxa_3], .slice adxb_0 xb.length cpxb_0, .slice adxc_0 xc.length cpxc_0, .agg #[.slice adxd_0 xd.length cpxd_0]] K [] (fun v K' L' => (∃ (i364 : Int), i364 = r ∧ ii i364 = v ∧ L' = []) ∧ K = K') := by
 refine Tr.k <| Tr.of Try.func75 rfl Try.ntmps75 rfl fun E F => ?_
 unfold fn_sig_callable at h
 refine cr <| jbx [ii xa.1, .slice adxa_1 xa.2.1.length cpxa_1, .slice adxa_2 xa.2.2.1.length cpxa_2, .slice adxa_3 xa.2.2.2.length cpxa_3] rfl rfl fun b365 => jbx [.slice adxd_0 xd.length cpxd_0] rfl rfl fun b366 => ja (ii 0) rfl <| J.nil <| CJ.seq ?_
 refine cr <| jv (.agg #[ii xa.1, .slice adxa_1 xa.2.1.length cpxa_1, .slice adxa_2 xa.2.2.1.length cpxa_2, .slice adxa_3 xa.2.2.2.length cpxa_3]) (V.ld rfl (Ld.agg (cs := [ii xa.1, .slice adxa_1 xa.2.1.length cpxa_1, .slice adxa_2 xa.2.2.1.length cpxa_2, .slice adxa_3 xa.2.2.2.length cpxa_3]) Try.underlying135 sz135 rfl (Rd.cls 1 0 rfl rfl))) ?_
 obtain ⟨r367, hr368, h⟩ := ob h
 refine J.op rfl (A.call (L1 := []) Try.call64 rfl (sig_Check_ok fxa_1 fxa_2 fxa_3 hr368) rfl rfl) ?_
 rintro _ _ _ ⟨v370, _, rfl, ⟨⟨i369, rfl, rfl, rfl⟩, rfl⟩, _, rfl⟩
 refine ja (ii i369) rfl <| J.nil <| cr <| jm (ii i369) rfl <| jv (.bool (!decide (i369 = 0))) (V.neq rfl rfl) <| J.nil ?_
 refine cc rfl h (fun hc373 h => ?_) fun hc373 h => ?_
 · refine cr <| jm (ii i369) rfl <| ja (ii i369) rfl <| J.nil <| CJ.ret ?_
   obtain rfl := si h
   exact ⟨_, _, Res.one rfl rfl, ⟨i369, rfl, rfl, rfl⟩, (Hp.le_refl _), fun w hs => (Sep.dropAt 0 rfl (Sep.dropAt 0 rfl hs))⟩
 refine CJ.skip <| CJ.seq <| cr <| jm (.slice adxb_0 xb.length cpxb_0) rfl <| jv (ii (((xb.length : Nat) : Int))) (V.len Try.underlying54 rfl) <| jv _ (V.fad Try.underlying135 rfl nz3 rfl) ?_
 refine jv (ii xa.1) (V.ld rfl (Ld.sc sc3 (Rd.cl 1 rfl rfl))) <| jv (.bool (!decide ((((xb.length : Nat) : Int)) = xa.1))) (V.neq rfl rfl) <| jm (.bool (!decide ((((xb.length : Nat) : Int)) = xa.1))) rfl <| J.cut 7 <| jmeet [(29, .bool ((!decide ((((xb.length : Nat) : Int)) = xa.1)) || (!decide ((((xc.length : Nat) : Int)) = (((xa.2.2.1.length : Nat) : Int)))))), (2, .slice adxc_0 xc.length cpxc_0), (4, .pointer (some ⟨b365, 0, none⟩)), (7, .pointer (some ⟨b366, 0, none⟩))] ?_ ?_
 · rcases bt (!decide ((((xb.length : Nat) : Int)) = xa.1)) with hc376 | hc376
   · refine J.skip rfl rfl rfl rfl hc376 <| J.skip rfl rfl rfl rfl hc376 <| J.skip rfl rfl rfl rfl hc376 <| J.skip rfl rfl rfl rfl hc376 <| J.skip rfl rfl rfl rfl hc376 <| J.skip rfl rfl rfl rfl hc376 <| jv (.bool true) (V.pickT rfl hc376 rfl) ?_
     refine J.nil ?_
     exact ⟨rfl, ⟨(by simp only [hc376]; rfl), rfl, rfl, rfl, trivial⟩, rfl, rfl⟩
   refine J.run rfl rfl rfl hc376 <| jm (.slice adxc_0 xc.length cpxc_0) rfl <| J.run rfl rfl rfl hc376 <| jv (ii (((xc.length : Nat) : Int))) (V.len Try.underlying27 rfl) <| J.run rfl rfl rfl hc376 <| jv _ (V.fad Try.underlying135 rfl nz27 rfl) <| J.run rfl rfl rfl hc376 ?_
   refine jv (.slice adxa_2 xa.2.2.1.length cpxa_2) (V.ld rfl (Ld.sc sc27 (Rd.cl 1 rfl rfl))) <| J.run rfl rfl rfl hc376 <| jv (ii (((xa.2.2.1.length : Nat) : Int))) (V.len Try.underlying27 rfl) <| J.run rfl rfl rfl hc376 <| jv (.bool (!decide ((((xc.length : Nat) : Int)) = (((xa.2.2.1.length : Nat) : Int))))) (V.neq rfl rfl) <| jv (.bool (!decide ((((xc.length : Nat) : Int)) = (((xa.2.2.1.length : Nat) : Int))))) (V.pickF rfl hc376 rfl) <| J.nil ?_
   exact ⟨rfl, ⟨(by simp only [hc376]; rfl), rfl, rfl, rfl, trivial⟩, rfl, rfl⟩
 intro ρ
 refine J.nil <| cc rfl h (fun hc377 h => ?_) fun hc377 h => ?_
 · refine cr <| ja (ii 2) rfl <| J.nil <| CJ.ret ?_
   obtain rfl := si h
   exact ⟨_, _, Res.one rfl rfl, ⟨2, rfl, rfl, rfl⟩, (Hp.le_refl _), fun w hs => (Sep.dropAt 0 rfl (Sep.dropAt 0 rfl hs))⟩
 refine CJ.skip <| CJ.seq <| cr <| jv _ (V.fad Try.underlying135 rfl nz27 rfl) <| jv (.slice adxa_2 xa.2.2.1.length cpxa_2) (V.ld rfl (Ld.sc sc27 (Rd.cl 1 rfl rfl))) <| jv (ii (((xa.2.2.1.length : Nat) : Int))) (V.len Try.underlying27 rfl) ?_
 refine jm (ii 0) rfl <| J.nil ?_
 obtain ⟨o547, ho548, h⟩ := ob h
 refine CJ.joinN (o := o547) (fun s ρ K' L' => () = s ∧ Fits [(4, .pointer (some ⟨b365, 0, none⟩)), (7, .pointer (some ⟨b366, 0, none⟩))] ρ ∧ K = K' ∧ L' = Cl b365 135 [ii xa.1, .slice adxa_1 xa.2.1.length cpxa_1, .slice adxa_2 xa.2.2.1.length cpxa_2, .slice adxa_3 xa.2.2.2.length cpxa_3] :: Cl b366 30 [.slice adxd_0 xd.length cpxd_0] :: F) ?_ ?_
 · refine CJ.block <| CJ.front 1 rfl <| CJ.loop (fun s ρ K' L' => ∃ (i604 : Int), i604 = s ∧ Fits [(2, .slice adxc_0 xc.length cpxc_0), (4, .pointer (some ⟨b365, 0, none⟩)), (7, .pointer (some ⟨b366, 0, none⟩)), (31, .slice adxa_2 xa.2.2.1.length cpxa_2), (32, ii (((xa.2.2.1.length : Nat) : Int))), (33, ii i604)] ρ ∧ K = K' ∧ L' = Cl b365 135 [ii xa.1, .slice adxa_1 xa.2.1.length cpxa_1, .slice adxa_2 xa.2.2.1.length cpxa_2, .slice adxa_3 xa.2.2.2.length cpxa_3] :: Cl b366 30 [.slice adxd_0 xd.length cpxd_0] :: F) ho548 ⟨0, rfl, ⟨rfl, rfl, rfl, rfl, rfl, rfl, trivial⟩, rfl, rfl⟩ ?_
   rintro s ρ _ _ r663 ⟨i604, rfl, hf661, rfl, rfl⟩ h660
   obtain ⟨ρ, rfl⟩ := hf661.ex
   refine cr <| jv (.bool (decide (i604 < (((xa.2.2.1.length : Nat) : Int))))) (V.lss rfl rfl) <| J.nil <| CJ.seq <| cc rfl h660 (fun hc664 h660 => ?_) fun hc664 h660 => ?_
   · refine CJ.skip <| CJ.seq <| CJ.block <| cr <| jm (ii i604) rfl ?_
     obtain ⟨x665, hx666, h660⟩ := ob h660
     obtain ⟨p667, p668, p669⟩ := getI_some hx666
     obtain ⟨b670, o671, e672, a673⟩ := (fxa_2).at p668
     refine jv _ (V.iad Try.underlying27 sz30 rfl e672 rfl p667 p669) ?_
     obtain ⟨ad674, cp675, c676, f677⟩ := ((a673).one).sl
     refine jv (.agg #[.slice ad674 x665.length cp675]) (V.ld rfl (Ld.aggK (cs := [.slice ad674 x665.length cp675]) Try.underlying30 sz30 rfl ⟨c676, trivial⟩ (Hp.le_refl _))) <| jal inf30 [nos] rfl fun b678 => ja (ii i604) rfl <| js [.slice ad674 x665.length cp675] sz30 rfl rfl rfl rfl rfl rfl <| J.nil <| CJ.seq <| CJ.mix [Cl b678 30 [.slice ad674 x665.length cp675], Cl b365 135 [ii xa.1, .slice adxa_1 xa.2.1.length cpxa_1, .slice adxa_2 xa.2.2.1.length cpxa_2, .slice adxa_3 xa.2.2.2.length cpxa_3], Cl b366 30 [.slice adxd_0 xd.length cpxd_0]] [([0, 1, 2, 3, 4], 5)] [6] [] mixO (by decide +kernel) ⟨0, rfl, 0, rfl, 0, rfl, trivial⟩ rfl rfl rfl ?_
     refine JM.cons <| qm (.slice adxc_0 xc.length cpxc_0) rfl <| qm (ii i604) rfl ?_
     obtain ⟨x698, hx699, h660⟩ := ob h660
     obtain ⟨p700, p701, p702⟩ := getI_some hx699
     obtain ⟨b703, o704, e705, a706⟩ := (fxc_0).at p701
     refine qv _ (V.iad Try.underlying27 sz30 rfl e705 rfl p700 p702) ?_
     obtain ⟨ad707, cp708, c709, f710⟩ := ((a706).one).sl
     refine qv (.agg #[.slice ad707 x698.length cp708]) (V.ld rfl (Ld.aggK (cs := [.slice ad707 x698.length cp708]) Try.underlying30 sz30 rfl ⟨c709, trivial⟩ (Hp.le_refl _))) <| qv (.agg #[.slice ad674 x665.length cp675]) (V.ld rfl (Ld.agg (cs := [.slice ad674 x665.length cp675]) Try.underlying30 sz30 rfl (Rd.cls 0 0 rfl rfl))) <| JQ.nil ?_
     obtain ⟨r711, hr712, h660⟩ := ob h660
     refine JA.op rfl (A.call (L1 := []) Try.call63 rfl (row_Shape_ok f710 f677 hr712) rfl rfl) ?_
     rintro _ _ _ ⟨v714, _, rfl, ⟨⟨t713, rfl, rfl, rfl⟩, rfl⟩, _, rfl⟩
     refine ⟨fun w hs => Hold.sub (Hp.le_refl _) ⟨0, rfl, 0, rfl, 0, rfl, trivial⟩ hs, ?_⟩
     refine JM.nil <| qv (.bool (!t713)) (V.not rfl) <| JQ.nil <| J.nil <| cc rfl h660 (fun hc717 h660 => ?_) fun hc717 h660 => ?_
     · refine cr <| ja (ii 8) rfl <| J.nil <| CJ.ret ?_
       obtain rfl := si h660
       refine ⟨nofun, fun e => ?_⟩
       subst e
       refine .inr ⟨nofun, ?_⟩
       obtain rfl := si h
       exact ⟨_, _, Res.one rfl rfl, ⟨8, rfl, rfl, rfl⟩, (Hp.le_refl _), fun w hs => (Sep.dropAt 0 rfl (Sep.dropAt 0 rfl (Sep.dropAt 0 rfl hs)))⟩
     refine CJ.skip <| CJ.region <| jv (ii (IntKind.wrap .i64 (i604 + 1))) (V.add rfl rfl) <| jm (ii (IntKind.wrap .i64 (i604 + 1))) rfl <| J.dropAt 0 rfl <| J.nil ?_
     obtain rfl := si h660
     exact ⟨rfl, ⟨IntKind.wrap .i64 (i604 + 1), rfl, ⟨rfl, rfl, rfl, rfl, rfl, rfl, trivial⟩, rfl, rfl⟩⟩
   refine CJ.exit ?_
   obtain rfl := si h660
   refine ⟨nofun, fun e => ?_⟩
   subst e
   exact .inl ⟨rfl, _, rfl, ⟨rfl, ⟨rfl, rfl, trivial⟩, rfl, rfl⟩⟩
 rintro s ρ _ _ ho718 ⟨rfl, hf719, rfl, rfl⟩
 subst ho718
 obtain ⟨ρ, rfl⟩ := hf719.ex
 refine PJ.done <| CJ.seq <| cr <| jv (.agg #[.slice adxd_0 xd.length cpxd_0]) (V.ld rfl (Ld.agg (cs := [.slice adxd_0 xd.length cpxd_0]) Try.underlying30 sz30 rfl (Rd.cls 1 0 rfl rfl))) <| jv _ (V.fad Try.underlying135 rfl nz30 rfl) <| jv (.agg #[.slice adxa_3 xa.2.2.2.length cpxa_3]) (V.ld rfl (Ld.agg (cs := [.slice adxa_3 xa.2.2.2.length cpxa_3]) Try.underlying30 sz30 rfl (Rd.cls 0 3 rfl rfl))) ?_
 obtain ⟨r721, hr722, h⟩ := ob h
 refine J.op rfl (A.call (L1 := []) Try.call63 rfl (row_Shape_ok fxd_0 fxa_3 hr722) rfl rfl) ?_
 rintro _ _ _ ⟨v724, _, rfl, ⟨⟨t723, rfl, rfl, rfl⟩, rfl⟩, _, rfl⟩
 refine jv (.bool (!t723)) (V.not rfl) <| J.nil <| cc rfl h (fun hc727 h => ?_) fun hc727 h => ?_
 · refine cr <| ja (ii 8) rfl <| J.nil <| CJ.ret ?_
   obtain rfl := si h
   exact ⟨_, _, Res.one rfl rfl, ⟨8, rfl, rfl, rfl⟩, (Hp.le_refl _), fun w hs => (Sep.dropAt 0 rfl (Sep.dropAt 0 rfl hs))⟩
 refine CJ.skip <| cr <| ja (ii 0) rfl <| J.nil <| CJ.ret ?_
 obtain rfl := si h
 exact ⟨_, _, Res.one rfl rfl, ⟨0, rfl, rfl, rfl⟩, (Hp.le_refl _), fun w hs => (Sep.dropAt 0 rfl (Sep.dropAt 0 rfl hs))⟩

noncomputable def fn_slices_Clone_api_Slot_api_Slot (xa : (List (Int × Bool))) : Option ((List (Int × Bool))) :=
  nilb xa (some ([])) ((app (([] : List (Int × Bool))) xa).bind fun z21 => some (z21))
set_option maxRecDepth 100000 in
set_option maxHeartbeats 4000000 in
theorem slices_Clone_api_Slot_api_Slot_ok {K : Hp} {xa : (List (Int × Bool))} {adxa_0 : Option Addr} {cpxa_0 : Nat} (fxa_0 : Is K (.sl (.cons (.int .i64) (.one .bool))) [.slice adxa_0 xa.length cpxa_0] xa) {r : (List (Int × Bool))} (h : fn_slices_Clone_api_Slot_api_Slot xa = some r) :
    Tr Try.prog 90 #[.slice adxa_0 xa.length cpxa_0] K [] (fun v K' L' => (∃ (l11 : (List (Int × Bool))) (ad12 : Option Addr) (cp13 : Nat), l11 = r ∧ .slice ad12 l11.length cp13 = v ∧ L' = [Row Hp.nil 50 (.cons (.int .i64) (.one .bool)) (.slice ad12 l11.length cp13) l11]) ∧ K = K') := by
 refine Tr.k <| Tr.of Try.func90 rfl Try.ntmps90 rfl fun E F => ?_
 unfold fn_slices_Clone_api_Slot_api_Slot at h
 refine cr <| ja (nos) rfl <| J.nil <| CJ.seq <| CJ.seq <| CJ.region ?_
 refine jm (.slice adxa_0 xa.length cpxa_0) rfl <| jv (.bool adxa_0.isNone) (V.sn_eql Try.underlying28 rfl rfl) <| J.nil ?_
 rcases adxa_0 with _ | ad16
 · have h := nilb_nil ((fxa_0).nil_of) h
   refine CJ.condK (b := true) rfl rfl <| cr <| ja (nos) rfl <| J.nil <| CJ.by (fun w hs => Sep.rowNil (e := 50) (t := (.cons (.int .i64) (.one .bool))) hs) <| CJ.ret ?_
   obtain rfl := si h
   exact ⟨_, _, Res.one rfl rfl, ⟨[], none, 0, rfl, rfl, rfl⟩, (Hp.le_refl _), fun w hs => hs⟩
 have h := nilb_cons h
 refine CJ.condK (b := false) rfl rfl <| CJ.skip <| CJ.seq <| CJ.region ?_
 refine J.op rfl (A.lit (K0 := Hp.nil) (ty := (.cons (.int .i64) (.one .bool))) (xs := ([] : List (Int × Bool))) Try.underlying28 inf50 rfl (by decide) rfl rfl rfl rfl rfl (by decide)) ?_
 rintro _ _ _ ⟨b18, rfl, rfl, rfl⟩
 have hn19 : ([] : List (Int × Bool)) ≠ [] → ∃ g, (some ⟨b18, 0, none⟩ : Option Addr) = some ⟨g, 0, none⟩ := fun _ => ⟨b18, rfl⟩
 refine jm (.slice (some ad16) xa.length cpxa_0) rfl ?_
 obtain ⟨z21, hz22, h⟩ := ob h
 refine J.op rfl (A.appP (Kr := Hp.nil) (K1 := K) Try.underlying28 inf50 rfl rfl (by decide) (by decide) rfl rfl fxa_0 (Hp.le_refl _) (Els.flat rfl) (Els.flat rfl) hz22) ?_
 rintro _ _ _ ⟨v23, rfl, rfl, rfl⟩
 refine J.wit Row.form ?_
 rintro ⟨ad24, cp25, rfl, _, _, hn26⟩
 refine ja (.slice ad24 z21.length cp25) rfl <| J.nil <| CJ.ret ?_
 obtain rfl := si h
 exact ⟨_, _, Res.one rfl rfl, ⟨z21, ad24, cp25, rfl, rfl, rfl⟩, (Hp.le_refl _), fun w hs => hs⟩

noncomputable def fn_row_Clone (xa : (List (Int × Bool))) : Option ((List (Int × Bool))) :=
  (fn_slices_Clone_api_Slot_api_Slot xa).bind fun l22 => some (l22)
set_option maxRecDepth 100000 in
set_option maxHeartbeats 4000000 in
theorem row_Clone_ok {K : Hp} {xa : (List (Int × Bool))} {adxa_0 : Option Addr} {cpxa_0 : Nat} (fxa_0 : Is K (.sl (.cons (.int .i64) (.one .bool))) [.slice adxa_0 xa.length cpxa_0] xa) {r : (List (Int × Bool))} (h : fn_row_Clone xa = some r) :
    Tr Try.prog 87 #[.agg #[.slice adxa_0 xa.length cpxa_0]] K [] (fun v K' L' => (∃ (l13 : (List (Int × Bool))) (ad14 : Option Addr) (cp15 : Nat), l13 = r ∧ .agg #[.slice ad14 l13.length cp15] = v ∧ L' = [Row Hp.nil 50 (.cons (.int .i64) (.one .bool)) (.slice ad14 l13.length cp15) l13]) ∧ K = K') := by
 refine Tr.k <| Tr.of Try.func87 rfl Try.ntmps87 rfl fun E F => ?_
 unfold fn_row_Clone at h
 refine cr <| jbx [.slice adxa_0 xa.length cpxa_0] rfl rfl fun b18 => jal inf30 [nos] rfl fun b19 => J.nil <| CJ.seq <| CJ.region ?_
 refine jv _ (V.fad Try.underlying30 rfl nz28 rfl) <| jv (.slice adxa_0 xa.length cpxa_0) (V.ld rfl (Ld.sc sc28 (Rd.cl 1 rfl rfl))) ?_
 obtain ⟨r20, hr21, h⟩ := ob h
 refine J.op rfl (A.call (L1 := []) Try.call90 rfl (slices_Clone_api_Slot_api_Slot_ok fxa_0 hr21) rfl rfl) ?_
 rintro _ _ _ ⟨v26, _, rfl, ⟨⟨l22, ad23, cp24, rfl, rfl, rfl⟩, rfl⟩, _, rfl⟩
 refine J.wit Row.hn fun hn25 => jv (.agg #[.slice ad23 l22.length cp24]) (V.build inf30 places30 rfl rfl) <| J.front 1 rfl <| js [.slice ad23 l22.length cp24] sz30 rfl rfl rfl rfl rfl rfl <| J.nil <| CJ.ret ?_
 obtain rfl := si h
 exact ⟨_, _, Res.one rfl ⟨_, _, rfl, Ld.agg (cs := [.slice ad23 l22.length cp24]) Try.underlying30 sz30 rfl (Rd.cls 0 0 rfl rfl)⟩, ⟨l22, ad23, cp24, rfl, rfl, rfl⟩, (Hp.le_refl _), fun w hs => (Sep.dropAt 1 rfl (Sep.dropAt 0 rfl hs))⟩
noncomputable def fn_row_Subst_l1 (xb : (List Int)) (l368 : (List (Int × Bool))) : ((List (Int × Bool)) × Int) → Option (((List (Int × Bool)) × Int) ⊕ (List (Int × Bool))) := fun ((l596, i601) : ((List (Int × Bool)) × Int)) => cond (decide (i601 < (((l368.length : Nat) : Int)))) ((getI l596 i601).bind fun x659 => (getI xb x659.1).bind fun x683 => (getI l596 i601).bind fun x692 => (some (l596.set i601.toNat (x683, x692.2))).bind fun z699 => some (.inl ((z699, IntKind.wrap .i64 (i601 + 1))))) (some (.inr (l596)))
noncomputable def fn_row_Subst (xa : (List (Int × Bool))) (xb : (List Int)) : Option (((List (Int × Bool)) × Int)) :=
  (fn_row_within xa (((xb.length : Nat) : Int))).bind fun t360 => cond (!t360) (some (([], 7))) ((fn_row_Clone xa).bind fun l368 => (loop (fn_row_Subst_l1 xb l368) (l368, 0) : Option ((List (Int × Bool)))).bind fun l537 => some ((l537, 0)))
set_option maxRecDepth 100000 in
set_option maxHeartbeats 4000000 in
theorem row_Subst_ok {K : Hp} {xa : (List (Int × Bool))} {xb : (List Int)} {adxa_0 : Option Addr} {cpxa_0 : Nat} {adxb_0 : Option Addr} {cpxb_0 : Nat} (fxa_0 : Is K (.sl (.cons (.int .i64) (.one .bool))) [.slice adxa_0 xa.length cpxa_0] xa) (fxb_0 : Is K (.sl (.int .i64)) [.slice adxb_0 xb.length cpxb_0] xb) {r : ((List (Int × Bool)) × Int)} (h : fn_row_Subst xa xb = some r) :
    Tr Try.prog 76 #[.agg #[.slice adxa_0 xa.length cpxa_0], .slice adxb_0 xb.length cpxb_0] K [] (fun v K' L' => (∃ (l350 : (List (Int × Bool))) (i355 : Int) (ad351 : Option Addr) (cp352 : Nat), (l350, i355) = r ∧ .tuple #[.agg #[.slice ad351 l350.length cp352], ii i355] = v ∧ L' = [Row Hp.nil 50 (.cons (.int .i64) (.one .bool)) (.slice ad351 l350.length cp352) l350]) ∧ K = K') := by
 refine Tr.k <| Tr.of Try.func76 rfl Try.ntmps76 rfl fun E F => ?_
 unfold fn_row_Subst at h
 refine cr <| jbx [.slice adxa_0 xa.length cpxa_0] rfl rfl fun b356 => jal inf30 [nos] rfl fun b357 => ja (ii 0) rfl <| J.nil <| CJ.seq ?_
 refine cr <| jv (.agg #[.slice adxa_0 xa.length cpxa_0]) (V.ld rfl (Ld.agg (cs := [.slice adxa_0 xa.length cpxa_0]) Try.underlying30 sz30 rfl (Rd.cls 1 0 rfl rfl))) <| jm (.slice adxb_0 xb.length cpxb_0) rfl <| jv (ii (((xb.length : Nat) : Int))) (V.len Try.underlying54 rfl) ?_
 obtain ⟨r358, hr359, h⟩ := ob h
 refine J.op rfl (A.call (L1 := []) Try.call79 rfl (row_within_ok fxa_0 hr359) rfl rfl) ?_
 rintro _ _ _ ⟨v361, _, rfl, ⟨⟨t360, rfl, rfl, rfl⟩, rfl⟩, _, rfl⟩
 refine jv (.bool (!t360)) (V.not rfl) <| J.nil <| cc rfl h (fun hc364 h => ?_) fun hc364 h => ?_
 · refine cr <| jv (.agg #[nos]) (V.build inf30 places30 rfl rfl) <| js [nos] sz30 rfl rfl rfl rfl rfl rfl <| ja (ii 7) rfl <| J.nil <| CJ.by (fun w hs => Sep.rowNil (e := 50) (t := (.cons (.int .i64) (.one .bool))) hs) ?_
   refine CJ.ret ?_
   obtain rfl := si h
   exact ⟨_, _, Res.two rfl ⟨_, _, rfl, Ld.agg (cs := [nos]) Try.underlying30 sz30 rfl (Rd.cls 1 0 rfl rfl)⟩ rfl, ⟨[], 7, none, 0, rfl, rfl, rfl⟩, (Hp.le_refl _), fun w hs => (Sep.dropAt 1 rfl (Sep.dropAt 1 rfl hs))⟩
 refine CJ.skip <| cr <| jv (.agg #[.slice adxa_0 xa.length cpxa_0]) (V.ld rfl (Ld.agg (cs := [.slice adxa_0 xa.length cpxa_0]) Try.underlying30 sz30 rfl (Rd.cls 1 0 rfl rfl))) ?_
 obtain ⟨r366, hr367, h⟩ := ob h
 refine J.op rfl (A.call (L1 := []) Try.call87 rfl (row_Clone_ok fxa_0 hr367) rfl rfl) ?_
 rintro _ _ _ ⟨v372, _, rfl, ⟨⟨l368, ad369, cp370, rfl, rfl, rfl⟩, rfl⟩, _, rfl⟩
 refine J.wit Row.hn fun hn371 => jal inf30 [nos] rfl fun b376 => js [.slice ad369 l368.length cp370] sz30 rfl rfl rfl rfl rfl rfl <| J.nil <| CJ.seq <| CJ.seq <| CJ.region ?_
 refine jv _ (V.fad Try.underlying30 rfl nz28 rfl) <| jv (.slice ad369 l368.length cp370) (V.ld rfl (Ld.sc sc28 (Rd.cl 0 rfl rfl))) <| jv (ii (((l368.length : Nat) : Int))) (V.len Try.underlying28 rfl) <| jm (ii 0) rfl <| J.nil ?_
 obtain ⟨o542, ho543, h⟩ := ob h
 refine CJ.meetN (fun ρ K' L' => ∃ (l537 : (List (Int × Bool))) (ad538 : Option Addr) (cp539 : Nat), l537 = o542 ∧ Fits [(4, .pointer (some ⟨b357, 0, none⟩)), (6, .pointer (some ⟨b376, 0, none⟩))] ρ ∧ K = K' ∧ L' = Cl b357 30 [nos] :: Cl b376 30 [.slice ad538 l537.length cp539] :: Row Hp.nil 50 (.cons (.int .i64) (.one .bool)) (.slice ad538 l537.length cp539) l537 :: F) ?_ ?_
 · refine CJ.block <| CJ.dropAt 3 rfl <| CJ.front 1 rfl <| CJ.front 1 rfl <| CJ.front 2 rfl <| CJ.loop (fun s ρ K' L' => ∃ (l596 : (List (Int × Bool))) (i601 : Int) (ad597 : Option Addr) (cp598 : Nat), (l596, i601) = s ∧ Fits [(1, .slice adxb_0 xb.length cpxb_0), (4, .pointer (some ⟨b357, 0, none⟩)), (6, .pointer (some ⟨b376, 0, none⟩)), (18, .slice ad597 l596.length cp598), (19, ii (((l368.length : Nat) : Int))), (20, ii i601)] ρ ∧ K = K' ∧ L' = Cl b357 30 [nos] :: Cl b376 30 [.slice ad597 l596.length cp598] :: Row Hp.nil 50 (.cons (.int .i64) (.one .bool)) (.slice ad597 l596.length cp598) l596 :: F) ho543 ⟨l368, 0, ad369, cp370, rfl, ⟨rfl, rfl, rfl, rfl, rfl, rfl, trivial⟩, rfl, rfl⟩ ?_
   rintro s ρ _ _ r657 ⟨l596, i601, ad597, cp598, rfl, hf655, rfl, rfl⟩ h654
   obtain ⟨ρ, rfl⟩ := hf655.ex
   refine CJ.front 2 rfl <| CJ.wit Row.hn fun hn600 => cr <| jv (.bool (decide (i601 < (((l368.length : Nat) : Int))))) (V.lss rfl rfl) <| J.nil <| CJ.seq ?_
   refine cc rfl h654 (fun hc658 h654 => ?_) fun hc658 h654 => ?_
   · refine CJ.skip <| CJ.seq <| CJ.block <| cr <| jm (ii i601) rfl ?_
     obtain ⟨x659, hx660, h654⟩ := ob h654
     obtain ⟨p661, p662, p663⟩ := getI_some hx660
     obtain ⟨g664, e665⟩ := hn600 (fun e => by rw [e] at p662; simp at p662)
     refine jv _ (V.iad Try.underlying28 sz50 rfl e665 rfl p661 p663) <| jv (.agg #[ii x659.1, .bool x659.2]) (V.ld rfl (Ld.agg Try.underlying50 sz50 rfl (Rd.rows (K0 := Hp.nil) (s := (.cons (.int .i64) (.one .bool))) 0 rfl e665 p662 (cs := [ii x659.1, .bool x659.2]) rfl (by rintro _ ⟨_, _, rfl, _, rfl, rfl⟩; rfl)))) <| jal inf50 [ii 0, .bool false] rfl fun b666 => ja (ii i601) rfl <| js [ii x659.1, .bool x659.2] sz50 rfl rfl rfl rfl rfl rfl <| J.nil <| CJ.mix [Cl b666 50 [ii x659.1, .bool x659.2], Row Hp.nil 50 (.cons (.int .i64) (.one .bool)) (.slice ad597 l596.length cp598) l596, Cl b357 30 [nos], Cl b376 30 [.slice ad597 l596.length cp598]] [] [0, 1, 2, 3, 4, 5, 6, 7, 8, 9] [10] mixO (by decide +kernel) ⟨0, rfl, 0, rfl, 0, rfl, 0, rfl, trivial⟩ rfl rfl rfl ?_
     refine JM.nil <| qv _ (V.fad Try.underlying30 rfl nz28 rfl) <| qv (.slice ad597 l596.length cp598) (V.ld rfl (Ld.sc sc28 (Rd.cl 3 rfl rfl))) <| qm (ii i601) rfl <| qm (.slice adxb_0 xb.length cpxb_0) rfl <| qv _ (V.fad Try.underlying50 rfl nz3 rfl) <| qv (ii x659.1) (V.ld rfl (Ld.sc sc3 (Rd.cl 0 rfl rfl))) ?_
     obtain ⟨x683, hx684, h654⟩ := ob h654
     obtain ⟨p685, p686, p687⟩ := getI_some hx684
     obtain ⟨b688, o689, e690, a691⟩ := (fxb_0).at p686
     refine qv _ (V.iad Try.underlying54 sz3 rfl e690 rfl p685 p687) <| qv (ii x683) (V.ld rfl (Ld.sc sc3 (Rd.k (a691).int (Hp.le_refl _)))) ?_
     obtain ⟨x692, hx693, h654⟩ := ob h654
     obtain ⟨p694, p695, p696⟩ := getI_some hx693
     obtain ⟨g697, e698⟩ := hn600 (fun e => by rw [e] at p695; simp at p695)
     refine qv _ (V.iad Try.underlying28 sz50 rfl e698 rfl p694 p696) <| qv _ (V.fad Try.underlying50 rfl nz3 rfl) <| JQ.nil <| J.front 1 rfl ?_
     obtain ⟨z699, hz700, h654⟩ := ob h654
     have e701 := Option.some.inj hz700
     have hl702 : z699.length = l596.length := by rw [← e701, List.length_set]
     refine J.op rfl (A.storeR (ty := (.cons (.int .i64) (.one .bool))) (q := 0) (y0 := (x683, x692.2)) (zs := z699) sz3 rfl rfl rfl rfl e698 p695 (by simp [Tp.size]) (by decide) (by rintro _ ⟨_, _, rfl, _, rfl, rfl⟩; exact ⟨_, _, rfl, rfl, rfl, rfl⟩) e701) ?_
     rintro _ _ _ ⟨rfl, rfl, rfl⟩
     have hn703 : z699 ≠ [] → _ := fun h => hn600 (fun e => h (List.length_eq_zero_iff.1 (by rw [hl702]; exact List.length_eq_zero_iff.2 e)))
     refine J.nil <| CJ.region <| jv (ii (IntKind.wrap .i64 (i601 + 1))) (V.add rfl rfl) <| jm (ii (IntKind.wrap .i64 (i601 + 1))) rfl <| J.dropAt 1 rfl <| J.front 2 rfl <| J.front 2 rfl ?_
     refine J.nil ?_
     obtain rfl := si h654
     exact ⟨rfl, ⟨z699, IntKind.wrap .i64 (i601 + 1), ad597, cp598, rfl, ⟨rfl, rfl, rfl, (by rw [hl702]; rfl), rfl, rfl, trivial⟩, rfl, (by rw [hl702]; first | done | rfl)⟩⟩
   refine CJ.front 2 rfl <| CJ.front 2 rfl <| CJ.exit ?_
   obtain rfl := si h654
   refine ⟨nofun, fun e => ?_⟩
   subst e
   exact ⟨rfl, ⟨l596, ad597, cp598, rfl, ⟨rfl, rfl, trivial⟩, rfl, rfl⟩⟩
 rintro ρ _ _ ⟨l537, ad538, cp539, rfl, hf704, rfl, rfl⟩
 obtain ⟨ρ, rfl⟩ := hf704.ex
 refine PJ.front 2 rfl <| PJ.wit Row.hn fun hn541 => PJ.done <| cr <| jv (.agg #[.slice ad538 l537.length cp539]) (V.ld rfl (Ld.agg (cs := [.slice ad538 l537.length cp539]) Try.underlying30 sz30 rfl (Rd.cls 2 0 rfl rfl))) <| J.front 1 rfl ?_
 refine js [.slice ad538 l537.length cp539] sz30 rfl rfl rfl rfl rfl rfl <| ja (ii 0) rfl <| J.nil <| CJ.ret ?_
 obtain rfl := si h
 exact ⟨_, _, Res.two rfl ⟨_, _, rfl, Ld.agg (cs := [.slice ad538 l537.length cp539]) Try.underlying30 sz30 rfl (Rd.cls 0 0 rfl rfl)⟩ rfl, ⟨l537, 0, ad538, cp539, rfl, rfl, rfl⟩, (Hp.le_refl _), fun w hs => (Sep.dropAt 1 rfl (Sep.dropAt 0 rfl hs))⟩
noncomputable def fn_sig_Call_l1 (xa : (Int × (List (Int × Int)) × (List (List (Int × Bool))) × (List (Int × Bool)))) (xb : (List Int)) : ((List (Int × Int × Int × Int × Bool)) × Int) → Option (((List (Int × Int × Int × Int × Bool)) × Int) ⊕ (List (Int × Int × Int × Int × Bool))) := fun ((l1327, i1332) : ((List (Int × Int × Int × Int × Bool)) × Int)) => cond (decide (i1332 < (((xa.2.1.length : Nat) : Int)))) ((getI xa.2.1 i1332).bind fun x1404 => (getI xb x1404.1).bind fun x1435 => (getI xb x1404.2).bind fun x1444 => (app l1327 (([(x1435, x1444, 4, i1332, false)] : List (Int × Int × Int × Int × Bool)))).bind fun z1456 => some (.inl ((z1456, IntKind.wrap .i64 (i1332 + 1))))) (some (.inr (l1327)))
noncomputable def fn_sig_Call_l2 (xa : (Int × (List (Int × Int)) × (List (List (Int × Bool))) × (List (Int × Bool)))) (xb : (List Int)) (xc : (List (List (Int × Bool)))) : ((List (Int × Int × Int × Int × Bool)) × Int) → Option (((List (Int × Int × Int × Int × Bool)) × Int) ⊕ (List (Int × Int × Int × Int × Bool))) := fun ((l1851, i1856) : ((List (Int × Int × Int × Int × Bool)) × Int)) => cond (decide (i1856 < (((xa.2.2.1.length : Nat) : Int)))) ((getI xa.2.2.1 i1856).bind fun x1956 => (fn_row_Subst x1956 xb).bind fun (l1972, i1973) => (getI xc i1856).bind fun x2009 => (fn_relate_Flow x2009 l1972 5 (IntKind.wrap .i64 (16 * i1856))).bind fun (l2027, i2028) => (app l1851 l2027).bind fun z2036 => some (.inl ((z2036, IntKind.wrap .i64 (i1856 + 1))))) (some (.inr (l1851)))
noncomputable def fn_sig_Call (xa : (Int × (List (Int × Int)) × (List (List (Int × Bool))) × (List (Int × Bool)))) (xb : (List Int)) (xc : (List (List (Int × Bool)))) (xd : (List (Int × Bool))) : Option (((List (Int × Int × Int × Int × Bool)) × Int)) :=
  (fn_sig_callable (xa.1, xa.2.1, xa.2.2.1, xa.2.2.2) xb xc xd).bind fun i1045 => cond (!decide (i1045 = 0)) (some (([], i1045))) ((loop (fn_sig_Call_l1 xa xb) ([], 0) : Option ((List (Int × Int × Int × Int × Bool)))).bind fun l1253 => (loop (fn_sig_Call_l2 xa xb xc) (l1253, 0) : Option ((List (Int × Int × Int × Int × Bool)))).bind fun l1750 => (fn_row_Subst xa.2.2.2 xb).bind fun (l2046, i2047) => (fn_relate_Flow l2046 xd 6 0).bind fun (l2061, i2062) => (app l1750 l2061).bind fun z2070 => some ((z2070, 0)))
set_option maxRecDepth 100000 in
set_option maxHeartbeats 4000000 in
theorem sig_Call_ok {K : Hp} {xa : (Int × (List (Int × Int)) × (List (List (Int × Bool))) × (List (Int × Bool)))} {xb : (List Int)} {xc : (List (List (Int × Bool)))} {xd : (List (Int × Bool))} {adxa_1 : Option Addr} {cpxa_1 : Nat} {adxa_2 : Option Addr} {cpxa_2 : Nat} {adxa_3 : Option Addr} {cpxa_3 : Nat} {adxb_0 : Option Addr} {cpxb_0 : Nat} {adxc_0 : Option Addr} {cpxc_0 : Nat} {adxd_0 : Option Addr} {cpxd_0 : Nat} (fxa_1 : Is K (.sl (.cons (.int .i64) (.one (.int .i64)))) [.slice adxa_1 xa.2.1.length cpxa_1] xa.2.1) (fxa_2 : Is K (.sl (.one (.sl (.cons (.int .i64) (.one .bool))))) [.slice adxa_2 xa.2.2.1.length cpxa_2] xa.2.2.1) (fxa_3 : Is K (.sl (.cons (.int .i64) (.one .bool))) [.slice adxa_3 xa.2.2.2.length cpxa_3] xa.2.2.2) (fxb_0 : Is K (.sl (.int .i64)) [.slice adxb_0 xb.length cpxb_0] xb) (fxc_0 : Is K (.sl (.one (.sl (.cons (.int .i64) (.one .bool))))) [.slice adxc_0 xc.length cpxc_0] xc) (fxd_0 : Is K (.sl (.cons (.int .i64) (.one .bool))) [.slice adxd_0 xd.length cpxd_0] xd) {r : ((List (Int × Int × Int × Int × Bool)) × Int)} (h : fn_sig_Call xa xb xc xd = some r) :
    Tr Try.prog 58 #[.agg #[ii xa.1, .slice adxa_1 xa.2.1.length cpxa_1, .slice adxa_2 xa.2.2.1.length cpxa_2, .slice adxa_3 xa.2.2.2.length cpxa_3], .slice adxb_0 xb.length cpxb_0, .slice adxc_0 xc.length cpxc_0, .agg #[.slice adxd_0 xd.length cpxd_0]] K [] (fun v K' L' => (∃ (l1035 : (List (Int × Int × Int × Int × Bool))) (i1040 : Int) (ad1036 : Option Addr) (cp1037 : Nat), (l1035, i1040) = r ∧ .tuple #[.slice ad1036 l1035.length cp1037, ii i1040] = v ∧ L' = [Row Hp.nil 93 (.cons (.int .i64) (.cons (.int .i64) (.cons (.int .i64) (.cons (.int .i64) (.one .bool))))) (.slice ad1036 l1035.length cp1037) l1035]) ∧ K = K') := by
 refine Tr.k <| Tr.of Try.func58 rfl Try.ntmps58 rfl fun E F => ?_
 unfold fn_sig_Call at h
 refine cr <| jbx [ii xa.1, .slice adxa_1 xa.2.1.length cpxa_1, .slice adxa_2 xa.2.2.1.length cpxa_2, .slice adxa_3 xa.2.2.2.length cpxa_3] rfl rfl fun b1041 => jbx [.slice adxd_0 xd.length cpxd_0] rfl rfl fun b1042 => ja (nos) rfl <| ja (ii 0) rfl <| J.nil ?_
 refine CJ.seq <| cr <| jv (.agg #[ii xa.1, .slice adxa_1 xa.2.1.length cpxa_1, .slice adxa_2 xa.2.2.1.length cpxa_2, .slice adxa_3 xa.2.2.2.length cpxa_3]) (V.ld rfl (Ld.agg (cs := [ii xa.1, .slice adxa_1 xa.2.1.length cpxa_1, .slice adxa_2 xa.2.2.1.length cpxa_2, .slice adxa_3 xa.2.2.2.length cpxa_3]) Try.underlying135 sz135 rfl (Rd.cls 1 0 rfl rfl))) <| jm (.slice adxb_0 xb.length cpxb_0) rfl <| jm (.slice adxc_0 xc.length cpxc_0) rfl <| jv (.agg #[.slice adxd_0 xd.length cpxd_0]) (V.ld rfl (Ld.agg (cs := [.slice adxd_0 xd.length cpxd_0]) Try.underlying30 sz30 rfl (Rd.cls 0 0 rfl rfl))) ?_
 obtain ⟨r1043, hr1044, h⟩ := ob h
 refine J.op rfl (A.call (L1 := []) Try.call75 rfl (sig_callable_ok fxa_1 fxa_2 fxa_3 fxb_0 fxc_0 fxd_0 hr1044) rfl rfl) ?_
 rintro _ _ _ ⟨v1046, _, rfl, ⟨⟨i1045, rfl, rfl, rfl⟩, rfl⟩, _, rfl⟩
 refine ja (ii i1045) rfl <| J.nil <| cr <| jm (ii i1045) rfl <| jv (.bool (!decide (i1045 = 0))) (V.neq rfl rfl) <| J.nil ?_
 refine cc rfl h (fun hc1049 h => ?_) fun hc1049 h => ?_
 · refine cr <| jm (ii i1045) rfl <| ja (nos) rfl <| ja (ii i1045) rfl <| J.nil <| CJ.by (fun w hs => Sep.rowNil (e := 93) (t := (.cons (.int .i64) (.cons (.int .i64) (.cons (.int .i64) (.cons (.int .i64) (.one .bool)))))) hs) ?_
   refine CJ.ret ?_
   obtain rfl := si h
   exact ⟨_, _, Res.two rfl rfl rfl, ⟨[], i1045, none, 0, rfl, rfl, rfl⟩, (Hp.le_refl _), fun w hs => (Sep.dropAt 1 rfl (Sep.dropAt 1 rfl hs))⟩
 refine CJ.skip <| cr <| ja (nos) rfl <| J.nil <| CJ.seq <| CJ.seq ?_
 refine CJ.region <| jv _ (V.fad Try.underlying135 rfl nz26 rfl) <| jv (.slice adxa_1 xa.2.1.length cpxa_1) (V.ld rfl (Ld.sc sc26 (Rd.cl 1 rfl rfl))) <| jv (ii (((xa.2.1.length : Nat) : Int))) (V.len Try.underlying26 rfl) <| jm (ii 0) rfl <| J.nil ?_
 obtain ⟨o1258, ho1259, h⟩ := ob h
 refine CJ.meetN (fun ρ K' L' => ∃ (l1253 : (List (Int × Int × Int × Int × Bool))) (ad1254 : Option Addr) (cp1255 : Nat), l1253 = o1258 ∧ Fits [(1, .slice adxb_0 xb.length cpxb_0), (2, .slice adxc_0 xc.length cpxc_0), (4, .pointer (some ⟨b1041, 0, none⟩)), (7, .pointer (some ⟨b1042, 0, none⟩)), (11, .slice ad1254 l1253.length cp1255)] ρ ∧ K = K' ∧ L' = Cl b1041 135 [ii xa.1, .slice adxa_1 xa.2.1.length cpxa_1, .slice adxa_2 xa.2.2.1.length cpxa_2, .slice adxa_3 xa.2.2.2.length cpxa_3] :: Cl b1042 30 [.slice adxd_0 xd.length cpxd_0] :: Row Hp.nil 93 (.cons (.int .i64) (.cons (.int .i64) (.cons (.int .i64) (.cons (.int .i64) (.one .bool))))) (.slice ad1254 l1253.length cp1255) l1253 :: F) ?_ ?_
 · refine CJ.block <| CJ.by (fun w hs => Sep.rowNil (e := 93) (t := (.cons (.int .i64) (.cons (.int .i64) (.cons (.int .i64) (.cons (.int .i64) (.one .bool)))))) hs) <| CJ.front 1 rfl <| CJ.front 2 rfl <| CJ.loop (fun s ρ K' L' => ∃ (l1327 : (List (Int × Int × Int × Int × Bool))) (i1332 : Int) (ad1328 : Option Addr) (cp1329 : Nat), (l1327, i1332) = s ∧ Fits [(1, .slice adxb_0 xb.length cpxb_0), (2, .slice adxc_0 xc.length cpxc_0), (4, .pointer (some ⟨b1041, 0, none⟩)), (7, .pointer (some ⟨b1042, 0, none⟩)), (11, .slice ad1328 l1327.length cp1329), (33, .slice adxa_1 xa.2.1.length cpxa_1), (34, ii (((xa.2.1.length : Nat) : Int))), (35, ii i1332)] ρ ∧ K = K' ∧ L' = Cl b1041 135 [ii xa.1, .slice adxa_1 xa.2.1.length cpxa_1, .slice adxa_2 xa.2.2.1.length cpxa_2, .slice adxa_3 xa.2.2.2.length cpxa_3] :: Cl b1042 30 [.slice adxd_0 xd.length cpxd_0] :: Row Hp.nil 93 (.cons (.int .i64) (.cons (.int .i64) (.cons (.int .i64) (.cons (.int .i64) (.one .bool))))) (.slice ad1328 l1327.length cp1329) l1327 :: F) ho1259 ⟨[], 0, none, 0, rfl, ⟨rfl, rfl, rfl, rfl, rfl, rfl, rfl, rfl, trivial⟩, rfl, rfl⟩ ?_
   rintro s ρ _ _ r1402 ⟨l1327, i1332, ad1328, cp1329, rfl, hf1400, rfl, rfl⟩ h1398
   obtain ⟨ρ, rfl⟩ := hf1400.ex
   refine CJ.front 2 rfl <| CJ.wit Row.hn fun hn1331 => cr <| jv (.bool (decide (i1332 < (((xa.2.1.length : Nat) : Int))))) (V.lss rfl rfl) <| J.nil <| CJ.seq ?_
   refine cc rfl h1398 (fun hc1403 h1398 => ?_) fun hc1403 h1398 => ?_
   · refine CJ.skip <| CJ.seq <| CJ.block <| cr <| jm (ii i1332) rfl ?_
     obtain ⟨x1404, hx1405, h1398⟩ := ob h1398
     obtain ⟨p1406, p1407, p1408⟩ := getI_some hx1405
     obtain ⟨b1409, o1410, e1411, a1412⟩ := (fxa_1).at p1407
     refine jv _ (V.iad Try.underlying26 sz83 rfl e1411 rfl p1406 p1408) <| jv (.agg #[ii x1404.1, ii x1404.2]) (V.ld rfl (Ld.aggK (cs := [ii x1404.1, ii x1404.2]) Try.underlying83 sz83 rfl ⟨((a1412).fst).int, (((a1412).snd).one).int, trivial⟩ (Hp.le_refl _))) <| jal inf83 [ii 0, ii 0] rfl fun b1413 => ja (ii i1332) rfl <| js [ii x1404.1, ii x1404.2] sz83 rfl rfl rfl rfl rfl rfl <| J.nil <| CJ.mix [Cl b1413 83 [ii x1404.1, ii x1404.2], Row Hp.nil 93 (.cons (.int .i64) (.cons (.int .i64) (.cons (.int .i64) (.cons (.int .i64) (.one .bool))))) (.slice ad1328 l1327.length cp1329) l1327, Cl b1041 135 [ii xa.1, .slice adxa_1 xa.2.1.length cpxa_1, .slice adxa_2 xa.2.2.1.length cpxa_2, .slice adxa_3 xa.2.2.2.length cpxa_3], Cl b1042 30 [.slice adxd_0 xd.length cpxd_0]] [([0, 1, 2, 3, 4, 5, 6, 7, 8, 9, 10, 11, 12], 13)] [] [14, 15] mixO (by decide +kernel) ⟨0, rfl, 0, rfl, 0, rfl, 0, rfl, trivial⟩ rfl rfl rfl ?_
     refine JM.cons <| qm (.slice ad1328 l1327.length cp1329) rfl <| qm (.slice adxb_0 xb.length cpxb_0) rfl <| qv _ (V.fad Try.underlying83 rfl nz3 rfl) <| qv (ii x1404.1) (V.ld rfl (Ld.sc sc3 (Rd.cl 0 rfl rfl))) ?_
     obtain ⟨x1435, hx1436, h1398⟩ := ob h1398
     obtain ⟨p1437, p1438, p1439⟩ := getI_some hx1436
     obtain ⟨b1440, o1441, e1442, a1443⟩ := (fxb_0).at p1438
     refine qv _ (V.iad Try.underlying54 sz3 rfl e1442 rfl p1437 p1439) <| qv (ii x1435) (V.ld rfl (Ld.sc sc3 (Rd.k (a1443).int (Hp.le_refl _)))) <| qm (.slice adxb_0 xb.length cpxb_0) rfl <| qv _ (V.fad Try.underlying83 rfl nz3 rfl) <| qv (ii x1404.2) (V.ld rfl (Ld.sc sc3 (Rd.cl 0 rfl rfl))) ?_
     obtain ⟨x1444, hx1445, h1398⟩ := ob h1398
     obtain ⟨p1446, p1447, p1448⟩ := getI_some hx1445
     obtain ⟨b1449, o1450, e1451, a1452⟩ := (fxb_0).at p1447
     refine qv _ (V.iad Try.underlying54 sz3 rfl e1451 rfl p1446 p1448) <| qv (ii x1444) (V.ld rfl (Ld.sc sc3 (Rd.k (a1452).int (Hp.le_refl _)))) <| qm (ii i1332) rfl <| qv (.agg #[ii x1435, ii x1444, ii 4, ii i1332, .bool false]) (V.build inf93 places93 rfl rfl) <| JQ.nil ?_
     refine JA.op rfl (A.lit (K0 := Hp.nil) (ty := (.cons (.int .i64) (.cons (.int .i64) (.cons (.int .i64) (.cons (.int .i64) (.one .bool)))))) (xs := ([(x1435, x1444, 4, i1332, false)] : List (Int × Int × Int × Int × Bool))) Try.underlying90 inf93 rfl (by decide) rfl rfl rfl ⟨_, _, rfl, ⟨_, _, rfl, rfl, rfl, ⟨_, _, rfl, rfl, rfl, ⟨_, _, rfl, rfl, rfl, ⟨_, _, rfl, rfl, rfl, rfl⟩⟩⟩⟩, rfl⟩ rfl (by decide)) ?_
     rintro _ _ _ ⟨b1453, rfl, rfl, rfl⟩
     have hn1454 : ([(x1435, x1444, 4, i1332, false)] : List (Int × Int × Int × Int × Bool)) ≠ [] → ∃ g, (some ⟨b1453, 0, none⟩ : Option Addr) = some ⟨g, 0, none⟩ := fun _ => ⟨b1453, rfl⟩
     refine ⟨fun w hs => Hold.sub (Hp.le_refl _) ⟨1, rfl, 1, rfl, 1, rfl, 1, rfl, trivial⟩ hs, ?_⟩
     refine JM.nil <| JQ.nil ?_
     obtain ⟨z1456, hz1457, h1398⟩ := ob h1398
     refine J.front 2 rfl <| J.op rfl (A.appR (Kr := Hp.nil) Try.underlying90 inf93 rfl rfl (by decide) (by decide) rfl rfl (Els.flat rfl) (Els.flat rfl) hz1457) ?_
     rintro _ _ _ ⟨v1458, rfl, rfl, rfl⟩
     refine J.wit Row.form ?_
     rintro ⟨ad1459, cp1460, rfl, _, _, hn1461⟩
     refine ja (.slice ad1459 z1456.length cp1460) rfl <| J.nil <| CJ.region <| jv (ii (IntKind.wrap .i64 (i1332 + 1))) (V.add rfl rfl) <| jm (ii (IntKind.wrap .i64 (i1332 + 1))) rfl <| J.dropAt 1 rfl <| J.front 2 rfl ?_
     refine J.front 2 rfl <| J.nil ?_
     obtain rfl := si h1398
     exact ⟨rfl, ⟨z1456, IntKind.wrap .i64 (i1332 + 1), ad1459, cp1460, rfl, ⟨rfl, rfl, rfl, rfl, rfl, rfl, rfl, rfl, trivial⟩, rfl, rfl⟩⟩
   refine CJ.front 2 rfl <| CJ.front 2 rfl <| CJ.exit ?_
   obtain rfl := si h1398
   refine ⟨nofun, fun e => ?_⟩
   subst e
   exact ⟨rfl, ⟨l1327, ad1328, cp1329, rfl, ⟨rfl, rfl, rfl, rfl, rfl, trivial⟩, rfl, rfl⟩⟩
 rintro ρ _ _ ⟨l1253, ad1254, cp1255, rfl, hf1462, rfl, rfl⟩
 obtain ⟨ρ, rfl⟩ := hf1462.ex
 refine PJ.front 2 rfl <| PJ.wit Row.hn fun hn1257 => PJ.done <| CJ.seq <| cr <| jv _ (V.fad Try.underlying135 rfl nz27 rfl) ?_
 refine jv (.slice adxa_2 xa.2.2.1.length cpxa_2) (V.ld rfl (Ld.sc sc27 (Rd.cl 1 rfl rfl))) <| jv (ii (((xa.2.2.1.length : Nat) : Int))) (V.len Try.underlying27 rfl) <| jm (ii 0) rfl <| J.nil ?_
 obtain ⟨o1755, ho1756, h⟩ := ob h
 refine CJ.meetN (fun ρ K' L' => ∃ (l1750 : (List (Int × Int × Int × Int × Bool))) (ad1751 : Option Addr) (cp1752 : Nat), l1750 = o1755 ∧ Fits [(1, .slice adxb_0 xb.length cpxb_0), (4, .pointer (some ⟨b1041, 0, none⟩)), (7, .pointer (some ⟨b1042, 0, none⟩)), (11, .slice ad1751 l1750.length cp1752)] ρ ∧ Hp.le K K' ∧ L' = Cl b1041 135 [ii xa.1, .slice adxa_1 xa.2.1.length cpxa_1, .slice adxa_2 xa.2.2.1.length cpxa_2, .slice adxa_3 xa.2.2.2.length cpxa_3] :: Cl b1042 30 [.slice adxd_0 xd.length cpxd_0] :: Row Hp.nil 93 (.cons (.int .i64) (.cons (.int .i64) (.cons (.int .i64) (.cons (.int .i64) (.one .bool))))) (.slice ad1751 l1750.length cp1752) l1750 :: F) ?_ ?_
 · refine CJ.block <| CJ.front 2 rfl <| CJ.front 2 rfl <| CJ.loop (fun s ρ K' L' => ∃ (l1851 : (List (Int × Int × Int × Int × Bool))) (i1856 : Int) (ad1852 : Option Addr) (cp1853 : Nat), (l1851, i1856) = s ∧ Fits [(1, .slice adxb_0 xb.length cpxb_0), (2, .slice adxc_0 xc.length cpxc_0), (4, .pointer (some ⟨b1041, 0, none⟩)), (7, .pointer (some ⟨b1042, 0, none⟩)), (11, .slice ad1852 l1851.length cp1853), (57, .slice adxa_2 xa.2.2.1.length cpxa_2), (58, ii (((xa.2.2.1.length : Nat) : Int))), (59, ii i1856)] ρ ∧ Hp.le K K' ∧ L' = Cl b1041 135 [ii xa.1, .slice adxa_1 xa.2.1.length cpxa_1, .slice adxa_2 xa.2.2.1.length cpxa_2, .slice adxa_3 xa.2.2.2.length cpxa_3] :: Cl b1042 30 [.slice adxd_0 xd.length cpxd_0] :: Row Hp.nil 93 (.cons (.int .i64) (.cons (.int .i64) (.cons (.int .i64) (.cons (.int .i64) (.one .bool))))) (.slice ad1852 l1851.length cp1853) l1851 :: F) ho1756 ⟨l1253, 0, ad1254, cp1255, rfl, ⟨rfl, rfl, rfl, rfl, rfl, rfl, rfl, rfl, trivial⟩, (Hp.le_refl _), rfl⟩ ?_
   rintro s ρ K1850 _ r1954 ⟨l1851, i1856, ad1852, cp1853, rfl, hf1952, hk1953, rfl⟩ h1951
   obtain ⟨ρ, rfl⟩ := hf1952.ex
   refine CJ.front 2 rfl <| CJ.wit Row.hn fun hn1855 => cr <| jv (.bool (decide (i1856 < (((xa.2.2.1.length : Nat) : Int))))) (V.lss rfl rfl) <| J.nil <| CJ.seq ?_
   refine cc rfl h1951 (fun hc1955 h1951 => ?_) fun hc1955 h1951 => ?_
   · refine CJ.skip <| CJ.seq <| CJ.block <| cr <| jm (ii i1856) rfl ?_
     obtain ⟨x1956, hx1957, h1951⟩ := ob h1951
     obtain ⟨p1958, p1959, p1960⟩ := getI_some hx1957
     obtain ⟨b1961, o1962, e1963, a1964⟩ := ((fxa_2.mono hk1953)).at p1959
     refine jv _ (V.iad Try.underlying27 sz30 rfl e1963 rfl p1958 p1960) ?_
     obtain ⟨ad1965, cp1966, c1967, f1968⟩ := ((a1964).one).sl
     refine jv (.agg #[.slice ad1965 x1956.length cp1966]) (V.ld rfl (Ld.aggK (cs := [.slice ad1965 x1956.length cp1966]) Try.underlying30 sz30 rfl ⟨c1967, trivial⟩ (Hp.le_refl _))) <| jal inf30 [nos] rfl fun b1969 => ja (ii i1856) rfl <| js [.slice ad1965 x1956.length cp1966] sz30 rfl rfl rfl rfl rfl rfl <| J.nil <| CJ.seq <| CJ.region ?_
     refine jv (.agg #[.slice ad1965 x1956.length cp1966]) (V.ld rfl (Ld.agg (cs := [.slice ad1965 x1956.length cp1966]) Try.underlying30 sz30 rfl (Rd.cls 0 0 rfl rfl))) <| jm (.slice adxb_0 xb.length cpxb_0) rfl ?_
     obtain ⟨r1970, hr1971, h1951⟩ := ob h1951
     refine J.op rfl (A.call (L1 := []) Try.call76 rfl (row_Subst_ok f1968 (fxb_0.mono hk1953) hr1971) rfl rfl) ?_
     rintro _ _ _ ⟨v1977, _, rfl, ⟨⟨l1972, i1973, ad1974, cp1975, rfl, rfl, rfl⟩, rfl⟩, _, rfl⟩
     refine J.wit Row.hn fun hn1976 => jm (.tuple #[.agg #[.slice ad1974 l1972.length cp1975], ii i1973]) rfl <| jx (.agg #[.slice ad1974 l1972.length cp1975]) rfl rfl <| jx (ii i1973) rfl rfl <| jal inf30 [nos] rfl fun b1981 => js [.slice ad1974 l1972.length cp1975] sz30 rfl rfl rfl rfl rfl rfl <| ja (ii i1973) rfl ?_
     refine J.nil <| CJ.seq <| CJ.mix [Cl b1981 30 [.slice ad1974 l1972.length cp1975], Cl b1969 30 [.slice ad1965 x1956.length cp1966], Row Hp.nil 93 (.cons (.int .i64) (.cons (.int .i64) (.cons (.int .i64) (.cons (.int .i64) (.one .bool))))) (.slice ad1852 l1851.length cp1853) l1851, Cl b1041 135 [ii xa.1, .slice adxa_1 xa.2.1.length cpxa_1, .slice adxa_2 xa.2.2.1.length cpxa_2, .slice adxa_3 xa.2.2.2.length cpxa_3], Cl b1042 30 [.slice adxd_0 xd.length cpxd_0]] [([0, 1, 2, 3, 4, 5, 6], 7)] [8, 9, 10, 11, 12] [] mixO (by decide +kernel) ⟨0, rfl, 1, rfl, 1, rfl, 1, rfl, 1, rfl, trivial⟩ rfl rfl rfl <| JM.cons <| qm (.slice adxc_0 xc.length cpxc_0) rfl <| qm (ii i1856) rfl ?_
     obtain ⟨x2009, hx2010, h1951⟩ := ob h1951
     obtain ⟨p2011, p2012, p2013⟩ := getI_some hx2010
     obtain ⟨b2014, o2015, e2016, a2017⟩ := ((fxc_0.mono hk1953)).at p2012
     refine qv _ (V.iad Try.underlying27 sz30 rfl e2016 rfl p2011 p2013) ?_
     obtain ⟨ad2018, cp2019, c2020, f2021⟩ := ((a2017).one).sl
     refine qv (.agg #[.slice ad2018 x2009.length cp2019]) (V.ld rfl (Ld.aggK (cs := [.slice ad2018 x2009.length cp2019]) Try.underlying30 sz30 rfl ⟨c2020, trivial⟩ (Hp.le_refl _))) <| qv (.agg #[.slice ad1974 l1972.length cp1975]) (V.ld rfl (Ld.agg (cs := [.slice ad1974 l1972.length cp1975]) Try.underlying30 sz30 rfl (Rd.cls 0 0 rfl rfl))) <| qm (ii i1856) rfl <| qv (ii (IntKind.wrap .i64 (16 * i1856))) (V.mul rfl rfl) <| JQ.nil <| JA.front 1 rfl <| JA.persist (Hp.nil_le _) (by decide) fun K2022 hK2023 f2024 => ?_
     obtain ⟨r2025, hr2026, h1951⟩ := ob h1951
     refine JA.op rfl (A.call (L1 := []) Try.call53 rfl (relate_Flow_ok (f2021.mono hK2023) f2024 hr2026) rfl rfl) ?_
     rintro _ _ _ ⟨v2032, _, rfl, ⟨⟨l2027, i2028, ad2029, cp2030, rfl, rfl, rfl⟩, rfl⟩, _, rfl⟩
     refine ⟨fun w hs => Hold.sub hK2023 ⟨1, rfl, 1, rfl, 1, rfl, 1, rfl, 1, rfl, trivial⟩ hs, ?_⟩
     refine JM.wit Row.hn fun hn2031 => JM.nil <| qm (.tuple #[.slice ad2029 l2027.length cp2030, ii i2028]) rfl <| qv (.slice ad2029 l2027.length cp2030) (V.ext rfl rfl) <| qv (ii i2028) (V.ext rfl rfl) <| qa (.slice ad2029 l2027.length cp2030) rfl <| qa (ii i2028) rfl ?_
     refine JQ.nil <| J.nil <| CJ.region <| jm (.slice ad1852 l1851.length cp1853) rfl <| jm (.slice ad2029 l2027.length cp2030) rfl ?_
     obtain ⟨z2036, hz2037, h1951⟩ := ob h1951
     refine J.front 3 rfl <| J.op rfl (A.appR (Kr := Hp.nil) Try.underlying90 inf93 rfl rfl (by decide) (by decide) rfl rfl (Els.flat rfl) (Els.flat rfl) hz2037) ?_
     rintro _ _ _ ⟨v2038, rfl, rfl, rfl⟩
     refine J.wit Row.form ?_
     rintro ⟨ad2039, cp2040, rfl, _, _, hn2041⟩
     refine ja (.slice ad2039 z2036.length cp2040) rfl <| J.nil <| CJ.region <| jv (ii (IntKind.wrap .i64 (i1856 + 1))) (V.add rfl rfl) <| jm (ii (IntKind.wrap .i64 (i1856 + 1))) rfl <| J.dropAt 1 rfl <| J.dropAt 1 rfl ?_
     refine J.front 2 rfl <| J.front 2 rfl <| J.nil ?_
     obtain rfl := si h1951
     exact ⟨rfl, ⟨z2036, IntKind.wrap .i64 (i1856 + 1), ad2039, cp2040, rfl, ⟨rfl, rfl, rfl, rfl, rfl, rfl, rfl, rfl, trivial⟩, (hk1953.trans hK2023), rfl⟩⟩
   refine CJ.front 2 rfl <| CJ.front 2 rfl <| CJ.exit ?_
   obtain rfl := si h1951
   refine ⟨nofun, fun e => ?_⟩
   subst e
   exact ⟨rfl, ⟨l1851, ad1852, cp1853, rfl, ⟨rfl, rfl, rfl, rfl, trivial⟩, hk1953, rfl⟩⟩
 rintro ρ K1749 _ ⟨l1750, ad1751, cp1752, rfl, hf2042, hk2043, rfl⟩
 obtain ⟨ρ, rfl⟩ := hf2042.ex
 refine PJ.front 2 rfl <| PJ.wit Row.hn fun hn1754 => PJ.done <| cr <| jv _ (V.fad Try.underlying135 rfl nz30 rfl) <| jv (.agg #[.slice adxa_3 xa.2.2.2.length cpxa_3]) (V.ld rfl (Ld.agg (cs := [.slice adxa_3 xa.2.2.2.length cpxa_3]) Try.underlying30 sz30 rfl (Rd.cls 1 3 rfl rfl))) ?_
 refine jm (.slice adxb_0 xb.length cpxb_0) rfl ?_
 obtain ⟨r2044, hr2045, h⟩ := ob h
 refine J.op rfl (A.call (L1 := []) Try.call76 rfl (row_Subst_ok (fxa_3.mono hk2043) (fxb_0.mono hk2043) hr2045) rfl rfl) ?_
 rintro _ _ _ ⟨v2051, _, rfl, ⟨⟨l2046, i2047, ad2048, cp2049, rfl, rfl, rfl⟩, rfl⟩, _, rfl⟩
 refine J.wit Row.hn fun hn2050 => jm (.tuple #[.agg #[.slice ad2048 l2046.length cp2049], ii i2047]) rfl <| jx (.agg #[.slice ad2048 l2046.length cp2049]) rfl rfl <| jx (ii i2047) rfl rfl <| jal inf30 [nos] rfl fun b2055 => js [.slice ad2048 l2046.length cp2049] sz30 rfl rfl rfl rfl rfl rfl <| ja (ii i2047) rfl ?_
 refine J.nil <| cr <| jv (.agg #[.slice ad2048 l2046.length cp2049]) (V.ld rfl (Ld.agg (cs := [.slice ad2048 l2046.length cp2049]) Try.underlying30 sz30 rfl (Rd.cls 0 0 rfl rfl))) <| jv (.agg #[.slice adxd_0 xd.length cpxd_0]) (V.ld rfl (Ld.agg (cs := [.slice adxd_0 xd.length cpxd_0]) Try.underlying30 sz30 rfl (Rd.cls 4 0 rfl rfl))) <| J.front 1 rfl <| J.persist (Hp.nil_le _) (by decide) fun K2056 hK2057 f2058 => ?_
 obtain ⟨r2059, hr2060, h⟩ := ob h
 refine J.op rfl (A.call (L1 := []) Try.call53 rfl (relate_Flow_ok f2058 (fxd_0.mono (hk2043.trans hK2057)) hr2060) rfl rfl) ?_
 rintro _ _ _ ⟨v2066, _, rfl, ⟨⟨l2061, i2062, ad2063, cp2064, rfl, rfl, rfl⟩, rfl⟩, _, rfl⟩
 refine J.wit Row.hn fun hn2065 => jm (.tuple #[.slice ad2063 l2061.length cp2064, ii i2062]) rfl <| jx (.slice ad2063 l2061.length cp2064) rfl rfl <| jx (ii i2062) rfl rfl <| ja (.slice ad2063 l2061.length cp2064) rfl <| ja (ii i2062) rfl <| J.nil ?_
 refine cr <| jm (.slice ad1751 l1750.length cp1752) rfl <| jm (.slice ad2063 l2061.length cp2064) rfl ?_
 obtain ⟨z2070, hz2071, h⟩ := ob h
 refine J.front 2 rfl <| J.op rfl (A.appR (Kr := Hp.nil) Try.underlying90 inf93 rfl rfl (by decide) (by decide) rfl rfl (Els.flat rfl) (Els.flat rfl) hz2071) ?_
 rintro _ _ _ ⟨v2072, rfl, rfl, rfl⟩
 refine J.wit Row.form ?_
 rintro ⟨ad2073, cp2074, rfl, _, _, hn2075⟩
 refine ja (.slice ad2073 z2070.length cp2074) rfl <| ja (ii 0) rfl <| J.nil <| CJ.ret ?_
 obtain rfl := si h
 exact ⟨_, _, Res.two rfl rfl rfl, ⟨z2070, 0, ad2073, cp2074, rfl, rfl, rfl⟩, (hk2043.trans hK2057), fun w hs => (Sep.dropAt 1 rfl (Sep.dropAt 1 rfl (Sep.dropAt 1 rfl hs)))⟩
noncomputable def fn_term_Needs_l1 (xa : (Int × Int × Int × (List Int) × (List Int) × (List Int))) (xb : (Int × Int × (List (List (Int × Bool))) × (List (Int × Bool)) × (List (Int × (List (Int × Int)) × (List (List (Int × Bool))) × (List (Int × Bool)))))) : ((List (List (Int × Bool))) × Int) → Option (((List (List (Int × Bool))) × Int) ⊕ (List (List (Int × Bool)))) := fun ((l659, i664) : ((List (List (Int × Bool))) × Int)) => cond (decide (i664 < (((xa.2.2.2.2.1.length : Nat) : Int)))) ((getI xa.2.2.2.2.1 i664).bind fun x709 => (getI xb.2.2.1 x709).bind fun x718 => (app l659 (([x718] : List (List (Int × Bool))))).bind fun z734 => some (.inl ((z734, IntKind.wrap .i64 (i664 + 1))))) (some (.inr (l659)))
noncomputable def fn_term_Needs (xa : (Int × Int × Int × (List Int) × (List Int) × (List Int))) (xb : (Int × Int × (List (List (Int × Bool))) × (List (Int × Bool)) × (List (Int × (List (Int × Int)) × (List (List (Int × Bool))) × (List (Int × Bool)))))) : Option (((List (Int × Int × Int × Int × Bool)) × Int)) :=
  (fn_term_form (xa.1, xa.2.1, xa.2.2.1, xa.2.2.2.1, xa.2.2.2.2.1, xa.2.2.2.2.2)).bind fun i425 => cond (!decide (i425 = 0)) (some (([], i425))) ((fn_term_within (xa.1, xa.2.1, xa.2.2.1, xa.2.2.2.1, xa.2.2.2.2.1, xa.2.2.2.2.2) (xb.1, xb.2.1, xb.2.2.1, xb.2.2.2.1, xb.2.2.2.2)).bind fun t433 => cond (!t433) (some (([], 7))) (cond (decide (xa.1 = 3)) (cond (decide ((((xb.2.2.1.length : Nat) : Int)) = 0)) (some (([], 14))) ((getI xb.2.2.1 0).bind fun x466 => (fn_relate_Flow x466 xb.2.2.2.1 7 0).bind fun (l481, i482) => some ((l481, i482)))) (cond (decide (xa.1 = 4)) ((loop (fn_term_Needs_l1 xa xb) ([], 0) : Option ((List (List (Int × Bool))))).bind fun l612 => (getI xb.2.2.2.2 xa.2.1).bind fun x790 => (getI xb.2.2.1 xa.2.2.1).bind fun x811 => (fn_sig_Call (x790.1, x790.2.1, x790.2.2.1, x790.2.2.2) xa.2.2.2.2.2 l612 x811).bind fun (l829, i830) => some ((l829, i830))) (some (([], 0))))))
set_option maxRecDepth 100000 in
set_option maxHeartbeats 4000000 in
theorem term_Needs_ok {K : Hp} {xa : (Int × Int × Int × (List Int) × (List Int) × (List Int))} {xb : (Int × Int × (List (List (Int × Bool))) × (List (Int × Bool)) × (List (Int × (List (Int × Int)) × (List (List (Int × Bool))) × (List (Int × Bool)))))} {adxa_3 : Option Addr} {cpxa_3 : Nat} {adxa_4 : Option Addr} {cpxa_4 : Nat} {adxa_5 : Option Addr} {cpxa_5 : Nat} {adxb_2 : Option Addr} {cpxb_2 : Nat} {adxb_3 : Option Addr} {cpxb_3 : Nat} {adxb_4 : Option Addr} {cpxb_4 : Nat} (fxa_3 : Is K (.sl (.int .i64)) [.slice adxa_3 xa.2.2.2.1.length cpxa_3] xa.2.2.2.1) (fxa_4 : Is K (.sl (.int .i64)) [.slice adxa_4 xa.2.2.2.2.1.length cpxa_4] xa.2.2.2.2.1) (fxa_5 : Is K (.sl (.int .i64)) [.slice adxa_5 xa.2.2.2.2.2.length cpxa_5] xa.2.2.2.2.2) (fxb_2 : Is K (.sl (.one (.sl (.cons (.int .i64) (.one .bool))))) [.slice adxb_2 xb.2.2.1.length cpxb_2] xb.2.2.1) (fxb_3 : Is K (.sl (.cons (.int .i64) (.one .bool))) [.slice adxb_3 xb.2.2.2.1.length cpxb_3] xb.2.2.2.1) (fxb_4 : Is K (.sl (.cons (.int .i64) (.cons (.sl (.cons (.int .i64) (.one (.int .i64)))) (.cons (.sl (.one (.sl (.cons (.int .i64) (.one .bool))))) (.one (.one (.sl (.cons (.int .i64) (.one .bool))))))))) [.slice adxb_4 xb.2.2.2.2.length cpxb_4] xb.2.2.2.2) {r : ((List (Int × Int × Int × Int × Bool)) × Int)} (h : fn_term_Needs xa xb = some r) :
    Tr Try.prog 39 #[.agg #[ii xa.1, ii xa.2.1, ii xa.2.2.1, .slice adxa_3 xa.2.2.2.1.length cpxa_3, .slice adxa_4 xa.2.2.2.2.1.length cpxa_4, .slice adxa_5 xa.2.2.2.2.2.length cpxa_5], .agg #[ii xb.1, ii xb.2.1, .slice adxb_2 xb.2.2.1.length cpxb_2, .slice adxb_3 xb.2.2.2.1.length cpxb_3, .slice adxb_4 xb.2.2.2.2.length cpxb_4]] K [] (fun v K' L' => (∃ (l415 : (List (Int × Int × Int × Int × Bool))) (i420 : Int) (ad416 : Option Addr) (cp417 : Nat), (l415, i420) = r ∧ .tuple #[.slice ad416 l415.length cp417, ii i420] = v ∧ L' = [Row Hp.nil 93 (.cons (.int .i64) (.cons (.int .i64) (.cons (.int .i64) (.cons (.int .i64) (.one .bool))))) (.slice ad416 l415.length cp417) l415]) ∧ K = K') := by
 refine Tr.k <| Tr.of Try.func39 rfl Try.ntmps39 rfl fun E F => ?_
 unfold fn_term_Needs at h
 refine cr <| jbx [ii xa.1, ii xa.2.1, ii xa.2.2.1, .slice adxa_3 xa.2.2.2.1.length cpxa_3, .slice adxa_4 xa.2.2.2.2.1.length cpxa_4, .slice adxa_5 xa.2.2.2.2.2.length cpxa_5] rfl rfl fun b421 => jbx [ii xb.1, ii xb.2.1, .slice adxb_2 xb.2.2.1.length cpxb_2, .slice adxb_3 xb.2.2.2.1.length cpxb_3, .slice adxb_4 xb.2.2.2.2.length cpxb_4] rfl rfl fun b422 => ja (nos) rfl <| ja (ii 0) rfl <| J.nil ?_
 refine CJ.seq <| cr <| jv (.agg #[ii xa.1, ii xa.2.1, ii xa.2.2.1, .slice adxa_3 xa.2.2.2.1.length cpxa_3, .slice adxa_4 xa.2.2.2.2.1.length cpxa_4, .slice adxa_5 xa.2.2.2.2.2.length cpxa_5]) (V.ld rfl (Ld.agg (cs := [ii xa.1, ii xa.2.1, ii xa.2.2.1, .slice adxa_3 xa.2.2.2.1.length cpxa_3, .slice adxa_4 xa.2.2.2.2.1.length cpxa_4, .slice adxa_5 xa.2.2.2.2.2.length cpxa_5]) Try.underlying56 sz56 rfl (Rd.cls 1 0 rfl rfl))) ?_
 obtain ⟨r423, hr424, h⟩ := ob h
 refine J.op rfl (A.call (L1 := []) Try.call56 rfl (term_form_ok fxa_3 fxa_4 fxa_5 hr424) rfl rfl) ?_
 rintro _ _ _ ⟨v426, _, rfl, ⟨⟨i425, rfl, rfl, rfl⟩, rfl⟩, _, rfl⟩
 refine ja (ii i425) rfl <| J.nil <| cr <| jm (ii i425) rfl <| jv (.bool (!decide (i425 = 0))) (V.neq rfl rfl) <| J.nil ?_
 refine cc rfl h (fun hc429 h => ?_) fun hc429 h => ?_
 · refine cr <| jm (ii i425) rfl <| ja (nos) rfl <| ja (ii i425) rfl <| J.nil <| CJ.by (fun w hs => Sep.rowNil (e := 93) (t := (.cons (.int .i64) (.cons (.int .i64) (.cons (.int .i64) (.cons (.int .i64) (.one .bool)))))) hs) ?_
   refine CJ.ret ?_
   obtain rfl := si h
   exact ⟨_, _, Res.two rfl rfl rfl, ⟨[], i425, none, 0, rfl, rfl, rfl⟩, (Hp.le_refl _), fun w hs => (Sep.dropAt 1 rfl (Sep.dropAt 1 rfl hs))⟩
 refine CJ.skip <| CJ.seq <| cr <| jv (.agg #[ii xa.1, ii xa.2.1, ii xa.2.2.1, .slice adxa_3 xa.2.2.2.1.length cpxa_3, .slice adxa_4 xa.2.2.2.2.1.length cpxa_4, .slice adxa_5 xa.2.2.2.2.2.length cpxa_5]) (V.ld rfl (Ld.agg (cs := [ii xa.1, ii xa.2.1, ii xa.2.2.1, .slice adxa_3 xa.2.2.2.1.length cpxa_3, .slice adxa_4 xa.2.2.2.2.1.length cpxa_4, .slice adxa_5 xa.2.2.2.2.2.length cpxa_5]) Try.underlying56 sz56 rfl (Rd.cls 1 0 rfl rfl))) <| jv (.agg #[ii xb.1, ii xb.2.1, .slice adxb_2 xb.2.2.1.length cpxb_2, .slice adxb_3 xb.2.2.2.1.length cpxb_3, .slice adxb_4 xb.2.2.2.2.length cpxb_4]) (V.ld rfl (Ld.agg (cs := [ii xb.1, ii xb.2.1, .slice adxb_2 xb.2.2.1.length cpxb_2, .slice adxb_3 xb.2.2.2.1.length cpxb_3, .slice adxb_4 xb.2.2.2.2.length cpxb_4]) Try.underlying111 sz111 rfl (Rd.cls 0 0 rfl rfl))) ?_
 obtain ⟨r431, hr432, h⟩ := ob h
 refine J.op rfl (A.call (L1 := []) Try.call57 rfl (term_within_ok fxa_3 fxa_4 fxa_5 fxb_2 fxb_3 fxb_4 hr432) rfl rfl) ?_
 rintro _ _ _ ⟨v434, _, rfl, ⟨⟨t433, rfl, rfl, rfl⟩, rfl⟩, _, rfl⟩
 refine jv (.bool (!t433)) (V.not rfl) <| J.nil <| cc rfl h (fun hc437 h => ?_) fun hc437 h => ?_
 · refine cr <| ja (nos) rfl <| ja (ii 7) rfl <| J.nil <| CJ.by (fun w hs => Sep.rowNil (e := 93) (t := (.cons (.int .i64) (.cons (.int .i64) (.cons (.int .i64) (.cons (.int .i64) (.one .bool)))))) hs) <| CJ.ret ?_
   obtain rfl := si h
   exact ⟨_, _, Res.two rfl rfl rfl, ⟨[], 7, none, 0, rfl, rfl, rfl⟩, (Hp.le_refl _), fun w hs => (Sep.dropAt 1 rfl (Sep.dropAt 1 rfl hs))⟩
 refine CJ.skip <| CJ.seq <| cr <| jv _ (V.fad Try.underlying56 rfl nz3 rfl) <| jv (ii xa.1) (V.ld rfl (Ld.sc sc3 (Rd.cl 1 rfl rfl))) <| J.nil ?_
 refine CJ.block <| cr <| jv (.bool (decide (xa.1 = 3))) (V.eql rfl rfl) <| ja (.bool (decide (xa.1 = 3))) rfl <| J.nil <| cc rfl h (fun hc439 h => ?_) fun hc439 h => ?_
 · refine CJ.seq <| cr <| jv _ (V.fad Try.underlying111 rfl nz27 rfl) <| jv (.slice adxb_2 xb.2.2.1.length cpxb_2) (V.ld rfl (Ld.sc sc27 (Rd.cl 0 rfl rfl))) <| jv (ii (((xb.2.2.1.length : Nat) : Int))) (V.len Try.underlying27 rfl) <| jv (.bool (decide ((((xb.2.2.1.length : Nat) : Int)) = 0))) (V.eql rfl rfl) ?_
   refine J.nil <| cc rfl h (fun hc440 h => ?_) fun hc440 h => ?_
   · refine cr <| ja (nos) rfl <| ja (ii 14) rfl <| J.nil <| CJ.by (fun w hs => Sep.rowNil (e := 93) (t := (.cons (.int .i64) (.cons (.int .i64) (.cons (.int .i64) (.cons (.int .i64) (.one .bool)))))) hs) <| CJ.ret ?_
     obtain rfl := si h
     exact ⟨_, _, Res.two rfl rfl rfl, ⟨[], 14, none, 0, rfl, rfl, rfl⟩, (Hp.le_refl _), fun w hs => (Sep.dropAt 1 rfl (Sep.dropAt 1 rfl hs))⟩
   refine CJ.skip <| CJ.seq <| CJ.mix [Cl b422 111 [ii xb.1, ii xb.2.1, .slice adxb_2 xb.2.2.1.length cpxb_2, .slice adxb_3 xb.2.2.2.1.length cpxb_3, .slice adxb_4 xb.2.2.2.2.length cpxb_4], Cl b421 56 [ii xa.1, ii xa.2.1, ii xa.2.2.1, .slice adxa_3 xa.2.2.2.1.length cpxa_3, .slice adxa_4 xa.2.2.2.2.1.length cpxa_4, .slice adxa_5 xa.2.2.2.2.2.length cpxa_5]] [([0, 1, 2, 3, 4, 5], 6)] [7, 8, 9, 10] [] mixO (by decide +kernel) ⟨0, rfl, 0, rfl, trivial⟩ rfl rfl rfl <| JM.cons <| qv _ (V.fad Try.underlying111 rfl nz27 rfl) <| qv (.slice adxb_2 xb.2.2.1.length cpxb_2) (V.ld rfl (Ld.sc sc27 (Rd.cl 0 rfl rfl))) ?_
   obtain ⟨x466, hx467, h⟩ := ob h
   obtain ⟨p468, p469, p470⟩ := getI_some hx467
   obtain ⟨b471, o472, e473, a474⟩ := (fxb_2).at p469
   refine qv _ (V.iad Try.underlying27 sz30 rfl e473 rfl p468 p470) ?_
   obtain ⟨ad475, cp476, c477, f478⟩ := ((a474).one).sl
   refine qv (.agg #[.slice ad475 x466.length cp476]) (V.ld rfl (Ld.aggK (cs := [.slice ad475 x466.length cp476]) Try.underlying30 sz30 rfl ⟨c477, trivial⟩ (Hp.le_refl _))) <| qv _ (V.fad Try.underlying111 rfl nz30 rfl) <| qv (.agg #[.slice adxb_3 xb.2.2.2.1.length cpxb_3]) (V.ld rfl (Ld.agg (cs := [.slice adxb_3 xb.2.2.2.1.length cpxb_3]) Try.underlying30 sz30 rfl (Rd.cls 0 3 rfl rfl))) <| JQ.nil ?_
   obtain ⟨r479, hr480, h⟩ := ob h
   refine JA.op rfl (A.call (L1 := []) Try.call53 rfl (relate_Flow_ok f478 fxb_3 hr480) rfl rfl) ?_
   rintro _ _ _ ⟨v486, _, rfl, ⟨⟨l481, i482, ad483, cp484, rfl, rfl, rfl⟩, rfl⟩, _, rfl⟩
   refine ⟨fun w hs => Hold.sub (Hp.le_refl _) ⟨1, rfl, 1, rfl, trivial⟩ hs, ?_⟩
   refine JM.wit Row.hn fun hn485 => JM.nil <| qv (.slice ad483 l481.length cp484) (V.ext rfl rfl) <| qv (ii i482) (V.ext rfl rfl) <| qa (.slice ad483 l481.length cp484) rfl <| qa (ii i482) rfl <| JQ.nil ?_
   refine J.nil <| CJ.ret ?_
   obtain rfl := si h
   exact ⟨_, _, Res.two rfl rfl rfl, ⟨l481, i482, ad483, cp484, rfl, rfl, rfl⟩, (Hp.le_refl _), fun w hs => (Sep.dropAt 1 rfl (Sep.dropAt 1 rfl hs))⟩
 refine cr <| jv (.bool (decide (xa.1 = 4))) (V.eql rfl rfl) <| ja (.bool (decide (xa.1 = 4))) rfl <| J.nil <| cc rfl h (fun hc490 h => ?_) fun hc490 h => ?_
 · refine cr <| ja (nos) rfl <| J.nil <| CJ.seq <| CJ.seq <| CJ.region ?_
   refine jv _ (V.fad Try.underlying56 rfl nz54 rfl) <| jv (.slice adxa_4 xa.2.2.2.2.1.length cpxa_4) (V.ld rfl (Ld.sc sc54 (Rd.cl 1 rfl rfl))) <| jv (ii (((xa.2.2.2.2.1.length : Nat) : Int))) (V.len Try.underlying54 rfl) <| jm (ii 0) rfl <| J.nil ?_
   obtain ⟨o617, ho618, h⟩ := ob h
   refine CJ.meetN (fun ρ K' L' => ∃ (l612 : (List (List (Int × Bool)))) (ad613 : Option Addr) (cp614 : Nat), l612 = o617 ∧ Fits [(2, .pointer (some ⟨b421, 0, none⟩)), (3, .pointer (some ⟨b422, 0, none⟩)), (7, .slice ad613 l612.length cp614)] ρ ∧ K = K' ∧ L' = Cl b421 56 [ii xa.1, ii xa.2.1, ii xa.2.2.1, .slice adxa_3 xa.2.2.2.1.length cpxa_3, .slice adxa_4 xa.2.2.2.2.1.length cpxa_4, .slice adxa_5 xa.2.2.2.2.2.length cpxa_5] :: Cl b422 111 [ii xb.1, ii xb.2.1, .slice adxb_2 xb.2.2.1.length cpxb_2, .slice adxb_3 xb.2.2.2.1.length cpxb_3, .slice adxb_4 xb.2.2.2.2.length cpxb_4] :: Row K 30 (.one (.sl (.cons (.int .i64) (.one .bool)))) (.slice ad613 l612.length cp614) l612 :: F) ?_ ?_
   · refine CJ.block <| CJ.by (fun w hs => Sep.rowNil (e := 30) (t := (.one (.sl (.cons (.int .i64) (.one .bool))))) hs) <| CJ.by (fun w hs => hs.mono (Row.mono (Hp.nil_le K))) <| CJ.front 1 rfl <| CJ.front 2 rfl <| CJ.loop (fun s ρ K' L' => ∃ (l659 : (List (List (Int × Bool)))) (i664 : Int) (ad660 : Option Addr) (cp661 : Nat), (l659, i664) = s ∧ Fits [(2, .pointer (some ⟨b421, 0, none⟩)), (3, .pointer (some ⟨b422, 0, none⟩)), (7, .slice ad660 l659.length cp661), (39, .slice adxa_4 xa.2.2.2.2.1.length cpxa_4), (40, ii (((xa.2.2.2.2.1.length : Nat) : Int))), (41, ii i664)] ρ ∧ K = K' ∧ L' = Cl b421 56 [ii xa.1, ii xa.2.1, ii xa.2.2.1, .slice adxa_3 xa.2.2.2.1.length cpxa_3, .slice adxa_4 xa.2.2.2.2.1.length cpxa_4, .slice adxa_5 xa.2.2.2.2.2.length cpxa_5] :: Cl b422 111 [ii xb.1, ii xb.2.1, .slice adxb_2 xb.2.2.1.length cpxb_2, .slice adxb_3 xb.2.2.2.1.length cpxb_3, .slice adxb_4 xb.2.2.2.2.length cpxb_4] :: Row K 30 (.one (.sl (.cons (.int .i64) (.one .bool)))) (.slice ad660 l659.length cp661) l659 :: F) ho618 ⟨[], 0, none, 0, rfl, ⟨rfl, rfl, rfl, rfl, rfl, rfl, trivial⟩, rfl, rfl⟩ ?_
     rintro s ρ _ _ r707 ⟨l659, i664, ad660, cp661, rfl, hf705, rfl, rfl⟩ h703
     obtain ⟨ρ, rfl⟩ := hf705.ex
     refine CJ.front 2 rfl <| CJ.wit Row.hn fun hn663 => cr <| jv (.bool (decide (i664 < (((xa.2.2.2.2.1.length : Nat) : Int))))) (V.lss rfl rfl) <| J.nil <| CJ.seq ?_
     refine cc rfl h703 (fun hc708 h703 => ?_) fun hc708 h703 => ?_
     · refine CJ.skip <| CJ.seq <| CJ.block <| CJ.seq <| CJ.region ?_
       obtain ⟨x709, hx710, h703⟩ := ob h703
       obtain ⟨p711, p712, p713⟩ := getI_some hx710
       obtain ⟨b714, o715, e716, a717⟩ := (fxa_4).at p712
       refine jv _ (V.iad Try.underlying54 sz3 rfl e716 rfl p711 p713) <| jv (ii x709) (V.ld rfl (Ld.sc sc3 (Rd.k (a717).int (Hp.le_refl _)))) <| ja (ii x709) rfl <| J.nil <| CJ.region <| jm (.slice ad660 l659.length cp661) rfl <| jv _ (V.fad Try.underlying111 rfl nz27 rfl) ?_
       refine jv (.slice adxb_2 xb.2.2.1.length cpxb_2) (V.ld rfl (Ld.sc sc27 (Rd.cl 2 rfl rfl))) <| jm (ii x709) rfl ?_
       obtain ⟨x718, hx719, h703⟩ := ob h703
       obtain ⟨p720, p721, p722⟩ := getI_some hx719
       obtain ⟨b723, o724, e725, a726⟩ := (fxb_2).at p721
       refine jv _ (V.iad Try.underlying27 sz30 rfl e725 rfl p720 p722) ?_
       obtain ⟨ad727, cp728, c729, f730⟩ := ((a726).one).sl
       refine jv (.agg #[.slice ad727 x718.length cp728]) (V.ld rfl (Ld.aggK (cs := [.slice ad727 x718.length cp728]) Try.underlying30 sz30 rfl ⟨c729, trivial⟩ (Hp.le_refl _))) ?_
       refine J.op rfl (A.lit (K0 := K) (ty := (.one (.sl (.cons (.int .i64) (.one .bool))))) (xs := ([x718] : List (List (Int × Bool)))) Try.underlying27 inf30 rfl (by decide) rfl rfl rfl ⟨_, _, rfl, f730, rfl⟩ rfl (by decide)) ?_
       rintro _ _ _ ⟨b731, rfl, rfl, rfl⟩
       have hn732 : ([x718] : List (List (Int × Bool))) ≠ [] → ∃ g, (some ⟨b731, 0, none⟩ : Option Addr) = some ⟨g, 0, none⟩ := fun _ => ⟨b731, rfl⟩
       obtain ⟨z734, hz735, h703⟩ := ob h703
       refine J.front 1 rfl <| J.op rfl (A.appR (Kr := K) Try.underlying27 inf30 rfl rfl (by decide) (by decide) rfl rfl (Els.mono (Hp.le_refl _)) (Els.mono (Hp.le_refl _)) hz735) ?_
       rintro _ _ _ ⟨v736, rfl, rfl, rfl⟩
       refine J.wit Row.form ?_
       rintro ⟨ad737, cp738, rfl, _, _, hn739⟩
       refine ja (.slice ad737 z734.length cp738) rfl <| J.nil <| CJ.region <| jv (ii (IntKind.wrap .i64 (i664 + 1))) (V.add rfl rfl) <| jm (ii (IntKind.wrap .i64 (i664 + 1))) rfl <| J.front 2 rfl <| J.front 2 rfl ?_
       refine J.nil ?_
       obtain rfl := si h703
       exact ⟨rfl, ⟨z734, IntKind.wrap .i64 (i664 + 1), ad737, cp738, rfl, ⟨rfl, rfl, rfl, rfl, rfl, rfl, trivial⟩, rfl, rfl⟩⟩
     refine CJ.front 2 rfl <| CJ.front 2 rfl <| CJ.exit ?_
     obtain rfl := si h703
     refine ⟨nofun, fun e => ?_⟩
     subst e
     exact ⟨rfl, ⟨l659, ad660, cp661, rfl, ⟨rfl, rfl, rfl, trivial⟩, rfl, rfl⟩⟩
   rintro ρ _ _ ⟨l612, ad613, cp614, rfl, hf740, rfl, rfl⟩
   obtain ⟨ρ, rfl⟩ := hf740.ex
   refine PJ.front 2 rfl <| PJ.wit Row.hn fun hn616 => PJ.done <| CJ.seq <| CJ.mix [Cl b421 56 [ii xa.1, ii xa.2.1, ii xa.2.2.1, .slice adxa_3 xa.2.2.2.1.length cpxa_3, .slice adxa_4 xa.2.2.2.2.1.length cpxa_4, .slice adxa_5 xa.2.2.2.2.2.length cpxa_5], Cl b422 111 [ii xb.1, ii xb.2.1, .slice adxb_2 xb.2.2.1.length cpxb_2, .slice adxb_3 xb.2.2.2.1.length cpxb_3, .slice adxb_4 xb.2.2.2.2.length cpxb_4]] [([0, 1, 2, 3, 4, 5, 6, 7, 8, 9, 10, 11, 12, 13, 14], 15)] [16, 17, 18, 19] [] mixO (by decide +kernel) ⟨1, rfl, 1, rfl, trivial⟩ rfl rfl rfl <| JM.cons <| qv _ (V.fad Try.underlying111 rfl nz31 rfl) ?_
   refine qv (.slice adxb_4 xb.2.2.2.2.length cpxb_4) (V.ld rfl (Ld.sc sc31 (Rd.cl 1 rfl rfl))) <| qv _ (V.fad Try.underlying56 rfl nz3 rfl) <| qv (ii xa.2.1) (V.ld rfl (Ld.sc sc3 (Rd.cl 0 rfl rfl))) ?_
   obtain ⟨x790, hx791, h⟩ := ob h
   obtain ⟨p792, p793, p794⟩ := getI_some hx791
   obtain ⟨b795, o796, e797, a798⟩ := (fxb_4).at p793
   refine qv _ (V.iad Try.underlying31 sz135 rfl e797 rfl p792 p794) ?_
   obtain ⟨ad799, cp800, c801, f802⟩ := (((a798).snd).fst).sl
   obtain ⟨ad803, cp804, c805, f806⟩ := ((((a798).snd).snd).fst).sl
   obtain ⟨ad807, cp808, c809, f810⟩ := ((((((a798).snd).snd).snd).one).one).sl
   refine qv (.agg #[ii x790.1, .slice ad799 x790.2.1.length cp800, .slice ad803 x790.2.2.1.length cp804, .slice ad807 x790.2.2.2.length cp808]) (V.ld rfl (Ld.aggK (cs := [ii x790.1, .slice ad799 x790.2.1.length cp800, .slice ad803 x790.2.2.1.length cp804, .slice ad807 x790.2.2.2.length cp808]) Try.underlying135 sz135 rfl ⟨((a798).fst).int, c801, c805, c809, trivial⟩ (Hp.le_refl _))) <| qv _ (V.fad Try.underlying56 rfl nz54 rfl) <| qv (.slice adxa_5 xa.2.2.2.2.2.length cpxa_5) (V.ld rfl (Ld.sc sc54 (Rd.cl 0 rfl rfl))) <| qm (.slice ad613 l612.length cp614) rfl <| qv _ (V.fad Try.underlying111 rfl nz27 rfl) <| qv (.slice adxb_2 xb.2.2.1.length cpxb_2) (V.ld rfl (Ld.sc sc27 (Rd.cl 1 rfl rfl))) <| qv _ (V.fad Try.underlying56 rfl nz3 rfl) ?_
   refine qv (ii xa.2.2.1) (V.ld rfl (Ld.sc sc3 (Rd.cl 0 rfl rfl))) ?_
   obtain ⟨x811, hx812, h⟩ := ob h
   obtain ⟨p813, p814, p815⟩ := getI_some hx812
   obtain ⟨b816, o817, e818, a819⟩ := (fxb_2).at p814
   refine qv _ (V.iad Try.underlying27 sz30 rfl e818 rfl p813 p815) ?_
   obtain ⟨ad820, cp821, c822, f823⟩ := ((a819).one).sl
   refine qv (.agg #[.slice ad820 x811.length cp821]) (V.ld rfl (Ld.aggK (cs := [.slice ad820 x811.length cp821]) Try.underlying30 sz30 rfl ⟨c822, trivial⟩ (Hp.le_refl _))) <| JQ.nil <| JA.persist (Hp.le_refl _) (by decide) fun K824 hK825 f826 => ?_
   obtain ⟨r827, hr828, h⟩ := ob h
   refine JA.op rfl (A.call (L1 := []) Try.call58 rfl (sig_Call_ok (f802.mono hK825) (f806.mono hK825) (f810.mono hK825) (fxa_5.mono hK825) f826 (f823.mono hK825) hr828) rfl rfl) ?_
   rintro _ _ _ ⟨v834, _, rfl, ⟨⟨l829, i830, ad831, cp832, rfl, rfl, rfl⟩, rfl⟩, _, rfl⟩
   refine ⟨fun w hs => Hold.sub hK825 ⟨1, rfl, 1, rfl, trivial⟩ hs, ?_⟩
   refine JM.wit Row.hn fun hn833 => JM.nil <| qv (.slice ad831 l829.length cp832) (V.ext rfl rfl) <| qv (ii i830) (V.ext rfl rfl) <| qa (.slice ad831 l829.length cp832) rfl <| qa (ii i830) rfl <| JQ.nil ?_
   refine J.nil <| CJ.ret ?_
   obtain rfl := si h
   exact ⟨_, _, Res.two rfl rfl rfl, ⟨l829, i830, ad831, cp832, rfl, rfl, rfl⟩, hK825, fun w hs => (Sep.dropAt 1 rfl (Sep.dropAt 1 rfl hs))⟩
 refine CJ.skip <| cr <| ja (nos) rfl <| ja (ii 0) rfl <| J.nil <| CJ.by (fun w hs => Sep.rowNil (e := 93) (t := (.cons (.int .i64) (.cons (.int .i64) (.cons (.int .i64) (.cons (.int .i64) (.one .bool)))))) hs) ?_
 refine CJ.ret ?_
 obtain rfl := si h
 exact ⟨_, _, Res.two rfl rfl rfl, ⟨[], 0, none, 0, rfl, rfl, rfl⟩, (Hp.le_refl _), fun w hs => (Sep.dropAt 1 rfl (Sep.dropAt 1 rfl hs))⟩

noncomputable def fn_term_Check (xa : (Int × Int × Int × (List Int) × (List Int) × (List Int))) (xb : (Int × Int × (List (List (Int × Bool))) × (List (Int × Bool)) × (List (Int × (List (Int × Int)) × (List (List (Int × Bool))) × (List (Int × Bool)))))) : Option Int :=
  (fn_term_Needs (xa.1, xa.2.1, xa.2.2.1, xa.2.2.2.1, xa.2.2.2.2.1, xa.2.2.2.2.2) (xb.1, xb.2.1, xb.2.2.1, xb.2.2.2.1, xb.2.2.2.2)).bind fun (l19, i20) => some (i20)
set_option maxRecDepth 100000 in
set_option maxHeartbeats 4000000 in
theorem term_Check_ok {K : Hp} {xa : (Int × Int × Int × (List Int) × (List Int) × (List Int))} {xb : (Int × Int × (List (List (Int × Bool))) × (List (Int × Bool)) × (List (Int × (List (Int × Int)) × (List (List (Int × Bool))) × (List (Int × Bool)))))} {adxa_3 : Option Addr} {cpxa_3 : Nat} {adxa_4 : Option Addr} {cpxa_4 : Nat} {adxa_5 : Option Addr} {cpxa_5 : Nat} {adxb_2 : Option Addr} {cpxb_2 : Nat} {adxb_3 : Option Addr} {cpxb_3 : Nat} {adxb_4 : Option Addr} {cpxb_4 : Nat} (fxa_3 : Is K (.sl (.int .i64)) [.slice adxa_3 xa.2.2.2.1.length cpxa_3] xa.2.2.2.1) (fxa_4 : Is K (.sl (.int .i64)) [.slice adxa_4 xa.2.2.2.2.1.length cpxa_4] xa.2.2.2.2.1) (fxa_5 : Is K (.sl (.int .i64)) [.slice adxa_5 xa.2.2.2.2.2.length cpxa_5] xa.2.2.2.2.2) (fxb_2 : Is K (.sl (.one (.sl (.cons (.int .i64) (.one .bool))))) [.slice adxb_2 xb.2.2.1.length cpxb_2] xb.2.2.1) (fxb_3 : Is K (.sl (.cons (.int .i64) (.one .bool))) [.slice adxb_3 xb.2.2.2.1.length cpxb_3] xb.2.2.2.1) (fxb_4 : Is K (.sl (.cons (.int .i64) (.cons (.sl (.cons (.int .i64) (.one (.int .i64)))) (.cons (.sl (.one (.sl (.cons (.int .i64) (.one .bool))))) (.one (.one (.sl (.cons (.int .i64) (.one .bool))))))))) [.slice adxb_4 xb.2.2.2.2.length cpxb_4] xb.2.2.2.2) {r : Int} (h : fn_term_Check xa xb = some r) :
    Tr Try.prog 66 #[.agg #[ii xa.1, ii xa.2.1, ii xa.2.2.1, .slice adxa_3 xa.2.2.2.1.length cpxa_3, .slice adxa_4 xa.2.2.2.2.1.length cpxa_4, .slice adxa_5 xa.2.2.2.2.2.length cpxa_5], .agg #[ii xb.1, ii xb.2.1, .slice adxb_2 xb.2.2.1.length cpxb_2, .slice adxb_3 xb.2.2.2.1.length cpxb_3, .slice adxb_4 xb.2.2.2.2.length cpxb_4]] K [] (fun v K' L' => (∃ (i14 : Int), i14 = r ∧ ii i14 = v ∧ L' = []) ∧ K = K') := by
 refine Tr.k <| Tr.of Try.func66 rfl Try.ntmps66 rfl fun E F => ?_
 unfold fn_term_Check at h
 refine cr <| jbx [ii xa.1, ii xa.2.1, ii xa.2.2.1, .slice adxa_3 xa.2.2.2.1.length cpxa_3, .slice adxa_4 xa.2.2.2.2.1.length cpxa_4, .slice adxa_5 xa.2.2.2.2.2.length cpxa_5] rfl rfl fun b15 => jbx [ii xb.1, ii xb.2.1, .slice adxb_2 xb.2.2.1.length cpxb_2, .slice adxb_3 xb.2.2.2.1.length cpxb_3, .slice adxb_4 xb.2.2.2.2.length cpxb_4] rfl rfl fun b16 => ja (ii 0) rfl <| J.nil <| CJ.seq ?_
 refine CJ.region <| jv (.agg #[ii xa.1, ii xa.2.1, ii xa.2.2.1, .slice adxa_3 xa.2.2.2.1.length cpxa_3, .slice adxa_4 xa.2.2.2.2.1.length cpxa_4, .slice adxa_5 xa.2.2.2.2.2.length cpxa_5]) (V.ld rfl (Ld.agg (cs := [ii xa.1, ii xa.2.1, ii xa.2.2.1, .slice adxa_3 xa.2.2.2.1.length cpxa_3, .slice adxa_4 xa.2.2.2.2.1.length cpxa_4, .slice adxa_5 xa.2.2.2.2.2.length cpxa_5]) Try.underlying56 sz56 rfl (Rd.cls 1 0 rfl rfl))) <| jv (.agg #[ii xb.1, ii xb.2.1, .slice adxb_2 xb.2.2.1.length cpxb_2, .slice adxb_3 xb.2.2.2.1.length cpxb_3, .slice adxb_4 xb.2.2.2.2.length cpxb_4]) (V.ld rfl (Ld.agg (cs := [ii xb.1, ii xb.2.1, .slice adxb_2 xb.2.2.1.length cpxb_2, .slice adxb_3 xb.2.2.2.1.length cpxb_3, .slice adxb_4 xb.2.2.2.2.length cpxb_4]) Try.underlying111 sz111 rfl (Rd.cls 0 0 rfl rfl))) ?_
 obtain ⟨r17, hr18, h⟩ := ob h
 refine J.op rfl (A.call (L1 := []) Try.call39 rfl (term_Needs_ok fxa_3 fxa_4 fxa_5 fxb_2 fxb_3 fxb_4 hr18) rfl rfl) ?_
 rintro _ _ _ ⟨v24, _, rfl, ⟨⟨l19, i20, ad21, cp22, rfl, rfl, rfl⟩, rfl⟩, _, rfl⟩
 refine J.wit Row.hn fun hn23 => jm (.tuple #[.slice ad21 l19.length cp22, ii i20]) rfl <| jx (.slice ad21 l19.length cp22) rfl rfl <| jx (ii i20) rfl rfl <| ja (.slice ad21 l19.length cp22) rfl <| ja (ii i20) rfl <| J.nil ?_
 refine cr <| jm (ii i20) rfl <| ja (ii i20) rfl <| J.nil <| CJ.ret ?_
 obtain rfl := si h
 exact ⟨_, _, Res.one rfl rfl, ⟨i20, rfl, rfl, rfl⟩, (Hp.le_refl _), fun w hs => (Sep.dropAt 0 rfl (Sep.dropAt 0 rfl (Sep.dropAt 0 rfl hs)))⟩
noncomputable def fn_valid_code_az_l1 (xa : (Int × Int × (List (Int × Int)) × (List (List (Int × Bool))) × (List (Int × Bool)) × (List (Int × (List (Int × Int)) × (List (List (Int × Bool))) × (List (Int × Bool)))) × (List ((List (Int × Int × Int × Int × Bool)) × (Int × Int × Int × (List Int) × (List Int) × (List Int)))))) (i2000 : Int) (x2203 : ((List (Int × Int × Int × Int × Bool)) × (Int × Int × Int × (List Int) × (List Int) × (List Int)))) : Int → Option (Int ⊕ (Unit ⊕ (Int ⊕ (Unit ⊕ (Int × Int × Int × Int))))) := fun (i2331 : Int) => cond (decide (i2331 < (((x2203.1.length : Nat) : Int)))) ((getI x2203.1 i2331).bind fun x2361 => (fn_tick_Counter_Add_zii 1 1).bind fun _ => (fn_stmt_Check (x2361.1, x2361.2.1, x2361.2.2.1, x2361.2.2.2.1, x2361.2.2.2.2) xa.2.2.2.1 xa.2.1).bind fun i2378 => cond (!decide (i2378 = 0)) (some (.inr ((.inr (.inr ((.inr ((i2378, 6, i2000, i2331))))))))) (some (.inl (IntKind.wrap .i64 (i2331 + 1))))) (some (.inr ((.inl ()))))
noncomputable def fn_valid_code_az_l2 (xa : (Int × Int × (List (Int × Int)) × (List (List (Int × Bool))) × (List (Int × Bool)) × (List (Int × (List (Int × Int)) × (List (List (Int × Bool))) × (List (Int × Bool)))) × (List ((List (Int × Int × Int × Int × Bool)) × (Int × Int × Int × (List Int) × (List Int) × (List Int)))))) : Int → Option (Int ⊕ (Unit ⊕ (Int × Int × Int × Int))) := fun (i2000 : Int) => cond (decide (i2000 < (((xa.2.2.2.2.2.2.length : Nat) : Int)))) ((getI xa.2.2.2.2.2.2 i2000).bind fun x2203 => (loop (fn_valid_code_az_l1 xa i2000 x2203) 0 : Option (Unit ⊕ (Int ⊕ (Unit ⊕ (Int × Int × Int × Int))))).bind fun o => match o with | .inr r => some r | .inl () => (fn_tick_Counter_Add_zii 1 1).bind fun _ => (fn_term_Check (x2203.2.1, x2203.2.2.1, x2203.2.2.2.1, x2203.2.2.2.2.1, x2203.2.2.2.2.2.1, x2203.2.2.2.2.2.2) ((((xa.2.2.2.2.2.2.length : Nat) : Int), xa.2.1, xa.2.2.2.1, xa.2.2.2.2.1, xa.2.2.2.2.2.1))).bind fun i2393 => cond (!decide (i2393 = 0)) (some (.inr ((.inr ((i2393, 7, i2000, 0)))))) (some (.inl (IntKind.wrap .i64 (i2000 + 1))))) (some (.inr ((.inl ()))))
noncomputable def fn_valid_code_az (xa : (Int × Int × (List (Int × Int)) × (List (List (Int × Bool))) × (List (Int × Bool)) × (List (Int × (List (Int × Int)) × (List (List (Int × Bool))) × (List (Int × Bool)))) × (List ((List (Int × Int × Int × Int × Bool)) × (Int × Int × Int × (List Int) × (List Int) × (List Int)))))) : Option (Int × Int × Int × Int) :=
  (loop (fn_valid_code_az_l2 xa) 0 : Option (Unit ⊕ (Int × Int × Int × Int))).bind fun o => match o with | .inr r => some r | .inl () => some ((0, 0, 0, 0))
set_option maxRecDepth 100000 in
set_option maxHeartbeats 4000000 in
theorem valid_code_az_ok {K : Hp} {xa : (Int × Int × (List (Int × Int)) × (List (List (Int × Bool))) × (List (Int × Bool)) × (List (Int × (List (Int × Int)) × (List (List (Int × Bool))) × (List (Int × Bool)))) × (List ((List (Int × Int × Int × Int × Bool)) × (Int × Int × Int × (List Int) × (List Int) × (List Int)))))} {adxa_2 : Option Addr} {cpxa_2 : Nat} {adxa_3 : Option Addr} {cpxa_3 : Nat} {adxa_4 : Option Addr} {cpxa_4 : Nat} {adxa_5 : Option Addr} {cpxa_5 : Nat} {adxa_6 : Option Addr} {cpxa_6 : Nat} (fxa_2 : Is K (.sl (.cons (.int .i64) (.one (.int .i64)))) [.slice adxa_2 xa.2.2.1.length cpxa_2] xa.2.2.1) (fxa_3 : Is K (.sl (.one (.sl (.cons (.int .i64) (.one .bool))))) [.slice adxa_3 xa.2.2.2.1.length cpxa_3] xa.2.2.2.1) (fxa_4 : Is K (.sl (.cons (.int .i64) (.one .bool))) [.slice adxa_4 xa.2.2.2.2.1.length cpxa_4] xa.2.2.2.2.1) (fxa_5 : Is K (.sl (.cons (.int .i64) (.cons (.sl (.cons (.int .i64) (.one (.int .i64)))) (.cons (.sl (.one (.sl (.cons (.int .i64) (.one .bool))))) (.one (.one (.sl (.cons (.int .i64) (.one .bool))))))))) [.slice adxa_5 xa.2.2.2.2.2.1.length cpxa_5] xa.2.2.2.2.2.1) (fxa_6 : Is K (.sl (.cons (.sl (.cons (.int .i64) (.cons (.int .i64) (.cons (.int .i64) (.cons (.int .i64) (.one .bool)))))) (.one (.cons (.int .i64) (.cons (.int .i64) (.cons (.int .i64) (.cons (.sl (.int .i64)) (.cons (.sl (.int .i64)) (.one (.sl (.int .i64))))))))))) [.slice adxa_6 xa.2.2.2.2.2.2.length cpxa_6] xa.2.2.2.2.2.2) {r : (Int × Int × Int × Int)} (h : fn_valid_code_az xa = some r) :
    Tr Try.prog 50 #[.agg #[ii xa.1, ii xa.2.1, .slice adxa_2 xa.2.2.1.length cpxa_2, .slice adxa_3 xa.2.2.2.1.length cpxa_3, .slice adxa_4 xa.2.2.2.2.1.length cpxa_4, .slice adxa_5 xa.2.2.2.2.2.1.length cpxa_5, .slice adxa_6 xa.2.2.2.2.2.2.length cpxa_6], .pointer none] K [] (fun v K' L' => (∃ (i1199 : Int) (i1200 : Int) (i1201 : Int) (i1202 : Int), (i1199, i1200, i1201, i1202) = r ∧ .agg #[ii i1199, ii i1200, ii i1201, ii i1202] = v ∧ L' = []) ∧ K = K') := by
 refine Tr.k <| Tr.of Try.func50 rfl Try.ntmps50 rfl fun E F => ?_
 unfold fn_valid_code_az at h
 refine cr <| jbx [ii xa.1, ii xa.2.1, .slice adxa_2 xa.2.2.1.length cpxa_2, .slice adxa_3 xa.2.2.2.1.length cpxa_3, .slice adxa_4 xa.2.2.2.2.1.length cpxa_4, .slice adxa_5 xa.2.2.2.2.2.1.length cpxa_5, .slice adxa_6 xa.2.2.2.2.2.2.length cpxa_6] rfl rfl fun b1203 => jal inf104 [ii 0, ii 0, ii 0, ii 0] rfl fun b1204 => J.nil <| CJ.seq <| CJ.region ?_
 refine jv _ (V.fad Try.underlying34 rfl nz32 rfl) <| jv (.slice adxa_6 xa.2.2.2.2.2.2.length cpxa_6) (V.ld rfl (Ld.sc sc32 (Rd.cl 1 rfl rfl))) <| jv (ii (((xa.2.2.2.2.2.2.length : Nat) : Int))) (V.len Try.underlying32 rfl) <| jv _ (V.fad Try.underlying34 rfl nz3 rfl) <| jv (ii xa.2.1) (V.ld rfl (Ld.sc sc3 (Rd.cl 1 rfl rfl))) <| jv _ (V.fad Try.underlying34 rfl nz27 rfl) <| jv (.slice adxa_3 xa.2.2.2.1.length cpxa_3) (V.ld rfl (Ld.sc sc27 (Rd.cl 1 rfl rfl))) ?_
 refine jv _ (V.fad Try.underlying34 rfl nz30 rfl) <| jv (.agg #[.slice adxa_4 xa.2.2.2.2.1.length cpxa_4]) (V.ld rfl (Ld.agg (cs := [.slice adxa_4 xa.2.2.2.2.1.length cpxa_4]) Try.underlying30 sz30 rfl (Rd.cls 1 4 rfl rfl))) <| jv _ (V.fad Try.underlying34 rfl nz31 rfl) <| jv (.slice adxa_5 xa.2.2.2.2.2.1.length cpxa_5) (V.ld rfl (Ld.sc sc31 (Rd.cl 1 rfl rfl))) <| jv (.agg #[ii (((xa.2.2.2.2.2.2.length : Nat) : Int)), ii xa.2.1, .slice adxa_3 xa.2.2.2.1.length cpxa_3, .slice adxa_4 xa.2.2.2.2.1.length cpxa_4, .slice adxa_5 xa.2.2.2.2.2.1.length cpxa_5]) (V.build inf111 places111 rfl rfl) <| jal inf111 [ii 0, ii 0, nos, nos, nos] rfl fun b1205 => js [ii (((xa.2.2.2.2.2.2.length : Nat) : Int)), ii xa.2.1, .slice adxa_3 xa.2.2.2.1.length cpxa_3, .slice adxa_4 xa.2.2.2.2.1.length cpxa_4, .slice adxa_5 xa.2.2.2.2.2.1.length cpxa_5] sz111 rfl rfl rfl rfl rfl rfl ?_
 refine J.nil <| CJ.seq <| cr <| jv _ (V.fad Try.underlying34 rfl nz32 rfl) <| jv (.slice adxa_6 xa.2.2.2.2.2.2.length cpxa_6) (V.ld rfl (Ld.sc sc32 (Rd.cl 2 rfl rfl))) <| jv (ii (((xa.2.2.2.2.2.2.length : Nat) : Int))) (V.len Try.underlying32 rfl) ?_
 refine jm (ii 0) rfl <| J.nil ?_
 obtain ⟨o1801, ho1802, h⟩ := ob h
 refine CJ.joinN (o := o1801) (fun s ρ K' L' => () = s ∧ Fits [(4, .pointer (some ⟨b1204, 0, none⟩))] ρ ∧ K = K' ∧ L' = Cl b1204 104 [ii 0, ii 0, ii 0, ii 0] :: F) ?_ ?_
 · refine CJ.block <| CJ.front 1 rfl <| CJ.front 2 rfl <| CJ.loop (fun s ρ K' L' => ∃ (i2000 : Int), i2000 = s ∧ Fits [(1, .pointer none), (2, .pointer (some ⟨b1203, 0, none⟩)), (4, .pointer (some ⟨b1204, 0, none⟩)), (5, .pointer (some ⟨b1205, 0, none⟩)), (25, .slice adxa_6 xa.2.2.2.2.2.2.length cpxa_6), (26, ii (((xa.2.2.2.2.2.2.length : Nat) : Int))), (27, ii i2000)] ρ ∧ K = K' ∧ L' = Cl b1203 34 [ii xa.1, ii xa.2.1, .slice adxa_2 xa.2.2.1.length cpxa_2, .slice adxa_3 xa.2.2.2.1.length cpxa_3, .slice adxa_4 xa.2.2.2.2.1.length cpxa_4, .slice adxa_5 xa.2.2.2.2.2.1.length cpxa_5, .slice adxa_6 xa.2.2.2.2.2.2.length cpxa_6] :: Cl b1204 104 [ii 0, ii 0, ii 0, ii 0] :: Cl b1205 111 [ii (((xa.2.2.2.2.2.2.length : Nat) : Int)), ii xa.2.1, .slice adxa_3 xa.2.2.2.1.length cpxa_3, .slice adxa_4 xa.2.2.2.2.1.length cpxa_4, .slice adxa_5 xa.2.2.2.2.2.1.length cpxa_5] :: F) ho1802 ⟨0, rfl, ⟨rfl, rfl, rfl, rfl, rfl, rfl, rfl, trivial⟩, rfl, rfl⟩ ?_
   rintro s ρ _ _ r2201 ⟨i2000, rfl, hf2199, rfl, rfl⟩ h2198
   obtain ⟨ρ, rfl⟩ := hf2199.ex
   refine cr <| jv (.bool (decide (i2000 < (((xa.2.2.2.2.2.2.length : Nat) : Int))))) (V.lss rfl rfl) <| J.nil <| CJ.seq <| cc rfl h2198 (fun hc2202 h2198 => ?_) fun hc2202 h2198 => ?_
   · refine CJ.skip <| CJ.seq <| CJ.block <| cr <| jm (ii i2000) rfl ?_
     obtain ⟨x2203, hx2204, h2198⟩ := ob h2198
     obtain ⟨p2205, p2206, p2207⟩ := getI_some hx2204
     obtain ⟨b2208, o2209, e2210, a2211⟩ := (fxa_6).at p2206
     refine jv _ (V.iad Try.underlying32 sz58 rfl e2210 rfl p2205 p2207) ?_
     obtain ⟨ad2212, cp2213, c2214, f2215⟩ := ((a2211).fst).sl
     obtain ⟨ad2216, cp2217, c2218, f2219⟩ := (((((((a2211).snd).one).snd).snd).snd).fst).sl
     obtain ⟨ad2220, cp2221, c2222, f2223⟩ := ((((((((a2211).snd).one).snd).snd).snd).snd).fst).sl
     obtain ⟨ad2224, cp2225, c2226, f2227⟩ := (((((((((a2211).snd).one).snd).snd).snd).snd).snd).one).sl
     refine jv (.agg #[.slice ad2212 x2203.1.length cp2213, ii x2203.2.1, ii x2203.2.2.1, ii x2203.2.2.2.1, .slice ad2216 x2203.2.2.2.2.1.length cp2217, .slice ad2220 x2203.2.2.2.2.2.1.length cp2221, .slice ad2224 x2203.2.2.2.2.2.2.length cp2225]) (V.ld rfl (Ld.aggK (cs := [.slice ad2212 x2203.1.length cp2213, ii x2203.2.1, ii x2203.2.2.1, ii x2203.2.2.2.1, .slice ad2216 x2203.2.2.2.2.1.length cp2217, .slice ad2220 x2203.2.2.2.2.2.1.length cp2221, .slice ad2224 x2203.2.2.2.2.2.2.length cp2225]) Try.underlying58 sz58 rfl ⟨c2214, ((((a2211).snd).one).fst).int, (((((a2211).snd).one).snd).fst).int, ((((((a2211).snd).one).snd).snd).fst).int, c2218, c2222, c2226, trivial⟩ (Hp.le_refl _))) <| jal inf58 [nos, ii 0, ii 0, ii 0, nos, nos, nos] rfl fun b2228 => ja (ii i2000) rfl <| js [.slice ad2212 x2203.1.length cp2213, ii x2203.2.1, ii x2203.2.2.1, ii x2203.2.2.2.1, .slice ad2216 x2203.2.2.2.2.1.length cp2217, .slice ad2220 x2203.2.2.2.2.2.1.length cp2221, .slice ad2224 x2203.2.2.2.2.2.2.length cp2225] sz58 rfl rfl rfl rfl rfl rfl <| J.nil <| CJ.seq <| CJ.seq ?_
     refine CJ.region <| jv _ (V.fad Try.underlying58 rfl nz53 rfl) <| jv (.slice ad2212 x2203.1.length cp2213) (V.ld rfl (Ld.sc sc53 (Rd.cl 0 rfl rfl))) <| jv (ii (((x2203.1.length : Nat) : Int))) (V.len Try.underlying53 rfl) <| jm (ii 0) rfl <| J.nil ?_
     obtain ⟨o2305, ho2306, h2198⟩ := ob h2198
     refine CJ.joinN (o := o2305) (fun s ρ K' L' => () = s ∧ Fits [(1, .pointer none), (2, .pointer (some ⟨b1203, 0, none⟩)), (4, .pointer (some ⟨b1204, 0, none⟩)), (5, .pointer (some ⟨b1205, 0, none⟩)), (6, ii i2000), (7, .pointer (some ⟨b2228, 0, none⟩)), (25, .slice adxa_6 xa.2.2.2.2.2.2.length cpxa_6), (26, ii (((xa.2.2.2.2.2.2.length : Nat) : Int))), (27, ii i2000)] ρ ∧ K = K' ∧ L' = Cl b1203 34 [ii xa.1, ii xa.2.1, .slice adxa_2 xa.2.2.1.length cpxa_2, .slice adxa_3 xa.2.2.2.1.length cpxa_3, .slice adxa_4 xa.2.2.2.2.1.length cpxa_4, .slice adxa_5 xa.2.2.2.2.2.1.length cpxa_5, .slice adxa_6 xa.2.2.2.2.2.2.length cpxa_6] :: Cl b1204 104 [ii 0, ii 0, ii 0, ii 0] :: Cl b1205 111 [ii (((xa.2.2.2.2.2.2.length : Nat) : Int)), ii xa.2.1, .slice adxa_3 xa.2.2.2.1.length cpxa_3, .slice adxa_4 xa.2.2.2.2.1.length cpxa_4, .slice adxa_5 xa.2.2.2.2.2.1.length cpxa_5] :: Cl b2228 58 [.slice ad2212 x2203.1.length cp2213, ii x2203.2.1, ii x2203.2.2.1, ii x2203.2.2.2.1, .slice ad2216 x2203.2.2.2.2.1.length cp2217, .slice ad2220 x2203.2.2.2.2.2.1.length cp2221, .slice ad2224 x2203.2.2.2.2.2.2.length cp2225] :: F) ?_ ?_
     · refine CJ.block <| CJ.front 3 rfl <| CJ.front 3 rfl <| CJ.front 3 rfl <| CJ.loop (fun s ρ K' L' => ∃ (i2331 : Int), i2331 = s ∧ Fits [(1, .pointer none), (2, .pointer (some ⟨b1203, 0, none⟩)), (4, .pointer (some ⟨b1204, 0, none⟩)), (5, .pointer (some ⟨b1205, 0, none⟩)), (6, ii i2000), (7, .pointer (some ⟨b2228, 0, none⟩)), (25, .slice adxa_6 xa.2.2.2.2.2.2.length cpxa_6), (26, ii (((xa.2.2.2.2.2.2.length : Nat) : Int))), (27, ii i2000), (33, .slice ad2212 x2203.1.length cp2213), (34, ii (((x2203.1.length : Nat) : Int))), (35, ii i2331)] ρ ∧ K = K' ∧ L' = Cl b1203 34 [ii xa.1, ii xa.2.1, .slice adxa_2 xa.2.2.1.length cpxa_2, .slice adxa_3 xa.2.2.2.1.length cpxa_3, .slice adxa_4 xa.2.2.2.2.1.length cpxa_4, .slice adxa_5 xa.2.2.2.2.2.1.length cpxa_5, .slice adxa_6 xa.2.2.2.2.2.2.length cpxa_6] :: Cl b1204 104 [ii 0, ii 0, ii 0, ii 0] :: Cl b1205 111 [ii (((xa.2.2.2.2.2.2.length : Nat) : Int)), ii xa.2.1, .slice adxa_3 xa.2.2.2.1.length cpxa_3, .slice adxa_4 xa.2.2.2.2.1.length cpxa_4, .slice adxa_5 xa.2.2.2.2.2.1.length cpxa_5] :: Cl b2228 58 [.slice ad2212 x2203.1.length cp2213, ii x2203.2.1, ii x2203.2.2.1, ii x2203.2.2.2.1, .slice ad2216 x2203.2.2.2.2.1.length cp2217, .slice ad2220 x2203.2.2.2.2.2.1.length cp2221, .slice ad2224 x2203.2.2.2.2.2.2.length cp2225] :: F) ho2306 ⟨0, rfl, ⟨rfl, rfl, rfl, rfl, rfl, rfl, rfl, rfl, rfl, rfl, rfl, rfl, trivial⟩, rfl, rfl⟩ ?_
       rintro s ρ _ _ r2359 ⟨i2331, rfl, hf2357, rfl, rfl⟩ h2356
       obtain ⟨ρ, rfl⟩ := hf2357.ex
       refine cr <| jv (.bool (decide (i2331 < (((x2203.1.length : Nat) : Int))))) (V.lss rfl rfl) <| J.nil <| CJ.seq <| cc rfl h2356 (fun hc2360 h2356 => ?_) fun hc2360 h2356 => ?_
       · refine CJ.skip <| CJ.seq <| CJ.block <| cr <| jm (ii i2331) rfl ?_
         obtain ⟨x2361, hx2362, h2356⟩ := ob h2356
         obtain ⟨p2363, p2364, p2365⟩ := getI_some hx2362
         obtain ⟨b2366, o2367, e2368, a2369⟩ := (f2215).at p2364
         refine jv _ (V.iad Try.underlying53 sz52 rfl e2368 rfl p2363 p2365) <| jv (.agg #[ii x2361.1, ii x2361.2.1, ii x2361.2.2.1, ii x2361.2.2.2.1, .bool x2361.2.2.2.2]) (V.ld rfl (Ld.aggK (cs := [ii x2361.1, ii x2361.2.1, ii x2361.2.2.1, ii x2361.2.2.2.1, .bool x2361.2.2.2.2]) Try.underlying52 sz52 rfl ⟨((a2369).fst).int, (((a2369).snd).fst).int, ((((a2369).snd).snd).fst).int, (((((a2369).snd).snd).snd).fst).int, ((((((a2369).snd).snd).snd).snd).one).bool, trivial⟩ (Hp.le_refl _))) <| jal inf52 [ii 0, ii 0, ii 0, ii 0, .bool false] rfl fun b2370 => ja (ii i2331) rfl <| js [ii x2361.1, ii x2361.2.1, ii x2361.2.2.1, ii x2361.2.2.2.1, .bool x2361.2.2.2.2] sz52 rfl rfl rfl rfl rfl rfl <| J.nil <| CJ.seq ?_
         refine CJ.region <| jm (.pointer none) rfl ?_
         obtain ⟨r2371, hr2372, h2356⟩ := ob h2356
         refine J.op rfl (A.call (L1 := []) Try.call18 rfl (tick_Counter_Add_zii_ok hr2372) rfl rfl) ?_
         rintro _ _ _ ⟨v2373, _, rfl, ⟨⟨rfl, rfl, rfl⟩, rfl⟩, _, rfl⟩
         refine J.nil <| cr <| jv (.agg #[ii x2361.1, ii x2361.2.1, ii x2361.2.2.1, ii x2361.2.2.2.1, .bool x2361.2.2.2.2]) (V.ld rfl (Ld.agg (cs := [ii x2361.1, ii x2361.2.1, ii x2361.2.2.1, ii x2361.2.2.2.1, .bool x2361.2.2.2.2]) Try.underlying52 sz52 rfl (Rd.cls 0 0 rfl rfl))) <| jv _ (V.fad Try.underlying34 rfl nz27 rfl) <| jv (.slice adxa_3 xa.2.2.2.1.length cpxa_3) (V.ld rfl (Ld.sc sc27 (Rd.cl 1 rfl rfl))) <| jv _ (V.fad Try.underlying34 rfl nz3 rfl) ?_
         refine jv (ii xa.2.1) (V.ld rfl (Ld.sc sc3 (Rd.cl 1 rfl rfl))) ?_
         obtain ⟨r2376, hr2377, h2356⟩ := ob h2356
         refine J.op rfl (A.call (L1 := []) Try.call65 rfl (stmt_Check_ok fxa_3 hr2377) rfl rfl) ?_
         rintro _ _ _ ⟨v2379, _, rfl, ⟨⟨i2378, rfl, rfl, rfl⟩, rfl⟩, _, rfl⟩
         refine ja (ii i2378) rfl <| J.nil <| cr <| jm (ii i2378) rfl <| jv (.bool (!decide (i2378 = 0))) (V.neq rfl rfl) <| J.nil ?_
         refine cc rfl h2356 (fun hc2382 h2356 => ?_) fun hc2382 h2356 => ?_
         · refine cr <| jm (ii i2378) rfl <| jm (ii i2000) rfl <| jm (ii i2331) rfl <| jv (.agg #[ii i2378, ii 6, ii i2000, ii i2331]) (V.build inf104 places104 rfl rfl) <| J.front 2 rfl ?_
           refine js [ii i2378, ii 6, ii i2000, ii i2331] sz104 rfl rfl rfl rfl rfl rfl <| J.nil <| CJ.ret ?_
           obtain rfl := si h2356
           refine ⟨nofun, fun e => ?_⟩
           subst e
           refine .inr ⟨nofun, ?_⟩
           obtain rfl := si h2198
           refine ⟨nofun, fun e => ?_⟩
           subst e
           refine .inr ⟨nofun, ?_⟩
           obtain rfl := si h
           exact ⟨_, _, Res.one rfl ⟨_, _, rfl, Ld.agg (cs := [ii i2378, ii 6, ii i2000, ii i2331]) Try.underlying104 sz104 rfl (Rd.cls 0 0 rfl rfl)⟩, ⟨i2378, 6, i2000, i2331, rfl, rfl, rfl⟩, (Hp.le_refl _), fun w hs => (Sep.dropAt 0 rfl (Sep.dropAt 0 rfl (Sep.dropAt 0 rfl (Sep.dropAt 0 rfl (Sep.dropAt 0 rfl hs)))))⟩
         refine CJ.skip <| CJ.region <| jv (ii (IntKind.wrap .i64 (i2331 + 1))) (V.add rfl rfl) <| jm (ii (IntKind.wrap .i64 (i2331 + 1))) rfl <| J.dropAt 0 rfl <| J.nil ?_
         obtain rfl := si h2356
         exact ⟨rfl, ⟨IntKind.wrap .i64 (i2331 + 1), rfl, ⟨rfl, rfl, rfl, rfl, rfl, rfl, rfl, rfl, rfl, rfl, rfl, rfl, trivial⟩, rfl, rfl⟩⟩
       refine CJ.exit ?_
       obtain rfl := si h2356
       refine ⟨nofun, fun e => ?_⟩
       subst e
       exact .inl ⟨rfl, _, rfl, ⟨rfl, ⟨rfl, rfl, rfl, rfl, rfl, rfl, rfl, rfl, rfl, trivial⟩, rfl, rfl⟩⟩
     rintro s ρ _ _ ho2383 ⟨rfl, hf2384, rfl, rfl⟩
     subst ho2383
     obtain ⟨ρ, rfl⟩ := hf2384.ex
     refine PJ.done <| cr <| jm (.pointer none) rfl ?_
     obtain ⟨r2386, hr2387, h2198⟩ := ob h2198
     refine J.op rfl (A.call (L1 := []) Try.call18 rfl (tick_Counter_Add_zii_ok hr2387) rfl rfl) ?_
     rintro _ _ _ ⟨v2388, _, rfl, ⟨⟨rfl, rfl, rfl⟩, rfl⟩, _, rfl⟩
     refine J.nil <| cr <| jv _ (V.fad Try.underlying58 rfl nz56 rfl) <| jv (.agg #[ii x2203.2.1, ii x2203.2.2.1, ii x2203.2.2.2.1, .slice ad2216 x2203.2.2.2.2.1.length cp2217, .slice ad2220 x2203.2.2.2.2.2.1.length cp2221, .slice ad2224 x2203.2.2.2.2.2.2.length cp2225]) (V.ld rfl (Ld.agg (cs := [ii x2203.2.1, ii x2203.2.2.1, ii x2203.2.2.2.1, .slice ad2216 x2203.2.2.2.2.1.length cp2217, .slice ad2220 x2203.2.2.2.2.2.1.length cp2221, .slice ad2224 x2203.2.2.2.2.2.2.length cp2225]) Try.underlying56 sz56 rfl (Rd.cls 3 1 rfl rfl))) <| jv (.agg #[ii (((xa.2.2.2.2.2.2.length : Nat) : Int)), ii xa.2.1, .slice adxa_3 xa.2.2.2.1.length cpxa_3, .slice adxa_4 xa.2.2.2.2.1.length cpxa_4, .slice adxa_5 xa.2.2.2.2.2.1.length cpxa_5]) (V.ld rfl (Ld.agg (cs := [ii (((xa.2.2.2.2.2.2.length : Nat) : Int)), ii xa.2.1, .slice adxa_3 xa.2.2.2.1.length cpxa_3, .slice adxa_4 xa.2.2.2.2.1.length cpxa_4, .slice adxa_5 xa.2.2.2.2.2.1.length cpxa_5]) Try.underlying111 sz111 rfl (Rd.cls 2 0 rfl rfl))) ?_
     obtain ⟨r2391, hr2392, h2198⟩ := ob h2198
     refine J.op rfl (A.call (L1 := []) Try.call66 rfl (term_Check_ok f2219 f2223 f2227 fxa_3 fxa_4 fxa_5 hr2392) rfl rfl) ?_
     rintro _ _ _ ⟨v2394, _, rfl, ⟨⟨i2393, rfl, rfl, rfl⟩, rfl⟩, _, rfl⟩
     refine ja (ii i2393) rfl <| J.nil <| cr <| jm (ii i2393) rfl <| jv (.bool (!decide (i2393 = 0))) (V.neq rfl rfl) <| J.nil ?_
     refine cc rfl h2198 (fun hc2397 h2198 => ?_) fun hc2397 h2198 => ?_
     · refine cr <| jm (ii i2393) rfl <| jm (ii i2000) rfl <| jv (.agg #[ii i2393, ii 7, ii i2000, ii 0]) (V.build inf104 places104 rfl rfl) <| J.front 1 rfl <| js [ii i2393, ii 7, ii i2000, ii 0] sz104 rfl rfl rfl rfl rfl rfl ?_
       refine J.nil <| CJ.ret ?_
       obtain rfl := si h2198
       refine ⟨nofun, fun e => ?_⟩
       subst e
       refine .inr ⟨nofun, ?_⟩
       obtain rfl := si h
       exact ⟨_, _, Res.one rfl ⟨_, _, rfl, Ld.agg (cs := [ii i2393, ii 7, ii i2000, ii 0]) Try.underlying104 sz104 rfl (Rd.cls 0 0 rfl rfl)⟩, ⟨i2393, 7, i2000, 0, rfl, rfl, rfl⟩, (Hp.le_refl _), fun w hs => (Sep.dropAt 0 rfl (Sep.dropAt 0 rfl (Sep.dropAt 0 rfl (Sep.dropAt 0 rfl hs))))⟩
     refine CJ.skip <| CJ.region <| jv (ii (IntKind.wrap .i64 (i2000 + 1))) (V.add rfl rfl) <| jm (ii (IntKind.wrap .i64 (i2000 + 1))) rfl <| J.dropAt 3 rfl <| J.nil ?_
     obtain rfl := si h2198
     exact ⟨rfl, ⟨IntKind.wrap .i64 (i2000 + 1), rfl, ⟨rfl, rfl, rfl, rfl, rfl, rfl, rfl, trivial⟩, rfl, rfl⟩⟩
   refine CJ.dropAt 0 rfl <| CJ.dropAt 1 rfl <| CJ.exit ?_
   obtain rfl := si h2198
   refine ⟨nofun, fun e => ?_⟩
   subst e
   exact .inl ⟨rfl, _, rfl, ⟨rfl, ⟨rfl, trivial⟩, rfl, rfl⟩⟩
 rintro s ρ _ _ ho2398 ⟨rfl, hf2399, rfl, rfl⟩
 subst ho2398
 obtain ⟨ρ, rfl⟩ := hf2399.ex
 refine PJ.done <| cr <| jv (.agg #[ii 0, ii 0, ii 0, ii 0]) (V.build inf104 places104 rfl rfl) <| js [ii 0, ii 0, ii 0, ii 0] sz104 rfl rfl rfl rfl rfl rfl <| J.nil <| CJ.ret ?_
 obtain rfl := si h
 exact ⟨_, _, Res.one rfl ⟨_, _, rfl, Ld.agg (cs := [ii 0, ii 0, ii 0, ii 0]) Try.underlying104 sz104 rfl (Rd.cls 0 0 rfl rfl)⟩, ⟨0, 0, 0, 0, rfl, rfl, rfl⟩, (Hp.le_refl _), fun w hs => (Sep.dropAt 0 rfl hs)⟩

noncomputable def fn_valid_Check_az (xa : (Int × Int × (List (Int × Int)) × (List (List (Int × Bool))) × (List (Int × Bool)) × (List (Int × (List (Int × Int)) × (List (List (Int × Bool))) × (List (Int × Bool)))) × (List ((List (Int × Int × Int × Int × Bool)) × (Int × Int × Int × (List Int) × (List Int) × (List Int)))))) : Option (Int × Int × Int × Int) :=
  (fn_tick_Counter_Add_zii 1 1).bind fun _ => (fn_valid_head_az (xa.1, xa.2.1, xa.2.2.1, xa.2.2.2.1, xa.2.2.2.2.1, xa.2.2.2.2.2.1, xa.2.2.2.2.2.2)).bind fun (i100, i101, i102, i103) => cond (!decide (i100 = 0)) (some ((i100, i101, i102, i103))) ((fn_valid_bounds_az (xa.1, xa.2.1, xa.2.2.1, xa.2.2.2.1, xa.2.2.2.2.1, xa.2.2.2.2.2.1, xa.2.2.2.2.2.2)).bind fun (i111, i112, i113, i114) => cond (!decide (i111 = 0)) (some ((i111, i112, i113, i114))) ((fn_valid_locals_az (xa.1, xa.2.1, xa.2.2.1, xa.2.2.2.1, xa.2.2.2.2.1, xa.2.2.2.2.2.1, xa.2.2.2.2.2.2)).bind fun (i122, i123, i124, i125) => cond (!decide (i122 = 0)) (some ((i122, i123, i124, i125))) ((fn_valid_ret_az (xa.1, xa.2.1, xa.2.2.1, xa.2.2.2.1, xa.2.2.2.2.1, xa.2.2.2.2.2.1, xa.2.2.2.2.2.2)).bind fun (i133, i134, i135, i136) => cond (!decide (i133 = 0)) (some ((i133, i134, i135, i136))) ((fn_valid_sigs_az (xa.1, xa.2.1, xa.2.2.1, xa.2.2.2.1, xa.2.2.2.2.1, xa.2.2.2.2.2.1, xa.2.2.2.2.2.2)).bind fun (i144, i145, i146, i147) => cond (!decide (i144 = 0)) (some ((i144, i145, i146, i147))) ((fn_valid_blocks_az (xa.1, xa.2.1, xa.2.2.1, xa.2.2.2.1, xa.2.2.2.2.1, xa.2.2.2.2.2.1, xa.2.2.2.2.2.2)).bind fun (i155, i156, i157, i158) => cond (!decide (i155 = 0)) (some ((i155, i156, i157, i158))) ((fn_valid_code_az (xa.1, xa.2.1, xa.2.2.1, xa.2.2.2.1, xa.2.2.2.2.1, xa.2.2.2.2.2.1, xa.2.2.2.2.2.2)).bind fun (i166, i167, i168, i169) => cond (!decide (i166 = 0)) (some ((i166, i167, i168, i169))) (some ((0, 0, 0, 0)))))))))
set_option maxRecDepth 100000 in
set_option maxHeartbeats 4000000 in
theorem valid_Check_az_ok {K : Hp} {xa : (Int × Int × (List (Int × Int)) × (List (List (Int × Bool))) × (List (Int × Bool)) × (List (Int × (List (Int × Int)) × (List (List (Int × Bool))) × (List (Int × Bool)))) × (List ((List (Int × Int × Int × Int × Bool)) × (Int × Int × Int × (List Int) × (List Int) × (List Int)))))} {adxa_2 : Option Addr} {cpxa_2 : Nat} {adxa_3 : Option Addr} {cpxa_3 : Nat} {adxa_4 : Option Addr} {cpxa_4 : Nat} {adxa_5 : Option Addr} {cpxa_5 : Nat} {adxa_6 : Option Addr} {cpxa_6 : Nat} (fxa_2 : Is K (.sl (.cons (.int .i64) (.one (.int .i64)))) [.slice adxa_2 xa.2.2.1.length cpxa_2] xa.2.2.1) (fxa_3 : Is K (.sl (.one (.sl (.cons (.int .i64) (.one .bool))))) [.slice adxa_3 xa.2.2.2.1.length cpxa_3] xa.2.2.2.1) (fxa_4 : Is K (.sl (.cons (.int .i64) (.one .bool))) [.slice adxa_4 xa.2.2.2.2.1.length cpxa_4] xa.2.2.2.2.1) (fxa_5 : Is K (.sl (.cons (.int .i64) (.cons (.sl (.cons (.int .i64) (.one (.int .i64)))) (.cons (.sl (.one (.sl (.cons (.int .i64) (.one .bool))))) (.one (.one (.sl (.cons (.int .i64) (.one .bool))))))))) [.slice adxa_5 xa.2.2.2.2.2.1.length cpxa_5] xa.2.2.2.2.2.1) (fxa_6 : Is K (.sl (.cons (.sl (.cons (.int .i64) (.cons (.int .i64) (.cons (.int .i64) (.cons (.int .i64) (.one .bool)))))) (.one (.cons (.int .i64) (.cons (.int .i64) (.cons (.int .i64) (.cons (.sl (.int .i64)) (.cons (.sl (.int .i64)) (.one (.sl (.int .i64))))))))))) [.slice adxa_6 xa.2.2.2.2.2.2.length cpxa_6] xa.2.2.2.2.2.2) {r : (Int × Int × Int × Int)} (h : fn_valid_Check_az xa = some r) :
    Tr Try.prog 35 #[.agg #[ii xa.1, ii xa.2.1, .slice adxa_2 xa.2.2.1.length cpxa_2, .slice adxa_3 xa.2.2.2.1.length cpxa_3, .slice adxa_4 xa.2.2.2.2.1.length cpxa_4, .slice adxa_5 xa.2.2.2.2.2.1.length cpxa_5, .slice adxa_6 xa.2.2.2.2.2.2.length cpxa_6], .pointer none] K [] (fun v K' L' => (∃ (i86 : Int) (i87 : Int) (i88 : Int) (i89 : Int), (i86, i87, i88, i89) = r ∧ .agg #[ii i86, ii i87, ii i88, ii i89] = v ∧ L' = []) ∧ K = K') := by
 refine Tr.k <| Tr.of Try.func35 rfl Try.ntmps35 rfl fun E F => ?_
 unfold fn_valid_Check_az at h
 refine cr <| jbx [ii xa.1, ii xa.2.1, .slice adxa_2 xa.2.2.1.length cpxa_2, .slice adxa_3 xa.2.2.2.1.length cpxa_3, .slice adxa_4 xa.2.2.2.2.1.length cpxa_4, .slice adxa_5 xa.2.2.2.2.2.1.length cpxa_5, .slice adxa_6 xa.2.2.2.2.2.2.length cpxa_6] rfl rfl fun b90 => jal inf104 [ii 0, ii 0, ii 0, ii 0] rfl fun b91 => J.nil <| CJ.seq <| CJ.region ?_
 refine jm (.pointer none) rfl ?_
 obtain ⟨r92, hr93, h⟩ := ob h
 refine J.op rfl (A.call (L1 := []) Try.call18 rfl (tick_Counter_Add_zii_ok hr93) rfl rfl) ?_
 rintro _ _ _ ⟨v94, _, rfl, ⟨⟨rfl, rfl, rfl⟩, rfl⟩, _, rfl⟩
 refine J.nil <| CJ.seq <| CJ.region ?_
 refine J.op rfl (A.litC (cs := [.func (.func 44) #[] #[], .func (.func 45) #[] #[], .func (.func 46) #[] #[], .func (.func 47) #[] #[], .func (.func 48) #[] #[], .func (.func 49) #[] #[], .func (.func 50) #[] #[]]) Try.underlying123 inf105 (by decide) rfl rfl (by decide)) ?_
 rintro _ _ _ ⟨b97, rfl, rfl, rfl⟩
 refine ja (.slice (some ⟨b97, 0, none⟩) 7 7) rfl <| J.nil <| CJ.seq <| cr <| jm (.slice (some ⟨b97, 0, none⟩) 7 7) rfl <| jv (ii 7) (Val.eq (V.len Try.underlying123 rfl) rfl) ?_
 refine jm (ii 0) rfl <| J.nil <| CJ.block <| CJ.unroll 64 <| RJ.next <| CJ.seq <| CJ.region ?_
 refine jv (.bool true) (Val.eq (V.lss rfl rfl) rfl) <| J.nil <| CJ.seq <| CJ.condK (b := true) rfl rfl <| CJ.skip <| CJ.seq <| CJ.block ?_
 refine cr <| jv _ (Val.eq (V.iad Try.underlying123 sz105 rfl rfl rfl (by decide) (by decide)) rfl) <| jv (.func (.func 44) #[] #[]) (V.ld rfl (Ld.sc sc105 (Rd.cl 0 rfl rfl))) <| ja (.func (.func 44) #[] #[]) rfl <| J.nil <| CJ.seq ?_
 refine CJ.region <| jm (.func (.func 44) #[] #[]) rfl <| jv (.agg #[ii xa.1, ii xa.2.1, .slice adxa_2 xa.2.2.1.length cpxa_2, .slice adxa_3 xa.2.2.2.1.length cpxa_3, .slice adxa_4 xa.2.2.2.2.1.length cpxa_4, .slice adxa_5 xa.2.2.2.2.2.1.length cpxa_5, .slice adxa_6 xa.2.2.2.2.2.2.length cpxa_6]) (V.ld rfl (Ld.agg (cs := [ii xa.1, ii xa.2.1, .slice adxa_2 xa.2.2.1.length cpxa_2, .slice adxa_3 xa.2.2.2.1.length cpxa_3, .slice adxa_4 xa.2.2.2.2.1.length cpxa_4, .slice adxa_5 xa.2.2.2.2.2.1.length cpxa_5, .slice adxa_6 xa.2.2.2.2.2.2.length cpxa_6]) Try.underlying34 sz34 rfl (Rd.cls 2 0 rfl rfl))) <| jm (.pointer none) rfl ?_
 obtain ⟨r98, hr99, h⟩ := ob h
 refine J.op rfl (A.call (L1 := []) Try.call44 rfl (valid_head_az_ok fxa_2 fxa_3 fxa_4 fxa_5 fxa_6 hr99) rfl rfl) ?_
 rintro _ _ _ ⟨v104, _, rfl, ⟨⟨i100, i101, i102, i103, rfl, rfl, rfl⟩, rfl⟩, _, rfl⟩
 refine jal inf104 [ii 0, ii 0, ii 0, ii 0] rfl fun b107 => js [ii i100, ii i101, ii i102, ii i103] sz104 rfl rfl rfl rfl rfl rfl <| J.nil <| cr <| jv _ (V.fad Try.underlying104 rfl nz37 rfl) <| jv (ii i100) (V.ld rfl (Ld.sc sc37 (Rd.cl 0 rfl rfl))) ?_
 refine jv (.bool (!decide (i100 = 0))) (V.neq rfl rfl) <| J.nil <| cc rfl h (fun hc108 h => ?_) fun hc108 h => ?_
 · refine cr <| jv (.agg #[ii i100, ii i101, ii i102, ii i103]) (V.ld rfl (Ld.agg (cs := [ii i100, ii i101, ii i102, ii i103]) Try.underlying104 sz104 rfl (Rd.cls 0 0 rfl rfl))) <| J.front 2 rfl <| js [ii i100, ii i101, ii i102, ii i103] sz104 rfl rfl rfl rfl rfl rfl <| J.nil <| CJ.ret ?_
   obtain rfl := si h
   exact ⟨_, _, Res.one rfl ⟨_, _, rfl, Ld.agg (cs := [ii i100, ii i101, ii i102, ii i103]) Try.underlying104 sz104 rfl (Rd.cls 0 0 rfl rfl)⟩, ⟨i100, i101, i102, i103, rfl, rfl, rfl⟩, (Hp.le_refl _), fun w hs => (Sep.dropAt 0 rfl (Sep.dropAt 0 rfl (Sep.dropAt 0 rfl (Sep.dropAt 0 rfl hs))))⟩
 refine CJ.skip <| CJ.region <| jv (ii 1) (Val.eq (V.add rfl rfl) rfl) <| jm (ii 1) rfl <| J.nil <| RJ.next <| CJ.seq ?_
 refine CJ.region <| jv (.bool true) (Val.eq (V.lss rfl rfl) rfl) <| J.nil <| CJ.seq <| CJ.condK (b := true) rfl rfl <| CJ.skip <| CJ.seq ?_
 refine CJ.block <| cr <| jv _ (Val.eq (V.iad Try.underlying123 sz105 rfl rfl rfl (by decide) (by decide)) rfl) <| jv (.func (.func 45) #[] #[]) (V.ld rfl (Ld.sc sc105 (Rd.cl 1 rfl rfl))) <| ja (.func (.func 45) #[] #[]) rfl <| J.nil ?_
 refine cr <| jm (.func (.func 45) #[] #[]) rfl <| jv (.agg #[ii xa.1, ii xa.2.1, .slice adxa_2 xa.2.2.1.length cpxa_2, .slice adxa_3 xa.2.2.2.1.length cpxa_3, .slice adxa_4 xa.2.2.2.2.1.length cpxa_4, .slice adxa_5 xa.2.2.2.2.2.1.length cpxa_5, .slice adxa_6 xa.2.2.2.2.2.2.length cpxa_6]) (V.ld rfl (Ld.agg (cs := [ii xa.1, ii xa.2.1, .slice adxa_2 xa.2.2.1.length cpxa_2, .slice adxa_3 xa.2.2.2.1.length cpxa_3, .slice adxa_4 xa.2.2.2.2.1.length cpxa_4, .slice adxa_5 xa.2.2.2.2.2.1.length cpxa_5, .slice adxa_6 xa.2.2.2.2.2.2.length cpxa_6]) Try.underlying34 sz34 rfl (Rd.cls 3 0 rfl rfl))) <| jm (.pointer none) rfl ?_
 obtain ⟨r109, hr110, h⟩ := ob h
 refine J.op rfl (A.call (L1 := []) Try.call45 rfl (valid_bounds_az_ok fxa_2 fxa_3 fxa_4 fxa_5 fxa_6 hr110) rfl rfl) ?_
 rintro _ _ _ ⟨v115, _, rfl, ⟨⟨i111, i112, i113, i114, rfl, rfl, rfl⟩, rfl⟩, _, rfl⟩
 refine jal inf104 [ii 0, ii 0, ii 0, ii 0] rfl fun b118 => js [ii i111, ii i112, ii i113, ii i114] sz104 rfl rfl rfl rfl rfl rfl <| J.nil <| cr <| jv _ (V.fad Try.underlying104 rfl nz37 rfl) <| jv (ii i111) (V.ld rfl (Ld.sc sc37 (Rd.cl 0 rfl rfl))) ?_
 refine jv (.bool (!decide (i111 = 0))) (V.neq rfl rfl) <| J.nil <| cc rfl h (fun hc119 h => ?_) fun hc119 h => ?_
 · refine cr <| jv (.agg #[ii i111, ii i112, ii i113, ii i114]) (V.ld rfl (Ld.agg (cs := [ii i111, ii i112, ii i113, ii i114]) Try.underlying104 sz104 rfl (Rd.cls 0 0 rfl rfl))) <| J.front 3 rfl <| js [ii i111, ii i112, ii i113, ii i114] sz104 rfl rfl rfl rfl rfl rfl <| J.nil <| CJ.ret ?_
   obtain rfl := si h
   exact ⟨_, _, Res.one rfl ⟨_, _, rfl, Ld.agg (cs := [ii i111, ii i112, ii i113, ii i114]) Try.underlying104 sz104 rfl (Rd.cls 0 0 rfl rfl)⟩, ⟨i111, i112, i113, i114, rfl, rfl, rfl⟩, (Hp.le_refl _), fun w hs => (Sep.dropAt 0 rfl (Sep.dropAt 0 rfl (Sep.dropAt 0 rfl (Sep.dropAt 0 rfl (Sep.dropAt 0 rfl hs)))))⟩
 refine CJ.skip <| CJ.region <| jv (ii 2) (Val.eq (V.add rfl rfl) rfl) <| jm (ii 2) rfl <| J.nil <| RJ.next <| CJ.seq ?_
 refine CJ.region <| jv (.bool true) (Val.eq (V.lss rfl rfl) rfl) <| J.nil <| CJ.seq <| CJ.condK (b := true) rfl rfl <| CJ.skip <| CJ.seq ?_
 refine CJ.block <| cr <| jv _ (Val.eq (V.iad Try.underlying123 sz105 rfl rfl rfl (by decide) (by decide)) rfl) <| jv (.func (.func 46) #[] #[]) (V.ld rfl (Ld.sc sc105 (Rd.cl 2 rfl rfl))) <| ja (.func (.func 46) #[] #[]) rfl <| J.nil ?_
 refine cr <| jm (.func (.func 46) #[] #[]) rfl <| jv (.agg #[ii xa.1, ii xa.2.1, .slice adxa_2 xa.2.2.1.length cpxa_2, .slice adxa_3 xa.2.2.2.1.length cpxa_3, .slice adxa_4 xa.2.2.2.2.1.length cpxa_4, .slice adxa_5 xa.2.2.2.2.2.1.length cpxa_5, .slice adxa_6 xa.2.2.2.2.2.2.length cpxa_6]) (V.ld rfl (Ld.agg (cs := [ii xa.1, ii xa.2.1, .slice adxa_2 xa.2.2.1.length cpxa_2, .slice adxa_3 xa.2.2.2.1.length cpxa_3, .slice adxa_4 xa.2.2.2.2.1.length cpxa_4, .slice adxa_5 xa.2.2.2.2.2.1.length cpxa_5, .slice adxa_6 xa.2.2.2.2.2.2.length cpxa_6]) Try.underlying34 sz34 rfl (Rd.cls 4 0 rfl rfl))) <| jm (.pointer none) rfl ?_
 obtain ⟨r120, hr121, h⟩ := ob h
 refine J.op rfl (A.call (L1 := []) Try.call46 rfl (valid_locals_az_ok fxa_2 fxa_3 fxa_4 fxa_5 fxa_6 hr121) rfl rfl) ?_
 rintro _ _ _ ⟨v126, _, rfl, ⟨⟨i122, i123, i124, i125, rfl, rfl, rfl⟩, rfl⟩, _, rfl⟩
 refine jal inf104 [ii 0, ii 0, ii 0, ii 0] rfl fun b129 => js [ii i122, ii i123, ii i124, ii i125] sz104 rfl rfl rfl rfl rfl rfl <| J.nil <| cr <| jv _ (V.fad Try.underlying104 rfl nz37 rfl) <| jv (ii i122) (V.ld rfl (Ld.sc sc37 (Rd.cl 0 rfl rfl))) ?_
 refine jv (.bool (!decide (i122 = 0))) (V.neq rfl rfl) <| J.nil <| cc rfl h (fun hc130 h => ?_) fun hc130 h => ?_
 · refine cr <| jv (.agg #[ii i122, ii i123, ii i124, ii i125]) (V.ld rfl (Ld.agg (cs := [ii i122, ii i123, ii i124, ii i125]) Try.underlying104 sz104 rfl (Rd.cls 0 0 rfl rfl))) <| J.front 4 rfl <| js [ii i122, ii i123, ii i124, ii i125] sz104 rfl rfl rfl rfl rfl rfl <| J.nil <| CJ.ret ?_
   obtain rfl := si h
   exact ⟨_, _, Res.one rfl ⟨_, _, rfl, Ld.agg (cs := [ii i122, ii i123, ii i124, ii i125]) Try.underlying104 sz104 rfl (Rd.cls 0 0 rfl rfl)⟩, ⟨i122, i123, i124, i125, rfl, rfl, rfl⟩, (Hp.le_refl _), fun w hs => (Sep.dropAt 0 rfl (Sep.dropAt 0 rfl (Sep.dropAt 0 rfl (Sep.dropAt 0 rfl (Sep.dropAt 0 rfl (Sep.dropAt 0 rfl hs))))))⟩
 refine CJ.skip <| CJ.region <| jv (ii 3) (Val.eq (V.add rfl rfl) rfl) <| jm (ii 3) rfl <| J.nil <| RJ.next <| CJ.seq ?_
 refine CJ.region <| jv (.bool true) (Val.eq (V.lss rfl rfl) rfl) <| J.nil <| CJ.seq <| CJ.condK (b := true) rfl rfl <| CJ.skip <| CJ.seq ?_
 refine CJ.block <| cr <| jv _ (Val.eq (V.iad Try.underlying123 sz105 rfl rfl rfl (by decide) (by decide)) rfl) <| jv (.func (.func 47) #[] #[]) (V.ld rfl (Ld.sc sc105 (Rd.cl 3 rfl rfl))) <| ja (.func (.func 47) #[] #[]) rfl <| J.nil ?_
 refine cr <| jm (.func (.func 47) #[] #[]) rfl <| jv (.agg #[ii xa.1, ii xa.2.1, .slice adxa_2 xa.2.2.1.length cpxa_2, .slice adxa_3 xa.2.2.2.1.length cpxa_3, .slice adxa_4 xa.2.2.2.2.1.length cpxa_4, .slice adxa_5 xa.2.2.2.2.2.1.length cpxa_5, .slice adxa_6 xa.2.2.2.2.2.2.length cpxa_6]) (V.ld rfl (Ld.agg (cs := [ii xa.1, ii xa.2.1, .slice adxa_2 xa.2.2.1.length cpxa_2, .slice adxa_3 xa.2.2.2.1.length cpxa_3, .slice adxa_4 xa.2.2.2.2.1.length cpxa_4, .slice adxa_5 xa.2.2.2.2.2.1.length cpxa_5, .slice adxa_6 xa.2.2.2.2.2.2.length cpxa_6]) Try.underlying34 sz34 rfl (Rd.cls 5 0 rfl rfl))) <| jm (.pointer none) rfl ?_
 obtain ⟨r131, hr132, h⟩ := ob h
 refine J.op rfl (A.call (L1 := []) Try.call47 rfl (valid_ret_az_ok fxa_2 fxa_3 fxa_4 fxa_5 fxa_6 hr132) rfl rfl) ?_
 rintro _ _ _ ⟨v137, _, rfl, ⟨⟨i133, i134, i135, i136, rfl, rfl, rfl⟩, rfl⟩, _, rfl⟩
 refine jal inf104 [ii 0, ii 0, ii 0, ii 0] rfl fun b140 => js [ii i133, ii i134, ii i135, ii i136] sz104 rfl rfl rfl rfl rfl rfl <| J.nil <| cr <| jv _ (V.fad Try.underlying104 rfl nz37 rfl) <| jv (ii i133) (V.ld rfl (Ld.sc sc37 (Rd.cl 0 rfl rfl))) ?_
 refine jv (.bool (!decide (i133 = 0))) (V.neq rfl rfl) <| J.nil <| cc rfl h (fun hc141 h => ?_) fun hc141 h => ?_
 · refine cr <| jv (.agg #[ii i133, ii i134, ii i135, ii i136]) (V.ld rfl (Ld.agg (cs := [ii i133, ii i134, ii i135, ii i136]) Try.underlying104 sz104 rfl (Rd.cls 0 0 rfl rfl))) <| J.front 5 rfl <| js [ii i133, ii i134, ii i135, ii i136] sz104 rfl rfl rfl rfl rfl rfl <| J.nil <| CJ.ret ?_
   obtain rfl := si h
   exact ⟨_, _, Res.one rfl ⟨_, _, rfl, Ld.agg (cs := [ii i133, ii i134, ii i135, ii i136]) Try.underlying104 sz104 rfl (Rd.cls 0 0 rfl rfl)⟩, ⟨i133, i134, i135, i136, rfl, rfl, rfl⟩, (Hp.le_refl _), fun w hs => (Sep.dropAt 0 rfl (Sep.dropAt 0 rfl (Sep.dropAt 0 rfl (Sep.dropAt 0 rfl (Sep.dropAt 0 rfl (Sep.dropAt 0 rfl (Sep.dropAt 0 rfl hs)))))))⟩
 refine CJ.skip <| CJ.region <| jv (ii 4) (Val.eq (V.add rfl rfl) rfl) <| jm (ii 4) rfl <| J.nil <| RJ.next <| CJ.seq ?_
 refine CJ.region <| jv (.bool true) (Val.eq (V.lss rfl rfl) rfl) <| J.nil <| CJ.seq <| CJ.condK (b := true) rfl rfl <| CJ.skip <| CJ.seq ?_
 refine CJ.block <| cr <| jv _ (Val.eq (V.iad Try.underlying123 sz105 rfl rfl rfl (by decide) (by decide)) rfl) <| jv (.func (.func 48) #[] #[]) (V.ld rfl (Ld.sc sc105 (Rd.cl 4 rfl rfl))) <| ja (.func (.func 48) #[] #[]) rfl <| J.nil ?_
 refine cr <| jm (.func (.func 48) #[] #[]) rfl <| jv (.agg #[ii xa.1, ii xa.2.1, .slice adxa_2 xa.2.2.1.length cpxa_2, .slice adxa_3 xa.2.2.2.1.length cpxa_3, .slice adxa_4 xa.2.2.2.2.1.length cpxa_4, .slice adxa_5 xa.2.2.2.2.2.1.length cpxa_5, .slice adxa_6 xa.2.2.2.2.2.2.length cpxa_6]) (V.ld rfl (Ld.agg (cs := [ii xa.1, ii xa.2.1, .slice adxa_2 xa.2.2.1.length cpxa_2, .slice adxa_3 xa.2.2.2.1.length cpxa_3, .slice adxa_4 xa.2.2.2.2.1.length cpxa_4, .slice adxa_5 xa.2.2.2.2.2.1.length cpxa_5, .slice adxa_6 xa.2.2.2.2.2.2.length cpxa_6]) Try.underlying34 sz34 rfl (Rd.cls 6 0 rfl rfl))) <| jm (.pointer none) rfl ?_
 obtain ⟨r142, hr143, h⟩ := ob h
 refine J.op rfl (A.call (L1 := []) Try.call48 rfl (valid_sigs_az_ok fxa_2 fxa_3 fxa_4 fxa_5 fxa_6 hr143) rfl rfl) ?_
 rintro _ _ _ ⟨v148, _, rfl, ⟨⟨i144, i145, i146, i147, rfl, rfl, rfl⟩, rfl⟩, _, rfl⟩
 refine jal inf104 [ii 0, ii 0, ii 0, ii 0] rfl fun b151 => js [ii i144, ii i145, ii i146, ii i147] sz104 rfl rfl rfl rfl rfl rfl <| J.nil <| cr <| jv _ (V.fad Try.underlying104 rfl nz37 rfl) <| jv (ii i144) (V.ld rfl (Ld.sc sc37 (Rd.cl 0 rfl rfl))) ?_
 refine jv (.bool (!decide (i144 = 0))) (V.neq rfl rfl) <| J.nil <| cc rfl h (fun hc152 h => ?_) fun hc152 h => ?_
 · refine cr <| jv (.agg #[ii i144, ii i145, ii i146, ii i147]) (V.ld rfl (Ld.agg (cs := [ii i144, ii i145, ii i146, ii i147]) Try.underlying104 sz104 rfl (Rd.cls 0 0 rfl rfl))) <| J.front 6 rfl <| js [ii i144, ii i145, ii i146, ii i147] sz104 rfl rfl rfl rfl rfl rfl <| J.nil <| CJ.ret ?_
   obtain rfl := si h
   exact ⟨_, _, Res.one rfl ⟨_, _, rfl, Ld.agg (cs := [ii i144, ii i145, ii i146, ii i147]) Try.underlying104 sz104 rfl (Rd.cls 0 0 rfl rfl)⟩, ⟨i144, i145, i146, i147, rfl, rfl, rfl⟩, (Hp.le_refl _), fun w hs => (Sep.dropAt 0 rfl (Sep.dropAt 0 rfl (Sep.dropAt 0 rfl (Sep.dropAt 0 rfl (Sep.dropAt 0 rfl (Sep.dropAt 0 rfl (Sep.dropAt 0 rfl (Sep.dropAt 0 rfl hs))))))))⟩
 refine CJ.skip <| CJ.region <| jv (ii 5) (Val.eq (V.add rfl rfl) rfl) <| jm (ii 5) rfl <| J.nil <| RJ.next <| CJ.seq ?_
 refine CJ.region <| jv (.bool true) (Val.eq (V.lss rfl rfl) rfl) <| J.nil <| CJ.seq <| CJ.condK (b := true) rfl rfl <| CJ.skip <| CJ.seq ?_
 refine CJ.block <| cr <| jv _ (Val.eq (V.iad Try.underlying123 sz105 rfl rfl rfl (by decide) (by decide)) rfl) <| jv (.func (.func 49) #[] #[]) (V.ld rfl (Ld.sc sc105 (Rd.cl 5 rfl rfl))) <| ja (.func (.func 49) #[] #[]) rfl <| J.nil ?_
 refine cr <| jm (.func (.func 49) #[] #[]) rfl <| jv (.agg #[ii xa.1, ii xa.2.1, .slice adxa_2 xa.2.2.1.length cpxa_2, .slice adxa_3 xa.2.2.2.1.length cpxa_3, .slice adxa_4 xa.2.2.2.2.1.length cpxa_4, .slice adxa_5 xa.2.2.2.2.2.1.length cpxa_5, .slice adxa_6 xa.2.2.2.2.2.2.length cpxa_6]) (V.ld rfl (Ld.agg (cs := [ii xa.1, ii xa.2.1, .slice adxa_2 xa.2.2.1.length cpxa_2, .slice adxa_3 xa.2.2.2.1.length cpxa_3, .slice adxa_4 xa.2.2.2.2.1.length cpxa_4, .slice adxa_5 xa.2.2.2.2.2.1.length cpxa_5, .slice adxa_6 xa.2.2.2.2.2.2.length cpxa_6]) Try.underlying34 sz34 rfl (Rd.cls 7 0 rfl rfl))) <| jm (.pointer none) rfl ?_
 obtain ⟨r153, hr154, h⟩ := ob h
 refine J.op rfl (A.call (L1 := []) Try.call49 rfl (valid_blocks_az_ok fxa_2 fxa_3 fxa_4 fxa_5 fxa_6 hr154) rfl rfl) ?_
 rintro _ _ _ ⟨v159, _, rfl, ⟨⟨i155, i156, i157, i158, rfl, rfl, rfl⟩, rfl⟩, _, rfl⟩
 refine jal inf104 [ii 0, ii 0, ii 0, ii 0] rfl fun b162 => js [ii i155, ii i156, ii i157, ii i158] sz104 rfl rfl rfl rfl rfl rfl <| J.nil <| cr <| jv _ (V.fad Try.underlying104 rfl nz37 rfl) <| jv (ii i155) (V.ld rfl (Ld.sc sc37 (Rd.cl 0 rfl rfl))) ?_
 refine jv (.bool (!decide (i155 = 0))) (V.neq rfl rfl) <| J.nil <| cc rfl h (fun hc163 h => ?_) fun hc163 h => ?_
 · refine cr <| jv (.agg #[ii i155, ii i156, ii i157, ii i158]) (V.ld rfl (Ld.agg (cs := [ii i155, ii i156, ii i157, ii i158]) Try.underlying104 sz104 rfl (Rd.cls 0 0 rfl rfl))) <| J.front 7 rfl <| js [ii i155, ii i156, ii i157, ii i158] sz104 rfl rfl rfl rfl rfl rfl <| J.nil <| CJ.ret ?_
   obtain rfl := si h
   exact ⟨_, _, Res.one rfl ⟨_, _, rfl, Ld.agg (cs := [ii i155, ii i156, ii i157, ii i158]) Try.underlying104 sz104 rfl (Rd.cls 0 0 rfl rfl)⟩, ⟨i155, i156, i157, i158, rfl, rfl, rfl⟩, (Hp.le_refl _), fun w hs => (Sep.dropAt 0 rfl (Sep.dropAt 0 rfl (Sep.dropAt 0 rfl (Sep.dropAt 0 rfl (Sep.dropAt 0 rfl (Sep.dropAt 0 rfl (Sep.dropAt 0 rfl (Sep.dropAt 0 rfl (Sep.dropAt 0 rfl hs)))))))))⟩
 refine CJ.skip <| CJ.region <| jv (ii 6) (Val.eq (V.add rfl rfl) rfl) <| jm (ii 6) rfl <| J.nil <| RJ.next <| CJ.seq ?_
 refine CJ.region <| jv (.bool true) (Val.eq (V.lss rfl rfl) rfl) <| J.nil <| CJ.seq <| CJ.condK (b := true) rfl rfl <| CJ.skip <| CJ.seq ?_
 refine CJ.block <| cr <| jv _ (Val.eq (V.iad Try.underlying123 sz105 rfl rfl rfl (by decide) (by decide)) rfl) <| jv (.func (.func 50) #[] #[]) (V.ld rfl (Ld.sc sc105 (Rd.cl 6 rfl rfl))) <| ja (.func (.func 50) #[] #[]) rfl <| J.nil ?_
 refine cr <| jm (.func (.func 50) #[] #[]) rfl <| jv (.agg #[ii xa.1, ii xa.2.1, .slice adxa_2 xa.2.2.1.length cpxa_2, .slice adxa_3 xa.2.2.2.1.length cpxa_3, .slice adxa_4 xa.2.2.2.2.1.length cpxa_4, .slice adxa_5 xa.2.2.2.2.2.1.length cpxa_5, .slice adxa_6 xa.2.2.2.2.2.2.length cpxa_6]) (V.ld rfl (Ld.agg (cs := [ii xa.1, ii xa.2.1, .slice adxa_2 xa.2.2.1.length cpxa_2, .slice adxa_3 xa.2.2.2.1.length cpxa_3, .slice adxa_4 xa.2.2.2.2.1.length cpxa_4, .slice adxa_5 xa.2.2.2.2.2.1.length cpxa_5, .slice adxa_6 xa.2.2.2.2.2.2.length cpxa_6]) Try.underlying34 sz34 rfl (Rd.cls 8 0 rfl rfl))) <| jm (.pointer none) rfl ?_
 obtain ⟨r164, hr165, h⟩ := ob h
 refine J.op rfl (A.call (L1 := []) Try.call50 rfl (valid_code_az_ok fxa_2 fxa_3 fxa_4 fxa_5 fxa_6 hr165) rfl rfl) ?_
 rintro _ _ _ ⟨v170, _, rfl, ⟨⟨i166, i167, i168, i169, rfl, rfl, rfl⟩, rfl⟩, _, rfl⟩
 refine jal inf104 [ii 0, ii 0, ii 0, ii 0] rfl fun b173 => js [ii i166, ii i167, ii i168, ii i169] sz104 rfl rfl rfl rfl rfl rfl <| J.nil <| cr <| jv _ (V.fad Try.underlying104 rfl nz37 rfl) <| jv (ii i166) (V.ld rfl (Ld.sc sc37 (Rd.cl 0 rfl rfl))) ?_
 refine jv (.bool (!decide (i166 = 0))) (V.neq rfl rfl) <| J.nil <| cc rfl h (fun hc174 h => ?_) fun hc174 h => ?_
 · refine cr <| jv (.agg #[ii i166, ii i167, ii i168, ii i169]) (V.ld rfl (Ld.agg (cs := [ii i166, ii i167, ii i168, ii i169]) Try.underlying104 sz104 rfl (Rd.cls 0 0 rfl rfl))) <| J.front 8 rfl <| js [ii i166, ii i167, ii i168, ii i169] sz104 rfl rfl rfl rfl rfl rfl <| J.nil <| CJ.ret ?_
   obtain rfl := si h
   exact ⟨_, _, Res.one rfl ⟨_, _, rfl, Ld.agg (cs := [ii i166, ii i167, ii i168, ii i169]) Try.underlying104 sz104 rfl (Rd.cls 0 0 rfl rfl)⟩, ⟨i166, i167, i168, i169, rfl, rfl, rfl⟩, (Hp.le_refl _), fun w hs => (Sep.dropAt 0 rfl (Sep.dropAt 0 rfl (Sep.dropAt 0 rfl (Sep.dropAt 0 rfl (Sep.dropAt 0 rfl (Sep.dropAt 0 rfl (Sep.dropAt 0 rfl (Sep.dropAt 0 rfl (Sep.dropAt 0 rfl (Sep.dropAt 0 rfl hs))))))))))⟩
 refine CJ.skip <| CJ.region <| jv (ii 7) (Val.eq (V.add rfl rfl) rfl) <| jm (ii 7) rfl <| J.nil <| RJ.next <| CJ.seq ?_
 refine CJ.region <| jv (.bool false) (Val.eq (V.lss rfl rfl) rfl) <| J.nil <| CJ.seq <| CJ.condK (b := false) rfl rfl <| CJ.exit <| CJ.seq ?_
 refine CJ.region <| jv (.agg #[ii 0, ii 0, ii 0, ii 0]) (V.build inf104 places104 rfl rfl) <| J.front 8 rfl <| js [ii 0, ii 0, ii 0, ii 0] sz104 rfl rfl rfl rfl rfl rfl <| J.nil <| CJ.ret ?_
 obtain rfl := si h
 exact ⟨_, _, Res.one rfl ⟨_, _, rfl, Ld.agg (cs := [ii 0, ii 0, ii 0, ii 0]) Try.underlying104 sz104 rfl (Rd.cls 0 0 rfl rfl)⟩, ⟨0, 0, 0, 0, rfl, rfl, rfl⟩, (Hp.le_refl _), fun w hs => (Sep.dropAt 0 rfl (Sep.dropAt 0 rfl (Sep.dropAt 0 rfl (Sep.dropAt 0 rfl (Sep.dropAt 0 rfl (Sep.dropAt 0 rfl (Sep.dropAt 0 rfl (Sep.dropAt 0 rfl (Sep.dropAt 0 rfl (Sep.dropAt 0 rfl hs))))))))))⟩

noncomputable def fn_valid_OK (xa : (Int × Int × (List (Int × Int)) × (List (List (Int × Bool))) × (List (Int × Bool)) × (List (Int × (List (Int × Int)) × (List (List (Int × Bool))) × (List (Int × Bool)))) × (List ((List (Int × Int × Int × Int × Bool)) × (Int × Int × Int × (List Int) × (List Int) × (List Int)))))) : Option Bool :=
  (fn_valid_Check_az (xa.1, xa.2.1, xa.2.2.1, xa.2.2.2.1, xa.2.2.2.2.1, xa.2.2.2.2.2.1, xa.2.2.2.2.2.2)).bind fun (i15, i17, i18, i19) => some (decide (i15 = 0))
set_option maxRecDepth 100000 in
set_option maxHeartbeats 4000000 in
theorem valid_OK_ok {K : Hp} {xa : (Int × Int × (List (Int × Int)) × (List (List (Int × Bool))) × (List (Int × Bool)) × (List (Int × (List (Int × Int)) × (List (List (Int × Bool))) × (List (Int × Bool)))) × (List ((List (Int × Int × Int × Int × Bool)) × (Int × Int × Int × (List Int) × (List Int) × (List Int)))))} {adxa_2 : Option Addr} {cpxa_2 : Nat} {adxa_3 : Option Addr} {cpxa_3 : Nat} {adxa_4 : Option Addr} {cpxa_4 : Nat} {adxa_5 : Option Addr} {cpxa_5 : Nat} {adxa_6 : Option Addr} {cpxa_6 : Nat} (fxa_2 : Is K (.sl (.cons (.int .i64) (.one (.int .i64)))) [.slice adxa_2 xa.2.2.1.length cpxa_2] xa.2.2.1) (fxa_3 : Is K (.sl (.one (.sl (.cons (.int .i64) (.one .bool))))) [.slice adxa_3 xa.2.2.2.1.length cpxa_3] xa.2.2.2.1) (fxa_4 : Is K (.sl (.cons (.int .i64) (.one .bool))) [.slice adxa_4 xa.2.2.2.2.1.length cpxa_4] xa.2.2.2.2.1) (fxa_5 : Is K (.sl (.cons (.int .i64) (.cons (.sl (.cons (.int .i64) (.one (.int .i64)))) (.cons (.sl (.one (.sl (.cons (.int .i64) (.one .bool))))) (.one (.one (.sl (.cons (.int .i64) (.one .bool))))))))) [.slice adxa_5 xa.2.2.2.2.2.1.length cpxa_5] xa.2.2.2.2.2.1) (fxa_6 : Is K (.sl (.cons (.sl (.cons (.int .i64) (.cons (.int .i64) (.cons (.int .i64) (.cons (.int .i64) (.one .bool)))))) (.one (.cons (.int .i64) (.cons (.int .i64) (.cons (.int .i64) (.cons (.sl (.int .i64)) (.cons (.sl (.int .i64)) (.one (.sl (.int .i64))))))))))) [.slice adxa_6 xa.2.2.2.2.2.2.length cpxa_6] xa.2.2.2.2.2.2) {r : Bool} (h : fn_valid_OK xa = some r) :
    Tr Try.prog 25 #[.agg #[ii xa.1, ii xa.2.1, .slice adxa_2 xa.2.2.1.length cpxa_2, .slice adxa_3 xa.2.2.2.1.length cpxa_3, .slice adxa_4 xa.2.2.2.2.1.length cpxa_4, .slice adxa_5 xa.2.2.2.2.2.1.length cpxa_5, .slice adxa_6 xa.2.2.2.2.2.2.length cpxa_6]] K [] (fun v K' L' => (∃ (t11 : Bool), t11 = r ∧ .bool t11 = v ∧ L' = []) ∧ K = K') := by
 refine Tr.k <| Tr.of Try.func25 rfl Try.ntmps25 rfl fun E F => ?_
 unfold fn_valid_OK at h
 refine cr <| jbx [ii xa.1, ii xa.2.1, .slice adxa_2 xa.2.2.1.length cpxa_2, .slice adxa_3 xa.2.2.2.1.length cpxa_3, .slice adxa_4 xa.2.2.2.2.1.length cpxa_4, .slice adxa_5 xa.2.2.2.2.2.1.length cpxa_5, .slice adxa_6 xa.2.2.2.2.2.2.length cpxa_6] rfl rfl fun b12 => ja (.bool false) rfl <| J.nil <| CJ.seq <| CJ.region ?_
 refine jv (.agg #[ii xa.1, ii xa.2.1, .slice adxa_2 xa.2.2.1.length cpxa_2, .slice adxa_3 xa.2.2.2.1.length cpxa_3, .slice adxa_4 xa.2.2.2.2.1.length cpxa_4, .slice adxa_5 xa.2.2.2.2.2.1.length cpxa_5, .slice adxa_6 xa.2.2.2.2.2.2.length cpxa_6]) (V.ld rfl (Ld.agg (cs := [ii xa.1, ii xa.2.1, .slice adxa_2 xa.2.2.1.length cpxa_2, .slice adxa_3 xa.2.2.2.1.length cpxa_3, .slice adxa_4 xa.2.2.2.2.1.length cpxa_4, .slice adxa_5 xa.2.2.2.2.2.1.length cpxa_5, .slice adxa_6 xa.2.2.2.2.2.2.length cpxa_6]) Try.underlying34 sz34 rfl (Rd.cls 0 0 rfl rfl))) ?_
 obtain ⟨r13, hr14, h⟩ := ob h
 refine J.op rfl (A.call (L1 := []) Try.call35 rfl (valid_Check_az_ok fxa_2 fxa_3 fxa_4 fxa_5 fxa_6 hr14) rfl rfl) ?_
 rintro _ _ _ ⟨v20, _, rfl, ⟨⟨i15, i17, i18, i19, rfl, rfl, rfl⟩, rfl⟩, _, rfl⟩
 refine jv (ii i15) (V.fld (ft := 0) Try.underlying104 rfl (Ld0.sc sc37 rfl) rfl) <| jv (.bool (decide (i15 = 0))) (V.eql rfl rfl) <| ja (.bool (decide (i15 = 0))) rfl <| J.nil <| CJ.ret ?_
 obtain rfl := si h
 exact ⟨_, _, Res.one rfl rfl, ⟨decide (i15 = 0), rfl, rfl, rfl⟩, (Hp.le_refl _), fun w hs => (Sep.dropAt 0 rfl hs)⟩
end Go.Proofs.Ytelekeapfgfknaa
