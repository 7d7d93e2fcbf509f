/- What Go functions answer: generated. -/
import Derived.Test.YtbaaamdljojknaaF4
namespace Go.Proofs.Ytbaaamdljojknaa
open Go.RowKit
set_option linter.unusedVariables false
set_option linter.unnecessarySimpa false
set_option linter.unusedSimpArgs false
set_option maxRecDepth 20000

noncomputable def fn_law21_ValidMany (xa : Int) (xb : Bool) : Option Bool :=
  (cond (xb) (some (IntKind.wrap .i64 (65536 + 1))) (some (65536)) : Option Int).bind fun i240 => (cond (decide ((Int.tmod (IntKind.wrap .i64 ((Int.tmod xa 3) + 3)) 3) = 0)) (some ((0, i240, [], ([([], (3, 0, 0, [], [], []))] : List ((List (Int × Int × Int × Int × Bool)) × (Int × Int × Int × (List Int) × (List Int) × (List Int))))))) (cond (decide ((Int.tmod (IntKind.wrap .i64 ((Int.tmod xa 3) + 3)) 3) = 1)) ((mk i240 i240 (0, 0) : Option (List (Int × Int))).bind fun z311 => some ((1, 1, z311, ([([], (3, 0, 0, [], [], []))] : List ((List (Int × Int × Int × Int × Bool)) × (Int × Int × Int × (List Int) × (List Int) × (List Int))))))) (cond (decide ((Int.tmod (IntKind.wrap .i64 ((Int.tmod xa 3) + 3)) 3) = 2)) ((mk i240 i240 (0, 0, 0, 0, false) : Option (List (Int × Int × Int × Int × Bool))).bind fun z329 => (getI (([([], (3, 0, 0, [], [], []))] : List ((List (Int × Int × Int × Int × Bool)) × (Int × Int × Int × (List Int) × (List Int) × (List Int))))) 0).bind fun x334 => (some ((([([], (3, 0, 0, [], [], []))] : List ((List (Int × Int × Int × Int × Bool)) × (Int × Int × Int × (List Int) × (List Int) × (List Int))))).set (0 : Int).toNat ((z329, (x334.2.1, x334.2.2.1, x334.2.2.2.1, x334.2.2.2.2.1, x334.2.2.2.2.2.1, x334.2.2.2.2.2.2))))).bind fun z344 => some ((5, 1, [], z344))) (some ((0, 1, [], ([([], (3, 0, 0, [], [], []))] : List ((List (Int × Int × Int × Int × Bool)) × (Int × Int × Int × (List Int) × (List Int) × (List Int))))))))) : Option ((Int × Int × (List (Int × Int)) × (List ((List (Int × Int × Int × Int × Bool)) × (Int × Int × Int × (List Int) × (List Int) × (List Int))))))).bind fun (i294, i295, l296, l301) => (fn_valid_Check_az ((1, i295, l296, ([[]] : List (List (Int × Bool))), [], [], l301))).bind fun (i364, i365, i366, i367) => cond (xb) ((cond ((decide (i364 = 6)) && (decide (i365 = i294))) ((fn_valid_OK ((1, i295, l296, ([[]] : List (List (Int × Bool))), [], [], l301))).bind fun t406 => some (!t406)) (some (false))).bind fun t392 => (cond (t392) ((fn_law21_awake).bind fun t422 => some (t422)) (some (false))).bind fun t417 => some (t417)) ((cond (decide (i364 = 0)) ((fn_valid_OK ((1, i295, l296, ([[]] : List (List (Int × Bool))), [], [], l301))).bind fun t456 => some (t456)) (some (false))).bind fun t442 => (cond (t442) ((fn_law21_awake).bind fun t472 => some (t472)) (some (false))).bind fun t467 => some (t467))
set_option maxRecDepth 100000 in
set_option maxHeartbeats 4000000 in
theorem law21_ValidMany_ok {K : Hp} {xa : Int} {xb : Bool}   {r : Bool} (h : fn_law21_ValidMany xa xb = some r) :
    Tr Try.prog 5 #[ii xa, .bool xb] K [] (fun v K' L' => (∃ (t238 : Bool), t238 = r ∧ .bool t238 = v ∧ L' = []) ∧ K = K') := by
 refine Tr.k <| Tr.of Try.func5 rfl Try.ntmps5 rfl fun E F => ?_
 unfold fn_law21_ValidMany at h
 refine cr <| ja (.bool false) rfl <| J.nil <| cr <| ja (ii 65536) rfl ?_
 refine J.nil <| CJ.seq ?_
 obtain ⟨o241, ho242, h⟩ := ob h
 refine CJ.meetN (fun ρ K' L' => ∃ (i240 : Int), i240 = o241 ∧ Fits [(0, ii xa), (1, .bool xb), (5, ii i240)] ρ ∧ K = K' ∧ F = L') ?_ ?_
 · refine cr <| jm (.bool xb) rfl <| J.nil <| cc rfl ho242 (fun hc243 ho242 => ?_) fun hc243 ho242 => ?_
   · refine CJ.region <| jm (ii 65536) rfl <| jv (ii (IntKind.wrap .i64 (65536 + 1))) (V.add rfl rfl) <| ja (ii (IntKind.wrap .i64 (65536 + 1))) rfl <| J.nil ?_
     obtain rfl := si ho242
     exact ⟨rfl, ⟨IntKind.wrap .i64 (65536 + 1), rfl, ⟨rfl, rfl, rfl, trivial⟩, rfl, rfl⟩⟩
   refine CJ.skip ?_
   obtain rfl := si ho242
   exact ⟨rfl, ⟨65536, rfl, ⟨rfl, rfl, rfl, trivial⟩, rfl, rfl⟩⟩
 rintro ρ _ _ ⟨i240, rfl, hf244, rfl, rfl⟩
 obtain ⟨ρ, rfl⟩ := hf244.ex
 refine PJ.done <| cr <| jv (.agg #[nos]) (V.build inf26 places26 rfl rfl) ?_
 refine J.op rfl (A.lit (K0 := K) (ty := (.one (.sl (.cons (.int .i64) (.one .bool))))) (xs := ([[]] : List (List (Int × Bool)))) Try.underlying23 inf26 rfl (by decide) rfl rfl rfl ⟨_, _, rfl, (isNil (K := K) (t := (.cons (.int .i64) (.one .bool)))), rfl⟩ rfl (by decide)) ?_
 rintro _ _ _ ⟨b246, rfl, rfl, rfl⟩
 have hn247 : ([[]] : List (List (Int × Bool))) ≠ [] → ∃ g, (some ⟨b246, 0, none⟩ : Option Addr) = some ⟨g, 0, none⟩ := fun _ => ⟨b246, rfl⟩
 refine jv (.agg #[ii 3, ii 0, ii 0, nos, nos, nos]) (V.build inf54 places54 rfl rfl) <| jv (.agg #[nos, ii 3, ii 0, ii 0, nos, nos, nos]) (V.build inf56 places56 rfl rfl) ?_
 refine J.op rfl (A.lit (K0 := K) (ty := (.cons (.sl (.cons (.int .i64) (.cons (.int .i64) (.cons (.int .i64) (.cons (.int .i64) (.one .bool)))))) (.one (.cons (.int .i64) (.cons (.int .i64) (.cons (.int .i64) (.cons (.sl (.int .i64)) (.cons (.sl (.int .i64)) (.one (.sl (.int .i64))))))))))) (xs := ([([], (3, 0, 0, [], [], []))] : List ((List (Int × Int × Int × Int × Bool)) × (Int × Int × Int × (List Int) × (List Int) × (List Int))))) Try.underlying28 inf56 rfl (by decide) rfl rfl rfl ⟨_, _, rfl, ⟨_, _, rfl, rfl, (isNil (K := K) (t := (.cons (.int .i64) (.cons (.int .i64) (.cons (.int .i64) (.cons (.int .i64) (.one .bool))))))), ⟨_, _, rfl, rfl, rfl, ⟨_, _, rfl, rfl, rfl, ⟨_, _, rfl, rfl, rfl, ⟨_, _, rfl, rfl, (isNil (K := K) (t := (.int .i64))), ⟨_, _, rfl, rfl, (isNil (K := K) (t := (.int .i64))), (isNil (K := K) (t := (.int .i64)))⟩⟩⟩⟩⟩⟩, rfl⟩ rfl (by decide)) ?_
 rintro _ _ _ ⟨b249, rfl, rfl, rfl⟩
 have hn250 : ([([], (3, 0, 0, [], [], []))] : List ((List (Int × Int × Int × Int × Bool)) × (Int × Int × Int × (List Int) × (List Int) × (List Int)))) ≠ [] → ∃ g, (some ⟨b249, 0, none⟩ : Option Addr) = some ⟨g, 0, none⟩ := fun _ => ⟨b249, rfl⟩
 refine jv (.agg #[ii 1, ii 1, nos, .slice (some ⟨b246, 0, none⟩) ((([[]] : List (List (Int × Bool)))).length) 1, nos, nos, .slice (some ⟨b249, 0, none⟩) ((([([], (3, 0, 0, [], [], []))] : List ((List (Int × Int × Int × Int × Bool)) × (Int × Int × Int × (List Int) × (List Int) × (List Int))))).length) 1]) (V.build inf30 places30 rfl rfl) <| jal inf30 [ii 0, ii 0, nos, nos, nos, nos, nos] rfl fun b252 => js [ii 1, ii 1, nos, .slice (some ⟨b246, 0, none⟩) ((([[]] : List (List (Int × Bool)))).length) 1, nos, nos, .slice (some ⟨b249, 0, none⟩) ((([([], (3, 0, 0, [], [], []))] : List ((List (Int × Int × Int × Int × Bool)) × (Int × Int × Int × (List Int) × (List Int) × (List Int))))).length) 1] sz30 rfl rfl rfl rfl rfl rfl <| J.nil <| cr <| ja (ii 0) rfl ?_
 refine J.nil <| CJ.seq ?_
 obtain ⟨o306, ho307, h⟩ := ob h
 refine CJ.meetN (fun ρ K' L' => ∃ (i294 : Int) (i295 : Int) (l296 : (List (Int × Int))) (l301 : (List ((List (Int × Int × Int × Int × Bool)) × (Int × Int × Int × (List Int) × (List Int) × (List Int))))) (ad297 : Option Addr) (cp298 : Nat) (ad302 : Option Addr) (cp303 : Nat), (i294, i295, l296, l301) = o306 ∧ Fits [(1, .bool xb), (6, .pointer (some ⟨b252, 0, none⟩)), (7, ii i294)] ρ ∧ Hp.le K K' ∧ L' = Cl b252 30 [ii 1, ii i295, .slice ad297 l296.length cp298, .slice (some ⟨b246, 0, none⟩) ((([[]] : List (List (Int × Bool)))).length) 1, nos, nos, .slice ad302 l301.length cp303] :: Row K 26 (.one (.sl (.cons (.int .i64) (.one .bool)))) (.slice (some ⟨b246, 0, none⟩) ((([[]] : List (List (Int × Bool)))).length) 1) (([[]] : List (List (Int × Bool)))) :: Row Hp.nil 50 (.cons (.int .i64) (.one (.int .i64))) (.slice ad297 l296.length cp298) l296 :: Row K' 56 (.cons (.sl (.cons (.int .i64) (.cons (.int .i64) (.cons (.int .i64) (.cons (.int .i64) (.one .bool)))))) (.one (.cons (.int .i64) (.cons (.int .i64) (.cons (.int .i64) (.cons (.sl (.int .i64)) (.cons (.sl (.int .i64)) (.one (.sl (.int .i64)))))))))) (.slice ad302 l301.length cp303) l301 :: F) ?_ ?_
 · refine cr <| jm (ii xa) rfl <| jv (ii (Int.tmod xa 3)) (V.rem rfl rfl (by decide)) <| jv (ii (IntKind.wrap .i64 ((Int.tmod xa 3) + 3))) (V.add rfl rfl) <| jv (ii (Int.tmod (IntKind.wrap .i64 ((Int.tmod xa 3) + 3)) 3)) (V.rem rfl rfl (by decide)) <| J.nil ?_
   refine CJ.block <| cr <| jv (.bool (decide ((Int.tmod (IntKind.wrap .i64 ((Int.tmod xa 3) + 3)) 3) = 0))) (V.eql rfl rfl) <| ja (.bool (decide ((Int.tmod (IntKind.wrap .i64 ((Int.tmod xa 3) + 3)) 3) = 0))) rfl <| J.nil <| cc rfl ho307 (fun hc308 ho307 => ?_) fun hc308 ho307 => ?_
   · refine CJ.region <| jm (ii i240) rfl <| jv _ (V.fad Try.underlying30 rfl nz3 rfl) <| js1 [ii 1, ii i240, nos, .slice (some ⟨b246, 0, none⟩) ((([[]] : List (List (Int × Bool)))).length) 1, nos, nos, .slice (some ⟨b249, 0, none⟩) ((([([], (3, 0, 0, [], [], []))] : List ((List (Int × Int × Int × Int × Bool)) × (Int × Int × Int × (List Int) × (List Int) × (List Int))))).length) 1] sz3 rfl rfl rfl rfl rfl rfl <| J.by (fun w hs => Sep.rowNil (e := 50) (t := (.cons (.int .i64) (.one (.int .i64)))) hs) <| J.front 2 rfl <| J.front 1 rfl ?_
     refine J.front 3 rfl <| J.front 3 rfl <| J.nil ?_
     obtain rfl := si ho307
     exact ⟨rfl, ⟨0, i240, [], ([([], (3, 0, 0, [], [], []))] : List ((List (Int × Int × Int × Int × Bool)) × (Int × Int × Int × (List Int) × (List Int) × (List Int)))), none, 0, (some ⟨b249, 0, none⟩), 1, rfl, ⟨rfl, rfl, rfl, trivial⟩, (Hp.le_refl _), rfl⟩⟩
   refine cr <| jv (.bool (decide ((Int.tmod (IntKind.wrap .i64 ((Int.tmod xa 3) + 3)) 3) = 1))) (V.eql rfl rfl) <| ja (.bool (decide ((Int.tmod (IntKind.wrap .i64 ((Int.tmod xa 3) + 3)) 3) = 1))) rfl <| J.nil <| cc rfl ho307 (fun hc310 ho307 => ?_) fun hc310 ho307 => ?_
   · refine cr <| jm (ii i240) rfl ?_
     obtain ⟨z311, hz312, ho307⟩ := ob ho307
     refine J.op rfl (A.make (K0 := Hp.nil) (ty := (.cons (.int .i64) (.one (.int .i64)))) (x0 := (0, 0)) Try.underlying22 inf50 rfl ⟨_, _, rfl, rfl, rfl, rfl⟩ (by decide) (by decide) rfl rfl hz312) ?_
     rintro _ _ _ ⟨b313, rfl, rfl, rfl⟩
     have hn314 : z311 ≠ [] → ∃ g, (some ⟨b313, 0, none⟩ : Option Addr) = some ⟨g, 0, none⟩ := fun _ => ⟨b313, rfl⟩
     refine jv _ (V.fad Try.underlying30 rfl nz22 rfl) <| J.front 1 rfl <| js1 [ii 1, ii 1, .slice (some ⟨b313, 0, none⟩) z311.length i240.toNat, .slice (some ⟨b246, 0, none⟩) ((([[]] : List (List (Int × Bool)))).length) 1, nos, nos, .slice (some ⟨b249, 0, none⟩) ((([([], (3, 0, 0, [], [], []))] : List ((List (Int × Int × Int × Int × Bool)) × (Int × Int × Int × (List Int) × (List Int) × (List Int))))).length) 1] sz22 rfl rfl rfl rfl rfl rfl <| J.nil <| CJ.region <| ja (ii 1) rfl <| J.front 2 rfl ?_
     refine J.front 2 rfl <| J.front 3 rfl <| J.front 3 rfl <| J.nil ?_
     obtain rfl := si ho307
     exact ⟨rfl, ⟨1, 1, z311, ([([], (3, 0, 0, [], [], []))] : List ((List (Int × Int × Int × Int × Bool)) × (Int × Int × Int × (List Int) × (List Int) × (List Int)))), (some ⟨b313, 0, none⟩), i240.toNat, (some ⟨b249, 0, none⟩), 1, rfl, ⟨rfl, rfl, rfl, trivial⟩, (Hp.le_refl _), rfl⟩⟩
   refine cr <| jv (.bool (decide ((Int.tmod (IntKind.wrap .i64 ((Int.tmod xa 3) + 3)) 3) = 2))) (V.eql rfl rfl) <| ja (.bool (decide ((Int.tmod (IntKind.wrap .i64 ((Int.tmod xa 3) + 3)) 3) = 2))) rfl <| J.nil <| cc rfl ho307 (fun hc316 ho307 => ?_) fun hc316 ho307 => ?_
   · refine CJ.seq <| CJ.mix [Cl b252 30 [ii 1, ii 1, nos, .slice (some ⟨b246, 0, none⟩) ((([[]] : List (List (Int × Bool)))).length) 1, nos, nos, .slice (some ⟨b249, 0, none⟩) ((([([], (3, 0, 0, [], [], []))] : List ((List (Int × Int × Int × Int × Bool)) × (Int × Int × Int × (List Int) × (List Int) × (List Int))))).length) 1], Row K 56 (.cons (.sl (.cons (.int .i64) (.cons (.int .i64) (.cons (.int .i64) (.cons (.int .i64) (.one .bool)))))) (.one (.cons (.int .i64) (.cons (.int .i64) (.cons (.int .i64) (.cons (.sl (.int .i64)) (.cons (.sl (.int .i64)) (.one (.sl (.int .i64)))))))))) (.slice (some ⟨b249, 0, none⟩) ((([([], (3, 0, 0, [], [], []))] : List ((List (Int × Int × Int × Int × Bool)) × (Int × Int × Int × (List Int) × (List Int) × (List Int))))).length) 1) (([([], (3, 0, 0, [], [], []))] : List ((List (Int × Int × Int × Int × Bool)) × (Int × Int × Int × (List Int) × (List Int) × (List Int))))), Row K 26 (.one (.sl (.cons (.int .i64) (.one .bool)))) (.slice (some ⟨b246, 0, none⟩) ((([[]] : List (List (Int × Bool)))).length) 1) (([[]] : List (List (Int × Bool))))] [([0, 1, 2], 3)] [4, 5] [6] mixO (by decide +kernel) ⟨0, rfl, 0, rfl, 0, rfl, trivial⟩ rfl rfl rfl <| JM.cons <| qv _ (V.fad Try.underlying30 rfl nz28 rfl) <| qv (.slice (some ⟨b249, 0, none⟩) ((([([], (3, 0, 0, [], [], []))] : List ((List (Int × Int × Int × Int × Bool)) × (Int × Int × Int × (List Int) × (List Int) × (List Int))))).length) 1) (V.ld rfl (Ld.sc sc28 (Rd.cl 0 rfl rfl))) <| qm (ii i240) rfl <| JQ.nil ?_
     obtain ⟨z329, hz330, ho307⟩ := ob ho307
     refine JA.op rfl (A.make (K0 := Hp.nil) (ty := (.cons (.int .i64) (.cons (.int .i64) (.cons (.int .i64) (.cons (.int .i64) (.one .bool)))))) (x0 := (0, 0, 0, 0, false)) Try.underlying51 inf76 rfl ⟨_, _, rfl, rfl, rfl, ⟨_, _, rfl, rfl, rfl, ⟨_, _, rfl, rfl, rfl, ⟨_, _, rfl, rfl, rfl, rfl⟩⟩⟩⟩ (by decide) (by decide) rfl rfl hz330) ?_
     rintro _ _ _ ⟨b331, rfl, rfl, rfl⟩
     have hn332 : z329 ≠ [] → ∃ g, (some ⟨b331, 0, none⟩ : Option Addr) = some ⟨g, 0, none⟩ := fun _ => ⟨b331, rfl⟩
     refine ⟨fun w hs => Hold.sub (Hp.le_refl _) ⟨1, rfl, 1, rfl, 1, rfl, trivial⟩ hs, ?_⟩
     refine JM.nil ?_
     obtain ⟨x334, hx335, ho307⟩ := ob ho307
     obtain ⟨p336, p337, p338⟩ := getI_some hx335
     obtain ⟨g339, e340⟩ := hn250 (fun e => by rw [e] at p337; simp at p337)
     refine qv _ (V.iad Try.underlying28 sz56 rfl e340 rfl p336 p338) <| qv _ (V.fad Try.underlying56 rfl nz51 rfl) <| JQ.nil <| J.front 2 rfl <| J.front 1 rfl <| J.persist (Hp.nil_le _) (by decide) fun K341 hK342 f343 => J.by (fun w hs => hs.mono (Row.mono hK342)) ?_
     obtain ⟨z344, hz345, ho307⟩ := ob ho307
     have e346 := Option.some.inj hz345
     have hl347 : z344.length = (([([], (3, 0, 0, [], [], []))] : List ((List (Int × Int × Int × Int × Bool)) × (Int × Int × Int × (List Int) × (List Int) × (List Int))))).length := by rw [← e346, List.length_set]
     refine J.op rfl (A.storeR (ty := (.cons (.sl (.cons (.int .i64) (.cons (.int .i64) (.cons (.int .i64) (.cons (.int .i64) (.one .bool)))))) (.one (.cons (.int .i64) (.cons (.int .i64) (.cons (.int .i64) (.cons (.sl (.int .i64)) (.cons (.sl (.int .i64)) (.one (.sl (.int .i64))))))))))) (q := 0) (y0 := (z329, (x334.2.1, x334.2.2.1, x334.2.2.2.1, x334.2.2.2.2.1, x334.2.2.2.2.2.1, x334.2.2.2.2.2.2))) (zs := z344) sz51 rfl rfl rfl rfl e340 p337 (by simp [Tp.size]) (by decide) (Is.setF (by decide) (Is.setC f343 rfl)) e346) ?_
     rintro _ _ _ ⟨rfl, rfl, rfl⟩
     have hn348 : z344 ≠ [] → _ := fun h => hn250 (fun e => h (List.length_eq_zero_iff.1 (by rw [hl347]; exact List.length_eq_zero_iff.2 e)))
     refine J.nil <| CJ.region <| ja (ii 5) rfl <| J.by (fun w hs => Sep.rowNil (e := 50) (t := (.cons (.int .i64) (.one (.int .i64)))) hs) <| J.front 1 rfl <| J.front 1 rfl <| J.front 3 rfl ?_
     refine J.front 3 rfl <| J.nil ?_
     obtain rfl := si ho307
     exact ⟨rfl, ⟨5, 1, [], z344, none, 0, (some ⟨b249, 0, none⟩), 1, rfl, ⟨rfl, rfl, rfl, trivial⟩, hK342, (by rw [hl347]; first | done | rfl)⟩⟩
   refine CJ.by (fun w hs => Sep.rowNil (e := 50) (t := (.cons (.int .i64) (.one (.int .i64)))) hs) <| CJ.front 2 rfl <| CJ.front 1 rfl <| CJ.front 3 rfl <| CJ.front 3 rfl <| CJ.skip ?_
   obtain rfl := si ho307
   exact ⟨rfl, ⟨0, 1, [], ([([], (3, 0, 0, [], [], []))] : List ((List (Int × Int × Int × Int × Bool)) × (Int × Int × Int × (List Int) × (List Int) × (List Int)))), none, 0, (some ⟨b249, 0, none⟩), 1, rfl, ⟨rfl, rfl, rfl, trivial⟩, (Hp.le_refl _), rfl⟩⟩
 rintro ρ K293 _ ⟨i294, i295, l296, l301, ad297, cp298, ad302, cp303, rfl, hf351, hk352, rfl⟩
 obtain ⟨ρ, rfl⟩ := hf351.ex
 refine PJ.front 2 rfl <| PJ.wit Row.hn fun hn300 => PJ.front 3 rfl <| PJ.wit Row.hn fun hn305 => PJ.done <| CJ.seq <| CJ.region ?_
 refine jv (.agg #[ii 1, ii i295, .slice ad297 l296.length cp298, .slice (some ⟨b246, 0, none⟩) ((([[]] : List (List (Int × Bool)))).length) 1, nos, nos, .slice ad302 l301.length cp303]) (V.ld rfl (Ld.agg (cs := [ii 1, ii i295, .slice ad297 l296.length cp298, .slice (some ⟨b246, 0, none⟩) ((([[]] : List (List (Int × Bool)))).length) 1, nos, nos, .slice ad302 l301.length cp303]) Try.underlying30 sz30 rfl (Rd.cls 2 0 rfl rfl))) ?_
 obtain ⟨r353, hr354, h⟩ := ob h
 refine J.front 3 rfl <| J.front 2 rfl <| J.op rfl (A.call (L1 := [Row Hp.nil 50 (.cons (.int .i64) (.one (.int .i64))) (.slice ad297 l296.length cp298) l296, Row K 26 (.one (.sl (.cons (.int .i64) (.one .bool)))) (.slice (some ⟨b246, 0, none⟩) ((([[]] : List (List (Int × Bool)))).length) 1) (([[]] : List (List (Int × Bool)))), Row K293 56 (.cons (.sl (.cons (.int .i64) (.cons (.int .i64) (.cons (.int .i64) (.cons (.int .i64) (.one .bool)))))) (.one (.cons (.int .i64) (.cons (.int .i64) (.cons (.int .i64) (.cons (.sl (.int .i64)) (.cons (.sl (.int .i64)) (.one (.sl (.int .i64)))))))))) (.slice ad302 l301.length cp303) l301]) Try.call8 rfl (Tr.lend (Hp.nil_le _) (by decide) (fun K355 hK356 f357 => Tr.lend (Hp.le.trans hk352 hK356) (by decide) (fun K358 hK359 f360 => Tr.lend (Hp.le.trans (Hp.le.trans (Hp.le_refl _) hK356) hK359) (by decide) (fun K361 hK362 f363 => valid_Check_az_ok ((f357.mono hK359).mono hK362) (f360.mono hK362) isNil isNil f363 hr354)))) rfl rfl) ?_
 rintro _ _ _ ⟨v368, _, rfl, ⟨⟨_, ⟨_, ⟨_, ⟨i364, i365, i366, i367, rfl, rfl, rfl⟩, rfl⟩, rfl⟩, rfl⟩, rfl⟩, _, rfl⟩
 refine jal inf39 [ii 0, ii 0, ii 0, ii 0] rfl fun b371 => js [ii i364, ii i365, ii i366, ii i367] sz39 rfl rfl rfl rfl rfl rfl <| J.nil <| CJ.seq <| cr <| jm (.bool xb) rfl ?_
 refine J.nil <| cc rfl h (fun hc372 h => ?_) fun hc372 h => ?_
 · refine cr <| jv _ (V.fad Try.underlying39 rfl nz31 rfl) <| jv (ii i364) (V.ld rfl (Ld.sc sc31 (Rd.cl 0 rfl rfl))) <| jv (.bool (decide (i364 = 6))) (V.eql rfl rfl) <| jm (.bool (decide (i364 = 6))) rfl <| J.cut 5 ?_
   refine jmeet [(50, .bool ((decide (i364 = 6)) && (decide (i365 = i294)))), (6, .pointer (some ⟨b252, 0, none⟩))] ?_ ?_
   · rcases bt (decide (i364 = 6)) with hc375 | hc375
     · refine J.run rfl rfl rfl hc375 <| jv _ (V.fad Try.underlying39 rfl nz3 rfl) <| J.run rfl rfl rfl hc375 <| jv (ii i365) (V.ld rfl (Ld.sc sc3 (Rd.cl 0 rfl rfl))) <| J.run rfl rfl rfl hc375 <| jm (ii i294) rfl <| J.run rfl rfl rfl hc375 ?_
       refine jv (.bool (decide (i365 = i294))) (V.eql rfl rfl) <| jv (.bool (decide (i365 = i294))) (V.pickT rfl hc375 rfl) <| J.nil ?_
       exact ⟨rfl, ⟨(by simp only [hc375]; rfl), rfl, trivial⟩, rfl, rfl⟩
     refine J.skip rfl rfl rfl rfl hc375 <| J.skip rfl rfl rfl rfl hc375 <| J.skip rfl rfl rfl rfl hc375 <| J.skip rfl rfl rfl rfl hc375 <| jv (.bool false) (V.pickF rfl hc375 rfl) <| J.nil ?_
     exact ⟨rfl, ⟨(by simp only [hc375]; rfl), rfl, trivial⟩, rfl, rfl⟩
   intro ρ
   refine jm (.bool ((decide (i364 = 6)) && (decide (i365 = i294)))) rfl <| J.cut 4 ?_
   obtain ⟨t392, ht393, h⟩ := ob h
   refine jmeet [(55, .bool t392)] ?_ ?_
   · rcases bt ((decide (i364 = 6)) && (decide (i365 = i294))) with hc394 | hc394
     · have ht393 := ct hc394 ht393
       refine J.run rfl rfl rfl hc394 <| jv (.agg #[ii 1, ii i295, .slice ad297 l296.length cp298, .slice (some ⟨b246, 0, none⟩) ((([[]] : List (List (Int × Bool)))).length) 1, nos, nos, .slice ad302 l301.length cp303]) (V.ld rfl (Ld.agg (cs := [ii 1, ii i295, .slice ad297 l296.length cp298, .slice (some ⟨b246, 0, none⟩) ((([[]] : List (List (Int × Bool)))).length) 1, nos, nos, .slice ad302 l301.length cp303]) Try.underlying30 sz30 rfl (Rd.cls 4 0 rfl rfl))) <| J.run rfl rfl rfl hc394 ?_
       obtain ⟨r395, hr396, ht393⟩ := ob ht393
       refine J.front 3 rfl <| J.front 3 rfl <| J.front 3 rfl <| J.op rfl (A.call (L1 := [Row Hp.nil 50 (.cons (.int .i64) (.one (.int .i64))) (.slice ad297 l296.length cp298) l296, Row K 26 (.one (.sl (.cons (.int .i64) (.one .bool)))) (.slice (some ⟨b246, 0, none⟩) ((([[]] : List (List (Int × Bool)))).length) 1) (([[]] : List (List (Int × Bool)))), Row K293 56 (.cons (.sl (.cons (.int .i64) (.cons (.int .i64) (.cons (.int .i64) (.cons (.int .i64) (.one .bool)))))) (.one (.cons (.int .i64) (.cons (.int .i64) (.cons (.int .i64) (.cons (.sl (.int .i64)) (.cons (.sl (.int .i64)) (.one (.sl (.int .i64)))))))))) (.slice ad302 l301.length cp303) l301]) Try.call10 rfl (Tr.lend (Hp.nil_le _) (by decide) (fun K397 hK398 f399 => Tr.lend (Hp.le.trans hk352 hK398) (by decide) (fun K400 hK401 f402 => Tr.lend (Hp.le.trans (Hp.le.trans (Hp.le_refl _) hK398) hK401) (by decide) (fun K403 hK404 f405 => valid_OK_ok ((f399.mono hK401).mono hK404) (f402.mono hK404) isNil isNil f405 hr396)))) rfl rfl) ?_
       rintro _ _ _ ⟨v407, _, rfl, ⟨⟨_, ⟨_, ⟨_, ⟨t406, rfl, rfl, rfl⟩, rfl⟩, rfl⟩, rfl⟩, rfl⟩, _, rfl⟩
       refine J.run rfl rfl rfl hc394 <| jv (.bool (!t406)) (V.not rfl) <| jv (.bool (!t406)) (V.pickT rfl hc394 rfl) <| J.front 4 rfl <| J.front 3 rfl <| J.front 3 rfl <| J.front 3 rfl ?_
       refine J.front 4 rfl <| J.nil ?_
       obtain rfl := si ht393
       exact ⟨rfl, ⟨rfl, trivial⟩, rfl, rfl⟩
     have ht393 := cf hc394 ht393
     refine J.skip rfl rfl rfl rfl hc394 <| J.skip rfl rfl rfl rfl hc394 <| J.skip rfl rfl rfl rfl hc394 <| jv (.bool false) (V.pickF rfl hc394 rfl) <| J.nil ?_
     obtain rfl := si ht393
     exact ⟨rfl, ⟨rfl, trivial⟩, rfl, rfl⟩
   intro ρ
   refine jm (.bool t392) rfl <| J.cut 2 ?_
   obtain ⟨t417, ht418, h⟩ := ob h
   refine jmeet [(58, .bool t417)] ?_ ?_
   · rcases bt (t392) with hc419 | hc419
     · have ht418 := ct hc419 ht418
       refine J.run rfl rfl rfl hc419 ?_
       obtain ⟨r420, hr421, ht418⟩ := ob ht418
       refine J.op rfl (A.call (L1 := []) Try.call7 rfl (law21_awake_ok hr421) rfl rfl) ?_
       rintro _ _ _ ⟨v423, _, rfl, ⟨⟨t422, rfl, rfl, rfl⟩, rfl⟩, _, rfl⟩
       refine jv (.bool t422) (V.pickT rfl hc419 rfl) <| J.nil ?_
       obtain rfl := si ht418
       exact ⟨rfl, ⟨rfl, trivial⟩, rfl, rfl⟩
     have ht418 := cf hc419 ht418
     refine J.skip rfl rfl rfl rfl hc419 <| jv (.bool false) (V.pickF rfl hc419 rfl) <| J.nil ?_
     obtain rfl := si ht418
     exact ⟨rfl, ⟨rfl, trivial⟩, rfl, rfl⟩
   intro ρ
   refine ja (.bool t417) rfl <| J.nil <| CJ.ret ?_
   obtain rfl := si h
   exact ⟨_, _, Res.one rfl rfl, ⟨t417, rfl, rfl, rfl⟩, hk352, fun w hs => (Sep.dropAt 0 rfl (Sep.dropAt 0 rfl (Sep.dropAt 0 rfl (Sep.dropAt 0 rfl (Sep.dropAt 0 rfl hs)))))⟩
 refine CJ.skip <| cr <| jv _ (V.fad Try.underlying39 rfl nz31 rfl) <| jv (ii i364) (V.ld rfl (Ld.sc sc31 (Rd.cl 0 rfl rfl))) <| jv (.bool (decide (i364 = 0))) (V.eql rfl rfl) <| jm (.bool (decide (i364 = 0))) rfl ?_
 refine J.cut 3 ?_
 obtain ⟨t442, ht443, h⟩ := ob h
 refine jmeet [(65, .bool t442)] ?_ ?_
 · rcases bt (decide (i364 = 0)) with hc444 | hc444
   · have ht443 := ct hc444 ht443
     refine J.run rfl rfl rfl hc444 <| jv (.agg #[ii 1, ii i295, .slice ad297 l296.length cp298, .slice (some ⟨b246, 0, none⟩) ((([[]] : List (List (Int × Bool)))).length) 1, nos, nos, .slice ad302 l301.length cp303]) (V.ld rfl (Ld.agg (cs := [ii 1, ii i295, .slice ad297 l296.length cp298, .slice (some ⟨b246, 0, none⟩) ((([[]] : List (List (Int × Bool)))).length) 1, nos, nos, .slice ad302 l301.length cp303]) Try.underlying30 sz30 rfl (Rd.cls 4 0 rfl rfl))) <| J.run rfl rfl rfl hc444 ?_
     obtain ⟨r445, hr446, ht443⟩ := ob ht443
     refine J.front 3 rfl <| J.front 3 rfl <| J.front 3 rfl <| J.op rfl (A.call (L1 := [Row Hp.nil 50 (.cons (.int .i64) (.one (.int .i64))) (.slice ad297 l296.length cp298) l296, Row K 26 (.one (.sl (.cons (.int .i64) (.one .bool)))) (.slice (some ⟨b246, 0, none⟩) ((([[]] : List (List (Int × Bool)))).length) 1) (([[]] : List (List (Int × Bool)))), Row K293 56 (.cons (.sl (.cons (.int .i64) (.cons (.int .i64) (.cons (.int .i64) (.cons (.int .i64) (.one .bool)))))) (.one (.cons (.int .i64) (.cons (.int .i64) (.cons (.int .i64) (.cons (.sl (.int .i64)) (.cons (.sl (.int .i64)) (.one (.sl (.int .i64)))))))))) (.slice ad302 l301.length cp303) l301]) Try.call10 rfl (Tr.lend (Hp.nil_le _) (by decide) (fun K447 hK448 f449 => Tr.lend (Hp.le.trans hk352 hK448) (by decide) (fun K450 hK451 f452 => Tr.lend (Hp.le.trans (Hp.le.trans (Hp.le_refl _) hK448) hK451) (by decide) (fun K453 hK454 f455 => valid_OK_ok ((f449.mono hK451).mono hK454) (f452.mono hK454) isNil isNil f455 hr446)))) rfl rfl) ?_
     rintro _ _ _ ⟨v457, _, rfl, ⟨⟨_, ⟨_, ⟨_, ⟨t456, rfl, rfl, rfl⟩, rfl⟩, rfl⟩, rfl⟩, rfl⟩, _, rfl⟩
     refine jv (.bool t456) (V.pickT rfl hc444 rfl) <| J.front 4 rfl <| J.front 3 rfl <| J.front 3 rfl <| J.front 3 rfl <| J.front 4 rfl <| J.nil ?_
     obtain rfl := si ht443
     exact ⟨rfl, ⟨rfl, trivial⟩, rfl, rfl⟩
   have ht443 := cf hc444 ht443
   refine J.skip rfl rfl rfl rfl hc444 <| J.skip rfl rfl rfl rfl hc444 <| jv (.bool false) (V.pickF rfl hc444 rfl) <| J.nil ?_
   obtain rfl := si ht443
   exact ⟨rfl, ⟨rfl, trivial⟩, rfl, rfl⟩
 intro ρ
 refine jm (.bool t442) rfl <| J.cut 2 ?_
 obtain ⟨t467, ht468, h⟩ := ob h
 refine jmeet [(68, .bool t467)] ?_ ?_
 · rcases bt (t442) with hc469 | hc469
   · have ht468 := ct hc469 ht468
     refine J.run rfl rfl rfl hc469 ?_
     obtain ⟨r470, hr471, ht468⟩ := ob ht468
     refine J.op rfl (A.call (L1 := []) Try.call7 rfl (law21_awake_ok hr471) rfl rfl) ?_
     rintro _ _ _ ⟨v473, _, rfl, ⟨⟨t472, rfl, rfl, rfl⟩, rfl⟩, _, rfl⟩
     refine jv (.bool t472) (V.pickT rfl hc469 rfl) <| J.nil ?_
     obtain rfl := si ht468
     exact ⟨rfl, ⟨rfl, trivial⟩, rfl, rfl⟩
   have ht468 := cf hc469 ht468
   refine J.skip rfl rfl rfl rfl hc469 <| jv (.bool false) (V.pickF rfl hc469 rfl) <| J.nil ?_
   obtain rfl := si ht468
   exact ⟨rfl, ⟨rfl, trivial⟩, rfl, rfl⟩
 intro ρ
 refine ja (.bool t467) rfl <| J.nil <| CJ.ret ?_
 obtain rfl := si h
 exact ⟨_, _, Res.one rfl rfl, ⟨t467, rfl, rfl, rfl⟩, hk352, fun w hs => (Sep.dropAt 0 rfl (Sep.dropAt 0 rfl (Sep.dropAt 0 rfl (Sep.dropAt 0 rfl (Sep.dropAt 0 rfl hs)))))⟩
end Go.Proofs.Ytbaaamdljojknaa
