/- What Go functions answer: generated. -/
import Derived.Test.YtmdmdmaekjpfjaaGreatF3
namespace Go.Proofs.YtmdmdmaekjpfjaaGreat
open Go.RowKit
set_option linter.unusedVariables false
set_option linter.unnecessarySimpa false
set_option linter.unusedSimpArgs false
set_option maxRecDepth 20000
noncomputable def fn_ref20_locals_l1 (i279 : Int) : (List UInt8 × Int × (List (List (Int × Bool))) × Int) → Option ((List UInt8 × Int × (List (List (Int × Bool))) × Int) ⊕ (List UInt8 × Int × (List (List (Int × Bool))))) := fun ((s461, i462, l463, i468) : (List UInt8 × Int × (List (List (Int × Bool))) × Int)) => cond ((decide (i468 < i279)) && (decide (i462 = 0))) ((fn_ref17_TakeType s461).bind fun (l519, i520, i521) => (subL s461 i520 (((s461.length : Nat) : Int))).bind fun y530 => (app l463 (([l519] : List (List (Int × Bool))))).bind fun z538 => some (.inl ((y530, i521, z538, IntKind.wrap .i64 (i468 + 1))))) (some (.inr (((s461, i462, l463)))))
noncomputable def fn_ref20_locals (xa : (List UInt8)) : Option (((List (List (Int × Bool))) × List UInt8 × Int)) :=
  (fn_ref20_count xa).bind fun (i279, s280, i281) => (loop (fn_ref20_locals_l1 i279) ((s280, i281, ([] : List (List (Int × Bool))), 0)) : Option ((List UInt8 × Int × (List (List (Int × Bool)))))).bind fun (s412, i413, l414) => some ((l414, s412, i413))
set_option maxRecDepth 100000 in
set_option maxHeartbeats 4000000 in
theorem ref20_locals_ok {K : Hp} {xa : (List UInt8)}   {r : ((List (List (Int × Bool))) × List UInt8 × Int)} (h : fn_ref20_locals xa = some r) :
    Tr Tryz.prog 32 #[.string ⟨xa.toArray⟩] K [] (fun v K' L' => (∃ (l270 : (List (List (Int × Bool)))) (s275 : List UInt8) (i276 : Int) (ad271 : Option Addr) (cp272 : Nat), (l270, s275, i276) = r ∧ .tuple #[.slice ad271 l270.length cp272, .string ⟨s275.toArray⟩, ii i276] = v ∧ L' = [Row K' 30 (.one (.sl (.cons (.int .i64) (.one .bool)))) (.slice ad271 l270.length cp272) l270])) := by
 refine Tr.of Tryz.func32 rfl Tryz.ntmps32 rfl fun E F => ?_
 unfold fn_ref20_locals at h
 refine CJ.seq <| CJ.region <| ja (.slice none 0 0) rfl <| ja (.string ⟨([] : List UInt8).toArray⟩) rfl <| ja (ii 0) rfl <| J.nil <| CJ.seq ?_
 refine CJ.region <| jm (.string ⟨xa.toArray⟩) rfl ?_
 obtain ⟨r277, hr278, h⟩ := ob h
 refine J.op rfl (A.call (L1 := []) Tryz.call30 rfl (ref20_count_ok hr278) rfl rfl) ?_
 rintro _ _ _ ⟨v282, _, rfl, ⟨⟨i279, s280, i281, rfl, rfl, rfl⟩, rfl⟩, _, rfl⟩
 refine jm (.tuple #[ii i279, .string ⟨s280.toArray⟩, ii i281]) rfl <| jx (ii i279) rfl rfl <| jx (.string ⟨s280.toArray⟩) rfl rfl <| jx (ii i281) rfl rfl <| ja (ii i279) rfl <| ja (.string ⟨s280.toArray⟩) rfl <| ja (ii i281) rfl ?_
 refine J.nil <| CJ.seq <| CJ.region ?_
 refine J.op rfl (A.lit (K0 := K) (ty := (.one (.sl (.cons (.int .i64) (.one .bool))))) (xs := ([] : List (List (Int × Bool)))) Tryz.underlying27 inf30 rfl (by decide) rfl rfl rfl rfl rfl (by decide)) ?_
 rintro _ _ _ ⟨b285, rfl, rfl, rfl⟩
 have hn286 : ([] : List (List (Int × Bool))) ≠ [] → ∃ g, (some ⟨b285, 0, none⟩ : Option Addr) = some ⟨g, 0, none⟩ := fun _ => ⟨b285, rfl⟩
 refine ja (.slice (some ⟨b285, 0, none⟩) ((([] : List (List (Int × Bool)))).length) 0) rfl <| J.nil <| CJ.seq <| CJ.seq <| CJ.region <| ja (ii 0) rfl <| J.nil ?_
 obtain ⟨o419, ho420, h⟩ := ob h
 refine CJ.meetN (fun ρ K' L' => ∃ (s412 : List UInt8) (i413 : Int) (l414 : (List (List (Int × Bool)))) (ad415 : Option Addr) (cp416 : Nat), (s412, i413, l414) = o419 ∧ Fits [(6, .string ⟨s412.toArray⟩), (7, ii i413), (8, .slice ad415 l414.length cp416)] ρ ∧ Hp.le K K' ∧ L' = Row K' 30 (.one (.sl (.cons (.int .i64) (.one .bool)))) (.slice ad415 l414.length cp416) l414 :: F) ?_ ?_
 · refine CJ.block <| CJ.loop (fun s ρ K' L' => ∃ (s461 : List UInt8) (i462 : Int) (l463 : (List (List (Int × Bool)))) (i468 : Int) (ad464 : Option Addr) (cp465 : Nat), (s461, i462, l463, i468) = s ∧ Fits [(5, ii i279), (6, .string ⟨s461.toArray⟩), (7, ii i462), (8, .slice ad464 l463.length cp465), (9, ii i468)] ρ ∧ Hp.le K K' ∧ L' = Row K' 30 (.one (.sl (.cons (.int .i64) (.one .bool)))) (.slice ad464 l463.length cp465) l463 :: F) ho420 ⟨s280, i281, ([] : List (List (Int × Bool))), 0, (some ⟨b285, 0, none⟩), 0, rfl, ⟨rfl, rfl, rfl, rfl, rfl, trivial⟩, (Hp.le_refl _), rfl⟩ ?_
   rintro s ρ K460 _ r512 ⟨s461, i462, l463, i468, ad464, cp465, rfl, hf510, hk511, rfl⟩ h509
   obtain ⟨ρ, rfl⟩ := hf510.ex
   refine CJ.wit Row.hn fun hn467 => CJ.seq <| CJ.seq <| CJ.region <| jm (ii i468) rfl <| jm (ii i279) rfl <| jv (.bool (decide (i468 < i279))) (V.lss rfl rfl) ?_
   refine jm (.bool (decide (i468 < i279))) rfl <| J.cut 3 <| jmeet [(26, .bool ((decide (i468 < i279)) && (decide (i462 = 0)))), (5, ii i279), (6, .string ⟨s461.toArray⟩), (7, ii i462), (8, .slice ad464 l463.length cp465), (9, ii i468)] ?_ ?_
   · rcases bt (decide (i468 < i279)) with hc515 | hc515
     · refine J.run rfl rfl rfl hc515 <| jm (ii i462) rfl <| J.run rfl rfl rfl hc515 <| jv (.bool (decide (i462 = 0))) (V.eql rfl rfl) <| jv (.bool (decide (i462 = 0))) (V.pickT rfl hc515 rfl) <| J.nil ?_
       exact ⟨rfl, ⟨(by simp only [hc515]; rfl), rfl, rfl, rfl, rfl, rfl, trivial⟩, rfl, rfl⟩
     refine J.skip rfl rfl rfl rfl hc515 <| J.skip rfl rfl rfl rfl hc515 <| jv (.bool false) (V.pickF rfl hc515 rfl) <| J.nil ?_
     exact ⟨rfl, ⟨(by simp only [hc515]; rfl), rfl, rfl, rfl, rfl, rfl, trivial⟩, rfl, rfl⟩
   intro ρ
   refine J.nil <| cc rfl h509 (fun hc516 h509 => ?_) fun hc516 h509 => ?_
   · refine CJ.skip <| CJ.seq <| CJ.block <| CJ.seq <| CJ.region <| jm (.string ⟨s461.toArray⟩) rfl ?_
     obtain ⟨r517, hr518, h509⟩ := ob h509
     refine J.op rfl (A.call (L1 := []) Tryz.call33 rfl (ref17_TakeType_ok hr518) rfl rfl) ?_
     rintro _ _ _ ⟨v525, _, rfl, ⟨⟨l519, i520, i521, ad522, cp523, rfl, rfl, rfl⟩, rfl⟩, _, rfl⟩
     refine J.wit Row.hn fun hn524 => jm (.tuple #[.agg #[.slice ad522 l519.length cp523], ii i520, ii i521]) rfl <| jx (.agg #[.slice ad522 l519.length cp523]) rfl rfl <| jx (ii i520) rfl rfl <| jx (ii i521) rfl rfl <| jal inf30 [.slice none 0 0] rfl fun b529 => js [.slice ad522 l519.length cp523] sz30 rfl rfl rfl rfl rfl rfl ?_
     refine ja (ii i520) rfl <| ja (ii i521) rfl <| J.nil <| CJ.seq <| CJ.region <| jm (ii i521) rfl <| ja (ii i521) rfl ?_
     refine J.nil <| CJ.seq <| CJ.region <| jm (.string ⟨s461.toArray⟩) rfl <| jm (ii i520) rfl ?_
     obtain ⟨y530, hy531, h509⟩ := ob h509
     refine jv (.string ⟨y530.toArray⟩) (V.subs Tryz.underlying9 rfl (fun _ h => by cases h; exact ⟨_, rfl⟩) nofun nofun (fun _ => rfl) hy531) <| ja (.string ⟨y530.toArray⟩) rfl <| J.nil <| CJ.region <| jm (.slice ad464 l463.length cp465) rfl <| jv (.agg #[.slice ad522 l519.length cp523]) (V.ld rfl (Ld.agg (cs := [.slice ad522 l519.length cp523]) Tryz.underlying30 sz30 rfl (Rd.cls 0 0 rfl rfl))) <| J.front 1 rfl ?_
     refine J.persist (Hp.nil_le _) (by decide) fun K532 hK533 f534 => ?_
     refine J.op rfl (A.lit (K0 := K532) (ty := (.one (.sl (.cons (.int .i64) (.one .bool))))) (xs := ([l519] : List (List (Int × Bool)))) Tryz.underlying27 inf30 rfl (by decide) rfl rfl rfl ⟨_, _, rfl, f534, rfl⟩ rfl (by decide)) ?_
     rintro _ _ _ ⟨b535, rfl, rfl, rfl⟩
     have hn536 : ([l519] : List (List (Int × Bool))) ≠ [] → ∃ g, (some ⟨b535, 0, none⟩ : Option Addr) = some ⟨g, 0, none⟩ := fun _ => ⟨b535, rfl⟩
     obtain ⟨z538, hz539, h509⟩ := ob h509
     refine J.front 2 rfl <| J.op rfl (A.appR (Kr := K532) Tryz.underlying27 inf30 rfl rfl (by decide) (by decide) rfl rfl (Els.mono hK533) (Els.mono (Hp.le_refl _)) hz539) ?_
     rintro _ _ _ ⟨v540, rfl, rfl, rfl⟩
     refine J.wit Row.form ?_
     rintro ⟨ad541, cp542, rfl, _, _, hn543⟩
     refine ja (.slice ad541 z538.length cp542) rfl <| J.nil <| CJ.region <| jm (ii i468) rfl <| jv (ii (IntKind.wrap .i64 (i468 + 1))) (V.add rfl rfl) <| ja (ii (IntKind.wrap .i64 (i468 + 1))) rfl <| J.dropAt 1 rfl ?_
     refine J.nil ?_
     obtain rfl := si h509
     exact ⟨rfl, ⟨y530, i521, z538, IntKind.wrap .i64 (i468 + 1), ad541, cp542, rfl, ⟨rfl, rfl, rfl, rfl, rfl, trivial⟩, (hk511.trans hK533), rfl⟩⟩
   refine CJ.exit ?_
   obtain rfl := si h509
   refine ⟨nofun, fun e => ?_⟩
   subst e
   exact ⟨rfl, ⟨s461, i462, l463, ad464, cp465, rfl, ⟨rfl, rfl, rfl, trivial⟩, hk511, rfl⟩⟩
 rintro ρ K411 _ ⟨s412, i413, l414, ad415, cp416, rfl, hf544, hk545, rfl⟩
 obtain ⟨ρ, rfl⟩ := hf544.ex
 refine PJ.wit Row.hn fun hn418 => PJ.done <| CJ.seq <| CJ.region <| jm (.slice ad415 l414.length cp416) rfl <| jm (.string ⟨s412.toArray⟩) rfl <| jm (ii i413) rfl ?_
 refine ja (.slice ad415 l414.length cp416) rfl <| ja (.string ⟨s412.toArray⟩) rfl <| ja (ii i413) rfl <| J.nil <| CJ.ret ?_
 obtain rfl := si h
 exact ⟨_, _, Res.three rfl rfl rfl rfl, ⟨l414, s412, i413, ad415, cp416, rfl, rfl, rfl⟩, hk545, fun w hs => hs⟩
noncomputable def fn_ref17_Take_l1 (xa : (List UInt8)) (i352 : Int) : (Int × (List (List (Int × Bool))) × Int) → Option ((Int × (List (List (Int × Bool))) × Int) ⊕ ((Int × (List (List (Int × Bool)))) ⊕ (Int × (List (Int × Int)) × (List (List (Int × Bool))) × (List (Int × Bool)) × Int × Int))) := fun ((i529, l530, i535) : (Int × (List (List (Int × Bool))) × Int)) => cond (decide (i535 < i352)) ((subL xa i529 (((xa.length : Nat) : Int))).bind fun y578 => (fn_ref17_TakeType y578).bind fun (l582, i583, i584) => cond (!decide (i584 = 0)) (some (.inr ((.inr ((0, [], [], [], 0, i584)))))) ((app l530 (([l582] : List (List (Int × Bool))))).bind fun z603 => some (.inl ((IntKind.wrap .i64 (i529 + i583), z603, IntKind.wrap .i64 (i535 + 1)))))) (some (.inr ((.inl (i529, l530)))))
noncomputable def fn_ref17_Take (xa : (List UInt8)) : Option ((Int × (List (Int × Int)) × (List (List (Int × Bool))) × (List (Int × Bool)) × Int × Int)) :=
  (fn_ref02_Take xa).bind fun (i320, i321, i322) => cond (!decide (i322 = 0)) (some ((0, [], [], [], 0, i322))) ((subL xa i321 (((xa.length : Nat) : Int))).bind fun y330 => (fn_ref17_TakeBounds y330 16).bind fun (l334, i335, i336) => cond (!decide (i336 = 0)) (some ((0, [], [], [], 0, i336))) ((subL xa (IntKind.wrap .i64 (i321 + i335)) (((xa.length : Nat) : Int))).bind fun y348 => (fn_ref02_Take y348).bind fun (i352, i353, i354) => cond (!decide (i354 = 0)) (some ((0, [], [], [], 0, i354))) (cond (decide (16 < i352)) (some ((0, [], [], [], 0, 6))) ((loop (fn_ref17_Take_l1 xa i352) ((IntKind.wrap .i64 ((IntKind.wrap .i64 (i321 + i335)) + i353), ([] : List (List (Int × Bool))), 0)) : Option ((Int × (List (List (Int × Bool)))) ⊕ (Int × (List (Int × Int)) × (List (List (Int × Bool))) × (List (Int × Bool)) × Int × Int))).bind fun o => match o with | .inr r => some r | .inl (i484, l485) => (subL xa i484 (((xa.length : Nat) : Int))).bind fun y612 => (fn_ref17_TakeType y612).bind fun (l616, i617, i618) => cond (!decide (i618 = 0)) (some ((0, [], [], [], 0, i618))) (some ((i320, l334, l485, l616, IntKind.wrap .i64 (i484 + i617), 0)))))))
set_option maxRecDepth 100000 in
set_option maxHeartbeats 4000000 in
theorem ref17_Take_ok {K : Hp} {xa : (List UInt8)}   {r : (Int × (List (Int × Int)) × (List (List (Int × Bool))) × (List (Int × Bool)) × Int × Int)} (h : fn_ref17_Take xa = some r) :
    Tr Tryz.prog 80 #[.string ⟨xa.toArray⟩] K [] (fun v K' L' => (∃ (i299 : Int) (l300 : (List (Int × Int))) (l305 : (List (List (Int × Bool)))) (l310 : (List (Int × Bool))) (i315 : Int) (i316 : Int) (ad301 : Option Addr) (cp302 : Nat) (ad306 : Option Addr) (cp307 : Nat) (ad311 : Option Addr) (cp312 : Nat), (i299, l300, l305, l310, i315, i316) = r ∧ .tuple #[.agg #[ii i299, .slice ad301 l300.length cp302, .slice ad306 l305.length cp307, .slice ad311 l310.length cp312], ii i315, ii i316] = v ∧ L' = [Row Hp.nil 95 (.cons (.int .i64) (.one (.int .i64))) (.slice ad301 l300.length cp302) l300, Row K' 30 (.one (.sl (.cons (.int .i64) (.one .bool)))) (.slice ad306 l305.length cp307) l305, Row Hp.nil 146 (.cons (.int .i64) (.one .bool)) (.slice ad311 l310.length cp312) l310])) := by
 refine Tr.of Tryz.func80 rfl Tryz.ntmps80 rfl fun E F => ?_
 unfold fn_ref17_Take at h
 refine CJ.seq <| CJ.region <| jal inf63 [ii 0, .slice none 0 0, .slice none 0 0, .slice none 0 0] rfl fun b317 => ja (ii 0) rfl <| ja (ii 0) rfl <| J.nil <| CJ.seq ?_
 refine CJ.region <| jm (.string ⟨xa.toArray⟩) rfl ?_
 obtain ⟨r318, hr319, h⟩ := ob h
 refine J.op rfl (A.call (L1 := []) Tryz.call79 rfl (ref02_Take_ok hr319) rfl rfl) ?_
 rintro _ _ _ ⟨v323, _, rfl, ⟨⟨i320, i321, i322, rfl, rfl, rfl⟩, rfl⟩, _, rfl⟩
 refine jm (.tuple #[ii i320, ii i321, ii i322]) rfl <| jx (ii i320) rfl rfl <| jx (ii i321) rfl rfl <| jx (ii i322) rfl rfl <| ja (ii i320) rfl <| ja (ii i321) rfl <| ja (ii i322) rfl ?_
 refine J.nil <| CJ.seq <| CJ.seq <| CJ.region <| jm (ii i322) rfl <| jv (.bool (!decide (i322 = 0))) (V.neq rfl rfl) <| J.nil ?_
 refine cc rfl h (fun hc326 h => ?_) fun hc326 h => ?_
 · refine CJ.seq <| CJ.region <| jv (.agg #[ii 0, .slice none 0 0, .slice none 0 0, .slice none 0 0]) (V.build inf63 places63 rfl rfl) <| jm (ii i322) rfl <| js [ii 0, .slice none 0 0, .slice none 0 0, .slice none 0 0] sz63 rfl rfl rfl rfl rfl rfl <| ja (ii 0) rfl <| ja (ii i322) rfl ?_
   refine J.nil <| CJ.by (fun w hs => Sep.rowNil (e := 95) (t := (.cons (.int .i64) (.one (.int .i64)))) hs) <| CJ.by (fun w hs => Sep.rowNil (e := 30) (t := (.one (.sl (.cons (.int .i64) (.one .bool))))) hs) <| CJ.by (fun w hs => Sep.rowNil (e := 146) (t := (.cons (.int .i64) (.one .bool))) hs) <| CJ.ret ?_
   obtain rfl := si h
   exact ⟨_, _, Res.three rfl ⟨_, _, rfl, Ld.agg (cs := [ii 0, .slice none 0 0, .slice none 0 0, .slice none 0 0]) Tryz.underlying63 sz63 rfl (Rd.cls 3 0 rfl rfl)⟩ rfl rfl, ⟨0, [], [], [], 0, i322, none, 0, none, 0, none, 0, rfl, rfl, rfl⟩, (Hp.le_refl _), fun w hs => (Sep.front 2 rfl (Sep.front 1 rfl (Sep.dropAt 3 rfl hs)))⟩
 refine CJ.skip <| CJ.seq <| CJ.region <| jm (.string ⟨xa.toArray⟩) rfl <| jm (ii i321) rfl ?_
 obtain ⟨y330, hy331, h⟩ := ob h
 refine jv (.string ⟨y330.toArray⟩) (V.subs Tryz.underlying9 rfl (fun _ h => by cases h; exact ⟨_, rfl⟩) nofun nofun (fun _ => rfl) hy331) ?_
 obtain ⟨r332, hr333, h⟩ := ob h
 refine J.op rfl (A.call (L1 := []) Tryz.call31 rfl (ref17_TakeBounds_ok hr333) rfl rfl) ?_
 rintro _ _ _ ⟨v340, _, rfl, ⟨⟨l334, i335, i336, ad337, cp338, rfl, rfl, rfl⟩, rfl⟩, _, rfl⟩
 refine J.wit Row.hn fun hn339 => jm (.tuple #[.slice ad337 l334.length cp338, ii i335, ii i336]) rfl <| jx (.slice ad337 l334.length cp338) rfl rfl <| jx (ii i335) rfl rfl <| jx (ii i336) rfl rfl <| ja (.slice ad337 l334.length cp338) rfl <| ja (ii i335) rfl ?_
 refine ja (ii i336) rfl <| J.nil <| CJ.seq <| CJ.seq <| CJ.region <| jm (ii i336) rfl <| jv (.bool (!decide (i336 = 0))) (V.neq rfl rfl) ?_
 refine J.nil <| cc rfl h (fun hc344 h => ?_) fun hc344 h => ?_
 · refine CJ.seq <| CJ.region <| jv (.agg #[ii 0, .slice none 0 0, .slice none 0 0, .slice none 0 0]) (V.build inf63 places63 rfl rfl) <| jm (ii i336) rfl <| J.front 1 rfl <| js [ii 0, .slice none 0 0, .slice none 0 0, .slice none 0 0] sz63 rfl rfl rfl rfl rfl rfl <| ja (ii 0) rfl ?_
   refine ja (ii i336) rfl <| J.nil <| CJ.by (fun w hs => Sep.rowNil (e := 95) (t := (.cons (.int .i64) (.one (.int .i64)))) hs) <| CJ.by (fun w hs => Sep.rowNil (e := 30) (t := (.one (.sl (.cons (.int .i64) (.one .bool))))) hs) <| CJ.by (fun w hs => Sep.rowNil (e := 146) (t := (.cons (.int .i64) (.one .bool))) hs) <| CJ.ret ?_
   obtain rfl := si h
   exact ⟨_, _, Res.three rfl ⟨_, _, rfl, Ld.agg (cs := [ii 0, .slice none 0 0, .slice none 0 0, .slice none 0 0]) Tryz.underlying63 sz63 rfl (Rd.cls 3 0 rfl rfl)⟩ rfl rfl, ⟨0, [], [], [], 0, i336, none, 0, none, 0, none, 0, rfl, rfl, rfl⟩, (Hp.le_refl _), fun w hs => (Sep.front 2 rfl (Sep.front 1 rfl (Sep.dropAt 3 rfl (Sep.dropAt 3 rfl hs))))⟩
 refine CJ.skip <| CJ.seq <| CJ.region <| jm (ii i321) rfl <| jm (ii i335) rfl <| jv (ii (IntKind.wrap .i64 (i321 + i335))) (V.add rfl rfl) <| ja (ii (IntKind.wrap .i64 (i321 + i335))) rfl ?_
 refine J.nil <| CJ.seq <| CJ.region <| jm (.string ⟨xa.toArray⟩) rfl <| jm (ii (IntKind.wrap .i64 (i321 + i335))) rfl ?_
 obtain ⟨y348, hy349, h⟩ := ob h
 refine jv (.string ⟨y348.toArray⟩) (V.subs Tryz.underlying9 rfl (fun _ h => by cases h; exact ⟨_, rfl⟩) nofun nofun (fun _ => rfl) hy349) ?_
 obtain ⟨r350, hr351, h⟩ := ob h
 refine J.op rfl (A.call (L1 := []) Tryz.call79 rfl (ref02_Take_ok hr351) rfl rfl) ?_
 rintro _ _ _ ⟨v355, _, rfl, ⟨⟨i352, i353, i354, rfl, rfl, rfl⟩, rfl⟩, _, rfl⟩
 refine jm (.tuple #[ii i352, ii i353, ii i354]) rfl <| jx (ii i352) rfl rfl <| jx (ii i353) rfl rfl <| jx (ii i354) rfl rfl <| ja (ii i352) rfl <| ja (ii i353) rfl <| ja (ii i354) rfl ?_
 refine J.nil <| CJ.seq <| CJ.seq <| CJ.region <| jm (ii i354) rfl <| jv (.bool (!decide (i354 = 0))) (V.neq rfl rfl) <| J.nil ?_
 refine cc rfl h (fun hc358 h => ?_) fun hc358 h => ?_
 · refine CJ.seq <| CJ.region <| jv (.agg #[ii 0, .slice none 0 0, .slice none 0 0, .slice none 0 0]) (V.build inf63 places63 rfl rfl) <| jm (ii i354) rfl <| J.front 1 rfl <| js [ii 0, .slice none 0 0, .slice none 0 0, .slice none 0 0] sz63 rfl rfl rfl rfl rfl rfl <| ja (ii 0) rfl ?_
   refine ja (ii i354) rfl <| J.nil <| CJ.by (fun w hs => Sep.rowNil (e := 95) (t := (.cons (.int .i64) (.one (.int .i64)))) hs) <| CJ.by (fun w hs => Sep.rowNil (e := 30) (t := (.one (.sl (.cons (.int .i64) (.one .bool))))) hs) <| CJ.by (fun w hs => Sep.rowNil (e := 146) (t := (.cons (.int .i64) (.one .bool))) hs) <| CJ.ret ?_
   obtain rfl := si h
   exact ⟨_, _, Res.three rfl ⟨_, _, rfl, Ld.agg (cs := [ii 0, .slice none 0 0, .slice none 0 0, .slice none 0 0]) Tryz.underlying63 sz63 rfl (Rd.cls 3 0 rfl rfl)⟩ rfl rfl, ⟨0, [], [], [], 0, i354, none, 0, none, 0, none, 0, rfl, rfl, rfl⟩, (Hp.le_refl _), fun w hs => (Sep.front 2 rfl (Sep.front 1 rfl (Sep.dropAt 3 rfl (Sep.dropAt 3 rfl hs))))⟩
 refine CJ.skip <| CJ.seq <| CJ.seq <| CJ.region <| jm (ii i352) rfl <| jv (.bool (decide (16 < i352))) (V.gtr rfl rfl) <| J.nil ?_
 refine cc rfl h (fun hc362 h => ?_) fun hc362 h => ?_
 · refine CJ.seq <| CJ.region <| jv (.agg #[ii 0, .slice none 0 0, .slice none 0 0, .slice none 0 0]) (V.build inf63 places63 rfl rfl) <| J.front 1 rfl <| js [ii 0, .slice none 0 0, .slice none 0 0, .slice none 0 0] sz63 rfl rfl rfl rfl rfl rfl <| ja (ii 0) rfl <| ja (ii 6) rfl ?_
   refine J.nil <| CJ.by (fun w hs => Sep.rowNil (e := 95) (t := (.cons (.int .i64) (.one (.int .i64)))) hs) <| CJ.by (fun w hs => Sep.rowNil (e := 30) (t := (.one (.sl (.cons (.int .i64) (.one .bool))))) hs) <| CJ.by (fun w hs => Sep.rowNil (e := 146) (t := (.cons (.int .i64) (.one .bool))) hs) <| CJ.ret ?_
   obtain rfl := si h
   exact ⟨_, _, Res.three rfl ⟨_, _, rfl, Ld.agg (cs := [ii 0, .slice none 0 0, .slice none 0 0, .slice none 0 0]) Tryz.underlying63 sz63 rfl (Rd.cls 3 0 rfl rfl)⟩ rfl rfl, ⟨0, [], [], [], 0, 6, none, 0, none, 0, none, 0, rfl, rfl, rfl⟩, (Hp.le_refl _), fun w hs => (Sep.front 2 rfl (Sep.front 1 rfl (Sep.dropAt 3 rfl (Sep.dropAt 3 rfl hs))))⟩
 refine CJ.skip <| CJ.seq <| CJ.region <| jm (ii (IntKind.wrap .i64 (i321 + i335))) rfl <| jm (ii i353) rfl <| jv (ii (IntKind.wrap .i64 ((IntKind.wrap .i64 (i321 + i335)) + i353))) (V.add rfl rfl) <| ja (ii (IntKind.wrap .i64 ((IntKind.wrap .i64 (i321 + i335)) + i353))) rfl ?_
 refine J.nil <| CJ.seq <| CJ.region ?_
 refine J.op rfl (A.lit (K0 := K) (ty := (.one (.sl (.cons (.int .i64) (.one .bool))))) (xs := ([] : List (List (Int × Bool)))) Tryz.underlying27 inf30 rfl (by decide) rfl rfl rfl rfl rfl (by decide)) ?_
 rintro _ _ _ ⟨b366, rfl, rfl, rfl⟩
 have hn367 : ([] : List (List (Int × Bool))) ≠ [] → ∃ g, (some ⟨b366, 0, none⟩ : Option Addr) = some ⟨g, 0, none⟩ := fun _ => ⟨b366, rfl⟩
 refine ja (.slice (some ⟨b366, 0, none⟩) ((([] : List (List (Int × Bool)))).length) 0) rfl <| J.nil <| CJ.seq <| CJ.seq <| CJ.region <| ja (ii 0) rfl <| J.nil ?_
 obtain ⟨o490, ho491, h⟩ := ob h
 refine CJ.joinN (o := o490) (fun s ρ K' L' => ∃ (i484 : Int) (l485 : (List (List (Int × Bool)))) (ad486 : Option Addr) (cp487 : Nat), (i484, l485) = s ∧ Fits [(0, .string ⟨xa.toArray⟩), (2, .pointer (some ⟨b317, 0, none⟩)), (5, ii i320), (6, ii i484), (8, .slice ad337 l334.length cp338), (14, .slice ad486 l485.length cp487)] ρ ∧ Hp.le K K' ∧ L' = Cl b317 63 [ii 0, .slice none 0 0, .slice none 0 0, .slice none 0 0] :: Row Hp.nil 95 (.cons (.int .i64) (.one (.int .i64))) (.slice ad337 l334.length cp338) l334 :: Row K' 30 (.one (.sl (.cons (.int .i64) (.one .bool)))) (.slice ad486 l485.length cp487) l485 :: F) ?_ ?_
 · refine CJ.block <| CJ.front 1 rfl <| CJ.front 2 rfl <| CJ.loop (fun s ρ K' L' => ∃ (i529 : Int) (l530 : (List (List (Int × Bool)))) (i535 : Int) (ad531 : Option Addr) (cp532 : Nat), (i529, l530, i535) = s ∧ Fits [(0, .string ⟨xa.toArray⟩), (2, .pointer (some ⟨b317, 0, none⟩)), (5, ii i320), (6, ii i529), (8, .slice ad337 l334.length cp338), (11, ii i352), (14, .slice ad531 l530.length cp532), (15, ii i535)] ρ ∧ Hp.le K K' ∧ L' = Cl b317 63 [ii 0, .slice none 0 0, .slice none 0 0, .slice none 0 0] :: Row Hp.nil 95 (.cons (.int .i64) (.one (.int .i64))) (.slice ad337 l334.length cp338) l334 :: Row K' 30 (.one (.sl (.cons (.int .i64) (.one .bool)))) (.slice ad531 l530.length cp532) l530 :: F) ho491 ⟨IntKind.wrap .i64 ((IntKind.wrap .i64 (i321 + i335)) + i353), ([] : List (List (Int × Bool))), 0, (some ⟨b366, 0, none⟩), 0, rfl, ⟨rfl, rfl, rfl, rfl, rfl, rfl, rfl, rfl, trivial⟩, (Hp.le_refl _), rfl⟩ ?_
   rintro s ρ K528 _ r576 ⟨i529, l530, i535, ad531, cp532, rfl, hf574, hk575, rfl⟩ h573
   obtain ⟨ρ, rfl⟩ := hf574.ex
   refine CJ.front 2 rfl <| CJ.wit Row.hn fun hn534 => CJ.seq <| CJ.seq <| CJ.region <| jm (ii i535) rfl <| jm (ii i352) rfl ?_
   refine jv (.bool (decide (i535 < i352))) (V.lss rfl rfl) <| J.nil <| cc rfl h573 (fun hc577 h573 => ?_) fun hc577 h573 => ?_
   · refine CJ.skip <| CJ.seq <| CJ.block <| CJ.seq <| CJ.region <| jm (.string ⟨xa.toArray⟩) rfl <| jm (ii i529) rfl ?_
     obtain ⟨y578, hy579, h573⟩ := ob h573
     refine jv (.string ⟨y578.toArray⟩) (V.subs Tryz.underlying9 rfl (fun _ h => by cases h; exact ⟨_, rfl⟩) nofun nofun (fun _ => rfl) hy579) ?_
     obtain ⟨r580, hr581, h573⟩ := ob h573
     refine J.op rfl (A.call (L1 := []) Tryz.call33 rfl (ref17_TakeType_ok hr581) rfl rfl) ?_
     rintro _ _ _ ⟨v588, _, rfl, ⟨⟨l582, i583, i584, ad585, cp586, rfl, rfl, rfl⟩, rfl⟩, _, rfl⟩
     refine J.wit Row.hn fun hn587 => jm (.tuple #[.agg #[.slice ad585 l582.length cp586], ii i583, ii i584]) rfl <| jx (.agg #[.slice ad585 l582.length cp586]) rfl rfl <| jx (ii i583) rfl rfl <| jx (ii i584) rfl rfl <| jal inf30 [.slice none 0 0] rfl fun b592 => js [.slice ad585 l582.length cp586] sz30 rfl rfl rfl rfl rfl rfl ?_
     refine ja (ii i583) rfl <| ja (ii i584) rfl <| J.nil <| CJ.seq <| CJ.seq <| CJ.region <| jm (ii i584) rfl ?_
     refine jv (.bool (!decide (i584 = 0))) (V.neq rfl rfl) <| J.nil <| cc rfl h573 (fun hc593 h573 => ?_) fun hc593 h573 => ?_
     · refine CJ.seq <| CJ.region <| jv (.agg #[ii 0, .slice none 0 0, .slice none 0 0, .slice none 0 0]) (V.build inf63 places63 rfl rfl) <| jm (ii i584) rfl <| J.front 3 rfl <| js [ii 0, .slice none 0 0, .slice none 0 0, .slice none 0 0] sz63 rfl rfl rfl rfl rfl rfl <| ja (ii 0) rfl ?_
       refine ja (ii i584) rfl <| J.nil <| CJ.by (fun w hs => Sep.rowNil (e := 95) (t := (.cons (.int .i64) (.one (.int .i64)))) hs) <| CJ.by (fun w hs => Sep.rowNil (e := 30) (t := (.one (.sl (.cons (.int .i64) (.one .bool))))) hs) <| CJ.by (fun w hs => Sep.rowNil (e := 146) (t := (.cons (.int .i64) (.one .bool))) hs) <| CJ.ret ?_
       obtain rfl := si h573
       refine ⟨nofun, fun e => ?_⟩
       subst e
       refine .inr ⟨nofun, ?_⟩
       obtain rfl := si h
       exact ⟨_, _, Res.three rfl ⟨_, _, rfl, Ld.agg (cs := [ii 0, .slice none 0 0, .slice none 0 0, .slice none 0 0]) Tryz.underlying63 sz63 rfl (Rd.cls 3 0 rfl rfl)⟩ rfl rfl, ⟨0, [], [], [], 0, i584, none, 0, none, 0, none, 0, rfl, rfl, rfl⟩, hk575, fun w hs => (Sep.front 2 rfl (Sep.front 1 rfl (Sep.dropAt 3 rfl (Sep.dropAt 3 rfl (Sep.dropAt 3 rfl (Sep.dropAt 3 rfl (Sep.dropAt 3 rfl hs)))))))⟩
     refine CJ.skip <| CJ.seq <| CJ.region <| jm (.slice ad531 l530.length cp532) rfl <| jv (.agg #[.slice ad585 l582.length cp586]) (V.ld rfl (Ld.agg (cs := [.slice ad585 l582.length cp586]) Tryz.underlying30 sz30 rfl (Rd.cls 0 0 rfl rfl))) <| J.front 1 rfl <| J.persist (Hp.nil_le _) (by decide) fun K597 hK598 f599 => ?_
     refine J.op rfl (A.lit (K0 := K597) (ty := (.one (.sl (.cons (.int .i64) (.one .bool))))) (xs := ([l582] : List (List (Int × Bool)))) Tryz.underlying27 inf30 rfl (by decide) rfl rfl rfl ⟨_, _, rfl, f599, rfl⟩ rfl (by decide)) ?_
     rintro _ _ _ ⟨b600, rfl, rfl, rfl⟩
     have hn601 : ([l582] : List (List (Int × Bool))) ≠ [] → ∃ g, (some ⟨b600, 0, none⟩ : Option Addr) = some ⟨g, 0, none⟩ := fun _ => ⟨b600, rfl⟩
     obtain ⟨z603, hz604, h573⟩ := ob h573
     refine J.front 2 rfl <| J.op rfl (A.appR (Kr := K597) Tryz.underlying27 inf30 rfl rfl (by decide) (by decide) rfl rfl (Els.mono hK598) (Els.mono (Hp.le_refl _)) hz604) ?_
     rintro _ _ _ ⟨v605, rfl, rfl, rfl⟩
     refine J.wit Row.form ?_
     rintro ⟨ad606, cp607, rfl, _, _, hn608⟩
     refine ja (.slice ad606 z603.length cp607) rfl <| J.nil <| CJ.region <| jm (ii i529) rfl <| jm (ii i583) rfl <| jv (ii (IntKind.wrap .i64 (i529 + i583))) (V.add rfl rfl) <| ja (ii (IntKind.wrap .i64 (i529 + i583))) rfl ?_
     refine J.nil <| CJ.region <| jm (ii i535) rfl <| jv (ii (IntKind.wrap .i64 (i535 + 1))) (V.add rfl rfl) <| ja (ii (IntKind.wrap .i64 (i535 + 1))) rfl <| J.dropAt 1 rfl <| J.front 2 rfl ?_
     refine J.front 2 rfl <| J.nil ?_
     obtain rfl := si h573
     exact ⟨rfl, ⟨IntKind.wrap .i64 (i529 + i583), z603, IntKind.wrap .i64 (i535 + 1), ad606, cp607, rfl, ⟨rfl, rfl, rfl, rfl, rfl, rfl, rfl, rfl, trivial⟩, (hk575.trans hK598), rfl⟩⟩
   refine CJ.front 2 rfl <| CJ.front 2 rfl <| CJ.exit ?_
   obtain rfl := si h573
   refine ⟨nofun, fun e => ?_⟩
   subst e
   exact .inl ⟨rfl, _, rfl, ⟨i529, l530, ad531, cp532, rfl, ⟨rfl, rfl, rfl, rfl, rfl, rfl, trivial⟩, hk575, rfl⟩⟩
 rintro s ρ K483 _ ho609 ⟨i484, l485, ad486, cp487, rfl, hf610, hk611, rfl⟩
 subst ho609
 obtain ⟨ρ, rfl⟩ := hf610.ex
 refine PJ.front 2 rfl <| PJ.wit Row.hn fun hn489 => PJ.done <| CJ.seq <| CJ.region <| jm (.string ⟨xa.toArray⟩) rfl <| jm (ii i484) rfl ?_
 obtain ⟨y612, hy613, h⟩ := ob h
 refine jv (.string ⟨y612.toArray⟩) (V.subs Tryz.underlying9 rfl (fun _ h => by cases h; exact ⟨_, rfl⟩) nofun nofun (fun _ => rfl) hy613) ?_
 obtain ⟨r614, hr615, h⟩ := ob h
 refine J.op rfl (A.call (L1 := []) Tryz.call33 rfl (ref17_TakeType_ok hr615) rfl rfl) ?_
 rintro _ _ _ ⟨v622, _, rfl, ⟨⟨l616, i617, i618, ad619, cp620, rfl, rfl, rfl⟩, rfl⟩, _, rfl⟩
 refine J.wit Row.hn fun hn621 => jm (.tuple #[.agg #[.slice ad619 l616.length cp620], ii i617, ii i618]) rfl <| jx (.agg #[.slice ad619 l616.length cp620]) rfl rfl <| jx (ii i617) rfl rfl <| jx (ii i618) rfl rfl <| jal inf30 [.slice none 0 0] rfl fun b626 => js [.slice ad619 l616.length cp620] sz30 rfl rfl rfl rfl rfl rfl ?_
 refine ja (ii i617) rfl <| ja (ii i618) rfl <| J.nil <| CJ.seq <| CJ.seq <| CJ.region <| jm (ii i618) rfl ?_
 refine jv (.bool (!decide (i618 = 0))) (V.neq rfl rfl) <| J.nil <| cc rfl h (fun hc627 h => ?_) fun hc627 h => ?_
 · refine CJ.seq <| CJ.region <| jv (.agg #[ii 0, .slice none 0 0, .slice none 0 0, .slice none 0 0]) (V.build inf63 places63 rfl rfl) <| jm (ii i618) rfl <| J.front 3 rfl <| js [ii 0, .slice none 0 0, .slice none 0 0, .slice none 0 0] sz63 rfl rfl rfl rfl rfl rfl <| ja (ii 0) rfl ?_
   refine ja (ii i618) rfl <| J.nil <| CJ.by (fun w hs => Sep.rowNil (e := 95) (t := (.cons (.int .i64) (.one (.int .i64)))) hs) <| CJ.by (fun w hs => Sep.rowNil (e := 30) (t := (.one (.sl (.cons (.int .i64) (.one .bool))))) hs) <| CJ.by (fun w hs => Sep.rowNil (e := 146) (t := (.cons (.int .i64) (.one .bool))) hs) <| CJ.ret ?_
   obtain rfl := si h
   exact ⟨_, _, Res.three rfl ⟨_, _, rfl, Ld.agg (cs := [ii 0, .slice none 0 0, .slice none 0 0, .slice none 0 0]) Tryz.underlying63 sz63 rfl (Rd.cls 3 0 rfl rfl)⟩ rfl rfl, ⟨0, [], [], [], 0, i618, none, 0, none, 0, none, 0, rfl, rfl, rfl⟩, hk611, fun w hs => (Sep.front 2 rfl (Sep.front 1 rfl (Sep.dropAt 3 rfl (Sep.dropAt 3 rfl (Sep.dropAt 3 rfl (Sep.dropAt 3 rfl (Sep.dropAt 3 rfl hs)))))))⟩
 refine CJ.skip <| CJ.seq <| CJ.region <| jm (ii i320) rfl <| jm (.slice ad337 l334.length cp338) rfl <| jm (.slice ad486 l485.length cp487) rfl <| jv (.agg #[.slice ad619 l616.length cp620]) (V.ld rfl (Ld.agg (cs := [.slice ad619 l616.length cp620]) Tryz.underlying30 sz30 rfl (Rd.cls 0 0 rfl rfl))) ?_
 refine jv (.agg #[ii i320, .slice ad337 l334.length cp338, .slice ad486 l485.length cp487, .slice ad619 l616.length cp620]) (V.build inf63 places63 rfl rfl) <| jm (ii i484) rfl <| jm (ii i617) rfl <| jv (ii (IntKind.wrap .i64 (i484 + i617))) (V.add rfl rfl) <| J.front 3 rfl <| js [ii i320, .slice ad337 l334.length cp338, .slice ad486 l485.length cp487, .slice ad619 l616.length cp620] sz63 rfl rfl rfl rfl rfl rfl <| ja (ii (IntKind.wrap .i64 (i484 + i617))) rfl ?_
 refine ja (ii 0) rfl <| J.nil <| CJ.ret ?_
 obtain rfl := si h
 exact ⟨_, _, Res.three rfl ⟨_, _, rfl, Ld.agg (cs := [ii i320, .slice ad337 l334.length cp338, .slice ad486 l485.length cp487, .slice ad619 l616.length cp620]) Tryz.underlying63 sz63 rfl (Rd.cls 0 0 rfl rfl)⟩ rfl rfl, ⟨i320, l334, l485, l616, IntKind.wrap .i64 (i484 + i617), 0, ad337, cp338, ad486, cp487, ad619, cp620, rfl, rfl, rfl⟩, hk611, fun w hs => (Sep.front 2 rfl (Sep.front 1 rfl (Sep.dropAt 0 rfl (Sep.dropAt 0 rfl hs))))⟩
noncomputable def fn_ref20_sigs_l1 (i381 : Int) : (List UInt8 × Int × (List (Int × (List (Int × Int)) × (List (List (Int × Bool))) × (List (Int × Bool)))) × Int) → Option ((List UInt8 × Int × (List (Int × (List (Int × Int)) × (List (List (Int × Bool))) × (List (Int × Bool)))) × Int) ⊕ (List UInt8 × Int × (List (Int × (List (Int × Int)) × (List (List (Int × Bool))) × (List (Int × Bool)))))) := fun ((s631, i632, l633, i638) : (List UInt8 × Int × (List (Int × (List (Int × Int)) × (List (List (Int × Bool))) × (List (Int × Bool)))) × Int)) => cond ((decide (i638 < i381)) && (decide (i632 = 0))) ((fn_ref17_Take s631).bind fun (i706, l707, l708, l709, i710, i711) => (subL s631 i710 (((s631.length : Nat) : Int))).bind fun y728 => (app l633 (([(i706, l707, l708, l709)] : List (Int × (List (Int × Int)) × (List (List (Int × Bool))) × (List (Int × Bool)))))).bind fun z742 => some (.inl ((y728, i711, z742, IntKind.wrap .i64 (i638 + 1))))) (some (.inr (((s631, i632, l633)))))
noncomputable def fn_ref20_sigs (xa : (List UInt8)) : Option (((List (Int × (List (Int × Int)) × (List (List (Int × Bool))) × (List (Int × Bool)))) × List UInt8 × Int)) :=
  (fn_ref20_count xa).bind fun (i381, s382, i383) => (loop (fn_ref20_sigs_l1 i381) ((s382, i383, ([] : List (Int × (List (Int × Int)) × (List (List (Int × Bool))) × (List (Int × Bool)))), 0)) : Option ((List UInt8 × Int × (List (Int × (List (Int × Int)) × (List (List (Int × Bool))) × (List (Int × Bool))))))).bind fun (s565, i566, l567) => some ((l567, s565, i566))
set_option maxRecDepth 100000 in
set_option maxHeartbeats 4000000 in
theorem ref20_sigs_ok {K : Hp} {xa : (List UInt8)}   {r : ((List (Int × (List (Int × Int)) × (List (List (Int × Bool))) × (List (Int × Bool)))) × List UInt8 × Int)} (h : fn_ref20_sigs xa = some r) :
    Tr Tryz.prog 34 #[.string ⟨xa.toArray⟩] K [] (fun v K' L' => (∃ (l372 : (List (Int × (List (Int × Int)) × (List (List (Int × Bool))) × (List (Int × Bool))))) (s377 : List UInt8) (i378 : Int) (ad373 : Option Addr) (cp374 : Nat), (l372, s377, i378) = r ∧ .tuple #[.slice ad373 l372.length cp374, .string ⟨s377.toArray⟩, ii i378] = v ∧ L' = [Row K' 63 (.cons (.int .i64) (.cons (.sl (.cons (.int .i64) (.one (.int .i64)))) (.cons (.sl (.one (.sl (.cons (.int .i64) (.one .bool))))) (.one (.one (.sl (.cons (.int .i64) (.one .bool)))))))) (.slice ad373 l372.length cp374) l372])) := by
 refine Tr.of Tryz.func34 rfl Tryz.ntmps34 rfl fun E F => ?_
 unfold fn_ref20_sigs at h
 refine CJ.seq <| CJ.region <| ja (.slice none 0 0) rfl <| ja (.string ⟨([] : List UInt8).toArray⟩) rfl <| ja (ii 0) rfl <| J.nil <| CJ.seq ?_
 refine CJ.region <| jm (.string ⟨xa.toArray⟩) rfl ?_
 obtain ⟨r379, hr380, h⟩ := ob h
 refine J.op rfl (A.call (L1 := []) Tryz.call30 rfl (ref20_count_ok hr380) rfl rfl) ?_
 rintro _ _ _ ⟨v384, _, rfl, ⟨⟨i381, s382, i383, rfl, rfl, rfl⟩, rfl⟩, _, rfl⟩
 refine jm (.tuple #[ii i381, .string ⟨s382.toArray⟩, ii i383]) rfl <| jx (ii i381) rfl rfl <| jx (.string ⟨s382.toArray⟩) rfl rfl <| jx (ii i383) rfl rfl <| ja (ii i381) rfl <| ja (.string ⟨s382.toArray⟩) rfl <| ja (ii i383) rfl ?_
 refine J.nil <| CJ.seq <| CJ.region ?_
 refine J.op rfl (A.lit (K0 := K) (ty := (.cons (.int .i64) (.cons (.sl (.cons (.int .i64) (.one (.int .i64)))) (.cons (.sl (.one (.sl (.cons (.int .i64) (.one .bool))))) (.one (.one (.sl (.cons (.int .i64) (.one .bool))))))))) (xs := ([] : List (Int × (List (Int × Int)) × (List (List (Int × Bool))) × (List (Int × Bool))))) Tryz.underlying31 inf63 rfl (by decide) rfl rfl rfl rfl rfl (by decide)) ?_
 rintro _ _ _ ⟨b387, rfl, rfl, rfl⟩
 have hn388 : ([] : List (Int × (List (Int × Int)) × (List (List (Int × Bool))) × (List (Int × Bool)))) ≠ [] → ∃ g, (some ⟨b387, 0, none⟩ : Option Addr) = some ⟨g, 0, none⟩ := fun _ => ⟨b387, rfl⟩
 refine ja (.slice (some ⟨b387, 0, none⟩) ((([] : List (Int × (List (Int × Int)) × (List (List (Int × Bool))) × (List (Int × Bool))))).length) 0) rfl <| J.nil <| CJ.seq <| CJ.seq <| CJ.region <| ja (ii 0) rfl <| J.nil ?_
 obtain ⟨o572, ho573, h⟩ := ob h
 refine CJ.meetN (fun ρ K' L' => ∃ (s565 : List UInt8) (i566 : Int) (l567 : (List (Int × (List (Int × Int)) × (List (List (Int × Bool))) × (List (Int × Bool))))) (ad568 : Option Addr) (cp569 : Nat), (s565, i566, l567) = o572 ∧ Fits [(6, .string ⟨s565.toArray⟩), (7, ii i566), (8, .slice ad568 l567.length cp569)] ρ ∧ Hp.le K K' ∧ L' = Row K' 63 (.cons (.int .i64) (.cons (.sl (.cons (.int .i64) (.one (.int .i64)))) (.cons (.sl (.one (.sl (.cons (.int .i64) (.one .bool))))) (.one (.one (.sl (.cons (.int .i64) (.one .bool)))))))) (.slice ad568 l567.length cp569) l567 :: F) ?_ ?_
 · refine CJ.block <| CJ.loop (fun s ρ K' L' => ∃ (s631 : List UInt8) (i632 : Int) (l633 : (List (Int × (List (Int × Int)) × (List (List (Int × Bool))) × (List (Int × Bool))))) (i638 : Int) (ad634 : Option Addr) (cp635 : Nat), (s631, i632, l633, i638) = s ∧ Fits [(5, ii i381), (6, .string ⟨s631.toArray⟩), (7, ii i632), (8, .slice ad634 l633.length cp635), (9, ii i638)] ρ ∧ Hp.le K K' ∧ L' = Row K' 63 (.cons (.int .i64) (.cons (.sl (.cons (.int .i64) (.one (.int .i64)))) (.cons (.sl (.one (.sl (.cons (.int .i64) (.one .bool))))) (.one (.one (.sl (.cons (.int .i64) (.one .bool)))))))) (.slice ad634 l633.length cp635) l633 :: F) ho573 ⟨s382, i383, ([] : List (Int × (List (Int × Int)) × (List (List (Int × Bool))) × (List (Int × Bool)))), 0, (some ⟨b387, 0, none⟩), 0, rfl, ⟨rfl, rfl, rfl, rfl, rfl, trivial⟩, (Hp.le_refl _), rfl⟩ ?_
   rintro s ρ K630 _ r699 ⟨s631, i632, l633, i638, ad634, cp635, rfl, hf697, hk698, rfl⟩ h696
   obtain ⟨ρ, rfl⟩ := hf697.ex
   refine CJ.wit Row.hn fun hn637 => CJ.seq <| CJ.seq <| CJ.region <| jm (ii i638) rfl <| jm (ii i381) rfl <| jv (.bool (decide (i638 < i381))) (V.lss rfl rfl) ?_
   refine jm (.bool (decide (i638 < i381))) rfl <| J.cut 3 <| jmeet [(26, .bool ((decide (i638 < i381)) && (decide (i632 = 0)))), (5, ii i381), (6, .string ⟨s631.toArray⟩), (7, ii i632), (8, .slice ad634 l633.length cp635), (9, ii i638)] ?_ ?_
   · rcases bt (decide (i638 < i381)) with hc702 | hc702
     · refine J.run rfl rfl rfl hc702 <| jm (ii i632) rfl <| J.run rfl rfl rfl hc702 <| jv (.bool (decide (i632 = 0))) (V.eql rfl rfl) <| jv (.bool (decide (i632 = 0))) (V.pickT rfl hc702 rfl) <| J.nil ?_
       exact ⟨rfl, ⟨(by simp only [hc702]; rfl), rfl, rfl, rfl, rfl, rfl, trivial⟩, rfl, rfl⟩
     refine J.skip rfl rfl rfl rfl hc702 <| J.skip rfl rfl rfl rfl hc702 <| jv (.bool false) (V.pickF rfl hc702 rfl) <| J.nil ?_
     exact ⟨rfl, ⟨(by simp only [hc702]; rfl), rfl, rfl, rfl, rfl, rfl, trivial⟩, rfl, rfl⟩
   intro ρ
   refine J.nil <| cc rfl h696 (fun hc703 h696 => ?_) fun hc703 h696 => ?_
   · refine CJ.skip <| CJ.seq <| CJ.block <| CJ.seq <| CJ.region <| jm (.string ⟨s631.toArray⟩) rfl ?_
     obtain ⟨r704, hr705, h696⟩ := ob h696
     refine J.op rfl (A.call (L1 := []) Tryz.call80 rfl (ref17_Take_ok hr705) rfl rfl) ?_
     rintro _ K722 _ ⟨v721, _, rfl, ⟨i706, l707, l708, l709, i710, i711, ad712, cp713, ad714, cp715, ad716, cp717, rfl, rfl, rfl⟩, hK723, rfl⟩
     refine J.wit Row.hn fun hn718 => J.front 1 rfl <| J.wit Row.hn fun hn719 => J.front 2 rfl <| J.wit Row.hn fun hn720 => jm (.tuple #[.agg #[ii i706, .slice ad712 l707.length cp713, .slice ad714 l708.length cp715, .slice ad716 l709.length cp717], ii i710, ii i711]) rfl <| jx (.agg #[ii i706, .slice ad712 l707.length cp713, .slice ad714 l708.length cp715, .slice ad716 l709.length cp717]) rfl rfl ?_
     refine jx (ii i710) rfl rfl <| jx (ii i711) rfl rfl <| jal inf63 [ii 0, .slice none 0 0, .slice none 0 0, .slice none 0 0] rfl fun b727 => js [ii i706, .slice ad712 l707.length cp713, .slice ad714 l708.length cp715, .slice ad716 l709.length cp717] sz63 rfl rfl rfl rfl rfl rfl <| ja (ii i710) rfl <| ja (ii i711) rfl <| J.nil ?_
     refine CJ.seq <| CJ.region <| jm (ii i711) rfl <| ja (ii i711) rfl <| J.nil <| CJ.seq <| CJ.region ?_
     refine jm (.string ⟨s631.toArray⟩) rfl <| jm (ii i710) rfl ?_
     obtain ⟨y728, hy729, h696⟩ := ob h696
     refine jv (.string ⟨y728.toArray⟩) (V.subs Tryz.underlying9 rfl (fun _ h => by cases h; exact ⟨_, rfl⟩) nofun nofun (fun _ => rfl) hy729) <| ja (.string ⟨y728.toArray⟩) rfl <| J.nil <| CJ.region <| jm (.slice ad634 l633.length cp635) rfl <| jv (.agg #[ii i706, .slice ad712 l707.length cp713, .slice ad714 l708.length cp715, .slice ad716 l709.length cp717]) (V.ld rfl (Ld.agg (cs := [ii i706, .slice ad712 l707.length cp713, .slice ad714 l708.length cp715, .slice ad716 l709.length cp717]) Tryz.underlying63 sz63 rfl (Rd.cls 0 0 rfl rfl))) <| J.front 3 rfl ?_
     refine J.persist (Hp.nil_le _) (by decide) fun K730 hK731 f732 => J.front 2 rfl <| J.persist hK731 (by decide) fun K733 hK734 f735 => J.front 1 rfl <| J.persist (Hp.nil_le _) (by decide) fun K736 hK737 f738 => ?_
     refine J.op rfl (A.lit (K0 := K736) (ty := (.cons (.int .i64) (.cons (.sl (.cons (.int .i64) (.one (.int .i64)))) (.cons (.sl (.one (.sl (.cons (.int .i64) (.one .bool))))) (.one (.one (.sl (.cons (.int .i64) (.one .bool))))))))) (xs := ([(i706, l707, l708, l709)] : List (Int × (List (Int × Int)) × (List (List (Int × Bool))) × (List (Int × Bool))))) Tryz.underlying31 inf63 rfl (by decide) rfl rfl rfl ⟨_, _, rfl, ⟨_, _, rfl, rfl, rfl, ⟨_, _, rfl, rfl, (f732.mono (hK734.trans hK737)), ⟨_, _, rfl, rfl, (f735.mono hK737), f738⟩⟩⟩, rfl⟩ rfl (by decide)) ?_
     rintro _ _ _ ⟨b739, rfl, rfl, rfl⟩
     have hn740 : ([(i706, l707, l708, l709)] : List (Int × (List (Int × Int)) × (List (List (Int × Bool))) × (List (Int × Bool)))) ≠ [] → ∃ g, (some ⟨b739, 0, none⟩ : Option Addr) = some ⟨g, 0, none⟩ := fun _ => ⟨b739, rfl⟩
     obtain ⟨z742, hz743, h696⟩ := ob h696
     refine J.front 2 rfl <| J.op rfl (A.appR (Kr := K736) Tryz.underlying31 inf63 rfl rfl (by decide) (by decide) rfl rfl (Els.mono (((hK723.trans hK731).trans hK734).trans hK737)) (Els.mono (Hp.le_refl _)) hz743) ?_
     rintro _ _ _ ⟨v744, rfl, rfl, rfl⟩
     refine J.wit Row.form ?_
     rintro ⟨ad745, cp746, rfl, _, _, hn747⟩
     refine ja (.slice ad745 z742.length cp746) rfl <| J.nil <| CJ.region <| jm (ii i638) rfl <| jv (ii (IntKind.wrap .i64 (i638 + 1))) (V.add rfl rfl) <| ja (ii (IntKind.wrap .i64 (i638 + 1))) rfl <| J.dropAt 1 rfl ?_
     refine J.nil ?_
     obtain rfl := si h696
     exact ⟨rfl, ⟨y728, i711, z742, IntKind.wrap .i64 (i638 + 1), ad745, cp746, rfl, ⟨rfl, rfl, rfl, rfl, rfl, trivial⟩, ((((hk698.trans hK723).trans hK731).trans hK734).trans hK737), rfl⟩⟩
   refine CJ.exit ?_
   obtain rfl := si h696
   refine ⟨nofun, fun e => ?_⟩
   subst e
   exact ⟨rfl, ⟨s631, i632, l633, ad634, cp635, rfl, ⟨rfl, rfl, rfl, trivial⟩, hk698, rfl⟩⟩
 rintro ρ K564 _ ⟨s565, i566, l567, ad568, cp569, rfl, hf748, hk749, rfl⟩
 obtain ⟨ρ, rfl⟩ := hf748.ex
 refine PJ.wit Row.hn fun hn571 => PJ.done <| CJ.seq <| CJ.region <| jm (.slice ad568 l567.length cp569) rfl <| jm (.string ⟨s565.toArray⟩) rfl <| jm (ii i566) rfl ?_
 refine ja (.slice ad568 l567.length cp569) rfl <| ja (.string ⟨s565.toArray⟩) rfl <| ja (ii i566) rfl <| J.nil <| CJ.ret ?_
 obtain rfl := si h
 exact ⟨_, _, Res.three rfl rfl rfl rfl, ⟨l567, s565, i566, ad568, cp569, rfl, rfl, rfl⟩, hk749, fun w hs => hs⟩

noncomputable def fn_ref18_Dst (xa : Int) : Option Bool :=
  some ((((decide (xa = 1)) || (decide (xa = 2))) || (decide (xa = 3))) || (decide (xa = 5)))
set_option maxRecDepth 100000 in
set_option maxHeartbeats 4000000 in
theorem ref18_Dst_ok {K : Hp} {xa : Int}   {r : Bool} (h : fn_ref18_Dst xa = some r) :
    Tr Tryz.prog 111 #[ii xa] K [] (fun v K' L' => (∃ (t10 : Bool), t10 = r ∧ .bool t10 = v ∧ L' = []) ∧ K = K') := by
 refine Tr.k <| Tr.of Tryz.func111 rfl Tryz.ntmps111 rfl fun E F => ?_
 unfold fn_ref18_Dst at h
 refine CJ.seq <| CJ.region <| ja (.bool false) rfl <| J.nil <| CJ.seq <| CJ.region <| jm (ii xa) rfl ?_
 refine jv (.bool (decide (xa = 1))) (V.eql rfl rfl) <| jm (.bool (decide (xa = 1))) rfl <| J.cut 3 <| jmeet [(8, .bool ((decide (xa = 1)) || (decide (xa = 2)))), (0, ii xa)] ?_ ?_
 · rcases bt (decide (xa = 1)) with hc13 | hc13
   · refine J.skip rfl rfl rfl rfl hc13 <| J.skip rfl rfl rfl rfl hc13 <| jv (.bool true) (V.pickT rfl hc13 rfl) <| J.nil ?_
     exact ⟨rfl, ⟨(by simp only [hc13]; rfl), rfl, trivial⟩, rfl, rfl⟩
   refine J.run rfl rfl rfl hc13 <| jm (ii xa) rfl <| J.run rfl rfl rfl hc13 <| jv (.bool (decide (xa = 2))) (V.eql rfl rfl) <| jv (.bool (decide (xa = 2))) (V.pickF rfl hc13 rfl) <| J.nil ?_
   exact ⟨rfl, ⟨(by simp only [hc13]; rfl), rfl, trivial⟩, rfl, rfl⟩
 intro ρ
 refine jm (.bool ((decide (xa = 1)) || (decide (xa = 2)))) rfl <| J.cut 3 <| jmeet [(12, .bool (((decide (xa = 1)) || (decide (xa = 2))) || (decide (xa = 3)))), (0, ii xa)] ?_ ?_
 · rcases bt ((decide (xa = 1)) || (decide (xa = 2))) with hc16 | hc16
   · refine J.skip rfl rfl rfl rfl hc16 <| J.skip rfl rfl rfl rfl hc16 <| jv (.bool true) (V.pickT rfl hc16 rfl) <| J.nil ?_
     exact ⟨rfl, ⟨(by simp only [hc16]; rfl), rfl, trivial⟩, rfl, rfl⟩
   refine J.run rfl rfl rfl hc16 <| jm (ii xa) rfl <| J.run rfl rfl rfl hc16 <| jv (.bool (decide (xa = 3))) (V.eql rfl rfl) <| jv (.bool (decide (xa = 3))) (V.pickF rfl hc16 rfl) <| J.nil ?_
   exact ⟨rfl, ⟨(by simp only [hc16]; rfl), rfl, trivial⟩, rfl, rfl⟩
 intro ρ
 refine jm (.bool (((decide (xa = 1)) || (decide (xa = 2))) || (decide (xa = 3)))) rfl <| J.cut 3 <| jmeet [(16, .bool ((((decide (xa = 1)) || (decide (xa = 2))) || (decide (xa = 3))) || (decide (xa = 5))))] ?_ ?_
 · rcases bt (((decide (xa = 1)) || (decide (xa = 2))) || (decide (xa = 3))) with hc19 | hc19
   · refine J.skip rfl rfl rfl rfl hc19 <| J.skip rfl rfl rfl rfl hc19 <| jv (.bool true) (V.pickT rfl hc19 rfl) <| J.nil ?_
     exact ⟨rfl, ⟨(by simp only [hc19]; rfl), trivial⟩, rfl, rfl⟩
   refine J.run rfl rfl rfl hc19 <| jm (ii xa) rfl <| J.run rfl rfl rfl hc19 <| jv (.bool (decide (xa = 5))) (V.eql rfl rfl) <| jv (.bool (decide (xa = 5))) (V.pickF rfl hc19 rfl) <| J.nil ?_
   exact ⟨rfl, ⟨(by simp only [hc19]; rfl), trivial⟩, rfl, rfl⟩
 intro ρ
 refine ja (.bool ((((decide (xa = 1)) || (decide (xa = 2))) || (decide (xa = 3))) || (decide (xa = 5)))) rfl <| J.nil <| CJ.ret ?_
 obtain rfl := si h
 exact ⟨_, _, Res.one rfl rfl, ⟨(((decide (xa = 1)) || (decide (xa = 2))) || (decide (xa = 3))) || (decide (xa = 5)), rfl, rfl, rfl⟩, (Hp.le_refl _), fun w hs => hs⟩

noncomputable def fn_ref18_Src (xa : Int) : Option Bool :=
  some ((decide (1 ≤ xa)) && (decide (xa ≤ 4)))
set_option maxRecDepth 100000 in
set_option maxHeartbeats 4000000 in
theorem ref18_Src_ok {K : Hp} {xa : Int}   {r : Bool} (h : fn_ref18_Src xa = some r) :
    Tr Tryz.prog 112 #[ii xa] K [] (fun v K' L' => (∃ (t4 : Bool), t4 = r ∧ .bool t4 = v ∧ L' = []) ∧ K = K') := by
 refine Tr.k <| Tr.of Tryz.func112 rfl Tryz.ntmps112 rfl fun E F => ?_
 unfold fn_ref18_Src at h
 refine CJ.seq <| CJ.region <| ja (.bool false) rfl <| J.nil <| CJ.seq <| CJ.region <| jm (ii xa) rfl ?_
 refine jv (.bool (decide (1 ≤ xa))) (V.geq rfl rfl) <| jm (.bool (decide (1 ≤ xa))) rfl <| J.cut 3 <| jmeet [(8, .bool ((decide (1 ≤ xa)) && (decide (xa ≤ 4))))] ?_ ?_
 · rcases bt (decide (1 ≤ xa)) with hc7 | hc7
   · refine J.run rfl rfl rfl hc7 <| jm (ii xa) rfl <| J.run rfl rfl rfl hc7 <| jv (.bool (decide (xa ≤ 4))) (V.leq rfl rfl) <| jv (.bool (decide (xa ≤ 4))) (V.pickT rfl hc7 rfl) <| J.nil ?_
     exact ⟨rfl, ⟨(by simp only [hc7]; rfl), trivial⟩, rfl, rfl⟩
   refine J.skip rfl rfl rfl rfl hc7 <| J.skip rfl rfl rfl rfl hc7 <| jv (.bool false) (V.pickF rfl hc7 rfl) <| J.nil ?_
   exact ⟨rfl, ⟨(by simp only [hc7]; rfl), trivial⟩, rfl, rfl⟩
 intro ρ
 refine ja (.bool ((decide (1 ≤ xa)) && (decide (xa ≤ 4)))) rfl <| J.nil <| CJ.ret ?_
 obtain rfl := si h
 exact ⟨_, _, Res.one rfl rfl, ⟨(decide (1 ≤ xa)) && (decide (xa ≤ 4)), rfl, rfl, rfl⟩, (Hp.le_refl _), fun w hs => hs⟩

noncomputable def fn_ref18_Region (xa : Int) : Option Bool :=
  some ((decide (xa = 2)) || (decide (xa = 3)))
set_option maxRecDepth 100000 in
set_option maxHeartbeats 4000000 in
theorem ref18_Region_ok {K : Hp} {xa : Int}   {r : Bool} (h : fn_ref18_Region xa = some r) :
    Tr Tryz.prog 113 #[ii xa] K [] (fun v K' L' => (∃ (t4 : Bool), t4 = r ∧ .bool t4 = v ∧ L' = []) ∧ K = K') := by
 refine Tr.k <| Tr.of Tryz.func113 rfl Tryz.ntmps113 rfl fun E F => ?_
 unfold fn_ref18_Region at h
 refine CJ.seq <| CJ.region <| ja (.bool false) rfl <| J.nil <| CJ.seq <| CJ.region <| jm (ii xa) rfl ?_
 refine jv (.bool (decide (xa = 2))) (V.eql rfl rfl) <| jm (.bool (decide (xa = 2))) rfl <| J.cut 3 <| jmeet [(8, .bool ((decide (xa = 2)) || (decide (xa = 3))))] ?_ ?_
 · rcases bt (decide (xa = 2)) with hc7 | hc7
   · refine J.skip rfl rfl rfl rfl hc7 <| J.skip rfl rfl rfl rfl hc7 <| jv (.bool true) (V.pickT rfl hc7 rfl) <| J.nil ?_
     exact ⟨rfl, ⟨(by simp only [hc7]; rfl), trivial⟩, rfl, rfl⟩
   refine J.run rfl rfl rfl hc7 <| jm (ii xa) rfl <| J.run rfl rfl rfl hc7 <| jv (.bool (decide (xa = 3))) (V.eql rfl rfl) <| jv (.bool (decide (xa = 3))) (V.pickF rfl hc7 rfl) <| J.nil ?_
   exact ⟨rfl, ⟨(by simp only [hc7]; rfl), trivial⟩, rfl, rfl⟩
 intro ρ
 refine ja (.bool ((decide (xa = 2)) || (decide (xa = 3)))) rfl <| J.nil <| CJ.ret ?_
 obtain rfl := si h
 exact ⟨_, _, Res.one rfl rfl, ⟨(decide (xa = 2)) || (decide (xa = 3)), rfl, rfl, rfl⟩, (Hp.le_refl _), fun w hs => hs⟩

noncomputable def fn_ref18_Take (xa : (List UInt8)) : Option (Int × Int × Int × Int × Bool × Int × Int) :=
  (fn_ref02_Take xa).bind fun (i154, i155, i156) => cond (!decide (i156 = 0)) (some ((0, 0, 0, 0, false, 0, i156))) (cond (decide (5 < i154)) (some ((0, 0, 0, 0, false, 0, 3))) (((fn_ref18_Dst i154).bind fun t187 => cond (t187) ((subL xa i155 (((xa.length : Nat) : Int))).bind fun y192 => (fn_ref02_Take y192).bind fun (i196, i197, i198) => cond (!decide (i198 = 0)) (some (.inr ((0, 0, 0, 0, false, 0, i198)))) (some (.inl ((IntKind.wrap .i64 (i155 + i197), i196))))) (some (.inl (i155, 0))) : Option ((Int × Int) ⊕ (Int × Int × Int × Int × Bool × Int × Int))).bind fun o => match o with | .inr r => some r | .inl (i181, i182) => ((fn_ref18_Src i154).bind fun t230 => cond (t230) ((subL xa i181 (((xa.length : Nat) : Int))).bind fun y235 => (fn_ref02_Take y235).bind fun (i239, i240, i241) => cond (!decide (i241 = 0)) (some (.inr ((0, 0, 0, 0, false, 0, i241)))) (some (.inl ((IntKind.wrap .i64 (i181 + i240), i239))))) (some (.inl (i181, 0))) : Option ((Int × Int) ⊕ (Int × Int × Int × Int × Bool × Int × Int))).bind fun o => match o with | .inr r => some r | .inl (i224, i225) => ((fn_ref18_Region i154).bind fun t274 => cond (t274) ((subL xa i224 (((xa.length : Nat) : Int))).bind fun y279 => (fn_ref02_Take y279).bind fun (i283, i284, i285) => cond (!decide (i285 = 0)) (some (.inr ((0, 0, 0, 0, false, 0, i285)))) (some (.inl ((IntKind.wrap .i64 (i224 + i284), IntKind.wrap .i64 (Int.tdiv i283 2), decide ((Int.tmod i283 2) = 1)))))) (some (.inl (i224, 0, false))) : Option ((Int × Int × Bool) ⊕ (Int × Int × Int × Int × Bool × Int × Int))).bind fun o => match o with | .inr r => some r | .inl (i267, i268, t269) => some ((i154, i182, i225, i268, t269, i267, 0))))
set_option maxRecDepth 100000 in
set_option maxHeartbeats 4000000 in
theorem ref18_Take_ok {K : Hp} {xa : (List UInt8)}   {r : (Int × Int × Int × Int × Bool × Int × Int)} (h : fn_ref18_Take xa = some r) :
    Tr Tryz.prog 102 #[.string ⟨xa.toArray⟩] K [] (fun v K' L' => (∃ (i144 : Int) (i145 : Int) (i146 : Int) (i147 : Int) (t148 : Bool) (i149 : Int) (i150 : Int), (i144, i145, i146, i147, t148, i149, i150) = r ∧ .tuple #[.agg #[ii i144, ii i145, ii i146, ii i147, .bool t148], ii i149, ii i150] = v ∧ L' = []) ∧ K = K') := by
 refine Tr.k <| Tr.of Tryz.func102 rfl Tryz.ntmps102 rfl fun E F => ?_
 unfold fn_ref18_Take at h
 refine CJ.seq <| CJ.region <| jal inf73 [ii 0, ii 0, ii 0, ii 0, .bool false] rfl fun b151 => ja (ii 0) rfl <| ja (ii 0) rfl <| J.nil <| CJ.seq ?_
 refine CJ.region <| jm (.string ⟨xa.toArray⟩) rfl ?_
 obtain ⟨r152, hr153, h⟩ := ob h
 refine J.op rfl (A.call (L1 := []) Tryz.call79 rfl (ref02_Take_ok hr153) rfl rfl) ?_
 rintro _ _ _ ⟨v157, _, rfl, ⟨⟨i154, i155, i156, rfl, rfl, rfl⟩, rfl⟩, _, rfl⟩
 refine jm (.tuple #[ii i154, ii i155, ii i156]) rfl <| jx (ii i154) rfl rfl <| jx (ii i155) rfl rfl <| jx (ii i156) rfl rfl <| ja (ii i154) rfl <| ja (ii i155) rfl <| ja (ii i156) rfl ?_
 refine J.nil <| CJ.seq <| CJ.seq <| CJ.region <| jm (ii i156) rfl <| jv (.bool (!decide (i156 = 0))) (V.neq rfl rfl) <| J.nil ?_
 refine cc rfl h (fun hc160 h => ?_) fun hc160 h => ?_
 · refine CJ.seq <| CJ.region <| jv (.agg #[ii 0, ii 0, ii 0, ii 0, .bool false]) (V.build inf73 places73 rfl rfl) <| jm (ii i156) rfl <| js [ii 0, ii 0, ii 0, ii 0, .bool false] sz73 rfl rfl rfl rfl rfl rfl <| ja (ii 0) rfl <| ja (ii i156) rfl ?_
   refine J.nil <| CJ.ret ?_
   obtain rfl := si h
   exact ⟨_, _, Res.three rfl ⟨_, _, rfl, Ld.agg (cs := [ii 0, ii 0, ii 0, ii 0, .bool false]) Tryz.underlying73 sz73 rfl (Rd.cls 0 0 rfl rfl)⟩ rfl rfl, ⟨0, 0, 0, 0, false, 0, i156, rfl, rfl, rfl⟩, (Hp.le_refl _), fun w hs => (Sep.dropAt 0 rfl hs)⟩
 refine CJ.skip <| CJ.seq <| CJ.seq <| CJ.region <| jm (ii i154) rfl <| jv (.bool (decide (5 < i154))) (V.gtr rfl rfl) <| J.nil ?_
 refine cc rfl h (fun hc161 h => ?_) fun hc161 h => ?_
 · refine CJ.seq <| CJ.region <| jv (.agg #[ii 0, ii 0, ii 0, ii 0, .bool false]) (V.build inf73 places73 rfl rfl) <| js [ii 0, ii 0, ii 0, ii 0, .bool false] sz73 rfl rfl rfl rfl rfl rfl <| ja (ii 0) rfl <| ja (ii 3) rfl <| J.nil ?_
   refine CJ.ret ?_
   obtain rfl := si h
   exact ⟨_, _, Res.three rfl ⟨_, _, rfl, Ld.agg (cs := [ii 0, ii 0, ii 0, ii 0, .bool false]) Tryz.underlying73 sz73 rfl (Rd.cls 0 0 rfl rfl)⟩ rfl rfl, ⟨0, 0, 0, 0, false, 0, 3, rfl, rfl, rfl⟩, (Hp.le_refl _), fun w hs => (Sep.dropAt 0 rfl hs)⟩
 refine CJ.skip <| CJ.seq <| CJ.region <| jm (ii i154) rfl <| jv (.agg #[ii i154, ii 0, ii 0, ii 0, .bool false]) (V.build inf73 places73 rfl rfl) <| jal inf73 [ii 0, ii 0, ii 0, ii 0, .bool false] rfl fun b162 => js [ii i154, ii 0, ii 0, ii 0, .bool false] sz73 rfl rfl rfl rfl rfl rfl ?_
 refine J.nil <| CJ.seq ?_
 obtain ⟨o183, ho184, h⟩ := ob h
 refine CJ.joinN (o := o183) (fun s ρ K' L' => ∃ (i181 : Int) (i182 : Int), (i181, i182) = s ∧ Fits [(0, .string ⟨xa.toArray⟩), (2, .pointer (some ⟨b151, 0, none⟩)), (5, ii i154), (6, ii i181), (8, .pointer (some ⟨b162, 0, none⟩))] ρ ∧ K = K' ∧ L' = Cl b151 73 [ii 0, ii 0, ii 0, ii 0, .bool false] :: Cl b162 73 [ii i154, ii i182, ii 0, ii 0, .bool false] :: F) ?_ ?_
 · refine CJ.seq <| CJ.region <| jm (ii i154) rfl ?_
   obtain ⟨r185, hr186, ho184⟩ := ob ho184
   refine J.op rfl (A.call (L1 := []) Tryz.call111 rfl (ref18_Dst_ok hr186) rfl rfl) ?_
   rintro _ _ _ ⟨v188, _, rfl, ⟨⟨t187, rfl, rfl, rfl⟩, rfl⟩, _, rfl⟩
   refine J.nil <| cc rfl ho184 (fun hc191 ho184 => ?_) fun hc191 ho184 => ?_
   · refine CJ.seq <| CJ.region <| jm (.string ⟨xa.toArray⟩) rfl <| jm (ii i155) rfl ?_
     obtain ⟨y192, hy193, ho184⟩ := ob ho184
     refine jv (.string ⟨y192.toArray⟩) (V.subs Tryz.underlying9 rfl (fun _ h => by cases h; exact ⟨_, rfl⟩) nofun nofun (fun _ => rfl) hy193) ?_
     obtain ⟨r194, hr195, ho184⟩ := ob ho184
     refine J.op rfl (A.call (L1 := []) Tryz.call79 rfl (ref02_Take_ok hr195) rfl rfl) ?_
     rintro _ _ _ ⟨v199, _, rfl, ⟨⟨i196, i197, i198, rfl, rfl, rfl⟩, rfl⟩, _, rfl⟩
     refine jm (.tuple #[ii i196, ii i197, ii i198]) rfl <| jx (ii i196) rfl rfl <| jx (ii i197) rfl rfl <| jx (ii i198) rfl rfl <| ja (ii i196) rfl <| ja (ii i197) rfl <| ja (ii i198) rfl ?_
     refine J.nil <| CJ.seq <| CJ.seq <| CJ.region <| jm (ii i198) rfl <| jv (.bool (!decide (i198 = 0))) (V.neq rfl rfl) <| J.nil ?_
     refine cc rfl ho184 (fun hc202 ho184 => ?_) fun hc202 ho184 => ?_
     · refine CJ.seq <| CJ.region <| jv (.agg #[ii 0, ii 0, ii 0, ii 0, .bool false]) (V.build inf73 places73 rfl rfl) <| jm (ii i198) rfl <| J.front 1 rfl <| js [ii 0, ii 0, ii 0, ii 0, .bool false] sz73 rfl rfl rfl rfl rfl rfl <| ja (ii 0) rfl ?_
       refine ja (ii i198) rfl <| J.nil <| CJ.ret ?_
       obtain rfl := si ho184
       refine .inr ⟨nofun, ?_⟩
       obtain rfl := si h
       exact ⟨_, _, Res.three rfl ⟨_, _, rfl, Ld.agg (cs := [ii 0, ii 0, ii 0, ii 0, .bool false]) Tryz.underlying73 sz73 rfl (Rd.cls 0 0 rfl rfl)⟩ rfl rfl, ⟨0, 0, 0, 0, false, 0, i198, rfl, rfl, rfl⟩, (Hp.le_refl _), fun w hs => (Sep.dropAt 0 rfl (Sep.dropAt 0 rfl hs))⟩
     refine CJ.skip <| CJ.seq <| CJ.region <| jm (ii i196) rfl <| jv _ (V.fad Tryz.underlying73 rfl nz3 rfl) <| js1 [ii i154, ii i196, ii 0, ii 0, .bool false] sz3 rfl rfl rfl rfl rfl rfl <| J.nil ?_
     refine CJ.region <| jm (ii i155) rfl <| jm (ii i197) rfl <| jv (ii (IntKind.wrap .i64 (i155 + i197))) (V.add rfl rfl) <| ja (ii (IntKind.wrap .i64 (i155 + i197))) rfl <| J.front 1 rfl <| J.nil ?_
     obtain rfl := si ho184
     exact .inl ⟨rfl, _, rfl, ⟨IntKind.wrap .i64 (i155 + i197), i196, rfl, ⟨rfl, rfl, rfl, rfl, rfl, trivial⟩, rfl, rfl⟩⟩
   refine CJ.front 1 rfl <| CJ.skip ?_
   obtain rfl := si ho184
   exact .inl ⟨rfl, _, rfl, ⟨i155, 0, rfl, ⟨rfl, rfl, rfl, rfl, rfl, trivial⟩, rfl, rfl⟩⟩
 rintro s ρ _ _ ho203 ⟨i181, i182, rfl, hf204, rfl, rfl⟩
 subst ho203
 obtain ⟨ρ, rfl⟩ := hf204.ex
 refine PJ.done <| CJ.seq ?_
 obtain ⟨o226, ho227, h⟩ := ob h
 refine CJ.joinN (o := o226) (fun s ρ K' L' => ∃ (i224 : Int) (i225 : Int), (i224, i225) = s ∧ Fits [(0, .string ⟨xa.toArray⟩), (2, .pointer (some ⟨b151, 0, none⟩)), (5, ii i154), (6, ii i224), (8, .pointer (some ⟨b162, 0, none⟩))] ρ ∧ K = K' ∧ L' = Cl b151 73 [ii 0, ii 0, ii 0, ii 0, .bool false] :: Cl b162 73 [ii i154, ii i182, ii i225, ii 0, .bool false] :: F) ?_ ?_
 · refine CJ.seq <| CJ.region <| jm (ii i154) rfl ?_
   obtain ⟨r228, hr229, ho227⟩ := ob ho227
   refine J.op rfl (A.call (L1 := []) Tryz.call112 rfl (ref18_Src_ok hr229) rfl rfl) ?_
   rintro _ _ _ ⟨v231, _, rfl, ⟨⟨t230, rfl, rfl, rfl⟩, rfl⟩, _, rfl⟩
   refine J.nil <| cc rfl ho227 (fun hc234 ho227 => ?_) fun hc234 ho227 => ?_
   · refine CJ.seq <| CJ.region <| jm (.string ⟨xa.toArray⟩) rfl <| jm (ii i181) rfl ?_
     obtain ⟨y235, hy236, ho227⟩ := ob ho227
     refine jv (.string ⟨y235.toArray⟩) (V.subs Tryz.underlying9 rfl (fun _ h => by cases h; exact ⟨_, rfl⟩) nofun nofun (fun _ => rfl) hy236) ?_
     obtain ⟨r237, hr238, ho227⟩ := ob ho227
     refine J.op rfl (A.call (L1 := []) Tryz.call79 rfl (ref02_Take_ok hr238) rfl rfl) ?_
     rintro _ _ _ ⟨v242, _, rfl, ⟨⟨i239, i240, i241, rfl, rfl, rfl⟩, rfl⟩, _, rfl⟩
     refine jm (.tuple #[ii i239, ii i240, ii i241]) rfl <| jx (ii i239) rfl rfl <| jx (ii i240) rfl rfl <| jx (ii i241) rfl rfl <| ja (ii i239) rfl <| ja (ii i240) rfl <| ja (ii i241) rfl ?_
     refine J.nil <| CJ.seq <| CJ.seq <| CJ.region <| jm (ii i241) rfl <| jv (.bool (!decide (i241 = 0))) (V.neq rfl rfl) <| J.nil ?_
     refine cc rfl ho227 (fun hc245 ho227 => ?_) fun hc245 ho227 => ?_
     · refine CJ.seq <| CJ.region <| jv (.agg #[ii 0, ii 0, ii 0, ii 0, .bool false]) (V.build inf73 places73 rfl rfl) <| jm (ii i241) rfl <| js [ii 0, ii 0, ii 0, ii 0, .bool false] sz73 rfl rfl rfl rfl rfl rfl <| ja (ii 0) rfl <| ja (ii i241) rfl ?_
       refine J.nil <| CJ.ret ?_
       obtain rfl := si ho227
       refine .inr ⟨nofun, ?_⟩
       obtain rfl := si h
       exact ⟨_, _, Res.three rfl ⟨_, _, rfl, Ld.agg (cs := [ii 0, ii 0, ii 0, ii 0, .bool false]) Tryz.underlying73 sz73 rfl (Rd.cls 0 0 rfl rfl)⟩ rfl rfl, ⟨0, 0, 0, 0, false, 0, i241, rfl, rfl, rfl⟩, (Hp.le_refl _), fun w hs => (Sep.dropAt 0 rfl (Sep.dropAt 0 rfl hs))⟩
     refine CJ.skip <| CJ.seq <| CJ.region <| jm (ii i239) rfl <| jv _ (V.fad Tryz.underlying73 rfl nz3 rfl) <| J.front 1 rfl <| js1 [ii i154, ii i182, ii i239, ii 0, .bool false] sz3 rfl rfl rfl rfl rfl rfl ?_
     refine J.nil <| CJ.region <| jm (ii i181) rfl <| jm (ii i240) rfl <| jv (ii (IntKind.wrap .i64 (i181 + i240))) (V.add rfl rfl) <| ja (ii (IntKind.wrap .i64 (i181 + i240))) rfl <| J.front 1 rfl ?_
     refine J.nil ?_
     obtain rfl := si ho227
     exact .inl ⟨rfl, _, rfl, ⟨IntKind.wrap .i64 (i181 + i240), i239, rfl, ⟨rfl, rfl, rfl, rfl, rfl, trivial⟩, rfl, rfl⟩⟩
   refine CJ.skip ?_
   obtain rfl := si ho227
   exact .inl ⟨rfl, _, rfl, ⟨i181, 0, rfl, ⟨rfl, rfl, rfl, rfl, rfl, trivial⟩, rfl, rfl⟩⟩
 rintro s ρ _ _ ho246 ⟨i224, i225, rfl, hf247, rfl, rfl⟩
 subst ho246
 obtain ⟨ρ, rfl⟩ := hf247.ex
 refine PJ.done <| CJ.seq ?_
 obtain ⟨o270, ho271, h⟩ := ob h
 refine CJ.joinN (o := o270) (fun s ρ K' L' => ∃ (i267 : Int) (i268 : Int) (t269 : Bool), (i267, i268, t269) = s ∧ Fits [(2, .pointer (some ⟨b151, 0, none⟩)), (6, ii i267), (8, .pointer (some ⟨b162, 0, none⟩))] ρ ∧ K = K' ∧ L' = Cl b151 73 [ii 0, ii 0, ii 0, ii 0, .bool false] :: Cl b162 73 [ii i154, ii i182, ii i225, ii i268, .bool t269] :: F) ?_ ?_
 · refine CJ.seq <| CJ.region <| jm (ii i154) rfl ?_
   obtain ⟨r272, hr273, ho271⟩ := ob ho271
   refine J.op rfl (A.call (L1 := []) Tryz.call113 rfl (ref18_Region_ok hr273) rfl rfl) ?_
   rintro _ _ _ ⟨v275, _, rfl, ⟨⟨t274, rfl, rfl, rfl⟩, rfl⟩, _, rfl⟩
   refine J.nil <| cc rfl ho271 (fun hc278 ho271 => ?_) fun hc278 ho271 => ?_
   · refine CJ.seq <| CJ.region <| jm (.string ⟨xa.toArray⟩) rfl <| jm (ii i224) rfl ?_
     obtain ⟨y279, hy280, ho271⟩ := ob ho271
     refine jv (.string ⟨y279.toArray⟩) (V.subs Tryz.underlying9 rfl (fun _ h => by cases h; exact ⟨_, rfl⟩) nofun nofun (fun _ => rfl) hy280) ?_
     obtain ⟨r281, hr282, ho271⟩ := ob ho271
     refine J.op rfl (A.call (L1 := []) Tryz.call79 rfl (ref02_Take_ok hr282) rfl rfl) ?_
     rintro _ _ _ ⟨v286, _, rfl, ⟨⟨i283, i284, i285, rfl, rfl, rfl⟩, rfl⟩, _, rfl⟩
     refine jm (.tuple #[ii i283, ii i284, ii i285]) rfl <| jx (ii i283) rfl rfl <| jx (ii i284) rfl rfl <| jx (ii i285) rfl rfl <| ja (ii i283) rfl <| ja (ii i284) rfl <| ja (ii i285) rfl ?_
     refine J.nil <| CJ.seq <| CJ.seq <| CJ.region <| jm (ii i285) rfl <| jv (.bool (!decide (i285 = 0))) (V.neq rfl rfl) <| J.nil ?_
     refine cc rfl ho271 (fun hc289 ho271 => ?_) fun hc289 ho271 => ?_
     · refine CJ.seq <| CJ.region <| jv (.agg #[ii 0, ii 0, ii 0, ii 0, .bool false]) (V.build inf73 places73 rfl rfl) <| jm (ii i285) rfl <| js [ii 0, ii 0, ii 0, ii 0, .bool false] sz73 rfl rfl rfl rfl rfl rfl <| ja (ii 0) rfl <| ja (ii i285) rfl ?_
       refine J.nil <| CJ.ret ?_
       obtain rfl := si ho271
       refine .inr ⟨nofun, ?_⟩
       obtain rfl := si h
       exact ⟨_, _, Res.three rfl ⟨_, _, rfl, Ld.agg (cs := [ii 0, ii 0, ii 0, ii 0, .bool false]) Tryz.underlying73 sz73 rfl (Rd.cls 0 0 rfl rfl)⟩ rfl rfl, ⟨0, 0, 0, 0, false, 0, i285, rfl, rfl, rfl⟩, (Hp.le_refl _), fun w hs => (Sep.dropAt 0 rfl (Sep.dropAt 0 rfl hs))⟩
     refine CJ.skip <| CJ.seq <| CJ.region <| jm (ii i283) rfl <| jv (ii (IntKind.wrap .i64 (Int.tdiv i283 2))) (V.quo rfl rfl (by decide)) <| jv _ (V.fad Tryz.underlying73 rfl nz3 rfl) <| J.front 1 rfl ?_
     refine js1 [ii i154, ii i182, ii i225, ii (IntKind.wrap .i64 (Int.tdiv i283 2)), .bool false] sz3 rfl rfl rfl rfl rfl rfl <| J.nil <| CJ.seq <| CJ.region <| jm (ii i283) rfl <| jv (ii (Int.tmod i283 2)) (V.rem rfl rfl (by decide)) <| jv (.bool (decide ((Int.tmod i283 2) = 1))) (V.eql rfl rfl) ?_
     refine jv _ (V.fad Tryz.underlying73 rfl nz4 rfl) <| js1 [ii i154, ii i182, ii i225, ii (IntKind.wrap .i64 (Int.tdiv i283 2)), .bool (decide ((Int.tmod i283 2) = 1))] sz4 rfl rfl rfl rfl rfl rfl <| J.nil <| CJ.region <| jm (ii i224) rfl <| jm (ii i284) rfl <| jv (ii (IntKind.wrap .i64 (i224 + i284))) (V.add rfl rfl) ?_
     refine ja (ii (IntKind.wrap .i64 (i224 + i284))) rfl <| J.front 1 rfl <| J.nil ?_
     obtain rfl := si ho271
     exact .inl ⟨rfl, _, rfl, ⟨IntKind.wrap .i64 (i224 + i284), IntKind.wrap .i64 (Int.tdiv i283 2), decide ((Int.tmod i283 2) = 1), rfl, ⟨rfl, rfl, rfl, trivial⟩, rfl, rfl⟩⟩
   refine CJ.skip ?_
   obtain rfl := si ho271
   exact .inl ⟨rfl, _, rfl, ⟨i224, 0, false, rfl, ⟨rfl, rfl, rfl, trivial⟩, rfl, rfl⟩⟩
 rintro s ρ _ _ ho290 ⟨i267, i268, t269, rfl, hf291, rfl, rfl⟩
 subst ho290
 obtain ⟨ρ, rfl⟩ := hf291.ex
 refine PJ.done <| CJ.seq <| CJ.region <| jv (.agg #[ii i154, ii i182, ii i225, ii i268, .bool t269]) (V.ld rfl (Ld.agg (cs := [ii i154, ii i182, ii i225, ii i268, .bool t269]) Tryz.underlying73 sz73 rfl (Rd.cls 1 0 rfl rfl))) <| jm (ii i267) rfl <| js [ii i154, ii i182, ii i225, ii i268, .bool t269] sz73 rfl rfl rfl rfl rfl rfl <| ja (ii i267) rfl ?_
 refine ja (ii 0) rfl <| J.nil <| CJ.ret ?_
 obtain rfl := si h
 exact ⟨_, _, Res.three rfl ⟨_, _, rfl, Ld.agg (cs := [ii i154, ii i182, ii i225, ii i268, .bool t269]) Tryz.underlying73 sz73 rfl (Rd.cls 0 0 rfl rfl)⟩ rfl rfl, ⟨i154, i182, i225, i268, t269, i267, 0, rfl, rfl, rfl⟩, (Hp.le_refl _), fun w hs => (Sep.dropAt 0 rfl (Sep.dropAt 0 rfl hs))⟩
noncomputable def fn_ref19_numbers_l1 (xa : (List UInt8)) (xb : Int) : ((List Int) × Int × Int) → Option (((List Int) × Int × Int) ⊕ (((List Int) × Int) ⊕ ((List Int) × Int × Int))) := fun ((l325, i330, i331) : ((List Int) × Int × Int)) => cond (decide (i331 < xb)) ((subL xa i330 (((xa.length : Nat) : Int))).bind fun y365 => (fn_ref02_Take y365).bind fun (i369, i370, i371) => cond (!decide (i371 = 0)) (some (.inr ((.inr (([], 0, i371)))))) ((app l325 ([i369] : List Int)).bind fun z380 => some (.inl ((z380, IntKind.wrap .i64 (i330 + i370), IntKind.wrap .i64 (i331 + 1)))))) (some (.inr ((.inl (l325, i330)))))
noncomputable def fn_ref19_numbers (xa : (List UInt8)) (xb : Int) : Option (((List Int) × Int × Int)) :=
  (loop (fn_ref19_numbers_l1 xa xb) ((([] : List Int), 0, 0)) : Option (((List Int) × Int) ⊕ ((List Int) × Int × Int))).bind fun o => match o with | .inr r => some r | .inl (l289, i294) => some ((l289, i294, 0))
set_option maxRecDepth 100000 in
set_option maxHeartbeats 4000000 in
theorem ref19_numbers_ok {K : Hp} {xa : (List UInt8)} {xb : Int}   {r : ((List Int) × Int × Int)} (h : fn_ref19_numbers xa xb = some r) :
    Tr Tryz.prog 116 #[.string ⟨xa.toArray⟩, ii xb] K [] (fun v K' L' => (∃ (l191 : (List Int)) (i196 : Int) (i197 : Int) (ad192 : Option Addr) (cp193 : Nat), (l191, i196, i197) = r ∧ .tuple #[.slice ad192 l191.length cp193, ii i196, ii i197] = v ∧ L' = [Row Hp.nil 3 (.int .i64) (.slice ad192 l191.length cp193) l191]) ∧ K = K') := by
 refine Tr.k <| Tr.of Tryz.func116 rfl Tryz.ntmps116 rfl fun E F => ?_
 unfold fn_ref19_numbers at h
 refine CJ.seq <| CJ.region <| ja (.slice none 0 0) rfl <| ja (ii 0) rfl <| ja (ii 0) rfl <| J.nil <| CJ.seq ?_
 refine CJ.region ?_
 refine J.op rfl (A.lit (K0 := Hp.nil) (ty := (.int .i64)) (xs := ([] : List Int)) Tryz.underlying66 inf3 rfl (by decide) rfl rfl rfl rfl rfl (by decide)) ?_
 rintro _ _ _ ⟨b198, rfl, rfl, rfl⟩
 have hn199 : ([] : List Int) ≠ [] → ∃ g, (some ⟨b198, 0, none⟩ : Option Addr) = some ⟨g, 0, none⟩ := fun _ => ⟨b198, rfl⟩
 refine ja (.slice (some ⟨b198, 0, none⟩) (([] : List Int).length) 0) rfl <| J.nil <| CJ.seq <| CJ.region <| ja (ii 0) rfl <| J.nil <| CJ.seq ?_
 refine CJ.seq <| CJ.region <| ja (ii 0) rfl <| J.nil ?_
 obtain ⟨o295, ho296, h⟩ := ob h
 refine CJ.joinN (o := o295) (fun s ρ K' L' => ∃ (l289 : (List Int)) (i294 : Int) (ad290 : Option Addr) (cp291 : Nat), (l289, i294) = s ∧ Fits [(7, .slice ad290 l289.length cp291), (8, ii i294)] ρ ∧ K = K' ∧ L' = Row Hp.nil 3 (.int .i64) (.slice ad290 l289.length cp291) l289 :: F) ?_ ?_
 · refine CJ.block <| CJ.loop (fun s ρ K' L' => ∃ (l325 : (List Int)) (i330 : Int) (i331 : Int) (ad326 : Option Addr) (cp327 : Nat), (l325, i330, i331) = s ∧ Fits [(0, .string ⟨xa.toArray⟩), (1, ii xb), (7, .slice ad326 l325.length cp327), (8, ii i330), (9, ii i331)] ρ ∧ K = K' ∧ L' = Row Hp.nil 3 (.int .i64) (.slice ad326 l325.length cp327) l325 :: F) ho296 ⟨([] : List Int), 0, 0, (some ⟨b198, 0, none⟩), 0, rfl, ⟨rfl, rfl, rfl, rfl, rfl, trivial⟩, rfl, rfl⟩ ?_
   rintro s ρ _ _ r363 ⟨l325, i330, i331, ad326, cp327, rfl, hf361, rfl, rfl⟩ h360
   obtain ⟨ρ, rfl⟩ := hf361.ex
   refine CJ.wit Row.hn fun hn329 => CJ.seq <| CJ.seq <| CJ.region <| jm (ii i331) rfl <| jm (ii xb) rfl <| jv (.bool (decide (i331 < xb))) (V.lss rfl rfl) ?_
   refine J.nil <| cc rfl h360 (fun hc364 h360 => ?_) fun hc364 h360 => ?_
   · refine CJ.skip <| CJ.seq <| CJ.block <| CJ.seq <| CJ.region <| jm (.string ⟨xa.toArray⟩) rfl <| jm (ii i330) rfl ?_
     obtain ⟨y365, hy366, h360⟩ := ob h360
     refine jv (.string ⟨y365.toArray⟩) (V.subs Tryz.underlying9 rfl (fun _ h => by cases h; exact ⟨_, rfl⟩) nofun nofun (fun _ => rfl) hy366) ?_
     obtain ⟨r367, hr368, h360⟩ := ob h360
     refine J.op rfl (A.call (L1 := []) Tryz.call79 rfl (ref02_Take_ok hr368) rfl rfl) ?_
     rintro _ _ _ ⟨v372, _, rfl, ⟨⟨i369, i370, i371, rfl, rfl, rfl⟩, rfl⟩, _, rfl⟩
     refine jm (.tuple #[ii i369, ii i370, ii i371]) rfl <| jx (ii i369) rfl rfl <| jx (ii i370) rfl rfl <| jx (ii i371) rfl rfl <| ja (ii i369) rfl <| ja (ii i370) rfl <| ja (ii i371) rfl ?_
     refine J.nil <| CJ.seq <| CJ.seq <| CJ.region <| jm (ii i371) rfl <| jv (.bool (!decide (i371 = 0))) (V.neq rfl rfl) <| J.nil ?_
     refine cc rfl h360 (fun hc375 h360 => ?_) fun hc375 h360 => ?_
     · refine CJ.seq <| CJ.region <| jm (ii i371) rfl <| ja (.slice none 0 0) rfl <| ja (ii 0) rfl <| ja (ii i371) rfl <| J.nil ?_
       refine CJ.by (fun w hs => Sep.rowNil (e := 3) (t := (.int .i64)) hs) <| CJ.ret ?_
       obtain rfl := si h360
       refine ⟨nofun, fun e => ?_⟩
       subst e
       refine .inr ⟨nofun, ?_⟩
       obtain rfl := si h
       exact ⟨_, _, Res.three rfl rfl rfl rfl, ⟨[], 0, i371, none, 0, rfl, rfl, rfl⟩, (Hp.le_refl _), fun w hs => (Sep.dropAt 1 rfl hs)⟩
     refine CJ.skip <| CJ.seq <| CJ.region <| jm (.slice ad326 l325.length cp327) rfl <| jm (ii i369) rfl ?_
     refine J.op rfl (A.lit (K0 := Hp.nil) (ty := (.int .i64)) (xs := ([i369] : List Int)) Tryz.underlying66 inf3 rfl (by decide) rfl rfl rfl ⟨_, _, rfl, rfl, rfl⟩ rfl (by decide)) ?_
     rintro _ _ _ ⟨b377, rfl, rfl, rfl⟩
     have hn378 : ([i369] : List Int) ≠ [] → ∃ g, (some ⟨b377, 0, none⟩ : Option Addr) = some ⟨g, 0, none⟩ := fun _ => ⟨b377, rfl⟩
     obtain ⟨z380, hz381, h360⟩ := ob h360
     refine J.front 1 rfl <| J.op rfl (A.appR (Kr := Hp.nil) Tryz.underlying66 inf3 rfl rfl (by decide) (by decide) rfl rfl (Els.flat rfl) (Els.flat rfl) hz381) ?_
     rintro _ _ _ ⟨v382, rfl, rfl, rfl⟩
     refine J.wit Row.form ?_
     rintro ⟨ad383, cp384, rfl, _, _, hn385⟩
     refine ja (.slice ad383 z380.length cp384) rfl <| J.nil <| CJ.region <| jm (ii i330) rfl <| jm (ii i370) rfl <| jv (ii (IntKind.wrap .i64 (i330 + i370))) (V.add rfl rfl) <| ja (ii (IntKind.wrap .i64 (i330 + i370))) rfl ?_
     refine J.nil <| CJ.region <| jm (ii i331) rfl <| jv (ii (IntKind.wrap .i64 (i331 + 1))) (V.add rfl rfl) <| ja (ii (IntKind.wrap .i64 (i331 + 1))) rfl <| J.nil ?_
     obtain rfl := si h360
     exact ⟨rfl, ⟨z380, IntKind.wrap .i64 (i330 + i370), IntKind.wrap .i64 (i331 + 1), ad383, cp384, rfl, ⟨rfl, rfl, rfl, rfl, rfl, trivial⟩, rfl, rfl⟩⟩
   refine CJ.exit ?_
   obtain rfl := si h360
   refine ⟨nofun, fun e => ?_⟩
   subst e
   exact .inl ⟨rfl, _, rfl, ⟨l325, i330, ad326, cp327, rfl, ⟨rfl, rfl, trivial⟩, rfl, rfl⟩⟩
 rintro s ρ _ _ ho386 ⟨l289, i294, ad290, cp291, rfl, hf387, rfl, rfl⟩
 subst ho386
 obtain ⟨ρ, rfl⟩ := hf387.ex
 refine PJ.wit Row.hn fun hn293 => PJ.done <| CJ.seq <| CJ.region <| jm (.slice ad290 l289.length cp291) rfl <| jm (ii i294) rfl <| ja (.slice ad290 l289.length cp291) rfl ?_
 refine ja (ii i294) rfl <| ja (ii 0) rfl <| J.nil <| CJ.ret ?_
 obtain rfl := si h
 exact ⟨_, _, Res.three rfl rfl rfl rfl, ⟨l289, i294, 0, ad290, cp291, rfl, rfl, rfl⟩, (Hp.le_refl _), fun w hs => hs⟩

noncomputable def fn_ref19_taken (xa : (List UInt8)) : Option (((List Int) × Int × Int)) :=
  (fn_ref02_Take xa).bind fun (i36, i37, i38) => cond (!decide (i38 = 0)) (some (([], 0, i38))) (cond (decide (16 < i36)) (some (([], 0, 6))) ((subL xa i37 (((xa.length : Nat) : Int))).bind fun y46 => (fn_ref19_numbers y46 i36).bind fun (l50, i51, i52) => some ((l50, IntKind.wrap .i64 (i37 + i51), i52))))
set_option maxRecDepth 100000 in
set_option maxHeartbeats 4000000 in
theorem ref19_taken_ok {K : Hp} {xa : (List UInt8)}   {r : ((List Int) × Int × Int)} (h : fn_ref19_taken xa = some r) :
    Tr Tryz.prog 117 #[.string ⟨xa.toArray⟩] K [] (fun v K' L' => (∃ (l26 : (List Int)) (i31 : Int) (i33 : Int) (ad27 : Option Addr) (cp28 : Nat), (l26, i31, i33) = r ∧ .tuple #[.slice ad27 l26.length cp28, ii i31, ii i33] = v ∧ L' = [Row Hp.nil 3 (.int .i64) (.slice ad27 l26.length cp28) l26]) ∧ K = K') := by
 refine Tr.k <| Tr.of Tryz.func117 rfl Tryz.ntmps117 rfl fun E F => ?_
 unfold fn_ref19_taken at h
 refine CJ.seq <| CJ.region <| ja (.slice none 0 0) rfl <| ja (ii 0) rfl <| ja (ii 0) rfl <| J.nil <| CJ.seq ?_
 refine CJ.region <| jm (.string ⟨xa.toArray⟩) rfl ?_
 obtain ⟨r34, hr35, h⟩ := ob h
 refine J.op rfl (A.call (L1 := []) Tryz.call79 rfl (ref02_Take_ok hr35) rfl rfl) ?_
 rintro _ _ _ ⟨v39, _, rfl, ⟨⟨i36, i37, i38, rfl, rfl, rfl⟩, rfl⟩, _, rfl⟩
 refine jm (.tuple #[ii i36, ii i37, ii i38]) rfl <| jx (ii i36) rfl rfl <| jx (ii i37) rfl rfl <| jx (ii i38) rfl rfl <| ja (ii i36) rfl <| ja (ii i37) rfl <| ja (ii i38) rfl ?_
 refine J.nil <| CJ.seq <| CJ.seq <| CJ.region <| jm (ii i38) rfl <| jv (.bool (!decide (i38 = 0))) (V.neq rfl rfl) <| J.nil ?_
 refine cc rfl h (fun hc42 h => ?_) fun hc42 h => ?_
 · refine CJ.seq <| CJ.region <| jm (ii i38) rfl <| ja (.slice none 0 0) rfl <| ja (ii 0) rfl <| ja (ii i38) rfl <| J.nil ?_
   refine CJ.by (fun w hs => Sep.rowNil (e := 3) (t := (.int .i64)) hs) <| CJ.ret ?_
   obtain rfl := si h
   exact ⟨_, _, Res.three rfl rfl rfl rfl, ⟨[], 0, i38, none, 0, rfl, rfl, rfl⟩, (Hp.le_refl _), fun w hs => hs⟩
 refine CJ.skip <| CJ.seq <| CJ.seq <| CJ.region <| jm (ii i36) rfl <| jv (.bool (decide (16 < i36))) (V.gtr rfl rfl) <| J.nil ?_
 refine cc rfl h (fun hc44 h => ?_) fun hc44 h => ?_
 · refine CJ.seq <| CJ.region <| ja (.slice none 0 0) rfl <| ja (ii 0) rfl <| ja (ii 6) rfl <| J.nil <| CJ.by (fun w hs => Sep.rowNil (e := 3) (t := (.int .i64)) hs) ?_
   refine CJ.ret ?_
   obtain rfl := si h
   exact ⟨_, _, Res.three rfl rfl rfl rfl, ⟨[], 0, 6, none, 0, rfl, rfl, rfl⟩, (Hp.le_refl _), fun w hs => hs⟩
 refine CJ.skip <| CJ.seq <| CJ.region <| jm (.string ⟨xa.toArray⟩) rfl <| jm (ii i37) rfl ?_
 obtain ⟨y46, hy47, h⟩ := ob h
 refine jv (.string ⟨y46.toArray⟩) (V.subs Tryz.underlying9 rfl (fun _ h => by cases h; exact ⟨_, rfl⟩) nofun nofun (fun _ => rfl) hy47) <| jm (ii i36) rfl ?_
 obtain ⟨r48, hr49, h⟩ := ob h
 refine J.op rfl (A.call (L1 := []) Tryz.call116 rfl (ref19_numbers_ok hr49) rfl rfl) ?_
 rintro _ _ _ ⟨v56, _, rfl, ⟨⟨l50, i51, i52, ad53, cp54, rfl, rfl, rfl⟩, rfl⟩, _, rfl⟩
 refine J.wit Row.hn fun hn55 => jm (.tuple #[.slice ad53 l50.length cp54, ii i51, ii i52]) rfl <| jx (.slice ad53 l50.length cp54) rfl rfl <| jx (ii i51) rfl rfl <| jx (ii i52) rfl rfl <| ja (.slice ad53 l50.length cp54) rfl <| ja (ii i51) rfl ?_
 refine ja (ii i52) rfl <| J.nil <| CJ.seq <| CJ.region <| jm (.slice ad53 l50.length cp54) rfl <| jm (ii i37) rfl <| jm (ii i51) rfl ?_
 refine jv (ii (IntKind.wrap .i64 (i37 + i51))) (V.add rfl rfl) <| jm (ii i52) rfl <| ja (.slice ad53 l50.length cp54) rfl <| ja (ii (IntKind.wrap .i64 (i37 + i51))) rfl <| ja (ii i52) rfl <| J.nil <| CJ.ret ?_
 obtain rfl := si h
 exact ⟨_, _, Res.three rfl rfl rfl rfl, ⟨l50, IntKind.wrap .i64 (i37 + i51), i52, ad53, cp54, rfl, rfl, rfl⟩, (Hp.le_refl _), fun w hs => hs⟩

noncomputable def fn_ref19_Take (xa : (List UInt8)) : Option ((Int × Int × Int × (List Int) × (List Int) × (List Int) × Int × Int)) :=
  (fn_ref02_Take xa).bind fun (i266, i267, i268) => cond (!decide (i268 = 0)) (some ((0, 0, 0, [], [], [], 0, i268))) (cond ((decide (i266 < 1)) || (decide (4 < i266))) (some ((0, 0, 0, [], [], [], 0, 3))) ((cond (decide (i266 = 1)) (some (1)) (some (0)) : Option Int).bind fun i283 => (cond (decide (i266 = 4)) (some (3)) (some (i283)) : Option Int).bind fun i290 => (subL xa i267 (((xa.length : Nat) : Int))).bind fun y296 => (fn_ref19_numbers y296 i290).bind fun (l300, i301, i302) => cond (!decide (i302 = 0)) (some ((0, 0, 0, [], [], [], 0, i302))) ((cond (decide (i266 = 1)) (some (l300)) (some ([])) : Option (List Int)).bind fun l323 => (cond (decide (i266 = 4)) ((getI l300 0).bind fun x366 => (getI l300 1).bind fun x375 => (subL l300 2 (((l300.length : Nat) : Int))).bind fun y384 => some ((x366, x375, y384))) (some ((0, 0, l323))) : Option ((Int × Int × (List Int)))).bind fun (i357, i358, l359) => (cond ((decide (i266 = 2)) || (decide (i266 = 4))) ((subL xa (IntKind.wrap .i64 (i267 + i301)) (((xa.length : Nat) : Int))).bind fun y468 => (fn_ref19_taken y468).bind fun (l472, i473, i474) => cond (!decide (i474 = 0)) (some (.inr ((0, 0, 0, [], [], [], 0, i474)))) (cond ((decide (i266 = 2)) && (decide ((((l472.length : Nat) : Int)) = 0))) (some (.inr ((0, 0, 0, [], [], [], 0, 3)))) ((subL xa (IntKind.wrap .i64 ((IntKind.wrap .i64 (i267 + i301)) + i473)) (((xa.length : Nat) : Int))).bind fun y491 => (fn_ref19_taken y491).bind fun (l495, i496, i497) => cond (!decide (i497 = 0)) (some (.inr ((0, 0, 0, [], [], [], 0, i497)))) (cond (decide (i266 = 2)) (some (.inl ((IntKind.wrap .i64 ((IntKind.wrap .i64 ((IntKind.wrap .i64 (i267 + i301)) + i473)) + i496), l472, l495, [])))) (some (.inl ((IntKind.wrap .i64 ((IntKind.wrap .i64 ((IntKind.wrap .i64 (i267 + i301)) + i473)) + i496), l359, l495, l472)))))))) (some (.inl ((IntKind.wrap .i64 (i267 + i301), l359, [], [])))) : Option ((Int × (List Int) × (List Int) × (List Int)) ⊕ (Int × Int × Int × (List Int) × (List Int) × (List Int) × Int × Int))).bind fun o => match o with | .inr r => some r | .inl (i447, l448, l452, l457) => some ((i266, i357, i358, l448, l452, l457, i447, 0)))))
set_option maxRecDepth 100000 in
set_option maxHeartbeats 4000000 in
theorem ref19_Take_ok {K : Hp} {xa : (List UInt8)}   {r : (Int × Int × Int × (List Int) × (List Int) × (List Int) × Int × Int)} (h : fn_ref19_Take xa = some r) :
    Tr Tryz.prog 103 #[.string ⟨xa.toArray⟩] K [] (fun v K' L' => (∃ (i244 : Int) (i245 : Int) (i246 : Int) (l247 : (List Int)) (l251 : (List Int)) (l256 : (List Int)) (i261 : Int) (i262 : Int) (ad248 : Option Addr) (cp249 : Nat) (ad252 : Option Addr) (cp253 : Nat) (ad257 : Option Addr) (cp258 : Nat), (i244, i245, i246, l247, l251, l256, i261, i262) = r ∧ .tuple #[.agg #[ii i244, ii i245, ii i246, .slice ad248 l247.length cp249, .slice ad252 l251.length cp253, .slice ad257 l256.length cp258], ii i261, ii i262] = v ∧ Is K' (.sl (.int .i64)) [.slice ad248 l247.length cp249] l247 ∧ L' = [Row Hp.nil 3 (.int .i64) (.slice ad252 l251.length cp253) l251, Row Hp.nil 3 (.int .i64) (.slice ad257 l256.length cp258) l256])) := by
 refine Tr.of Tryz.func103 rfl Tryz.ntmps103 rfl fun E F => ?_
 unfold fn_ref19_Take at h
 refine CJ.seq <| CJ.region <| jal inf68 [ii 0, ii 0, ii 0, .slice none 0 0, .slice none 0 0, .slice none 0 0] rfl fun b263 => ja (ii 0) rfl <| ja (ii 0) rfl <| J.nil <| CJ.seq ?_
 refine CJ.region <| jm (.string ⟨xa.toArray⟩) rfl ?_
 obtain ⟨r264, hr265, h⟩ := ob h
 refine J.op rfl (A.call (L1 := []) Tryz.call79 rfl (ref02_Take_ok hr265) rfl rfl) ?_
 rintro _ _ _ ⟨v269, _, rfl, ⟨⟨i266, i267, i268, rfl, rfl, rfl⟩, rfl⟩, _, rfl⟩
 refine jm (.tuple #[ii i266, ii i267, ii i268]) rfl <| jx (ii i266) rfl rfl <| jx (ii i267) rfl rfl <| jx (ii i268) rfl rfl <| ja (ii i266) rfl <| ja (ii i267) rfl <| ja (ii i268) rfl ?_
 refine J.nil <| CJ.seq <| CJ.seq <| CJ.region <| jm (ii i268) rfl <| jv (.bool (!decide (i268 = 0))) (V.neq rfl rfl) <| J.nil ?_
 refine cc rfl h (fun hc272 h => ?_) fun hc272 h => ?_
 · refine CJ.seq <| CJ.region <| jv (.agg #[ii 0, ii 0, ii 0, .slice none 0 0, .slice none 0 0, .slice none 0 0]) (V.build inf68 places68 rfl rfl) <| jm (ii i268) rfl <| js [ii 0, ii 0, ii 0, .slice none 0 0, .slice none 0 0, .slice none 0 0] sz68 rfl rfl rfl rfl rfl rfl <| ja (ii 0) rfl <| ja (ii i268) rfl ?_
   refine J.nil <| CJ.by (fun w hs => Sep.rowNil (e := 3) (t := (.int .i64)) hs) <| CJ.by (fun w hs => Sep.rowNil (e := 3) (t := (.int .i64)) hs) <| CJ.ret ?_
   obtain rfl := si h
   exact ⟨_, _, Res.three rfl ⟨_, _, rfl, Ld.agg (cs := [ii 0, ii 0, ii 0, .slice none 0 0, .slice none 0 0, .slice none 0 0]) Tryz.underlying68 sz68 rfl (Rd.cls 2 0 rfl rfl)⟩ rfl rfl, ⟨0, 0, 0, [], [], [], 0, i268, none, 0, none, 0, none, 0, rfl, rfl, isNil, rfl⟩, (Hp.le_refl _), fun w hs => (Sep.front 1 rfl (Sep.dropAt 2 rfl hs))⟩
 refine CJ.skip <| CJ.seq <| CJ.region <| jm (ii i266) rfl <| jv (.agg #[ii i266, ii 0, ii 0, .slice none 0 0, .slice none 0 0, .slice none 0 0]) (V.build inf68 places68 rfl rfl) <| jal inf68 [ii 0, ii 0, ii 0, .slice none 0 0, .slice none 0 0, .slice none 0 0] rfl fun b275 => js [ii i266, ii 0, ii 0, .slice none 0 0, .slice none 0 0, .slice none 0 0] sz68 rfl rfl rfl rfl rfl rfl ?_
 refine J.nil <| CJ.seq <| CJ.seq <| CJ.region <| jm (ii i266) rfl <| jv (.bool (decide (i266 < 1))) (V.lss rfl rfl) <| jm (.bool (decide (i266 < 1))) rfl ?_
 refine J.cut 3 <| jmeet [(36, .bool ((decide (i266 < 1)) || (decide (4 < i266)))), (0, .string ⟨xa.toArray⟩), (2, .pointer (some ⟨b263, 0, none⟩)), (5, ii i266), (6, ii i267), (8, .pointer (some ⟨b275, 0, none⟩))] ?_ ?_
 · rcases bt (decide (i266 < 1)) with hc278 | hc278
   · refine J.skip rfl rfl rfl rfl hc278 <| J.skip rfl rfl rfl rfl hc278 <| jv (.bool true) (V.pickT rfl hc278 rfl) <| J.nil ?_
     exact ⟨rfl, ⟨(by simp only [hc278]; rfl), rfl, rfl, rfl, rfl, rfl, trivial⟩, rfl, rfl⟩
   refine J.run rfl rfl rfl hc278 <| jm (ii i266) rfl <| J.run rfl rfl rfl hc278 <| jv (.bool (decide (4 < i266))) (V.gtr rfl rfl) <| jv (.bool (decide (4 < i266))) (V.pickF rfl hc278 rfl) <| J.nil ?_
   exact ⟨rfl, ⟨(by simp only [hc278]; rfl), rfl, rfl, rfl, rfl, rfl, trivial⟩, rfl, rfl⟩
 intro ρ
 refine J.nil <| cc rfl h (fun hc279 h => ?_) fun hc279 h => ?_
 · refine CJ.seq <| CJ.region <| jv (.agg #[ii 0, ii 0, ii 0, .slice none 0 0, .slice none 0 0, .slice none 0 0]) (V.build inf68 places68 rfl rfl) <| J.front 1 rfl <| js [ii 0, ii 0, ii 0, .slice none 0 0, .slice none 0 0, .slice none 0 0] sz68 rfl rfl rfl rfl rfl rfl <| ja (ii 0) rfl <| ja (ii 3) rfl ?_
   refine J.nil <| CJ.by (fun w hs => Sep.rowNil (e := 3) (t := (.int .i64)) hs) <| CJ.by (fun w hs => Sep.rowNil (e := 3) (t := (.int .i64)) hs) <| CJ.ret ?_
   obtain rfl := si h
   exact ⟨_, _, Res.three rfl ⟨_, _, rfl, Ld.agg (cs := [ii 0, ii 0, ii 0, .slice none 0 0, .slice none 0 0, .slice none 0 0]) Tryz.underlying68 sz68 rfl (Rd.cls 2 0 rfl rfl)⟩ rfl rfl, ⟨0, 0, 0, [], [], [], 0, 3, none, 0, none, 0, none, 0, rfl, rfl, isNil, rfl⟩, (Hp.le_refl _), fun w hs => (Sep.front 1 rfl (Sep.dropAt 2 rfl (Sep.dropAt 2 rfl hs)))⟩
 refine CJ.skip <| CJ.seq <| CJ.region <| ja (ii 0) rfl <| J.nil <| CJ.seq ?_
 obtain ⟨o284, ho285, h⟩ := ob h
 refine CJ.meetN (fun ρ K' L' => ∃ (i283 : Int), i283 = o284 ∧ Fits [(0, .string ⟨xa.toArray⟩), (2, .pointer (some ⟨b263, 0, none⟩)), (5, ii i266), (6, ii i267), (8, .pointer (some ⟨b275, 0, none⟩)), (9, ii i283)] ρ ∧ K = K' ∧ L' = Cl b263 68 [ii 0, ii 0, ii 0, .slice none 0 0, .slice none 0 0, .slice none 0 0] :: Cl b275 68 [ii i266, ii 0, ii 0, .slice none 0 0, .slice none 0 0, .slice none 0 0] :: F) ?_ ?_
 · refine CJ.seq <| CJ.region <| jm (ii i266) rfl <| jv (.bool (decide (i266 = 1))) (V.eql rfl rfl) <| J.nil <| cc rfl ho285 (fun hc286 ho285 => ?_) fun hc286 ho285 => ?_
   · refine CJ.region <| ja (ii 1) rfl <| J.front 1 rfl <| J.nil ?_
     obtain rfl := si ho285
     exact ⟨rfl, ⟨1, rfl, ⟨rfl, rfl, rfl, rfl, rfl, rfl, trivial⟩, rfl, rfl⟩⟩
   refine CJ.front 1 rfl <| CJ.skip ?_
   obtain rfl := si ho285
   exact ⟨rfl, ⟨0, rfl, ⟨rfl, rfl, rfl, rfl, rfl, rfl, trivial⟩, rfl, rfl⟩⟩
 rintro ρ _ _ ⟨i283, rfl, hf287, rfl, rfl⟩
 obtain ⟨ρ, rfl⟩ := hf287.ex
 refine PJ.done <| CJ.seq ?_
 obtain ⟨o291, ho292, h⟩ := ob h
 refine CJ.meetN (fun ρ K' L' => ∃ (i290 : Int), i290 = o291 ∧ Fits [(0, .string ⟨xa.toArray⟩), (2, .pointer (some ⟨b263, 0, none⟩)), (5, ii i266), (6, ii i267), (8, .pointer (some ⟨b275, 0, none⟩)), (9, ii i290)] ρ ∧ K = K' ∧ L' = Cl b263 68 [ii 0, ii 0, ii 0, .slice none 0 0, .slice none 0 0, .slice none 0 0] :: Cl b275 68 [ii i266, ii 0, ii 0, .slice none 0 0, .slice none 0 0, .slice none 0 0] :: F) ?_ ?_
 · refine CJ.seq <| CJ.region <| jm (ii i266) rfl <| jv (.bool (decide (i266 = 4))) (V.eql rfl rfl) <| J.nil <| cc rfl ho292 (fun hc293 ho292 => ?_) fun hc293 ho292 => ?_
   · refine CJ.region <| ja (ii 3) rfl <| J.nil ?_
     obtain rfl := si ho292
     exact ⟨rfl, ⟨3, rfl, ⟨rfl, rfl, rfl, rfl, rfl, rfl, trivial⟩, rfl, rfl⟩⟩
   refine CJ.skip ?_
   obtain rfl := si ho292
   exact ⟨rfl, ⟨i283, rfl, ⟨rfl, rfl, rfl, rfl, rfl, rfl, trivial⟩, rfl, rfl⟩⟩
 rintro ρ _ _ ⟨i290, rfl, hf294, rfl, rfl⟩
 obtain ⟨ρ, rfl⟩ := hf294.ex
 refine PJ.done <| CJ.seq <| CJ.region <| jm (.string ⟨xa.toArray⟩) rfl <| jm (ii i267) rfl ?_
 obtain ⟨y296, hy297, h⟩ := ob h
 refine jv (.string ⟨y296.toArray⟩) (V.subs Tryz.underlying9 rfl (fun _ h => by cases h; exact ⟨_, rfl⟩) nofun nofun (fun _ => rfl) hy297) <| jm (ii i290) rfl ?_
 obtain ⟨r298, hr299, h⟩ := ob h
 refine J.op rfl (A.call (L1 := []) Tryz.call116 rfl (ref19_numbers_ok hr299) rfl rfl) ?_
 rintro _ _ _ ⟨v306, _, rfl, ⟨⟨l300, i301, i302, ad303, cp304, rfl, rfl, rfl⟩, rfl⟩, _, rfl⟩
 refine J.wit Row.hn fun hn305 => jm (.tuple #[.slice ad303 l300.length cp304, ii i301, ii i302]) rfl <| jx (.slice ad303 l300.length cp304) rfl rfl <| jx (ii i301) rfl rfl <| jx (ii i302) rfl rfl <| ja (.slice ad303 l300.length cp304) rfl <| ja (ii i301) rfl ?_
 refine ja (ii i302) rfl <| J.nil <| CJ.seq <| CJ.seq <| CJ.region <| jm (ii i302) rfl <| jv (.bool (!decide (i302 = 0))) (V.neq rfl rfl) ?_
 refine J.nil <| cc rfl h (fun hc310 h => ?_) fun hc310 h => ?_
 · refine CJ.seq <| CJ.region <| jv (.agg #[ii 0, ii 0, ii 0, .slice none 0 0, .slice none 0 0, .slice none 0 0]) (V.build inf68 places68 rfl rfl) <| jm (ii i302) rfl <| J.front 1 rfl <| js [ii 0, ii 0, ii 0, .slice none 0 0, .slice none 0 0, .slice none 0 0] sz68 rfl rfl rfl rfl rfl rfl <| ja (ii 0) rfl ?_
   refine ja (ii i302) rfl <| J.nil <| CJ.by (fun w hs => Sep.rowNil (e := 3) (t := (.int .i64)) hs) <| CJ.by (fun w hs => Sep.rowNil (e := 3) (t := (.int .i64)) hs) <| CJ.ret ?_
   obtain rfl := si h
   exact ⟨_, _, Res.three rfl ⟨_, _, rfl, Ld.agg (cs := [ii 0, ii 0, ii 0, .slice none 0 0, .slice none 0 0, .slice none 0 0]) Tryz.underlying68 sz68 rfl (Rd.cls 2 0 rfl rfl)⟩ rfl rfl, ⟨0, 0, 0, [], [], [], 0, i302, none, 0, none, 0, none, 0, rfl, rfl, isNil, rfl⟩, (Hp.le_refl _), fun w hs => (Sep.front 1 rfl (Sep.dropAt 2 rfl (Sep.dropAt 2 rfl (Sep.dropAt 2 rfl hs))))⟩
 refine CJ.skip <| CJ.seq <| CJ.region <| jm (ii i267) rfl <| jm (ii i301) rfl <| jv (ii (IntKind.wrap .i64 (i267 + i301))) (V.add rfl rfl) <| ja (ii (IntKind.wrap .i64 (i267 + i301))) rfl ?_
 refine J.nil <| CJ.seq <| CJ.persist (Hp.nil_le _) (by decide) fun K319 hK320 f321 => ?_
 obtain ⟨o327, ho328, h⟩ := ob h
 refine CJ.meetN (fun ρ K' L' => ∃ (l323 : (List Int)) (ad324 : Option Addr) (cp325 : Nat), l323 = o327 ∧ Fits [(0, .string ⟨xa.toArray⟩), (2, .pointer (some ⟨b263, 0, none⟩)), (5, ii i266), (6, ii (IntKind.wrap .i64 (i267 + i301))), (8, .pointer (some ⟨b275, 0, none⟩)), (10, .slice ad303 l300.length cp304)] ρ ∧ K319 = K' ∧ Is K319 (.sl (.int .i64)) [.slice ad324 l323.length cp325] l323 ∧ L' = Cl b263 68 [ii 0, ii 0, ii 0, .slice none 0 0, .slice none 0 0, .slice none 0 0] :: Cl b275 68 [ii i266, ii 0, ii 0, .slice ad324 l323.length cp325, .slice none 0 0, .slice none 0 0] :: F) ?_ ?_
 · refine CJ.seq <| CJ.region <| jm (ii i266) rfl <| jv (.bool (decide (i266 = 1))) (V.eql rfl rfl) <| J.nil <| cc rfl ho328 (fun hc329 ho328 => ?_) fun hc329 ho328 => ?_
   · refine CJ.region <| jm (.slice ad303 l300.length cp304) rfl <| jv _ (V.fad Tryz.underlying68 rfl nz66 rfl) <| J.front 1 rfl <| js1 [ii i266, ii 0, ii 0, .slice ad303 l300.length cp304, .slice none 0 0, .slice none 0 0] sz66 rfl rfl rfl rfl rfl rfl <| J.front 1 rfl <| J.nil ?_
     obtain rfl := si ho328
     exact ⟨rfl, ⟨l300, ad303, cp304, rfl, ⟨rfl, rfl, rfl, rfl, rfl, rfl, trivial⟩, rfl, f321, rfl⟩⟩
   refine CJ.skip ?_
   obtain rfl := si ho328
   exact ⟨rfl, ⟨[], none, 0, rfl, ⟨rfl, rfl, rfl, rfl, rfl, rfl, trivial⟩, rfl, isNil, rfl⟩⟩
 rintro ρ _ _ ⟨l323, ad324, cp325, rfl, hf330, rfl, f326, rfl⟩
 obtain ⟨ρ, rfl⟩ := hf330.ex
 refine PJ.done <| CJ.seq ?_
 obtain ⟨o363, ho364, h⟩ := ob h
 refine CJ.meetN (fun ρ K' L' => ∃ (i357 : Int) (i358 : Int) (l359 : (List Int)) (ad360 : Option Addr) (cp361 : Nat), (i357, i358, l359) = o363 ∧ Fits [(0, .string ⟨xa.toArray⟩), (2, .pointer (some ⟨b263, 0, none⟩)), (5, ii i266), (6, ii (IntKind.wrap .i64 (i267 + i301))), (8, .pointer (some ⟨b275, 0, none⟩))] ρ ∧ K319 = K' ∧ Is K319 (.sl (.int .i64)) [.slice ad360 l359.length cp361] l359 ∧ L' = Cl b263 68 [ii 0, ii 0, ii 0, .slice none 0 0, .slice none 0 0, .slice none 0 0] :: Cl b275 68 [ii i266, ii i357, ii i358, .slice ad360 l359.length cp361, .slice none 0 0, .slice none 0 0] :: F) ?_ ?_
 · refine CJ.seq <| CJ.region <| jm (ii i266) rfl <| jv (.bool (decide (i266 = 4))) (V.eql rfl rfl) <| J.nil <| cc rfl ho364 (fun hc365 ho364 => ?_) fun hc365 ho364 => ?_
   · refine CJ.seq <| CJ.region <| jm (.slice ad303 l300.length cp304) rfl ?_
     obtain ⟨x366, hx367, ho364⟩ := ob ho364
     obtain ⟨p368, p369, p370⟩ := getI_some hx367
     obtain ⟨b371, o372, e373, a374⟩ := (f321).at p369
     refine jv _ (V.iad Tryz.underlying66 sz3 rfl e373 rfl p368 p370) <| jv (ii x366) (V.ld rfl (Ld.sc sc3 (Rd.k (a374).int (Hp.le_refl _)))) <| jv _ (V.fad Tryz.underlying68 rfl nz3 rfl) <| J.front 1 rfl <| js1 [ii i266, ii x366, ii 0, .slice ad324 l323.length cp325, .slice none 0 0, .slice none 0 0] sz3 rfl rfl rfl rfl rfl rfl <| J.nil <| CJ.seq ?_
     refine CJ.region <| jm (.slice ad303 l300.length cp304) rfl ?_
     obtain ⟨x375, hx376, ho364⟩ := ob ho364
     obtain ⟨p377, p378, p379⟩ := getI_some hx376
     obtain ⟨b380, o381, e382, a383⟩ := (f321).at p378
     refine jv _ (V.iad Tryz.underlying66 sz3 rfl e382 rfl p377 p379) <| jv (ii x375) (V.ld rfl (Ld.sc sc3 (Rd.k (a383).int (Hp.le_refl _)))) <| jv _ (V.fad Tryz.underlying68 rfl nz3 rfl) <| js1 [ii i266, ii x366, ii x375, .slice ad324 l323.length cp325, .slice none 0 0, .slice none 0 0] sz3 rfl rfl rfl rfl rfl rfl <| J.nil <| CJ.region <| jm (.slice ad303 l300.length cp304) rfl ?_
     obtain ⟨y384, hy385, ho364⟩ := ob ho364
     obtain ⟨ad386, cp387, hv388, f389⟩ := V.subI (tp := (.int .i64)) Tryz.underlying66 sz3 f321 hy385
     refine jv (.slice ad386 y384.length cp387) (hv388 rfl (fun _ h => by cases h; exact ⟨_, rfl⟩) nofun nofun (fun _ => rfl)) <| jv _ (V.fad Tryz.underlying68 rfl nz66 rfl) <| js1 [ii i266, ii x366, ii x375, .slice ad386 y384.length cp387, .slice none 0 0, .slice none 0 0] sz66 rfl rfl rfl rfl rfl rfl <| J.front 1 rfl <| J.nil ?_
     obtain rfl := si ho364
     exact ⟨rfl, ⟨x366, x375, y384, ad386, cp387, rfl, ⟨rfl, rfl, rfl, rfl, rfl, trivial⟩, rfl, f389, rfl⟩⟩
   refine CJ.skip ?_
   obtain rfl := si ho364
   exact ⟨rfl, ⟨0, 0, l323, ad324, cp325, rfl, ⟨rfl, rfl, rfl, rfl, rfl, trivial⟩, rfl, f326, rfl⟩⟩
 rintro ρ _ _ ⟨i357, i358, l359, ad360, cp361, rfl, hf390, rfl, f362, rfl⟩
 obtain ⟨ρ, rfl⟩ := hf390.ex
 refine PJ.done <| CJ.seq ?_
 obtain ⟨o462, ho463, h⟩ := ob h
 refine CJ.joinN (o := o462) (fun s ρ K' L' => ∃ (i447 : Int) (l448 : (List Int)) (l452 : (List Int)) (l457 : (List Int)) (ad449 : Option Addr) (cp450 : Nat) (ad453 : Option Addr) (cp454 : Nat) (ad458 : Option Addr) (cp459 : Nat), (i447, l448, l452, l457) = s ∧ Fits [(2, .pointer (some ⟨b263, 0, none⟩)), (6, ii i447), (8, .pointer (some ⟨b275, 0, none⟩))] ρ ∧ Hp.le K319 K' ∧ Is K' (.sl (.int .i64)) [.slice ad449 l448.length cp450] l448 ∧ L' = Cl b263 68 [ii 0, ii 0, ii 0, .slice none 0 0, .slice none 0 0, .slice none 0 0] :: Cl b275 68 [ii i266, ii i357, ii i358, .slice ad449 l448.length cp450, .slice ad453 l452.length cp454, .slice ad458 l457.length cp459] :: Row Hp.nil 3 (.int .i64) (.slice ad453 l452.length cp454) l452 :: Row Hp.nil 3 (.int .i64) (.slice ad458 l457.length cp459) l457 :: F) ?_ ?_
 · refine CJ.seq <| CJ.region <| jm (ii i266) rfl <| jv (.bool (decide (i266 = 2))) (V.eql rfl rfl) <| jm (.bool (decide (i266 = 2))) rfl <| J.cut 3 <| jmeet [(80, .bool ((decide (i266 = 2)) || (decide (i266 = 4)))), (0, .string ⟨xa.toArray⟩), (2, .pointer (some ⟨b263, 0, none⟩)), (5, ii i266), (6, ii (IntKind.wrap .i64 (i267 + i301))), (8, .pointer (some ⟨b275, 0, none⟩))] ?_ ?_
   · rcases bt (decide (i266 = 2)) with hc466 | hc466
     · refine J.skip rfl rfl rfl rfl hc466 <| J.skip rfl rfl rfl rfl hc466 <| jv (.bool true) (V.pickT rfl hc466 rfl) <| J.nil ?_
       exact ⟨rfl, ⟨(by simp only [hc466]; rfl), rfl, rfl, rfl, rfl, rfl, trivial⟩, rfl, rfl⟩
     refine J.run rfl rfl rfl hc466 <| jm (ii i266) rfl <| J.run rfl rfl rfl hc466 <| jv (.bool (decide (i266 = 4))) (V.eql rfl rfl) <| jv (.bool (decide (i266 = 4))) (V.pickF rfl hc466 rfl) <| J.nil ?_
     exact ⟨rfl, ⟨(by simp only [hc466]; rfl), rfl, rfl, rfl, rfl, rfl, trivial⟩, rfl, rfl⟩
   intro ρ
   refine J.nil <| cc rfl ho463 (fun hc467 ho463 => ?_) fun hc467 ho463 => ?_
   · refine CJ.seq <| CJ.region <| jm (.string ⟨xa.toArray⟩) rfl <| jm (ii (IntKind.wrap .i64 (i267 + i301))) rfl ?_
     obtain ⟨y468, hy469, ho463⟩ := ob ho463
     refine jv (.string ⟨y468.toArray⟩) (V.subs Tryz.underlying9 rfl (fun _ h => by cases h; exact ⟨_, rfl⟩) nofun nofun (fun _ => rfl) hy469) ?_
     obtain ⟨r470, hr471, ho463⟩ := ob ho463
     refine J.op rfl (A.call (L1 := []) Tryz.call117 rfl (ref19_taken_ok hr471) rfl rfl) ?_
     rintro _ _ _ ⟨v478, _, rfl, ⟨⟨l472, i473, i474, ad475, cp476, rfl, rfl, rfl⟩, rfl⟩, _, rfl⟩
     refine J.wit Row.hn fun hn477 => jm (.tuple #[.slice ad475 l472.length cp476, ii i473, ii i474]) rfl <| jx (.slice ad475 l472.length cp476) rfl rfl <| jx (ii i473) rfl rfl <| jx (ii i474) rfl rfl <| ja (.slice ad475 l472.length cp476) rfl <| ja (ii i473) rfl ?_
     refine ja (ii i474) rfl <| J.nil <| CJ.seq <| CJ.seq <| CJ.region <| jm (ii i474) rfl <| jv (.bool (!decide (i474 = 0))) (V.neq rfl rfl) ?_
     refine J.nil <| cc rfl ho463 (fun hc482 ho463 => ?_) fun hc482 ho463 => ?_
     · refine CJ.seq <| CJ.region <| jv (.agg #[ii 0, ii 0, ii 0, .slice none 0 0, .slice none 0 0, .slice none 0 0]) (V.build inf68 places68 rfl rfl) <| jm (ii i474) rfl <| J.front 1 rfl <| js [ii 0, ii 0, ii 0, .slice none 0 0, .slice none 0 0, .slice none 0 0] sz68 rfl rfl rfl rfl rfl rfl <| ja (ii 0) rfl ?_
       refine ja (ii i474) rfl <| J.nil <| CJ.by (fun w hs => Sep.rowNil (e := 3) (t := (.int .i64)) hs) <| CJ.by (fun w hs => Sep.rowNil (e := 3) (t := (.int .i64)) hs) <| CJ.ret ?_
       obtain rfl := si ho463
       refine .inr ⟨nofun, ?_⟩
       obtain rfl := si h
       exact ⟨_, _, Res.three rfl ⟨_, _, rfl, Ld.agg (cs := [ii 0, ii 0, ii 0, .slice none 0 0, .slice none 0 0, .slice none 0 0]) Tryz.underlying68 sz68 rfl (Rd.cls 2 0 rfl rfl)⟩ rfl rfl, ⟨0, 0, 0, [], [], [], 0, i474, none, 0, none, 0, none, 0, rfl, rfl, isNil, rfl⟩, hK320, fun w hs => (Sep.front 1 rfl (Sep.dropAt 2 rfl (Sep.dropAt 2 rfl (Sep.dropAt 2 rfl hs))))⟩
     refine CJ.skip <| CJ.seq <| CJ.seq <| CJ.region <| jm (ii i266) rfl <| jv (.bool (decide (i266 = 2))) (V.eql rfl rfl) <| jm (.bool (decide (i266 = 2))) rfl ?_
     refine J.cut 4 <| jmeet [(99, .bool ((decide (i266 = 2)) && (decide ((((l472.length : Nat) : Int)) = 0)))), (0, .string ⟨xa.toArray⟩), (2, .pointer (some ⟨b263, 0, none⟩)), (5, ii i266), (6, ii (IntKind.wrap .i64 (i267 + i301))), (8, .pointer (some ⟨b275, 0, none⟩)), (13, .slice ad475 l472.length cp476), (14, ii i473)] ?_ ?_
     · rcases bt (decide (i266 = 2)) with hc487 | hc487
       · refine J.run rfl rfl rfl hc487 <| jm (.slice ad475 l472.length cp476) rfl <| J.run rfl rfl rfl hc487 <| jv (ii (((l472.length : Nat) : Int))) (V.len Tryz.underlying66 rfl) <| J.run rfl rfl rfl hc487 <| jv (.bool (decide ((((l472.length : Nat) : Int)) = 0))) (V.eql rfl rfl) <| jv (.bool (decide ((((l472.length : Nat) : Int)) = 0))) (V.pickT rfl hc487 rfl) ?_
         refine J.nil ?_
         exact ⟨rfl, ⟨(by simp only [hc487]; rfl), rfl, rfl, rfl, rfl, rfl, rfl, rfl, trivial⟩, rfl, rfl⟩
       refine J.skip rfl rfl rfl rfl hc487 <| J.skip rfl rfl rfl rfl hc487 <| J.skip rfl rfl rfl rfl hc487 <| jv (.bool false) (V.pickF rfl hc487 rfl) <| J.nil ?_
       exact ⟨rfl, ⟨(by simp only [hc487]; rfl), rfl, rfl, rfl, rfl, rfl, rfl, rfl, trivial⟩, rfl, rfl⟩
     intro ρ
     refine J.nil <| cc rfl ho463 (fun hc488 ho463 => ?_) fun hc488 ho463 => ?_
     · refine CJ.seq <| CJ.region <| jv (.agg #[ii 0, ii 0, ii 0, .slice none 0 0, .slice none 0 0, .slice none 0 0]) (V.build inf68 places68 rfl rfl) <| J.front 1 rfl <| js [ii 0, ii 0, ii 0, .slice none 0 0, .slice none 0 0, .slice none 0 0] sz68 rfl rfl rfl rfl rfl rfl <| ja (ii 0) rfl <| ja (ii 3) rfl ?_
       refine J.nil <| CJ.by (fun w hs => Sep.rowNil (e := 3) (t := (.int .i64)) hs) <| CJ.by (fun w hs => Sep.rowNil (e := 3) (t := (.int .i64)) hs) <| CJ.ret ?_
       obtain rfl := si ho463
       refine .inr ⟨nofun, ?_⟩
       obtain rfl := si h
       exact ⟨_, _, Res.three rfl ⟨_, _, rfl, Ld.agg (cs := [ii 0, ii 0, ii 0, .slice none 0 0, .slice none 0 0, .slice none 0 0]) Tryz.underlying68 sz68 rfl (Rd.cls 2 0 rfl rfl)⟩ rfl rfl, ⟨0, 0, 0, [], [], [], 0, 3, none, 0, none, 0, none, 0, rfl, rfl, isNil, rfl⟩, hK320, fun w hs => (Sep.front 1 rfl (Sep.dropAt 2 rfl (Sep.dropAt 2 rfl (Sep.dropAt 2 rfl hs))))⟩
     refine CJ.skip <| CJ.seq <| CJ.region <| jm (ii (IntKind.wrap .i64 (i267 + i301))) rfl <| jm (ii i473) rfl <| jv (ii (IntKind.wrap .i64 ((IntKind.wrap .i64 (i267 + i301)) + i473))) (V.add rfl rfl) <| ja (ii (IntKind.wrap .i64 ((IntKind.wrap .i64 (i267 + i301)) + i473))) rfl ?_
     refine J.nil <| CJ.seq <| CJ.region <| jm (.string ⟨xa.toArray⟩) rfl <| jm (ii (IntKind.wrap .i64 ((IntKind.wrap .i64 (i267 + i301)) + i473))) rfl ?_
     obtain ⟨y491, hy492, ho463⟩ := ob ho463
     refine jv (.string ⟨y491.toArray⟩) (V.subs Tryz.underlying9 rfl (fun _ h => by cases h; exact ⟨_, rfl⟩) nofun nofun (fun _ => rfl) hy492) ?_
     obtain ⟨r493, hr494, ho463⟩ := ob ho463
     refine J.op rfl (A.call (L1 := []) Tryz.call117 rfl (ref19_taken_ok hr494) rfl rfl) ?_
     rintro _ _ _ ⟨v501, _, rfl, ⟨⟨l495, i496, i497, ad498, cp499, rfl, rfl, rfl⟩, rfl⟩, _, rfl⟩
     refine J.wit Row.hn fun hn500 => jm (.tuple #[.slice ad498 l495.length cp499, ii i496, ii i497]) rfl <| jx (.slice ad498 l495.length cp499) rfl rfl <| jx (ii i496) rfl rfl <| jx (ii i497) rfl rfl <| ja (.slice ad498 l495.length cp499) rfl <| ja (ii i496) rfl ?_
     refine ja (ii i497) rfl <| J.nil <| CJ.seq <| CJ.seq <| CJ.region <| jm (ii i497) rfl <| jv (.bool (!decide (i497 = 0))) (V.neq rfl rfl) ?_
     refine J.nil <| cc rfl ho463 (fun hc505 ho463 => ?_) fun hc505 ho463 => ?_
     · refine CJ.seq <| CJ.region <| jv (.agg #[ii 0, ii 0, ii 0, .slice none 0 0, .slice none 0 0, .slice none 0 0]) (V.build inf68 places68 rfl rfl) <| jm (ii i497) rfl <| J.front 2 rfl <| js [ii 0, ii 0, ii 0, .slice none 0 0, .slice none 0 0, .slice none 0 0] sz68 rfl rfl rfl rfl rfl rfl <| ja (ii 0) rfl ?_
       refine ja (ii i497) rfl <| J.nil <| CJ.by (fun w hs => Sep.rowNil (e := 3) (t := (.int .i64)) hs) <| CJ.by (fun w hs => Sep.rowNil (e := 3) (t := (.int .i64)) hs) <| CJ.ret ?_
       obtain rfl := si ho463
       refine .inr ⟨nofun, ?_⟩
       obtain rfl := si h
       exact ⟨_, _, Res.three rfl ⟨_, _, rfl, Ld.agg (cs := [ii 0, ii 0, ii 0, .slice none 0 0, .slice none 0 0, .slice none 0 0]) Tryz.underlying68 sz68 rfl (Rd.cls 2 0 rfl rfl)⟩ rfl rfl, ⟨0, 0, 0, [], [], [], 0, i497, none, 0, none, 0, none, 0, rfl, rfl, isNil, rfl⟩, hK320, fun w hs => (Sep.front 1 rfl (Sep.dropAt 2 rfl (Sep.dropAt 2 rfl (Sep.dropAt 2 rfl (Sep.dropAt 2 rfl hs)))))⟩
     refine CJ.skip <| CJ.seq <| CJ.region <| jm (ii (IntKind.wrap .i64 ((IntKind.wrap .i64 (i267 + i301)) + i473))) rfl <| jm (ii i496) rfl <| jv (ii (IntKind.wrap .i64 ((IntKind.wrap .i64 ((IntKind.wrap .i64 (i267 + i301)) + i473)) + i496))) (V.add rfl rfl) <| ja (ii (IntKind.wrap .i64 ((IntKind.wrap .i64 ((IntKind.wrap .i64 (i267 + i301)) + i473)) + i496))) rfl ?_
     refine J.nil <| CJ.seq <| CJ.region <| jm (.slice ad498 l495.length cp499) rfl <| jv _ (V.fad Tryz.underlying68 rfl nz66 rfl) <| J.front 3 rfl <| js1 [ii i266, ii i357, ii i358, .slice ad360 l359.length cp361, .slice ad498 l495.length cp499, .slice none 0 0] sz66 rfl rfl rfl rfl rfl rfl ?_
     refine J.nil <| CJ.seq <| CJ.region <| jm (ii i266) rfl <| jv (.bool (decide (i266 = 2))) (V.eql rfl rfl) <| J.nil <| cc rfl ho463 (fun hc508 ho463 => ?_) fun hc508 ho463 => ?_
     · refine CJ.region <| jm (.slice ad475 l472.length cp476) rfl <| jv _ (V.fad Tryz.underlying68 rfl nz66 rfl) <| js1 [ii i266, ii i357, ii i358, .slice ad475 l472.length cp476, .slice ad498 l495.length cp499, .slice none 0 0] sz66 rfl rfl rfl rfl rfl rfl <| J.front 2 rfl <| J.persist (Hp.nil_le _) (by decide) fun K509 hK510 f511 => J.by (fun w hs => Sep.rowNil (e := 3) (t := (.int .i64)) hs) ?_
       refine J.front 2 rfl <| J.front 2 rfl <| J.front 3 rfl <| J.nil ?_
       obtain rfl := si ho463
       exact .inl ⟨rfl, _, rfl, ⟨IntKind.wrap .i64 ((IntKind.wrap .i64 ((IntKind.wrap .i64 (i267 + i301)) + i473)) + i496), l472, l495, [], ad475, cp476, ad498, cp499, none, 0, rfl, ⟨rfl, rfl, rfl, trivial⟩, hK510, f511, rfl⟩⟩
     refine CJ.region <| jm (.slice ad475 l472.length cp476) rfl <| jv _ (V.fad Tryz.underlying68 rfl nz66 rfl) <| js1 [ii i266, ii i357, ii i358, .slice ad360 l359.length cp361, .slice ad498 l495.length cp499, .slice ad475 l472.length cp476] sz66 rfl rfl rfl rfl rfl rfl <| J.front 2 rfl <| J.front 2 rfl <| J.front 2 rfl ?_
     refine J.front 3 rfl <| J.nil ?_
     obtain rfl := si ho463
     exact .inl ⟨rfl, _, rfl, ⟨IntKind.wrap .i64 ((IntKind.wrap .i64 ((IntKind.wrap .i64 (i267 + i301)) + i473)) + i496), l359, l495, l472, ad360, cp361, ad498, cp499, ad475, cp476, rfl, ⟨rfl, rfl, rfl, trivial⟩, (Hp.le_refl _), f362, rfl⟩⟩
   refine CJ.by (fun w hs => Sep.rowNil (e := 3) (t := (.int .i64)) hs) <| CJ.by (fun w hs => Sep.rowNil (e := 3) (t := (.int .i64)) hs) <| CJ.front 1 rfl <| CJ.front 3 rfl <| CJ.front 3 rfl <| CJ.skip ?_
   obtain rfl := si ho463
   exact .inl ⟨rfl, _, rfl, ⟨IntKind.wrap .i64 (i267 + i301), l359, [], [], ad360, cp361, none, 0, none, 0, rfl, ⟨rfl, rfl, rfl, trivial⟩, (Hp.le_refl _), f362, rfl⟩⟩
 rintro s ρ K446 _ ho515 ⟨i447, l448, l452, l457, ad449, cp450, ad453, cp454, ad458, cp459, rfl, hf516, hk517, f451, rfl⟩
 subst ho515
 obtain ⟨ρ, rfl⟩ := hf516.ex
 refine PJ.front 2 rfl <| PJ.wit Row.hn fun hn456 => PJ.front 3 rfl <| PJ.wit Row.hn fun hn461 => PJ.done <| CJ.seq <| CJ.region ?_
 refine jv (.agg #[ii i266, ii i357, ii i358, .slice ad449 l448.length cp450, .slice ad453 l452.length cp454, .slice ad458 l457.length cp459]) (V.ld rfl (Ld.agg (cs := [ii i266, ii i357, ii i358, .slice ad449 l448.length cp450, .slice ad453 l452.length cp454, .slice ad458 l457.length cp459]) Tryz.underlying68 sz68 rfl (Rd.cls 3 0 rfl rfl))) <| jm (ii i447) rfl <| J.front 2 rfl <| js [ii i266, ii i357, ii i358, .slice ad449 l448.length cp450, .slice ad453 l452.length cp454, .slice ad458 l457.length cp459] sz68 rfl rfl rfl rfl rfl rfl <| ja (ii i447) rfl <| ja (ii 0) rfl <| J.nil ?_
 refine CJ.ret ?_
 obtain rfl := si h
 exact ⟨_, _, Res.three rfl ⟨_, _, rfl, Ld.agg (cs := [ii i266, ii i357, ii i358, .slice ad449 l448.length cp450, .slice ad453 l452.length cp454, .slice ad458 l457.length cp459]) Tryz.underlying68 sz68 rfl (Rd.cls 0 0 rfl rfl)⟩ rfl rfl, ⟨i266, i357, i358, l448, l452, l457, i447, 0, ad449, cp450, ad453, cp454, ad458, cp459, rfl, rfl, f451, rfl⟩, (hK320.trans hk517), fun w hs => (Sep.front 1 rfl (Sep.dropAt 2 rfl (Sep.dropAt 0 rfl hs)))⟩
noncomputable def fn_ref20_block_l1 (i310 : Int) : (List UInt8 × Int × Int × (List (Int × Int × Int × Int × Bool))) → Option ((List UInt8 × Int × Int × (List (Int × Int × Int × Int × Bool))) ⊕ (List UInt8 × Int × (List (Int × Int × Int × Int × Bool)))) := fun ((s479, i480, i481, l482) : (List UInt8 × Int × Int × (List (Int × Int × Int × Int × Bool)))) => cond ((decide (i481 < i310)) && (decide (i480 = 0))) ((fn_ref18_Take s479).bind fun (i534, i535, i536, i537, t538, i539, i540) => (subL s479 i539 (((s479.length : Nat) : Int))).bind fun y545 => (app l482 (([(i534, i535, i536, i537, t538)] : List (Int × Int × Int × Int × Bool)))).bind fun z550 => some (.inl ((y545, i540, IntKind.wrap .i64 (i481 + 1), z550)))) (some (.inr (((s479, i480, l482)))))
noncomputable def fn_ref20_block (xa : (List UInt8)) : Option (((List (Int × Int × Int × Int × Bool)) × Int × Int × Int × (List Int) × (List Int) × (List Int) × List UInt8 × Int)) :=
  (fn_ref20_count xa).bind fun (i310, s311, i312) => (loop (fn_ref20_block_l1 i310) (s311, i312, 0, []) : Option ((List UInt8 × Int × (List (Int × Int × Int × Int × Bool))))).bind fun (s432, i433, l434) => cond (!decide (i433 = 0)) (some (([], 0, 0, 0, [], [], [], xa, i433))) ((fn_ref19_Take s432).bind fun (i564, i565, i566, l567, l568, l569, i570, i571) => (subL s432 i570 (((s432.length : Nat) : Int))).bind fun y589 => some ((l434, i564, i565, i566, l567, l568, l569, y589, i571)))
set_option maxRecDepth 100000 in
set_option maxHeartbeats 4000000 in
theorem ref20_block_ok {K : Hp} {xa : (List UInt8)}   {r : ((List (Int × Int × Int × Int × Bool)) × Int × Int × Int × (List Int) × (List Int) × (List Int) × List UInt8 × Int)} (h : fn_ref20_block xa = some r) :
    Tr Tryz.prog 81 #[.string ⟨xa.toArray⟩] K [] (fun v K' L' => (∃ (l283 : (List (Int × Int × Int × Int × Bool))) (i288 : Int) (i289 : Int) (i290 : Int) (l291 : (List Int)) (l295 : (List Int)) (l300 : (List Int)) (s305 : List UInt8) (i306 : Int) (ad284 : Option Addr) (cp285 : Nat) (ad292 : Option Addr) (cp293 : Nat) (ad296 : Option Addr) (cp297 : Nat) (ad301 : Option Addr) (cp302 : Nat), (l283, i288, i289, i290, l291, l295, l300, s305, i306) = r ∧ .tuple #[.agg #[.slice ad284 l283.length cp285, ii i288, ii i289, ii i290, .slice ad292 l291.length cp293, .slice ad296 l295.length cp297, .slice ad301 l300.length cp302], .string ⟨s305.toArray⟩, ii i306] = v ∧ Is K' (.sl (.int .i64)) [.slice ad292 l291.length cp293] l291 ∧ L' = [Row Hp.nil 73 (.cons (.int .i64) (.cons (.int .i64) (.cons (.int .i64) (.cons (.int .i64) (.one .bool))))) (.slice ad284 l283.length cp285) l283, Row Hp.nil 3 (.int .i64) (.slice ad296 l295.length cp297) l295, Row Hp.nil 3 (.int .i64) (.slice ad301 l300.length cp302) l300])) := by
 refine Tr.of Tryz.func81 rfl Tryz.ntmps81 rfl fun E F => ?_
 unfold fn_ref20_block at h
 refine CJ.seq <| CJ.region <| jal inf70 [.slice none 0 0, ii 0, ii 0, ii 0, .slice none 0 0, .slice none 0 0, .slice none 0 0] rfl fun b307 => ja (.string ⟨([] : List UInt8).toArray⟩) rfl <| ja (ii 0) rfl <| J.nil <| CJ.seq ?_
 refine CJ.region <| jm (.string ⟨xa.toArray⟩) rfl ?_
 obtain ⟨r308, hr309, h⟩ := ob h
 refine J.op rfl (A.call (L1 := []) Tryz.call30 rfl (ref20_count_ok hr309) rfl rfl) ?_
 rintro _ _ _ ⟨v313, _, rfl, ⟨⟨i310, s311, i312, rfl, rfl, rfl⟩, rfl⟩, _, rfl⟩
 refine jm (.tuple #[ii i310, .string ⟨s311.toArray⟩, ii i312]) rfl <| jx (ii i310) rfl rfl <| jx (.string ⟨s311.toArray⟩) rfl rfl <| jx (ii i312) rfl rfl <| ja (ii i310) rfl <| ja (.string ⟨s311.toArray⟩) rfl <| ja (ii i312) rfl ?_
 refine J.nil <| CJ.seq <| CJ.region <| jv (.agg #[.slice none 0 0, ii 0, ii 0, ii 0, .slice none 0 0, .slice none 0 0, .slice none 0 0]) (V.build inf70 places70 rfl rfl) <| jal inf70 [.slice none 0 0, ii 0, ii 0, ii 0, .slice none 0 0, .slice none 0 0, .slice none 0 0] rfl fun b316 => js [.slice none 0 0, ii 0, ii 0, ii 0, .slice none 0 0, .slice none 0 0, .slice none 0 0] sz70 rfl rfl rfl rfl rfl rfl <| J.nil ?_
 refine CJ.seq <| CJ.seq <| CJ.region <| ja (ii 0) rfl <| J.nil ?_
 obtain ⟨o439, ho440, h⟩ := ob h
 refine CJ.meetN (fun ρ K' L' => ∃ (s432 : List UInt8) (i433 : Int) (l434 : (List (Int × Int × Int × Int × Bool))) (ad435 : Option Addr) (cp436 : Nat), (s432, i433, l434) = o439 ∧ Fits [(0, .string ⟨xa.toArray⟩), (2, .pointer (some ⟨b307, 0, none⟩)), (6, .string ⟨s432.toArray⟩), (7, ii i433), (8, .pointer (some ⟨b316, 0, none⟩))] ρ ∧ K = K' ∧ L' = Cl b307 70 [.slice none 0 0, ii 0, ii 0, ii 0, .slice none 0 0, .slice none 0 0, .slice none 0 0] :: Cl b316 70 [.slice ad435 l434.length cp436, ii 0, ii 0, ii 0, .slice none 0 0, .slice none 0 0, .slice none 0 0] :: Row Hp.nil 73 (.cons (.int .i64) (.cons (.int .i64) (.cons (.int .i64) (.cons (.int .i64) (.one .bool))))) (.slice ad435 l434.length cp436) l434 :: F) ?_ ?_
 · refine CJ.block <| CJ.by (fun w hs => Sep.rowNil (e := 73) (t := (.cons (.int .i64) (.cons (.int .i64) (.cons (.int .i64) (.cons (.int .i64) (.one .bool)))))) hs) <| CJ.front 1 rfl <| CJ.front 2 rfl <| CJ.loop (fun s ρ K' L' => ∃ (s479 : List UInt8) (i480 : Int) (i481 : Int) (l482 : (List (Int × Int × Int × Int × Bool))) (ad483 : Option Addr) (cp484 : Nat), (s479, i480, i481, l482) = s ∧ Fits [(0, .string ⟨xa.toArray⟩), (2, .pointer (some ⟨b307, 0, none⟩)), (5, ii i310), (6, .string ⟨s479.toArray⟩), (7, ii i480), (8, .pointer (some ⟨b316, 0, none⟩)), (9, ii i481)] ρ ∧ K = K' ∧ L' = Cl b307 70 [.slice none 0 0, ii 0, ii 0, ii 0, .slice none 0 0, .slice none 0 0, .slice none 0 0] :: Cl b316 70 [.slice ad483 l482.length cp484, ii 0, ii 0, ii 0, .slice none 0 0, .slice none 0 0, .slice none 0 0] :: Row Hp.nil 73 (.cons (.int .i64) (.cons (.int .i64) (.cons (.int .i64) (.cons (.int .i64) (.one .bool))))) (.slice ad483 l482.length cp484) l482 :: F) ho440 ⟨s311, i312, 0, [], none, 0, rfl, ⟨rfl, rfl, rfl, rfl, rfl, rfl, rfl, trivial⟩, rfl, rfl⟩ ?_
   rintro s ρ _ _ r527 ⟨s479, i480, i481, l482, ad483, cp484, rfl, hf525, rfl, rfl⟩ h523
   obtain ⟨ρ, rfl⟩ := hf525.ex
   refine CJ.front 2 rfl <| CJ.wit Row.hn fun hn486 => CJ.seq <| CJ.seq <| CJ.region <| jm (ii i481) rfl <| jm (ii i310) rfl ?_
   refine jv (.bool (decide (i481 < i310))) (V.lss rfl rfl) <| jm (.bool (decide (i481 < i310))) rfl <| J.cut 3 <| jmeet [(29, .bool ((decide (i481 < i310)) && (decide (i480 = 0)))), (0, .string ⟨xa.toArray⟩), (2, .pointer (some ⟨b307, 0, none⟩)), (5, ii i310), (6, .string ⟨s479.toArray⟩), (7, ii i480), (8, .pointer (some ⟨b316, 0, none⟩)), (9, ii i481)] ?_ ?_
   · rcases bt (decide (i481 < i310)) with hc530 | hc530
     · refine J.run rfl rfl rfl hc530 <| jm (ii i480) rfl <| J.run rfl rfl rfl hc530 <| jv (.bool (decide (i480 = 0))) (V.eql rfl rfl) <| jv (.bool (decide (i480 = 0))) (V.pickT rfl hc530 rfl) <| J.nil ?_
       exact ⟨rfl, ⟨(by simp only [hc530]; rfl), rfl, rfl, rfl, rfl, rfl, rfl, rfl, trivial⟩, rfl, rfl⟩
     refine J.skip rfl rfl rfl rfl hc530 <| J.skip rfl rfl rfl rfl hc530 <| jv (.bool false) (V.pickF rfl hc530 rfl) <| J.nil ?_
     exact ⟨rfl, ⟨(by simp only [hc530]; rfl), rfl, rfl, rfl, rfl, rfl, rfl, rfl, trivial⟩, rfl, rfl⟩
   intro ρ
   refine J.nil <| cc rfl h523 (fun hc531 h523 => ?_) fun hc531 h523 => ?_
   · refine CJ.skip <| CJ.seq <| CJ.block <| CJ.seq <| CJ.region <| jm (.string ⟨s479.toArray⟩) rfl ?_
     obtain ⟨r532, hr533, h523⟩ := ob h523
     refine J.op rfl (A.call (L1 := []) Tryz.call102 rfl (ref18_Take_ok hr533) rfl rfl) ?_
     rintro _ _ _ ⟨v541, _, rfl, ⟨⟨i534, i535, i536, i537, t538, i539, i540, rfl, rfl, rfl⟩, rfl⟩, _, rfl⟩
     refine jm (.tuple #[.agg #[ii i534, ii i535, ii i536, ii i537, .bool t538], ii i539, ii i540]) rfl <| jx (.agg #[ii i534, ii i535, ii i536, ii i537, .bool t538]) rfl rfl <| jx (ii i539) rfl rfl <| jx (ii i540) rfl rfl <| jal inf73 [ii 0, ii 0, ii 0, ii 0, .bool false] rfl fun b544 => js [ii i534, ii i535, ii i536, ii i537, .bool t538] sz73 rfl rfl rfl rfl rfl rfl <| ja (ii i539) rfl ?_
     refine ja (ii i540) rfl <| J.nil <| CJ.seq <| CJ.region <| jm (ii i540) rfl <| ja (ii i540) rfl <| J.nil ?_
     refine CJ.seq <| CJ.region <| jm (.string ⟨s479.toArray⟩) rfl <| jm (ii i539) rfl ?_
     obtain ⟨y545, hy546, h523⟩ := ob h523
     refine jv (.string ⟨y545.toArray⟩) (V.subs Tryz.underlying9 rfl (fun _ h => by cases h; exact ⟨_, rfl⟩) nofun nofun (fun _ => rfl) hy546) <| ja (.string ⟨y545.toArray⟩) rfl <| J.nil <| CJ.region <| jv _ (V.fad Tryz.underlying70 rfl nz65 rfl) <| jv (.slice ad483 l482.length cp484) (V.ld rfl (Ld.sc sc65 (Rd.cl 3 rfl rfl))) <| jv (.agg #[ii i534, ii i535, ii i536, ii i537, .bool t538]) (V.ld rfl (Ld.agg (cs := [ii i534, ii i535, ii i536, ii i537, .bool t538]) Tryz.underlying73 sz73 rfl (Rd.cls 0 0 rfl rfl))) ?_
     refine J.op rfl (A.lit (K0 := Hp.nil) (ty := (.cons (.int .i64) (.cons (.int .i64) (.cons (.int .i64) (.cons (.int .i64) (.one .bool)))))) (xs := ([(i534, i535, i536, i537, t538)] : List (Int × Int × Int × Int × Bool))) Tryz.underlying65 inf73 rfl (by decide) rfl rfl rfl ⟨_, _, rfl, ⟨_, _, rfl, rfl, rfl, ⟨_, _, rfl, rfl, rfl, ⟨_, _, rfl, rfl, rfl, ⟨_, _, rfl, rfl, rfl, rfl⟩⟩⟩⟩, rfl⟩ rfl (by decide)) ?_
     rintro _ _ _ ⟨b547, rfl, rfl, rfl⟩
     have hn548 : ([(i534, i535, i536, i537, t538)] : List (Int × Int × Int × Int × Bool)) ≠ [] → ∃ g, (some ⟨b547, 0, none⟩ : Option Addr) = some ⟨g, 0, none⟩ := fun _ => ⟨b547, rfl⟩
     obtain ⟨z550, hz551, h523⟩ := ob h523
     refine J.front 2 rfl <| J.op rfl (A.appR (Kr := Hp.nil) Tryz.underlying65 inf73 rfl rfl (by decide) (by decide) rfl rfl (Els.flat rfl) (Els.flat rfl) hz551) ?_
     rintro _ _ _ ⟨v552, rfl, rfl, rfl⟩
     refine J.wit Row.form ?_
     rintro ⟨ad553, cp554, rfl, _, _, hn555⟩
     refine jv _ (V.fad Tryz.underlying70 rfl nz65 rfl) <| J.front 3 rfl <| js1 [.slice ad553 z550.length cp554, ii 0, ii 0, ii 0, .slice none 0 0, .slice none 0 0, .slice none 0 0] sz65 rfl rfl rfl rfl rfl rfl <| J.nil <| CJ.region <| jm (ii i481) rfl <| jv (ii (IntKind.wrap .i64 (i481 + 1))) (V.add rfl rfl) ?_
     refine ja (ii (IntKind.wrap .i64 (i481 + 1))) rfl <| J.dropAt 2 rfl <| J.front 1 rfl <| J.front 1 rfl <| J.front 2 rfl <| J.nil ?_
     obtain rfl := si h523
     exact ⟨rfl, ⟨y545, i540, IntKind.wrap .i64 (i481 + 1), z550, ad553, cp554, rfl, ⟨rfl, rfl, rfl, rfl, rfl, rfl, rfl, trivial⟩, rfl, rfl⟩⟩
   refine CJ.front 2 rfl <| CJ.front 2 rfl <| CJ.exit ?_
   obtain rfl := si h523
   refine ⟨nofun, fun e => ?_⟩
   subst e
   exact ⟨rfl, ⟨s479, i480, l482, ad483, cp484, rfl, ⟨rfl, rfl, rfl, rfl, rfl, trivial⟩, rfl, rfl⟩⟩
 rintro ρ _ _ ⟨s432, i433, l434, ad435, cp436, rfl, hf556, rfl, rfl⟩
 obtain ⟨ρ, rfl⟩ := hf556.ex
 refine PJ.front 2 rfl <| PJ.wit Row.hn fun hn438 => PJ.done <| CJ.seq <| CJ.seq <| CJ.region <| jm (ii i433) rfl ?_
 refine jv (.bool (!decide (i433 = 0))) (V.neq rfl rfl) <| J.nil <| cc rfl h (fun hc558 h => ?_) fun hc558 h => ?_
 · refine CJ.seq <| CJ.region <| jv (.agg #[.slice none 0 0, ii 0, ii 0, ii 0, .slice none 0 0, .slice none 0 0, .slice none 0 0]) (V.build inf70 places70 rfl rfl) <| jm (.string ⟨xa.toArray⟩) rfl <| jm (ii i433) rfl <| J.front 1 rfl <| js [.slice none 0 0, ii 0, ii 0, ii 0, .slice none 0 0, .slice none 0 0, .slice none 0 0] sz70 rfl rfl rfl rfl rfl rfl ?_
   refine ja (.string ⟨xa.toArray⟩) rfl <| ja (ii i433) rfl <| J.nil <| CJ.by (fun w hs => Sep.rowNil (e := 73) (t := (.cons (.int .i64) (.cons (.int .i64) (.cons (.int .i64) (.cons (.int .i64) (.one .bool)))))) hs) <| CJ.by (fun w hs => Sep.rowNil (e := 3) (t := (.int .i64)) hs) <| CJ.by (fun w hs => Sep.rowNil (e := 3) (t := (.int .i64)) hs) <| CJ.ret ?_
   obtain rfl := si h
   exact ⟨_, _, Res.three rfl ⟨_, _, rfl, Ld.agg (cs := [.slice none 0 0, ii 0, ii 0, ii 0, .slice none 0 0, .slice none 0 0, .slice none 0 0]) Tryz.underlying70 sz70 rfl (Rd.cls 3 0 rfl rfl)⟩ rfl rfl, ⟨[], 0, 0, 0, [], [], [], xa, i433, none, 0, none, 0, none, 0, none, 0, rfl, rfl, isNil, rfl⟩, (Hp.le_refl _), fun w hs => (Sep.front 2 rfl (Sep.front 1 rfl (Sep.dropAt 3 rfl (Sep.dropAt 3 rfl (Sep.dropAt 3 rfl hs)))))⟩
 refine CJ.skip <| CJ.seq <| CJ.region <| jm (.string ⟨s432.toArray⟩) rfl ?_
 obtain ⟨r562, hr563, h⟩ := ob h
 refine J.op rfl (A.call (L1 := []) Tryz.call103 rfl (ref19_Take_ok hr563) rfl rfl) ?_
 rintro _ K582 _ ⟨v581, _, rfl, ⟨i564, i565, i566, l567, l568, l569, i570, i571, ad572, cp573, ad574, cp575, ad576, cp577, rfl, rfl, f578, rfl⟩, hK583, rfl⟩
 refine J.wit Row.hn fun hn579 => J.front 1 rfl <| J.wit Row.hn fun hn580 => jm (.tuple #[.agg #[ii i564, ii i565, ii i566, .slice ad572 l567.length cp573, .slice ad574 l568.length cp575, .slice ad576 l569.length cp577], ii i570, ii i571]) rfl <| jx (.agg #[ii i564, ii i565, ii i566, .slice ad572 l567.length cp573, .slice ad574 l568.length cp575, .slice ad576 l569.length cp577]) rfl rfl <| jx (ii i570) rfl rfl <| jx (ii i571) rfl rfl ?_
 refine jal inf68 [ii 0, ii 0, ii 0, .slice none 0 0, .slice none 0 0, .slice none 0 0] rfl fun b586 => js [ii i564, ii i565, ii i566, .slice ad572 l567.length cp573, .slice ad574 l568.length cp575, .slice ad576 l569.length cp577] sz68 rfl rfl rfl rfl rfl rfl <| ja (ii i570) rfl <| ja (ii i571) rfl <| J.nil <| CJ.seq <| CJ.region ?_
 refine jv (.agg #[ii i564, ii i565, ii i566, .slice ad572 l567.length cp573, .slice ad574 l568.length cp575, .slice ad576 l569.length cp577]) (V.ld rfl (Ld.agg (cs := [ii i564, ii i565, ii i566, .slice ad572 l567.length cp573, .slice ad574 l568.length cp575, .slice ad576 l569.length cp577]) Tryz.underlying68 sz68 rfl (Rd.cls 0 0 rfl rfl))) <| jv _ (V.fad Tryz.underlying70 rfl nz68 rfl) <| J.front 5 rfl <| js [.slice ad435 l434.length cp436, ii i564, ii i565, ii i566, .slice ad572 l567.length cp573, .slice ad574 l568.length cp575, .slice ad576 l569.length cp577] sz68 rfl rfl rfl rfl rfl rfl <| J.nil <| CJ.seq <| CJ.mix [Cl b316 70 [.slice ad435 l434.length cp436, ii i564, ii i565, ii i566, .slice ad572 l567.length cp573, .slice ad574 l568.length cp575, .slice ad576 l569.length cp577], Cl b586 68 [ii i564, ii i565, ii i566, .slice ad572 l567.length cp573, .slice ad574 l568.length cp575, .slice ad576 l569.length cp577], Row Hp.nil 3 (.int .i64) (.slice ad576 l569.length cp577) l569, Row Hp.nil 3 (.int .i64) (.slice ad574 l568.length cp575) l568, Row Hp.nil 73 (.cons (.int .i64) (.cons (.int .i64) (.cons (.int .i64) (.cons (.int .i64) (.one .bool))))) (.slice ad435 l434.length cp436) l434] [([0, 1, 2, 3, 4], 5)] [6, 7] [] mixO (by decide +kernel) ⟨0, rfl, 0, rfl, 0, rfl, 0, rfl, 0, rfl, trivial⟩ rfl rfl rfl ?_
 refine JM.cons <| qv (.agg #[.slice ad435 l434.length cp436, ii i564, ii i565, ii i566, .slice ad572 l567.length cp573, .slice ad574 l568.length cp575, .slice ad576 l569.length cp577]) (V.ld rfl (Ld.agg (cs := [.slice ad435 l434.length cp436, ii i564, ii i565, ii i566, .slice ad572 l567.length cp573, .slice ad574 l568.length cp575, .slice ad576 l569.length cp577]) Tryz.underlying70 sz70 rfl (Rd.cls 0 0 rfl rfl))) <| qm (.string ⟨s432.toArray⟩) rfl <| qm (ii i570) rfl ?_
 obtain ⟨y589, hy590, h⟩ := ob h
 refine qv (.string ⟨y589.toArray⟩) (V.subs Tryz.underlying9 rfl (fun _ h => by cases h; exact ⟨_, rfl⟩) nofun nofun (fun _ => rfl) hy590) <| qm (ii i571) rfl <| JQ.nil <| JA.front 5 rfl <| JA.op rfl (A.store (v := .agg #[.slice ad435 l434.length cp436, ii i564, ii i565, ii i566, .slice ad572 l567.length cp573, .slice ad574 l568.length cp575, .slice ad576 l569.length cp577]) (cs' := [.slice ad435 l434.length cp436, ii i564, ii i565, ii i566, .slice ad572 l567.length cp573, .slice ad574 l568.length cp575, .slice ad576 l569.length cp577]) sz70 rfl rfl rfl rfl rfl rfl) ?_
 rintro _ _ _ ⟨rfl, rfl, rfl⟩
 refine ⟨fun w hs => Hold.sub (Hp.le_refl _) ⟨1, rfl, 1, rfl, 1, rfl, 1, rfl, 1, rfl, trivial⟩ hs, ?_⟩
 refine JM.nil <| qa (.string ⟨y589.toArray⟩) rfl <| qa (ii i571) rfl <| JQ.nil <| J.nil <| CJ.ret ?_
 obtain rfl := si h
 exact ⟨_, _, Res.three rfl ⟨_, _, rfl, Ld.agg (cs := [.slice ad435 l434.length cp436, ii i564, ii i565, ii i566, .slice ad572 l567.length cp573, .slice ad574 l568.length cp575, .slice ad576 l569.length cp577]) Tryz.underlying70 sz70 rfl (Rd.cls 0 0 rfl rfl)⟩ rfl rfl, ⟨l434, i564, i565, i566, l567, l568, l569, y589, i571, ad435, cp436, ad572, cp573, ad574, cp575, ad576, cp577, rfl, rfl, f578, rfl⟩, hK583, fun w hs => (Sep.front 2 rfl (Sep.front 1 rfl (Sep.dropAt 0 rfl (Sep.dropAt 0 rfl (Sep.dropAt 0 rfl hs)))))⟩
noncomputable def fn_ref20_blocks_l1 (i405 : Int) : (List UInt8 × Int × (List ((List (Int × Int × Int × Int × Bool)) × (Int × Int × Int × (List Int) × (List Int) × (List Int)))) × Int) → Option ((List UInt8 × Int × (List ((List (Int × Int × Int × Int × Bool)) × (Int × Int × Int × (List Int) × (List Int) × (List Int)))) × Int) ⊕ (List UInt8 × Int × (List ((List (Int × Int × Int × Int × Bool)) × (Int × Int × Int × (List Int) × (List Int) × (List Int)))))) := fun ((s671, i672, l673, i678) : (List UInt8 × Int × (List ((List (Int × Int × Int × Int × Bool)) × (Int × Int × Int × (List Int) × (List Int) × (List Int)))) × Int)) => cond ((decide (i678 < i405)) && (decide (i672 = 0))) ((fn_ref20_block s671).bind fun (l750, i751, i752, i753, l754, l755, l756, s757, i758) => (app l673 (([(l750, (i751, i752, i753, l754, l755, l756))] : List ((List (Int × Int × Int × Int × Bool)) × (Int × Int × Int × (List Int) × (List Int) × (List Int)))))).bind fun z790 => some (.inl ((s757, i758, z790, IntKind.wrap .i64 (i678 + 1))))) (some (.inr (((s671, i672, l673)))))
noncomputable def fn_ref20_blocks (xa : (List UInt8)) : Option (((List ((List (Int × Int × Int × Int × Bool)) × (Int × Int × Int × (List Int) × (List Int) × (List Int)))) × List UInt8 × Int)) :=
  (fn_ref20_count xa).bind fun (i405, s406, i407) => (loop (fn_ref20_blocks_l1 i405) ((s406, i407, ([] : List ((List (Int × Int × Int × Int × Bool)) × (Int × Int × Int × (List Int) × (List Int) × (List Int)))), 0)) : Option ((List UInt8 × Int × (List ((List (Int × Int × Int × Int × Bool)) × (Int × Int × Int × (List Int) × (List Int) × (List Int))))))).bind fun (s601, i602, l603) => some ((l603, s601, i602))
set_option maxRecDepth 100000 in
set_option maxHeartbeats 4000000 in
theorem ref20_blocks_ok {K : Hp} {xa : (List UInt8)}   {r : ((List ((List (Int × Int × Int × Int × Bool)) × (Int × Int × Int × (List Int) × (List Int) × (List Int)))) × List UInt8 × Int)} (h : fn_ref20_blocks xa = some r) :
    Tr Tryz.prog 35 #[.string ⟨xa.toArray⟩] K [] (fun v K' L' => (∃ (l396 : (List ((List (Int × Int × Int × Int × Bool)) × (Int × Int × Int × (List Int) × (List Int) × (List Int))))) (s401 : List UInt8) (i402 : Int) (ad397 : Option Addr) (cp398 : Nat), (l396, s401, i402) = r ∧ .tuple #[.slice ad397 l396.length cp398, .string ⟨s401.toArray⟩, ii i402] = v ∧ L' = [Row K' 70 (.cons (.sl (.cons (.int .i64) (.cons (.int .i64) (.cons (.int .i64) (.cons (.int .i64) (.one .bool)))))) (.one (.cons (.int .i64) (.cons (.int .i64) (.cons (.int .i64) (.cons (.sl (.int .i64)) (.cons (.sl (.int .i64)) (.one (.sl (.int .i64)))))))))) (.slice ad397 l396.length cp398) l396])) := by
 refine Tr.of Tryz.func35 rfl Tryz.ntmps35 rfl fun E F => ?_
 unfold fn_ref20_blocks at h
 refine CJ.seq <| CJ.region <| ja (.slice none 0 0) rfl <| ja (.string ⟨([] : List UInt8).toArray⟩) rfl <| ja (ii 0) rfl <| J.nil <| CJ.seq ?_
 refine CJ.region <| jm (.string ⟨xa.toArray⟩) rfl ?_
 obtain ⟨r403, hr404, h⟩ := ob h
 refine J.op rfl (A.call (L1 := []) Tryz.call30 rfl (ref20_count_ok hr404) rfl rfl) ?_
 rintro _ _ _ ⟨v408, _, rfl, ⟨⟨i405, s406, i407, rfl, rfl, rfl⟩, rfl⟩, _, rfl⟩
 refine jm (.tuple #[ii i405, .string ⟨s406.toArray⟩, ii i407]) rfl <| jx (ii i405) rfl rfl <| jx (.string ⟨s406.toArray⟩) rfl rfl <| jx (ii i407) rfl rfl <| ja (ii i405) rfl <| ja (.string ⟨s406.toArray⟩) rfl <| ja (ii i407) rfl ?_
 refine J.nil <| CJ.seq <| CJ.region ?_
 refine J.op rfl (A.lit (K0 := K) (ty := (.cons (.sl (.cons (.int .i64) (.cons (.int .i64) (.cons (.int .i64) (.cons (.int .i64) (.one .bool)))))) (.one (.cons (.int .i64) (.cons (.int .i64) (.cons (.int .i64) (.cons (.sl (.int .i64)) (.cons (.sl (.int .i64)) (.one (.sl (.int .i64))))))))))) (xs := ([] : List ((List (Int × Int × Int × Int × Bool)) × (Int × Int × Int × (List Int) × (List Int) × (List Int))))) Tryz.underlying32 inf70 rfl (by decide) rfl rfl rfl rfl rfl (by decide)) ?_
 rintro _ _ _ ⟨b411, rfl, rfl, rfl⟩
 have hn412 : ([] : List ((List (Int × Int × Int × Int × Bool)) × (Int × Int × Int × (List Int) × (List Int) × (List Int)))) ≠ [] → ∃ g, (some ⟨b411, 0, none⟩ : Option Addr) = some ⟨g, 0, none⟩ := fun _ => ⟨b411, rfl⟩
 refine ja (.slice (some ⟨b411, 0, none⟩) ((([] : List ((List (Int × Int × Int × Int × Bool)) × (Int × Int × Int × (List Int) × (List Int) × (List Int))))).length) 0) rfl <| J.nil <| CJ.seq <| CJ.seq <| CJ.region <| ja (ii 0) rfl <| J.nil ?_
 obtain ⟨o608, ho609, h⟩ := ob h
 refine CJ.meetN (fun ρ K' L' => ∃ (s601 : List UInt8) (i602 : Int) (l603 : (List ((List (Int × Int × Int × Int × Bool)) × (Int × Int × Int × (List Int) × (List Int) × (List Int))))) (ad604 : Option Addr) (cp605 : Nat), (s601, i602, l603) = o608 ∧ Fits [(6, .string ⟨s601.toArray⟩), (7, ii i602), (8, .slice ad604 l603.length cp605)] ρ ∧ Hp.le K K' ∧ L' = Row K' 70 (.cons (.sl (.cons (.int .i64) (.cons (.int .i64) (.cons (.int .i64) (.cons (.int .i64) (.one .bool)))))) (.one (.cons (.int .i64) (.cons (.int .i64) (.cons (.int .i64) (.cons (.sl (.int .i64)) (.cons (.sl (.int .i64)) (.one (.sl (.int .i64)))))))))) (.slice ad604 l603.length cp605) l603 :: F) ?_ ?_
 · refine CJ.block <| CJ.loop (fun s ρ K' L' => ∃ (s671 : List UInt8) (i672 : Int) (l673 : (List ((List (Int × Int × Int × Int × Bool)) × (Int × Int × Int × (List Int) × (List Int) × (List Int))))) (i678 : Int) (ad674 : Option Addr) (cp675 : Nat), (s671, i672, l673, i678) = s ∧ Fits [(5, ii i405), (6, .string ⟨s671.toArray⟩), (7, ii i672), (8, .slice ad674 l673.length cp675), (9, ii i678)] ρ ∧ Hp.le K K' ∧ L' = Row K' 70 (.cons (.sl (.cons (.int .i64) (.cons (.int .i64) (.cons (.int .i64) (.cons (.int .i64) (.one .bool)))))) (.one (.cons (.int .i64) (.cons (.int .i64) (.cons (.int .i64) (.cons (.sl (.int .i64)) (.cons (.sl (.int .i64)) (.one (.sl (.int .i64)))))))))) (.slice ad674 l673.length cp675) l673 :: F) ho609 ⟨s406, i407, ([] : List ((List (Int × Int × Int × Int × Bool)) × (Int × Int × Int × (List Int) × (List Int) × (List Int)))), 0, (some ⟨b411, 0, none⟩), 0, rfl, ⟨rfl, rfl, rfl, rfl, rfl, trivial⟩, (Hp.le_refl _), rfl⟩ ?_
   rintro s ρ K670 _ r743 ⟨s671, i672, l673, i678, ad674, cp675, rfl, hf741, hk742, rfl⟩ h740
   obtain ⟨ρ, rfl⟩ := hf741.ex
   refine CJ.wit Row.hn fun hn677 => CJ.seq <| CJ.seq <| CJ.region <| jm (ii i678) rfl <| jm (ii i405) rfl <| jv (.bool (decide (i678 < i405))) (V.lss rfl rfl) ?_
   refine jm (.bool (decide (i678 < i405))) rfl <| J.cut 3 <| jmeet [(26, .bool ((decide (i678 < i405)) && (decide (i672 = 0)))), (5, ii i405), (6, .string ⟨s671.toArray⟩), (7, ii i672), (8, .slice ad674 l673.length cp675), (9, ii i678)] ?_ ?_
   · rcases bt (decide (i678 < i405)) with hc746 | hc746
     · refine J.run rfl rfl rfl hc746 <| jm (ii i672) rfl <| J.run rfl rfl rfl hc746 <| jv (.bool (decide (i672 = 0))) (V.eql rfl rfl) <| jv (.bool (decide (i672 = 0))) (V.pickT rfl hc746 rfl) <| J.nil ?_
       exact ⟨rfl, ⟨(by simp only [hc746]; rfl), rfl, rfl, rfl, rfl, rfl, trivial⟩, rfl, rfl⟩
     refine J.skip rfl rfl rfl rfl hc746 <| J.skip rfl rfl rfl rfl hc746 <| jv (.bool false) (V.pickF rfl hc746 rfl) <| J.nil ?_
     exact ⟨rfl, ⟨(by simp only [hc746]; rfl), rfl, rfl, rfl, rfl, rfl, trivial⟩, rfl, rfl⟩
   intro ρ
   refine J.nil <| cc rfl h740 (fun hc747 h740 => ?_) fun hc747 h740 => ?_
   · refine CJ.skip <| CJ.seq <| CJ.block <| CJ.seq <| CJ.region <| jm (.string ⟨s671.toArray⟩) rfl ?_
     obtain ⟨r748, hr749, h740⟩ := ob h740
     refine J.op rfl (A.call (L1 := []) Tryz.call81 rfl (ref20_block_ok hr749) rfl rfl) ?_
     rintro _ K772 _ ⟨v771, _, rfl, ⟨l750, i751, i752, i753, l754, l755, l756, s757, i758, ad759, cp760, ad761, cp762, ad763, cp764, ad765, cp766, rfl, rfl, f767, rfl⟩, hK773, rfl⟩
     refine J.wit Row.hn fun hn768 => J.front 1 rfl <| J.wit Row.hn fun hn769 => J.front 2 rfl <| J.wit Row.hn fun hn770 => jm (.tuple #[.agg #[.slice ad759 l750.length cp760, ii i751, ii i752, ii i753, .slice ad761 l754.length cp762, .slice ad763 l755.length cp764, .slice ad765 l756.length cp766], .string ⟨s757.toArray⟩, ii i758]) rfl <| jx (.agg #[.slice ad759 l750.length cp760, ii i751, ii i752, ii i753, .slice ad761 l754.length cp762, .slice ad763 l755.length cp764, .slice ad765 l756.length cp766]) rfl rfl ?_
     refine jx (.string ⟨s757.toArray⟩) rfl rfl <| jx (ii i758) rfl rfl <| jal inf70 [.slice none 0 0, ii 0, ii 0, ii 0, .slice none 0 0, .slice none 0 0, .slice none 0 0] rfl fun b777 => js [.slice ad759 l750.length cp760, ii i751, ii i752, ii i753, .slice ad761 l754.length cp762, .slice ad763 l755.length cp764, .slice ad765 l756.length cp766] sz70 rfl rfl rfl rfl rfl rfl <| ja (.string ⟨s757.toArray⟩) rfl <| ja (ii i758) rfl <| J.nil ?_
     refine CJ.seq <| CJ.region <| jm (ii i758) rfl <| ja (ii i758) rfl <| J.nil <| CJ.seq <| CJ.region ?_
     refine jm (.string ⟨s757.toArray⟩) rfl <| ja (.string ⟨s757.toArray⟩) rfl <| J.nil <| CJ.region <| jm (.slice ad674 l673.length cp675) rfl <| jv (.agg #[.slice ad759 l750.length cp760, ii i751, ii i752, ii i753, .slice ad761 l754.length cp762, .slice ad763 l755.length cp764, .slice ad765 l756.length cp766]) (V.ld rfl (Ld.agg (cs := [.slice ad759 l750.length cp760, ii i751, ii i752, ii i753, .slice ad761 l754.length cp762, .slice ad763 l755.length cp764, .slice ad765 l756.length cp766]) Tryz.underlying70 sz70 rfl (Rd.cls 0 0 rfl rfl))) <| J.front 3 rfl ?_
     refine J.persist (Hp.nil_le _) (by decide) fun K778 hK779 f780 => J.front 2 rfl <| J.persist (Hp.nil_le _) (by decide) fun K781 hK782 f783 => J.front 1 rfl <| J.persist (Hp.nil_le _) (by decide) fun K784 hK785 f786 => ?_
     refine J.op rfl (A.lit (K0 := K784) (ty := (.cons (.sl (.cons (.int .i64) (.cons (.int .i64) (.cons (.int .i64) (.cons (.int .i64) (.one .bool)))))) (.one (.cons (.int .i64) (.cons (.int .i64) (.cons (.int .i64) (.cons (.sl (.int .i64)) (.cons (.sl (.int .i64)) (.one (.sl (.int .i64))))))))))) (xs := ([(l750, (i751, i752, i753, l754, l755, l756))] : List ((List (Int × Int × Int × Int × Bool)) × (Int × Int × Int × (List Int) × (List Int) × (List Int))))) Tryz.underlying32 inf70 rfl (by decide) rfl rfl rfl ⟨_, _, rfl, ⟨_, _, rfl, rfl, (f780.mono (hK782.trans hK785)), ⟨_, _, rfl, rfl, rfl, ⟨_, _, rfl, rfl, rfl, ⟨_, _, rfl, rfl, rfl, ⟨_, _, rfl, rfl, (f767.mono ((hK779.trans hK782).trans hK785)), ⟨_, _, rfl, rfl, (f783.mono hK785), f786⟩⟩⟩⟩⟩⟩, rfl⟩ rfl (by decide)) ?_
     rintro _ _ _ ⟨b787, rfl, rfl, rfl⟩
     have hn788 : ([(l750, (i751, i752, i753, l754, l755, l756))] : List ((List (Int × Int × Int × Int × Bool)) × (Int × Int × Int × (List Int) × (List Int) × (List Int)))) ≠ [] → ∃ g, (some ⟨b787, 0, none⟩ : Option Addr) = some ⟨g, 0, none⟩ := fun _ => ⟨b787, rfl⟩
     obtain ⟨z790, hz791, h740⟩ := ob h740
     refine J.front 2 rfl <| J.op rfl (A.appR (Kr := K784) Tryz.underlying32 inf70 rfl rfl (by decide) (by decide) rfl rfl (Els.mono (((hK773.trans hK779).trans hK782).trans hK785)) (Els.mono (Hp.le_refl _)) hz791) ?_
     rintro _ _ _ ⟨v792, rfl, rfl, rfl⟩
     refine J.wit Row.form ?_
     rintro ⟨ad793, cp794, rfl, _, _, hn795⟩
     refine ja (.slice ad793 z790.length cp794) rfl <| J.nil <| CJ.region <| jm (ii i678) rfl <| jv (ii (IntKind.wrap .i64 (i678 + 1))) (V.add rfl rfl) <| ja (ii (IntKind.wrap .i64 (i678 + 1))) rfl <| J.dropAt 1 rfl ?_
     refine J.nil ?_
     obtain rfl := si h740
     exact ⟨rfl, ⟨s757, i758, z790, IntKind.wrap .i64 (i678 + 1), ad793, cp794, rfl, ⟨rfl, rfl, rfl, rfl, rfl, trivial⟩, ((((hk742.trans hK773).trans hK779).trans hK782).trans hK785), rfl⟩⟩
   refine CJ.exit ?_
   obtain rfl := si h740
   refine ⟨nofun, fun e => ?_⟩
   subst e
   exact ⟨rfl, ⟨s671, i672, l673, ad674, cp675, rfl, ⟨rfl, rfl, rfl, trivial⟩, hk742, rfl⟩⟩
 rintro ρ K600 _ ⟨s601, i602, l603, ad604, cp605, rfl, hf796, hk797, rfl⟩
 obtain ⟨ρ, rfl⟩ := hf796.ex
 refine PJ.wit Row.hn fun hn607 => PJ.done <| CJ.seq <| CJ.region <| jm (.slice ad604 l603.length cp605) rfl <| jm (.string ⟨s601.toArray⟩) rfl <| jm (ii i602) rfl ?_
 refine ja (.slice ad604 l603.length cp605) rfl <| ja (.string ⟨s601.toArray⟩) rfl <| ja (ii i602) rfl <| J.nil <| CJ.ret ?_
 obtain rfl := si h
 exact ⟨_, _, Res.three rfl rfl rfl rfl, ⟨l603, s601, i602, ad604, cp605, rfl, rfl, rfl⟩, hk797, fun w hs => hs⟩

noncomputable def fn_ref20_Take (xa : (List UInt8)) : Option ((Int × Int × (List (Int × Int)) × (List (List (Int × Bool))) × (List (Int × Bool)) × (List (Int × (List (Int × Int)) × (List (List (Int × Bool))) × (List (Int × Bool)))) × (List ((List (Int × Int × Int × Int × Bool)) × (Int × Int × Int × (List Int) × (List Int) × (List Int)))) × Int)) :=
  (cond (decide ((((xa.length : Nat) : Int)) < 4)) (some (true)) ((subL xa 0 4).bind fun y140 => some (!decide (y140 = ([109, 105, 114, 1] : List UInt8))))).bind fun t137 => cond (t137) (some ((0, 0, [], [], [], [], [], 12))) ((subL xa 4 (((xa.length : Nat) : Int))).bind fun y149 => (fn_ref20_count y149).bind fun (i153, s154, i155) => cond (!decide (i155 = 0)) (some ((0, 0, [], [], [], [], [], i155))) ((fn_ref20_count s154).bind fun (i167, s168, i169) => cond (!decide (i169 = 0)) (some ((0, 0, [], [], [], [], [], i169))) ((fn_ref17_TakeBounds s168 65536).bind fun (l181, i182, i183) => cond (!decide (i183 = 0)) (some ((0, 0, [], [], [], [], [], i183))) ((subL s168 i182 (((s168.length : Nat) : Int))).bind fun y197 => (fn_ref20_locals y197).bind fun (l201, s202, i203) => cond (!decide (i203 = 0)) (some ((0, 0, [], [], [], [], [], i203))) ((fn_ref17_TakeType s202).bind fun (l219, i220, i221) => cond (!decide (i221 = 0)) (some ((0, 0, [], [], [], [], [], i221))) ((subL s202 i220 (((s202.length : Nat) : Int))).bind fun y236 => (fn_ref20_sigs y236).bind fun (l240, s241, i242) => cond (!decide (i242 = 0)) (some ((0, 0, [], [], [], [], [], i242))) ((fn_ref20_blocks s241).bind fun (l258, s259, i260) => cond (!decide (i260 = 0)) (some ((0, 0, [], [], [], [], [], i260))) (cond (!decide (s259 = ([] : List UInt8))) (some ((0, 0, [], [], [], [], [], 13))) (some ((i153, i167, l181, l201, l219, l240, l258, 0)))))))))))
set_option maxRecDepth 100000 in
set_option maxHeartbeats 4000000 in
theorem ref20_Take_ok {K : Hp} {xa : (List UInt8)}   {r : (Int × Int × (List (Int × Int)) × (List (List (Int × Bool))) × (List (Int × Bool)) × (List (Int × (List (Int × Int)) × (List (List (Int × Bool))) × (List (Int × Bool)))) × (List ((List (Int × Int × Int × Int × Bool)) × (Int × Int × Int × (List Int) × (List Int) × (List Int)))) × Int)} (h : fn_ref20_Take xa = some r) :
    Tr Tryz.prog 7 #[.string ⟨xa.toArray⟩] K [] (fun v K' L' => (∃ (i105 : Int) (i106 : Int) (l107 : (List (Int × Int))) (l112 : (List (List (Int × Bool)))) (l117 : (List (Int × Bool))) (l122 : (List (Int × (List (Int × Int)) × (List (List (Int × Bool))) × (List (Int × Bool))))) (l127 : (List ((List (Int × Int × Int × Int × Bool)) × (Int × Int × Int × (List Int) × (List Int) × (List Int))))) (i132 : Int) (ad108 : Option Addr) (cp109 : Nat) (ad113 : Option Addr) (cp114 : Nat) (ad118 : Option Addr) (cp119 : Nat) (ad123 : Option Addr) (cp124 : Nat) (ad128 : Option Addr) (cp129 : Nat), (i105, i106, l107, l112, l117, l122, l127, i132) = r ∧ .tuple #[.agg #[ii i105, ii i106, .slice ad108 l107.length cp109, .slice ad113 l112.length cp114, .slice ad118 l117.length cp119, .slice ad123 l122.length cp124, .slice ad128 l127.length cp129], ii i132] = v ∧ L' = [Row Hp.nil 95 (.cons (.int .i64) (.one (.int .i64))) (.slice ad108 l107.length cp109) l107, Row K' 30 (.one (.sl (.cons (.int .i64) (.one .bool)))) (.slice ad113 l112.length cp114) l112, Row Hp.nil 146 (.cons (.int .i64) (.one .bool)) (.slice ad118 l117.length cp119) l117, Row K' 63 (.cons (.int .i64) (.cons (.sl (.cons (.int .i64) (.one (.int .i64)))) (.cons (.sl (.one (.sl (.cons (.int .i64) (.one .bool))))) (.one (.one (.sl (.cons (.int .i64) (.one .bool)))))))) (.slice ad123 l122.length cp124) l122, Row K' 70 (.cons (.sl (.cons (.int .i64) (.cons (.int .i64) (.cons (.int .i64) (.cons (.int .i64) (.one .bool)))))) (.one (.cons (.int .i64) (.cons (.int .i64) (.cons (.int .i64) (.cons (.sl (.int .i64)) (.cons (.sl (.int .i64)) (.one (.sl (.int .i64)))))))))) (.slice ad128 l127.length cp129) l127])) := by
 refine Tr.of Tryz.func7 rfl Tryz.ntmps7 rfl fun E F => ?_
 unfold fn_ref20_Take at h
 refine CJ.seq <| CJ.region <| jal inf34 [ii 0, ii 0, .slice none 0 0, .slice none 0 0, .slice none 0 0, .slice none 0 0, .slice none 0 0] rfl fun b133 => ja (ii 0) rfl <| J.nil <| CJ.seq <| CJ.seq ?_
 refine CJ.region <| jm (.string ⟨xa.toArray⟩) rfl <| jv (ii (((xa.length : Nat) : Int))) (V.lens Tryz.underlying9 rfl) <| jv (.bool (decide ((((xa.length : Nat) : Int)) < 4))) (V.lss rfl rfl) <| jm (.bool (decide ((((xa.length : Nat) : Int)) < 4))) rfl <| J.cut 4 ?_
 obtain ⟨t137, ht138, h⟩ := ob h
 refine jmeet [(25, .bool t137), (0, .string ⟨xa.toArray⟩), (2, .pointer (some ⟨b133, 0, none⟩))] ?_ ?_
 · rcases bt (decide ((((xa.length : Nat) : Int)) < 4)) with hc139 | hc139
   · have ht138 := ct hc139 ht138
     refine J.skip rfl rfl rfl rfl hc139 <| J.skip rfl rfl rfl rfl hc139 <| J.skip rfl rfl rfl rfl hc139 <| jv (.bool true) (V.pickT rfl hc139 rfl) <| J.nil ?_
     obtain rfl := si ht138
     exact ⟨rfl, ⟨rfl, rfl, rfl, trivial⟩, rfl, rfl⟩
   have ht138 := cf hc139 ht138
   refine J.run rfl rfl rfl hc139 <| jm (.string ⟨xa.toArray⟩) rfl <| J.run rfl rfl rfl hc139 ?_
   obtain ⟨y140, hy141, ht138⟩ := ob ht138
   refine jv (.string ⟨y140.toArray⟩) (V.subs Tryz.underlying9 rfl nofun (fun _ => rfl) (fun _ h => by cases h; exact ⟨_, rfl⟩) nofun hy141) <| J.run rfl rfl rfl hc139 <| jv (.bool (!decide (y140 = ([109, 105, 114, 1] : List UInt8)))) (V.nes rfl rfl) <| jv (.bool (!decide (y140 = ([109, 105, 114, 1] : List UInt8)))) (V.pickF rfl hc139 rfl) <| J.nil ?_
   obtain rfl := si ht138
   exact ⟨rfl, ⟨rfl, rfl, rfl, trivial⟩, rfl, rfl⟩
 intro ρ
 refine J.nil <| cc rfl h (fun hc142 h => ?_) fun hc142 h => ?_
 · refine CJ.seq <| CJ.region <| jv (.agg #[ii 0, ii 0, .slice none 0 0, .slice none 0 0, .slice none 0 0, .slice none 0 0, .slice none 0 0]) (V.build inf34 places34 rfl rfl) <| js [ii 0, ii 0, .slice none 0 0, .slice none 0 0, .slice none 0 0, .slice none 0 0, .slice none 0 0] sz34 rfl rfl rfl rfl rfl rfl <| ja (ii 12) rfl <| J.nil <| CJ.by (fun w hs => Sep.rowNil (e := 95) (t := (.cons (.int .i64) (.one (.int .i64)))) hs) ?_
   refine CJ.by (fun w hs => Sep.rowNil (e := 30) (t := (.one (.sl (.cons (.int .i64) (.one .bool))))) hs) <| CJ.by (fun w hs => Sep.rowNil (e := 146) (t := (.cons (.int .i64) (.one .bool))) hs) <| CJ.by (fun w hs => Sep.rowNil (e := 63) (t := (.cons (.int .i64) (.cons (.sl (.cons (.int .i64) (.one (.int .i64)))) (.cons (.sl (.one (.sl (.cons (.int .i64) (.one .bool))))) (.one (.one (.sl (.cons (.int .i64) (.one .bool))))))))) hs) <| CJ.by (fun w hs => Sep.rowNil (e := 70) (t := (.cons (.sl (.cons (.int .i64) (.cons (.int .i64) (.cons (.int .i64) (.cons (.int .i64) (.one .bool)))))) (.one (.cons (.int .i64) (.cons (.int .i64) (.cons (.int .i64) (.cons (.sl (.int .i64)) (.cons (.sl (.int .i64)) (.one (.sl (.int .i64))))))))))) hs) <| CJ.ret ?_
   obtain rfl := si h
   exact ⟨_, _, Res.two rfl ⟨_, _, rfl, Ld.agg (cs := [ii 0, ii 0, .slice none 0 0, .slice none 0 0, .slice none 0 0, .slice none 0 0, .slice none 0 0]) Tryz.underlying34 sz34 rfl (Rd.cls 5 0 rfl rfl)⟩ rfl, ⟨0, 0, [], [], [], [], [], 12, none, 0, none, 0, none, 0, none, 0, none, 0, rfl, rfl, rfl⟩, (Hp.le_refl _), fun w hs => (Sep.front 4 rfl (Sep.front 3 rfl (Sep.front 2 rfl (Sep.front 1 rfl (Sep.dropAt 5 rfl hs)))))⟩
 refine CJ.skip <| CJ.seq <| CJ.region <| jv (.agg #[ii 0, ii 0, .slice none 0 0, .slice none 0 0, .slice none 0 0, .slice none 0 0, .slice none 0 0]) (V.build inf34 places34 rfl rfl) <| jal inf34 [ii 0, ii 0, .slice none 0 0, .slice none 0 0, .slice none 0 0, .slice none 0 0, .slice none 0 0] rfl fun b148 => js [ii 0, ii 0, .slice none 0 0, .slice none 0 0, .slice none 0 0, .slice none 0 0, .slice none 0 0] sz34 rfl rfl rfl rfl rfl rfl <| J.nil ?_
 refine CJ.seq <| CJ.region <| jm (.string ⟨xa.toArray⟩) rfl ?_
 obtain ⟨y149, hy150, h⟩ := ob h
 refine jv (.string ⟨y149.toArray⟩) (V.subs Tryz.underlying9 rfl (fun _ h => by cases h; exact ⟨_, rfl⟩) nofun nofun (fun _ => rfl) hy150) ?_
 obtain ⟨r151, hr152, h⟩ := ob h
 refine J.op rfl (A.call (L1 := []) Tryz.call30 rfl (ref20_count_ok hr152) rfl rfl) ?_
 rintro _ _ _ ⟨v156, _, rfl, ⟨⟨i153, s154, i155, rfl, rfl, rfl⟩, rfl⟩, _, rfl⟩
 refine jm (.tuple #[ii i153, .string ⟨s154.toArray⟩, ii i155]) rfl <| jx (ii i153) rfl rfl <| jx (.string ⟨s154.toArray⟩) rfl rfl <| jx (ii i155) rfl rfl <| ja (ii i153) rfl <| ja (.string ⟨s154.toArray⟩) rfl <| ja (ii i155) rfl ?_
 refine J.nil <| CJ.seq <| CJ.seq <| CJ.region <| jm (ii i155) rfl <| jv (.bool (!decide (i155 = 0))) (V.neq rfl rfl) <| J.nil ?_
 refine cc rfl h (fun hc159 h => ?_) fun hc159 h => ?_
 · refine CJ.seq <| CJ.region <| jv (.agg #[ii 0, ii 0, .slice none 0 0, .slice none 0 0, .slice none 0 0, .slice none 0 0, .slice none 0 0]) (V.build inf34 places34 rfl rfl) <| jm (ii i155) rfl <| J.front 1 rfl <| js [ii 0, ii 0, .slice none 0 0, .slice none 0 0, .slice none 0 0, .slice none 0 0, .slice none 0 0] sz34 rfl rfl rfl rfl rfl rfl <| ja (ii i155) rfl ?_
   refine J.nil <| CJ.by (fun w hs => Sep.rowNil (e := 95) (t := (.cons (.int .i64) (.one (.int .i64)))) hs) <| CJ.by (fun w hs => Sep.rowNil (e := 30) (t := (.one (.sl (.cons (.int .i64) (.one .bool))))) hs) <| CJ.by (fun w hs => Sep.rowNil (e := 146) (t := (.cons (.int .i64) (.one .bool))) hs) <| CJ.by (fun w hs => Sep.rowNil (e := 63) (t := (.cons (.int .i64) (.cons (.sl (.cons (.int .i64) (.one (.int .i64)))) (.cons (.sl (.one (.sl (.cons (.int .i64) (.one .bool))))) (.one (.one (.sl (.cons (.int .i64) (.one .bool))))))))) hs) <| CJ.by (fun w hs => Sep.rowNil (e := 70) (t := (.cons (.sl (.cons (.int .i64) (.cons (.int .i64) (.cons (.int .i64) (.cons (.int .i64) (.one .bool)))))) (.one (.cons (.int .i64) (.cons (.int .i64) (.cons (.int .i64) (.cons (.sl (.int .i64)) (.cons (.sl (.int .i64)) (.one (.sl (.int .i64))))))))))) hs) <| CJ.ret ?_
   obtain rfl := si h
   exact ⟨_, _, Res.two rfl ⟨_, _, rfl, Ld.agg (cs := [ii 0, ii 0, .slice none 0 0, .slice none 0 0, .slice none 0 0, .slice none 0 0, .slice none 0 0]) Tryz.underlying34 sz34 rfl (Rd.cls 5 0 rfl rfl)⟩ rfl, ⟨0, 0, [], [], [], [], [], i155, none, 0, none, 0, none, 0, none, 0, none, 0, rfl, rfl, rfl⟩, (Hp.le_refl _), fun w hs => (Sep.front 4 rfl (Sep.front 3 rfl (Sep.front 2 rfl (Sep.front 1 rfl (Sep.dropAt 5 rfl (Sep.dropAt 5 rfl hs))))))⟩
 refine CJ.skip <| CJ.seq <| CJ.region <| jm (.string ⟨s154.toArray⟩) rfl ?_
 obtain ⟨r165, hr166, h⟩ := ob h
 refine J.op rfl (A.call (L1 := []) Tryz.call30 rfl (ref20_count_ok hr166) rfl rfl) ?_
 rintro _ _ _ ⟨v170, _, rfl, ⟨⟨i167, s168, i169, rfl, rfl, rfl⟩, rfl⟩, _, rfl⟩
 refine jm (.tuple #[ii i167, .string ⟨s168.toArray⟩, ii i169]) rfl <| jx (ii i167) rfl rfl <| jx (.string ⟨s168.toArray⟩) rfl rfl <| jx (ii i169) rfl rfl <| ja (ii i167) rfl <| ja (.string ⟨s168.toArray⟩) rfl <| ja (ii i169) rfl ?_
 refine J.nil <| CJ.seq <| CJ.seq <| CJ.region <| jm (ii i169) rfl <| jv (.bool (!decide (i169 = 0))) (V.neq rfl rfl) <| J.nil ?_
 refine cc rfl h (fun hc173 h => ?_) fun hc173 h => ?_
 · refine CJ.seq <| CJ.region <| jv (.agg #[ii 0, ii 0, .slice none 0 0, .slice none 0 0, .slice none 0 0, .slice none 0 0, .slice none 0 0]) (V.build inf34 places34 rfl rfl) <| jm (ii i169) rfl <| J.front 1 rfl <| js [ii 0, ii 0, .slice none 0 0, .slice none 0 0, .slice none 0 0, .slice none 0 0, .slice none 0 0] sz34 rfl rfl rfl rfl rfl rfl <| ja (ii i169) rfl ?_
   refine J.nil <| CJ.by (fun w hs => Sep.rowNil (e := 95) (t := (.cons (.int .i64) (.one (.int .i64)))) hs) <| CJ.by (fun w hs => Sep.rowNil (e := 30) (t := (.one (.sl (.cons (.int .i64) (.one .bool))))) hs) <| CJ.by (fun w hs => Sep.rowNil (e := 146) (t := (.cons (.int .i64) (.one .bool))) hs) <| CJ.by (fun w hs => Sep.rowNil (e := 63) (t := (.cons (.int .i64) (.cons (.sl (.cons (.int .i64) (.one (.int .i64)))) (.cons (.sl (.one (.sl (.cons (.int .i64) (.one .bool))))) (.one (.one (.sl (.cons (.int .i64) (.one .bool))))))))) hs) <| CJ.by (fun w hs => Sep.rowNil (e := 70) (t := (.cons (.sl (.cons (.int .i64) (.cons (.int .i64) (.cons (.int .i64) (.cons (.int .i64) (.one .bool)))))) (.one (.cons (.int .i64) (.cons (.int .i64) (.cons (.int .i64) (.cons (.sl (.int .i64)) (.cons (.sl (.int .i64)) (.one (.sl (.int .i64))))))))))) hs) <| CJ.ret ?_
   obtain rfl := si h
   exact ⟨_, _, Res.two rfl ⟨_, _, rfl, Ld.agg (cs := [ii 0, ii 0, .slice none 0 0, .slice none 0 0, .slice none 0 0, .slice none 0 0, .slice none 0 0]) Tryz.underlying34 sz34 rfl (Rd.cls 5 0 rfl rfl)⟩ rfl, ⟨0, 0, [], [], [], [], [], i169, none, 0, none, 0, none, 0, none, 0, none, 0, rfl, rfl, rfl⟩, (Hp.le_refl _), fun w hs => (Sep.front 4 rfl (Sep.front 3 rfl (Sep.front 2 rfl (Sep.front 1 rfl (Sep.dropAt 5 rfl (Sep.dropAt 5 rfl hs))))))⟩
 refine CJ.skip <| CJ.seq <| CJ.region <| jm (.string ⟨s168.toArray⟩) rfl ?_
 obtain ⟨r179, hr180, h⟩ := ob h
 refine J.op rfl (A.call (L1 := []) Tryz.call31 rfl (ref17_TakeBounds_ok hr180) rfl rfl) ?_
 rintro _ _ _ ⟨v187, _, rfl, ⟨⟨l181, i182, i183, ad184, cp185, rfl, rfl, rfl⟩, rfl⟩, _, rfl⟩
 refine J.wit Row.hn fun hn186 => jm (.tuple #[.slice ad184 l181.length cp185, ii i182, ii i183]) rfl <| jx (.slice ad184 l181.length cp185) rfl rfl <| jx (ii i182) rfl rfl <| jx (ii i183) rfl rfl <| ja (.slice ad184 l181.length cp185) rfl <| ja (ii i182) rfl ?_
 refine ja (ii i183) rfl <| J.nil <| CJ.seq <| CJ.seq <| CJ.region <| jm (ii i183) rfl <| jv (.bool (!decide (i183 = 0))) (V.neq rfl rfl) ?_
 refine J.nil <| cc rfl h (fun hc191 h => ?_) fun hc191 h => ?_
 · refine CJ.seq <| CJ.region <| jv (.agg #[ii 0, ii 0, .slice none 0 0, .slice none 0 0, .slice none 0 0, .slice none 0 0, .slice none 0 0]) (V.build inf34 places34 rfl rfl) <| jm (ii i183) rfl <| J.front 2 rfl <| js [ii 0, ii 0, .slice none 0 0, .slice none 0 0, .slice none 0 0, .slice none 0 0, .slice none 0 0] sz34 rfl rfl rfl rfl rfl rfl <| ja (ii i183) rfl ?_
   refine J.nil <| CJ.by (fun w hs => Sep.rowNil (e := 95) (t := (.cons (.int .i64) (.one (.int .i64)))) hs) <| CJ.by (fun w hs => Sep.rowNil (e := 30) (t := (.one (.sl (.cons (.int .i64) (.one .bool))))) hs) <| CJ.by (fun w hs => Sep.rowNil (e := 146) (t := (.cons (.int .i64) (.one .bool))) hs) <| CJ.by (fun w hs => Sep.rowNil (e := 63) (t := (.cons (.int .i64) (.cons (.sl (.cons (.int .i64) (.one (.int .i64)))) (.cons (.sl (.one (.sl (.cons (.int .i64) (.one .bool))))) (.one (.one (.sl (.cons (.int .i64) (.one .bool))))))))) hs) <| CJ.by (fun w hs => Sep.rowNil (e := 70) (t := (.cons (.sl (.cons (.int .i64) (.cons (.int .i64) (.cons (.int .i64) (.cons (.int .i64) (.one .bool)))))) (.one (.cons (.int .i64) (.cons (.int .i64) (.cons (.int .i64) (.cons (.sl (.int .i64)) (.cons (.sl (.int .i64)) (.one (.sl (.int .i64))))))))))) hs) <| CJ.ret ?_
   obtain rfl := si h
   exact ⟨_, _, Res.two rfl ⟨_, _, rfl, Ld.agg (cs := [ii 0, ii 0, .slice none 0 0, .slice none 0 0, .slice none 0 0, .slice none 0 0, .slice none 0 0]) Tryz.underlying34 sz34 rfl (Rd.cls 5 0 rfl rfl)⟩ rfl, ⟨0, 0, [], [], [], [], [], i183, none, 0, none, 0, none, 0, none, 0, none, 0, rfl, rfl, rfl⟩, (Hp.le_refl _), fun w hs => (Sep.front 4 rfl (Sep.front 3 rfl (Sep.front 2 rfl (Sep.front 1 rfl (Sep.dropAt 5 rfl (Sep.dropAt 5 rfl (Sep.dropAt 5 rfl hs)))))))⟩
 refine CJ.skip <| CJ.seq <| CJ.region <| jm (.string ⟨s168.toArray⟩) rfl <| jm (ii i182) rfl ?_
 obtain ⟨y197, hy198, h⟩ := ob h
 refine jv (.string ⟨y197.toArray⟩) (V.subs Tryz.underlying9 rfl (fun _ h => by cases h; exact ⟨_, rfl⟩) nofun nofun (fun _ => rfl) hy198) ?_
 obtain ⟨r199, hr200, h⟩ := ob h
 refine J.op rfl (A.call (L1 := []) Tryz.call32 rfl (ref20_locals_ok hr200) rfl rfl) ?_
 rintro _ K208 _ ⟨v207, _, rfl, ⟨l201, s202, i203, ad204, cp205, rfl, rfl, rfl⟩, hK209, rfl⟩
 refine J.wit Row.hn fun hn206 => jm (.tuple #[.slice ad204 l201.length cp205, .string ⟨s202.toArray⟩, ii i203]) rfl <| jx (.slice ad204 l201.length cp205) rfl rfl <| jx (.string ⟨s202.toArray⟩) rfl rfl <| jx (ii i203) rfl rfl <| ja (.slice ad204 l201.length cp205) rfl <| ja (.string ⟨s202.toArray⟩) rfl ?_
 refine ja (ii i203) rfl <| J.nil <| CJ.seq <| CJ.seq <| CJ.region <| jm (ii i203) rfl <| jv (.bool (!decide (i203 = 0))) (V.neq rfl rfl) ?_
 refine J.nil <| cc rfl h (fun hc211 h => ?_) fun hc211 h => ?_
 · refine CJ.seq <| CJ.region <| jv (.agg #[ii 0, ii 0, .slice none 0 0, .slice none 0 0, .slice none 0 0, .slice none 0 0, .slice none 0 0]) (V.build inf34 places34 rfl rfl) <| jm (ii i203) rfl <| J.front 3 rfl <| js [ii 0, ii 0, .slice none 0 0, .slice none 0 0, .slice none 0 0, .slice none 0 0, .slice none 0 0] sz34 rfl rfl rfl rfl rfl rfl <| ja (ii i203) rfl ?_
   refine J.nil <| CJ.by (fun w hs => Sep.rowNil (e := 95) (t := (.cons (.int .i64) (.one (.int .i64)))) hs) <| CJ.by (fun w hs => Sep.rowNil (e := 30) (t := (.one (.sl (.cons (.int .i64) (.one .bool))))) hs) <| CJ.by (fun w hs => Sep.rowNil (e := 146) (t := (.cons (.int .i64) (.one .bool))) hs) <| CJ.by (fun w hs => Sep.rowNil (e := 63) (t := (.cons (.int .i64) (.cons (.sl (.cons (.int .i64) (.one (.int .i64)))) (.cons (.sl (.one (.sl (.cons (.int .i64) (.one .bool))))) (.one (.one (.sl (.cons (.int .i64) (.one .bool))))))))) hs) <| CJ.by (fun w hs => Sep.rowNil (e := 70) (t := (.cons (.sl (.cons (.int .i64) (.cons (.int .i64) (.cons (.int .i64) (.cons (.int .i64) (.one .bool)))))) (.one (.cons (.int .i64) (.cons (.int .i64) (.cons (.int .i64) (.cons (.sl (.int .i64)) (.cons (.sl (.int .i64)) (.one (.sl (.int .i64))))))))))) hs) <| CJ.ret ?_
   obtain rfl := si h
   exact ⟨_, _, Res.two rfl ⟨_, _, rfl, Ld.agg (cs := [ii 0, ii 0, .slice none 0 0, .slice none 0 0, .slice none 0 0, .slice none 0 0, .slice none 0 0]) Tryz.underlying34 sz34 rfl (Rd.cls 5 0 rfl rfl)⟩ rfl, ⟨0, 0, [], [], [], [], [], i203, none, 0, none, 0, none, 0, none, 0, none, 0, rfl, rfl, rfl⟩, hK209, fun w hs => (Sep.front 4 rfl (Sep.front 3 rfl (Sep.front 2 rfl (Sep.front 1 rfl (Sep.dropAt 5 rfl (Sep.dropAt 5 rfl (Sep.dropAt 5 rfl (Sep.dropAt 5 rfl hs))))))))⟩
 refine CJ.skip <| CJ.seq <| CJ.region <| jm (.string ⟨s202.toArray⟩) rfl ?_
 obtain ⟨r217, hr218, h⟩ := ob h
 refine J.op rfl (A.call (L1 := []) Tryz.call33 rfl (ref17_TakeType_ok hr218) rfl rfl) ?_
 rintro _ _ _ ⟨v225, _, rfl, ⟨⟨l219, i220, i221, ad222, cp223, rfl, rfl, rfl⟩, rfl⟩, _, rfl⟩
 refine J.wit Row.hn fun hn224 => jm (.tuple #[.agg #[.slice ad222 l219.length cp223], ii i220, ii i221]) rfl <| jx (.agg #[.slice ad222 l219.length cp223]) rfl rfl <| jx (ii i220) rfl rfl <| jx (ii i221) rfl rfl <| jal inf30 [.slice none 0 0] rfl fun b229 => js [.slice ad222 l219.length cp223] sz30 rfl rfl rfl rfl rfl rfl ?_
 refine ja (ii i220) rfl <| ja (ii i221) rfl <| J.nil <| CJ.seq <| CJ.seq <| CJ.region <| jm (ii i221) rfl ?_
 refine jv (.bool (!decide (i221 = 0))) (V.neq rfl rfl) <| J.nil <| cc rfl h (fun hc230 h => ?_) fun hc230 h => ?_
 · refine CJ.seq <| CJ.region <| jv (.agg #[ii 0, ii 0, .slice none 0 0, .slice none 0 0, .slice none 0 0, .slice none 0 0, .slice none 0 0]) (V.build inf34 places34 rfl rfl) <| jm (ii i221) rfl <| J.front 5 rfl <| js [ii 0, ii 0, .slice none 0 0, .slice none 0 0, .slice none 0 0, .slice none 0 0, .slice none 0 0] sz34 rfl rfl rfl rfl rfl rfl <| ja (ii i221) rfl ?_
   refine J.nil <| CJ.by (fun w hs => Sep.rowNil (e := 95) (t := (.cons (.int .i64) (.one (.int .i64)))) hs) <| CJ.by (fun w hs => Sep.rowNil (e := 30) (t := (.one (.sl (.cons (.int .i64) (.one .bool))))) hs) <| CJ.by (fun w hs => Sep.rowNil (e := 146) (t := (.cons (.int .i64) (.one .bool))) hs) <| CJ.by (fun w hs => Sep.rowNil (e := 63) (t := (.cons (.int .i64) (.cons (.sl (.cons (.int .i64) (.one (.int .i64)))) (.cons (.sl (.one (.sl (.cons (.int .i64) (.one .bool))))) (.one (.one (.sl (.cons (.int .i64) (.one .bool))))))))) hs) <| CJ.by (fun w hs => Sep.rowNil (e := 70) (t := (.cons (.sl (.cons (.int .i64) (.cons (.int .i64) (.cons (.int .i64) (.cons (.int .i64) (.one .bool)))))) (.one (.cons (.int .i64) (.cons (.int .i64) (.cons (.int .i64) (.cons (.sl (.int .i64)) (.cons (.sl (.int .i64)) (.one (.sl (.int .i64))))))))))) hs) <| CJ.ret ?_
   obtain rfl := si h
   exact ⟨_, _, Res.two rfl ⟨_, _, rfl, Ld.agg (cs := [ii 0, ii 0, .slice none 0 0, .slice none 0 0, .slice none 0 0, .slice none 0 0, .slice none 0 0]) Tryz.underlying34 sz34 rfl (Rd.cls 5 0 rfl rfl)⟩ rfl, ⟨0, 0, [], [], [], [], [], i221, none, 0, none, 0, none, 0, none, 0, none, 0, rfl, rfl, rfl⟩, hK209, fun w hs => (Sep.front 4 rfl (Sep.front 3 rfl (Sep.front 2 rfl (Sep.front 1 rfl (Sep.dropAt 5 rfl (Sep.dropAt 5 rfl (Sep.dropAt 5 rfl (Sep.dropAt 5 rfl (Sep.dropAt 5 rfl (Sep.dropAt 5 rfl hs))))))))))⟩
 refine CJ.skip <| CJ.seq <| CJ.region <| jm (.string ⟨s202.toArray⟩) rfl <| jm (ii i220) rfl ?_
 obtain ⟨y236, hy237, h⟩ := ob h
 refine jv (.string ⟨y236.toArray⟩) (V.subs Tryz.underlying9 rfl (fun _ h => by cases h; exact ⟨_, rfl⟩) nofun nofun (fun _ => rfl) hy237) ?_
 obtain ⟨r238, hr239, h⟩ := ob h
 refine J.op rfl (A.call (L1 := []) Tryz.call34 rfl (ref20_sigs_ok hr239) rfl rfl) ?_
 rintro _ K247 _ ⟨v246, _, rfl, ⟨l240, s241, i242, ad243, cp244, rfl, rfl, rfl⟩, hK248, rfl⟩
 refine J.wit Row.hn fun hn245 => jm (.tuple #[.slice ad243 l240.length cp244, .string ⟨s241.toArray⟩, ii i242]) rfl <| jx (.slice ad243 l240.length cp244) rfl rfl <| jx (.string ⟨s241.toArray⟩) rfl rfl <| jx (ii i242) rfl rfl <| ja (.slice ad243 l240.length cp244) rfl <| ja (.string ⟨s241.toArray⟩) rfl ?_
 refine ja (ii i242) rfl <| J.nil <| CJ.seq <| CJ.seq <| CJ.region <| jm (ii i242) rfl <| jv (.bool (!decide (i242 = 0))) (V.neq rfl rfl) ?_
 refine J.nil <| cc rfl h (fun hc250 h => ?_) fun hc250 h => ?_
 · refine CJ.seq <| CJ.region <| jv (.agg #[ii 0, ii 0, .slice none 0 0, .slice none 0 0, .slice none 0 0, .slice none 0 0, .slice none 0 0]) (V.build inf34 places34 rfl rfl) <| jm (ii i242) rfl <| J.front 6 rfl <| js [ii 0, ii 0, .slice none 0 0, .slice none 0 0, .slice none 0 0, .slice none 0 0, .slice none 0 0] sz34 rfl rfl rfl rfl rfl rfl <| ja (ii i242) rfl ?_
   refine J.nil <| CJ.by (fun w hs => Sep.rowNil (e := 95) (t := (.cons (.int .i64) (.one (.int .i64)))) hs) <| CJ.by (fun w hs => Sep.rowNil (e := 30) (t := (.one (.sl (.cons (.int .i64) (.one .bool))))) hs) <| CJ.by (fun w hs => Sep.rowNil (e := 146) (t := (.cons (.int .i64) (.one .bool))) hs) <| CJ.by (fun w hs => Sep.rowNil (e := 63) (t := (.cons (.int .i64) (.cons (.sl (.cons (.int .i64) (.one (.int .i64)))) (.cons (.sl (.one (.sl (.cons (.int .i64) (.one .bool))))) (.one (.one (.sl (.cons (.int .i64) (.one .bool))))))))) hs) <| CJ.by (fun w hs => Sep.rowNil (e := 70) (t := (.cons (.sl (.cons (.int .i64) (.cons (.int .i64) (.cons (.int .i64) (.cons (.int .i64) (.one .bool)))))) (.one (.cons (.int .i64) (.cons (.int .i64) (.cons (.int .i64) (.cons (.sl (.int .i64)) (.cons (.sl (.int .i64)) (.one (.sl (.int .i64))))))))))) hs) <| CJ.ret ?_
   obtain rfl := si h
   exact ⟨_, _, Res.two rfl ⟨_, _, rfl, Ld.agg (cs := [ii 0, ii 0, .slice none 0 0, .slice none 0 0, .slice none 0 0, .slice none 0 0, .slice none 0 0]) Tryz.underlying34 sz34 rfl (Rd.cls 5 0 rfl rfl)⟩ rfl, ⟨0, 0, [], [], [], [], [], i242, none, 0, none, 0, none, 0, none, 0, none, 0, rfl, rfl, rfl⟩, (hK209.trans hK248), fun w hs => (Sep.front 4 rfl (Sep.front 3 rfl (Sep.front 2 rfl (Sep.front 1 rfl (Sep.dropAt 5 rfl (Sep.dropAt 5 rfl (Sep.dropAt 5 rfl (Sep.dropAt 5 rfl (Sep.dropAt 5 rfl (Sep.dropAt 5 rfl (Sep.dropAt 5 rfl hs)))))))))))⟩
 refine CJ.skip <| CJ.seq <| CJ.region <| jm (.string ⟨s241.toArray⟩) rfl ?_
 obtain ⟨r256, hr257, h⟩ := ob h
 refine J.op rfl (A.call (L1 := []) Tryz.call35 rfl (ref20_blocks_ok hr257) rfl rfl) ?_
 rintro _ K265 _ ⟨v264, _, rfl, ⟨l258, s259, i260, ad261, cp262, rfl, rfl, rfl⟩, hK266, rfl⟩
 refine J.wit Row.hn fun hn263 => jm (.tuple #[.slice ad261 l258.length cp262, .string ⟨s259.toArray⟩, ii i260]) rfl <| jx (.slice ad261 l258.length cp262) rfl rfl <| jx (.string ⟨s259.toArray⟩) rfl rfl <| jx (ii i260) rfl rfl <| ja (.slice ad261 l258.length cp262) rfl <| ja (.string ⟨s259.toArray⟩) rfl ?_
 refine ja (ii i260) rfl <| J.nil <| CJ.seq <| CJ.seq <| CJ.region <| jm (ii i260) rfl <| jv (.bool (!decide (i260 = 0))) (V.neq rfl rfl) ?_
 refine J.nil <| cc rfl h (fun hc268 h => ?_) fun hc268 h => ?_
 · refine CJ.seq <| CJ.region <| jv (.agg #[ii 0, ii 0, .slice none 0 0, .slice none 0 0, .slice none 0 0, .slice none 0 0, .slice none 0 0]) (V.build inf34 places34 rfl rfl) <| jm (ii i260) rfl <| J.front 7 rfl <| js [ii 0, ii 0, .slice none 0 0, .slice none 0 0, .slice none 0 0, .slice none 0 0, .slice none 0 0] sz34 rfl rfl rfl rfl rfl rfl <| ja (ii i260) rfl ?_
   refine J.nil <| CJ.by (fun w hs => Sep.rowNil (e := 95) (t := (.cons (.int .i64) (.one (.int .i64)))) hs) <| CJ.by (fun w hs => Sep.rowNil (e := 30) (t := (.one (.sl (.cons (.int .i64) (.one .bool))))) hs) <| CJ.by (fun w hs => Sep.rowNil (e := 146) (t := (.cons (.int .i64) (.one .bool))) hs) <| CJ.by (fun w hs => Sep.rowNil (e := 63) (t := (.cons (.int .i64) (.cons (.sl (.cons (.int .i64) (.one (.int .i64)))) (.cons (.sl (.one (.sl (.cons (.int .i64) (.one .bool))))) (.one (.one (.sl (.cons (.int .i64) (.one .bool))))))))) hs) <| CJ.by (fun w hs => Sep.rowNil (e := 70) (t := (.cons (.sl (.cons (.int .i64) (.cons (.int .i64) (.cons (.int .i64) (.cons (.int .i64) (.one .bool)))))) (.one (.cons (.int .i64) (.cons (.int .i64) (.cons (.int .i64) (.cons (.sl (.int .i64)) (.cons (.sl (.int .i64)) (.one (.sl (.int .i64))))))))))) hs) <| CJ.ret ?_
   obtain rfl := si h
   exact ⟨_, _, Res.two rfl ⟨_, _, rfl, Ld.agg (cs := [ii 0, ii 0, .slice none 0 0, .slice none 0 0, .slice none 0 0, .slice none 0 0, .slice none 0 0]) Tryz.underlying34 sz34 rfl (Rd.cls 5 0 rfl rfl)⟩ rfl, ⟨0, 0, [], [], [], [], [], i260, none, 0, none, 0, none, 0, none, 0, none, 0, rfl, rfl, rfl⟩, ((hK209.trans hK248).trans hK266), fun w hs => (Sep.front 4 rfl (Sep.front 3 rfl (Sep.front 2 rfl (Sep.front 1 rfl (Sep.dropAt 5 rfl (Sep.dropAt 5 rfl (Sep.dropAt 5 rfl (Sep.dropAt 5 rfl (Sep.dropAt 5 rfl (Sep.dropAt 5 rfl (Sep.dropAt 5 rfl (Sep.dropAt 5 rfl hs))))))))))))⟩
 refine CJ.skip <| CJ.seq <| CJ.seq <| CJ.region <| jm (.string ⟨s259.toArray⟩) rfl <| jv (.bool (!decide (s259 = ([] : List UInt8)))) (V.nes rfl rfl) <| J.nil ?_
 refine cc rfl h (fun hc274 h => ?_) fun hc274 h => ?_
 · refine CJ.seq <| CJ.region <| jv (.agg #[ii 0, ii 0, .slice none 0 0, .slice none 0 0, .slice none 0 0, .slice none 0 0, .slice none 0 0]) (V.build inf34 places34 rfl rfl) <| J.front 7 rfl <| js [ii 0, ii 0, .slice none 0 0, .slice none 0 0, .slice none 0 0, .slice none 0 0, .slice none 0 0] sz34 rfl rfl rfl rfl rfl rfl <| ja (ii 13) rfl <| J.nil ?_
   refine CJ.by (fun w hs => Sep.rowNil (e := 95) (t := (.cons (.int .i64) (.one (.int .i64)))) hs) <| CJ.by (fun w hs => Sep.rowNil (e := 30) (t := (.one (.sl (.cons (.int .i64) (.one .bool))))) hs) <| CJ.by (fun w hs => Sep.rowNil (e := 146) (t := (.cons (.int .i64) (.one .bool))) hs) <| CJ.by (fun w hs => Sep.rowNil (e := 63) (t := (.cons (.int .i64) (.cons (.sl (.cons (.int .i64) (.one (.int .i64)))) (.cons (.sl (.one (.sl (.cons (.int .i64) (.one .bool))))) (.one (.one (.sl (.cons (.int .i64) (.one .bool))))))))) hs) <| CJ.by (fun w hs => Sep.rowNil (e := 70) (t := (.cons (.sl (.cons (.int .i64) (.cons (.int .i64) (.cons (.int .i64) (.cons (.int .i64) (.one .bool)))))) (.one (.cons (.int .i64) (.cons (.int .i64) (.cons (.int .i64) (.cons (.sl (.int .i64)) (.cons (.sl (.int .i64)) (.one (.sl (.int .i64))))))))))) hs) <| CJ.ret ?_
   obtain rfl := si h
   exact ⟨_, _, Res.two rfl ⟨_, _, rfl, Ld.agg (cs := [ii 0, ii 0, .slice none 0 0, .slice none 0 0, .slice none 0 0, .slice none 0 0, .slice none 0 0]) Tryz.underlying34 sz34 rfl (Rd.cls 5 0 rfl rfl)⟩ rfl, ⟨0, 0, [], [], [], [], [], 13, none, 0, none, 0, none, 0, none, 0, none, 0, rfl, rfl, rfl⟩, ((hK209.trans hK248).trans hK266), fun w hs => (Sep.front 4 rfl (Sep.front 3 rfl (Sep.front 2 rfl (Sep.front 1 rfl (Sep.dropAt 5 rfl (Sep.dropAt 5 rfl (Sep.dropAt 5 rfl (Sep.dropAt 5 rfl (Sep.dropAt 5 rfl (Sep.dropAt 5 rfl (Sep.dropAt 5 rfl (Sep.dropAt 5 rfl hs))))))))))))⟩
 refine CJ.skip <| CJ.seq <| CJ.region <| jm (ii i153) rfl <| jv _ (V.fad Tryz.underlying34 rfl nz3 rfl) <| J.front 6 rfl <| js1 [ii i153, ii 0, .slice none 0 0, .slice none 0 0, .slice none 0 0, .slice none 0 0, .slice none 0 0] sz3 rfl rfl rfl rfl rfl rfl ?_
 refine J.nil <| CJ.seq <| CJ.region <| jm (ii i167) rfl <| jv _ (V.fad Tryz.underlying34 rfl nz3 rfl) <| js1 [ii i153, ii i167, .slice none 0 0, .slice none 0 0, .slice none 0 0, .slice none 0 0, .slice none 0 0] sz3 rfl rfl rfl rfl rfl rfl <| J.nil ?_
 refine CJ.seq <| CJ.region <| jm (.slice ad184 l181.length cp185) rfl <| jv _ (V.fad Tryz.underlying34 rfl nz26 rfl) <| js1 [ii i153, ii i167, .slice ad184 l181.length cp185, .slice none 0 0, .slice none 0 0, .slice none 0 0, .slice none 0 0] sz26 rfl rfl rfl rfl rfl rfl <| J.nil <| CJ.seq ?_
 refine CJ.region <| jm (.slice ad204 l201.length cp205) rfl <| jv _ (V.fad Tryz.underlying34 rfl nz27 rfl) <| js1 [ii i153, ii i167, .slice ad184 l181.length cp185, .slice ad204 l201.length cp205, .slice none 0 0, .slice none 0 0, .slice none 0 0] sz27 rfl rfl rfl rfl rfl rfl <| J.nil <| CJ.seq <| CJ.region ?_
 refine jv (.agg #[.slice ad222 l219.length cp223]) (V.ld rfl (Ld.agg (cs := [.slice ad222 l219.length cp223]) Tryz.underlying30 sz30 rfl (Rd.cls 3 0 rfl rfl))) <| jv _ (V.fad Tryz.underlying34 rfl nz30 rfl) <| js [ii i153, ii i167, .slice ad184 l181.length cp185, .slice ad204 l201.length cp205, .slice ad222 l219.length cp223, .slice none 0 0, .slice none 0 0] sz30 rfl rfl rfl rfl rfl rfl <| J.nil <| CJ.seq <| CJ.region <| jm (.slice ad243 l240.length cp244) rfl ?_
 refine jv _ (V.fad Tryz.underlying34 rfl nz31 rfl) <| js1 [ii i153, ii i167, .slice ad184 l181.length cp185, .slice ad204 l201.length cp205, .slice ad222 l219.length cp223, .slice ad243 l240.length cp244, .slice none 0 0] sz31 rfl rfl rfl rfl rfl rfl <| J.nil <| CJ.seq <| CJ.region <| jm (.slice ad261 l258.length cp262) rfl <| jv _ (V.fad Tryz.underlying34 rfl nz32 rfl) ?_
 refine js1 [ii i153, ii i167, .slice ad184 l181.length cp185, .slice ad204 l201.length cp205, .slice ad222 l219.length cp223, .slice ad243 l240.length cp244, .slice ad261 l258.length cp262] sz32 rfl rfl rfl rfl rfl rfl <| J.nil <| CJ.seq <| CJ.region <| jv (.agg #[ii i153, ii i167, .slice ad184 l181.length cp185, .slice ad204 l201.length cp205, .slice ad222 l219.length cp223, .slice ad243 l240.length cp244, .slice ad261 l258.length cp262]) (V.ld rfl (Ld.agg (cs := [ii i153, ii i167, .slice ad184 l181.length cp185, .slice ad204 l201.length cp205, .slice ad222 l219.length cp223, .slice ad243 l240.length cp244, .slice ad261 l258.length cp262]) Tryz.underlying34 sz34 rfl (Rd.cls 0 0 rfl rfl))) <| J.front 7 rfl <| js [ii i153, ii i167, .slice ad184 l181.length cp185, .slice ad204 l201.length cp205, .slice ad222 l219.length cp223, .slice ad243 l240.length cp244, .slice ad261 l258.length cp262] sz34 rfl rfl rfl rfl rfl rfl ?_
 refine ja (ii 0) rfl <| J.nil <| CJ.front 6 rfl <| CJ.by (fun w hs => hs.mono (Row.mono (hK248.trans hK266))) <| CJ.front 4 rfl <| CJ.by (fun w hs => hs.mono (Row.mono hK266)) <| CJ.ret ?_
 obtain rfl := si h
 exact ⟨_, _, Res.two rfl ⟨_, _, rfl, Ld.agg (cs := [ii i153, ii i167, .slice ad184 l181.length cp185, .slice ad204 l201.length cp205, .slice ad222 l219.length cp223, .slice ad243 l240.length cp244, .slice ad261 l258.length cp262]) Tryz.underlying34 sz34 rfl (Rd.cls 2 0 rfl rfl)⟩ rfl, ⟨i153, i167, l181, l201, l219, l240, l258, 0, ad184, cp185, ad204, cp205, ad222, cp223, ad243, cp244, ad261, cp262, rfl, rfl, rfl⟩, ((hK209.trans hK248).trans hK266), fun w hs => (Sep.front 4 rfl (Sep.front 3 rfl (Sep.front 3 rfl (Sep.front 1 rfl (Sep.front 2 rfl (Sep.dropAt 3 rfl (Sep.dropAt 2 rfl (Sep.dropAt 2 rfl hs))))))))⟩
noncomputable def fn_slices_Equal_api_Bound_api_Bound_l1 (xa : (List (Int × Int))) (xb : (List (Int × Int))) : Int → Option (Int ⊕ (Unit ⊕ Bool)) := fun (i413 : Int) => cond (decide (i413 < (((xa.length : Nat) : Int)))) ((getI xa i413).bind fun x476 => (getI xb i413).bind fun x485 => cond (!((decide (x476.1 = x485.1)) && ((decide (x476.2 = x485.2))))) (some (.inr ((.inr (false))))) (some (.inl (IntKind.wrap .i64 (i413 + 1))))) (some (.inr ((.inl ()))))
noncomputable def fn_slices_Equal_api_Bound_api_Bound (xa : (List (Int × Int))) (xb : (List (Int × Int))) : Option Bool :=
  cond (!decide ((((xa.length : Nat) : Int)) = (((xb.length : Nat) : Int)))) (some (false)) ((loop (fn_slices_Equal_api_Bound_api_Bound_l1 xa xb) 0 : Option (Unit ⊕ Bool)).bind fun o => match o with | .inr r => some r | .inl () => some (true))
set_option maxRecDepth 100000 in
set_option maxHeartbeats 4000000 in
theorem slices_Equal_api_Bound_api_Bound_ok {K : Hp} {xa : (List (Int × Int))} {xb : (List (Int × Int))} {adxa_0 : Option Addr} {cpxa_0 : Nat} {adxb_0 : Option Addr} {cpxb_0 : Nat} (fxa_0 : Is K (.sl (.cons (.int .i64) (.one (.int .i64)))) [.slice adxa_0 xa.length cpxa_0] xa) (fxb_0 : Is K (.sl (.cons (.int .i64) (.one (.int .i64)))) [.slice adxb_0 xb.length cpxb_0] xb) {r : Bool} (h : fn_slices_Equal_api_Bound_api_Bound xa xb = some r) :
    Tr Tryz.prog 41 #[.slice adxa_0 xa.length cpxa_0, .slice adxb_0 xb.length cpxb_0] K [] (fun v K' L' => (∃ (t249 : Bool), t249 = r ∧ .bool t249 = v ∧ L' = []) ∧ K = K') := by
 refine Tr.k <| Tr.of Tryz.func41 rfl Tryz.ntmps41 rfl fun E F => ?_
 unfold fn_slices_Equal_api_Bound_api_Bound at h
 refine CJ.seq <| CJ.region <| ja (.bool false) rfl <| J.nil <| CJ.seq <| CJ.seq <| CJ.region ?_
 refine jm (.slice adxa_0 xa.length cpxa_0) rfl <| jv (ii (((xa.length : Nat) : Int))) (V.len Tryz.underlying26 rfl) <| jm (.slice adxb_0 xb.length cpxb_0) rfl <| jv (ii (((xb.length : Nat) : Int))) (V.len Tryz.underlying26 rfl) <| jv (.bool (!decide ((((xa.length : Nat) : Int)) = (((xb.length : Nat) : Int))))) (V.neq rfl rfl) <| J.nil <| cc rfl h (fun hc250 h => ?_) fun hc250 h => ?_
 · refine CJ.seq <| CJ.region <| ja (.bool false) rfl <| J.nil <| CJ.ret ?_
   obtain rfl := si h
   exact ⟨_, _, Res.one rfl rfl, ⟨false, rfl, rfl, rfl⟩, (Hp.le_refl _), fun w hs => hs⟩
 refine CJ.skip <| CJ.seq <| CJ.seq <| CJ.region <| jm (.slice adxa_0 xa.length cpxa_0) rfl <| jv (ii (((xa.length : Nat) : Int))) (V.len Tryz.underlying26 rfl) <| jm (ii 0) rfl ?_
 refine J.nil ?_
 obtain ⟨o372, ho373, h⟩ := ob h
 refine CJ.joinN (o := o372) (fun s ρ K' L' => () = s ∧ Fits [] ρ ∧ K = K' ∧ F = L') ?_ ?_
 · refine CJ.block <| CJ.loop (fun s ρ K' L' => ∃ (i413 : Int), i413 = s ∧ Fits [(0, .slice adxa_0 xa.length cpxa_0), (1, .slice adxb_0 xb.length cpxb_0), (12, ii (((xa.length : Nat) : Int))), (13, ii i413)] ρ ∧ K = K' ∧ F = L') ho373 ⟨0, rfl, ⟨rfl, rfl, rfl, rfl, trivial⟩, rfl, rfl⟩ ?_
   rintro s ρ _ _ r456 ⟨i413, rfl, hf454, rfl, rfl⟩ h453
   obtain ⟨ρ, rfl⟩ := hf454.ex
   refine CJ.seq <| CJ.region <| jv (.bool (decide (i413 < (((xa.length : Nat) : Int))))) (V.lss rfl rfl) <| J.nil <| CJ.seq <| cc rfl h453 (fun hc457 h453 => ?_) fun hc457 h453 => ?_
   · refine CJ.skip <| CJ.seq <| CJ.block <| CJ.seq <| CJ.region <| jm (ii i413) rfl <| ja (ii i413) rfl ?_
     refine J.nil <| CJ.seq <| CJ.mix [] [] [0, 1, 2, 3, 4, 5, 6, 7, 8] [] mixO (by decide +kernel) trivial rfl rfl rfl <| JM.nil <| qm (.slice adxa_0 xa.length cpxa_0) rfl <| qm (ii i413) rfl ?_
     obtain ⟨x476, hx477, h453⟩ := ob h453
     obtain ⟨p478, p479, p480⟩ := getI_some hx477
     obtain ⟨b481, o482, e483, a484⟩ := (fxa_0).at p479
     refine qv _ (V.iad Tryz.underlying26 sz95 rfl e483 rfl p478 p480) <| qv (.agg #[ii x476.1, ii x476.2]) (V.ld rfl (Ld.aggK (cs := [ii x476.1, ii x476.2]) Tryz.underlying95 sz95 rfl ⟨((a484).fst).int, (((a484).snd).one).int, trivial⟩ (Hp.le_refl _))) <| qm (.slice adxb_0 xb.length cpxb_0) rfl <| qm (ii i413) rfl ?_
     obtain ⟨x485, hx486, h453⟩ := ob h453
     obtain ⟨p487, p488, p489⟩ := getI_some hx486
     obtain ⟨b490, o491, e492, a493⟩ := (fxb_0).at p488
     refine qv _ (V.iad Tryz.underlying26 sz95 rfl e492 rfl p487 p489) <| qv (.agg #[ii x485.1, ii x485.2]) (V.ld rfl (Ld.aggK (cs := [ii x485.1, ii x485.2]) Tryz.underlying95 sz95 rfl ⟨((a493).fst).int, (((a493).snd).one).int, trivial⟩ (Hp.le_refl _))) <| qv (.bool (!((decide (x476.1 = x485.1)) && ((decide (x476.2 = x485.2)))))) (V.nest eqg95 (EqIn.st (d := 9999) rfl Tryz.underlying95 sih95 (EqFs.cons (by decide) (Ld0.sc sc3 rfl) (Ld0.sc sc3 rfl) (EqIn.int (d := 9998) rfl Tryz.underlying3) (EqFs.last (by decide) (Ld0.sc sc3 rfl) (Ld0.sc sc3 rfl) (EqIn.int (d := 9998) rfl Tryz.underlying3)))) rfl rfl) <| JQ.nil <| J.nil <| cc rfl h453 (fun hc494 h453 => ?_) fun hc494 h453 => ?_
     · refine CJ.seq <| CJ.region <| ja (.bool false) rfl <| J.nil <| CJ.ret ?_
       obtain rfl := si h453
       refine ⟨nofun, fun e => ?_⟩
       subst e
       refine .inr ⟨nofun, ?_⟩
       obtain rfl := si h
       exact ⟨_, _, Res.one rfl rfl, ⟨false, rfl, rfl, rfl⟩, (Hp.le_refl _), fun w hs => hs⟩
     refine CJ.skip <| CJ.region <| jv (ii (IntKind.wrap .i64 (i413 + 1))) (V.add rfl rfl) <| jm (ii (IntKind.wrap .i64 (i413 + 1))) rfl <| J.nil ?_
     obtain rfl := si h453
     exact ⟨rfl, ⟨IntKind.wrap .i64 (i413 + 1), rfl, ⟨rfl, rfl, rfl, rfl, trivial⟩, rfl, rfl⟩⟩
   refine CJ.exit ?_
   obtain rfl := si h453
   refine ⟨nofun, fun e => ?_⟩
   subst e
   exact .inl ⟨rfl, _, rfl, ⟨rfl, trivial, rfl, rfl⟩⟩
 rintro s ρ _ _ ho495 ⟨rfl, hf496, rfl, rfl⟩
 subst ho495
 obtain ⟨ρ, rfl⟩ := hf496.ex
 refine PJ.done <| CJ.seq <| CJ.region <| ja (.bool true) rfl <| J.nil <| CJ.ret ?_
 obtain rfl := si h
 exact ⟨_, _, Res.one rfl rfl, ⟨true, rfl, rfl, rfl⟩, (Hp.le_refl _), fun w hs => hs⟩
noncomputable def fn_slices_Equal_api_Slot_api_Slot_l1 (xa : (List (Int × Bool))) (xb : (List (Int × Bool))) : Int → Option (Int ⊕ (Unit ⊕ Bool)) := fun (i413 : Int) => cond (decide (i413 < (((xa.length : Nat) : Int)))) ((getI xa i413).bind fun x476 => (getI xb i413).bind fun x485 => cond (!((decide (x476.1 = x485.1)) && (x476.2 == x485.2))) (some (.inr ((.inr (false))))) (some (.inl (IntKind.wrap .i64 (i413 + 1))))) (some (.inr ((.inl ()))))
noncomputable def fn_slices_Equal_api_Slot_api_Slot (xa : (List (Int × Bool))) (xb : (List (Int × Bool))) : Option Bool :=
  cond (!decide ((((xa.length : Nat) : Int)) = (((xb.length : Nat) : Int)))) (some (false)) ((loop (fn_slices_Equal_api_Slot_api_Slot_l1 xa xb) 0 : Option (Unit ⊕ Bool)).bind fun o => match o with | .inr r => some r | .inl () => some (true))
set_option maxRecDepth 100000 in
set_option maxHeartbeats 4000000 in
theorem slices_Equal_api_Slot_api_Slot_ok {K : Hp} {xa : (List (Int × Bool))} {xb : (List (Int × Bool))} {adxa_0 : Option Addr} {cpxa_0 : Nat} {adxb_0 : Option Addr} {cpxb_0 : Nat} (fxa_0 : Is K (.sl (.cons (.int .i64) (.one .bool))) [.slice adxa_0 xa.length cpxa_0] xa) (fxb_0 : Is K (.sl (.cons (.int .i64) (.one .bool))) [.slice adxb_0 xb.length cpxb_0] xb) {r : Bool} (h : fn_slices_Equal_api_Slot_api_Slot xa xb = some r) :
    Tr Tryz.prog 84 #[.slice adxa_0 xa.length cpxa_0, .slice adxb_0 xb.length cpxb_0] K [] (fun v K' L' => (∃ (t249 : Bool), t249 = r ∧ .bool t249 = v ∧ L' = []) ∧ K = K') := by
 refine Tr.k <| Tr.of Tryz.func84 rfl Tryz.ntmps84 rfl fun E F => ?_
 unfold fn_slices_Equal_api_Slot_api_Slot at h
 refine CJ.seq <| CJ.region <| ja (.bool false) rfl <| J.nil <| CJ.seq <| CJ.seq <| CJ.region ?_
 refine jm (.slice adxa_0 xa.length cpxa_0) rfl <| jv (ii (((xa.length : Nat) : Int))) (V.len Tryz.underlying28 rfl) <| jm (.slice adxb_0 xb.length cpxb_0) rfl <| jv (ii (((xb.length : Nat) : Int))) (V.len Tryz.underlying28 rfl) <| jv (.bool (!decide ((((xa.length : Nat) : Int)) = (((xb.length : Nat) : Int))))) (V.neq rfl rfl) <| J.nil <| cc rfl h (fun hc250 h => ?_) fun hc250 h => ?_
 · refine CJ.seq <| CJ.region <| ja (.bool false) rfl <| J.nil <| CJ.ret ?_
   obtain rfl := si h
   exact ⟨_, _, Res.one rfl rfl, ⟨false, rfl, rfl, rfl⟩, (Hp.le_refl _), fun w hs => hs⟩
 refine CJ.skip <| CJ.seq <| CJ.seq <| CJ.region <| jm (.slice adxa_0 xa.length cpxa_0) rfl <| jv (ii (((xa.length : Nat) : Int))) (V.len Tryz.underlying28 rfl) <| jm (ii 0) rfl ?_
 refine J.nil ?_
 obtain ⟨o372, ho373, h⟩ := ob h
 refine CJ.joinN (o := o372) (fun s ρ K' L' => () = s ∧ Fits [] ρ ∧ K = K' ∧ F = L') ?_ ?_
 · refine CJ.block <| CJ.loop (fun s ρ K' L' => ∃ (i413 : Int), i413 = s ∧ Fits [(0, .slice adxa_0 xa.length cpxa_0), (1, .slice adxb_0 xb.length cpxb_0), (12, ii (((xa.length : Nat) : Int))), (13, ii i413)] ρ ∧ K = K' ∧ F = L') ho373 ⟨0, rfl, ⟨rfl, rfl, rfl, rfl, trivial⟩, rfl, rfl⟩ ?_
   rintro s ρ _ _ r456 ⟨i413, rfl, hf454, rfl, rfl⟩ h453
   obtain ⟨ρ, rfl⟩ := hf454.ex
   refine CJ.seq <| CJ.region <| jv (.bool (decide (i413 < (((xa.length : Nat) : Int))))) (V.lss rfl rfl) <| J.nil <| CJ.seq <| cc rfl h453 (fun hc457 h453 => ?_) fun hc457 h453 => ?_
   · refine CJ.skip <| CJ.seq <| CJ.block <| CJ.seq <| CJ.region <| jm (ii i413) rfl <| ja (ii i413) rfl ?_
     refine J.nil <| CJ.seq <| CJ.mix [] [] [0, 1, 2, 3, 4, 5, 6, 7, 8] [] mixO (by decide +kernel) trivial rfl rfl rfl <| JM.nil <| qm (.slice adxa_0 xa.length cpxa_0) rfl <| qm (ii i413) rfl ?_
     obtain ⟨x476, hx477, h453⟩ := ob h453
     obtain ⟨p478, p479, p480⟩ := getI_some hx477
     obtain ⟨b481, o482, e483, a484⟩ := (fxa_0).at p479
     refine qv _ (V.iad Tryz.underlying28 sz146 rfl e483 rfl p478 p480) <| qv (.agg #[ii x476.1, .bool x476.2]) (V.ld rfl (Ld.aggK (cs := [ii x476.1, .bool x476.2]) Tryz.underlying146 sz146 rfl ⟨((a484).fst).int, (((a484).snd).one).bool, trivial⟩ (Hp.le_refl _))) <| qm (.slice adxb_0 xb.length cpxb_0) rfl <| qm (ii i413) rfl ?_
     obtain ⟨x485, hx486, h453⟩ := ob h453
     obtain ⟨p487, p488, p489⟩ := getI_some hx486
     obtain ⟨b490, o491, e492, a493⟩ := (fxb_0).at p488
     refine qv _ (V.iad Tryz.underlying28 sz146 rfl e492 rfl p487 p489) <| qv (.agg #[ii x485.1, .bool x485.2]) (V.ld rfl (Ld.aggK (cs := [ii x485.1, .bool x485.2]) Tryz.underlying146 sz146 rfl ⟨((a493).fst).int, (((a493).snd).one).bool, trivial⟩ (Hp.le_refl _))) <| qv (.bool (!((decide (x476.1 = x485.1)) && (x476.2 == x485.2)))) (V.nest eqg146 (EqIn.st (d := 9999) rfl Tryz.underlying146 sih146 (EqFs.cons (by decide) (Ld0.sc sc3 rfl) (Ld0.sc sc3 rfl) (EqIn.int (d := 9998) rfl Tryz.underlying3) (EqFs.last (by decide) (Ld0.sc sc4 rfl) (Ld0.sc sc4 rfl) (EqIn.bool (d := 9998) rfl Tryz.underlying4)))) rfl rfl) <| JQ.nil <| J.nil <| cc rfl h453 (fun hc494 h453 => ?_) fun hc494 h453 => ?_
     · refine CJ.seq <| CJ.region <| ja (.bool false) rfl <| J.nil <| CJ.ret ?_
       obtain rfl := si h453
       refine ⟨nofun, fun e => ?_⟩
       subst e
       refine .inr ⟨nofun, ?_⟩
       obtain rfl := si h
       exact ⟨_, _, Res.one rfl rfl, ⟨false, rfl, rfl, rfl⟩, (Hp.le_refl _), fun w hs => hs⟩
     refine CJ.skip <| CJ.region <| jv (ii (IntKind.wrap .i64 (i413 + 1))) (V.add rfl rfl) <| jm (ii (IntKind.wrap .i64 (i413 + 1))) rfl <| J.nil ?_
     obtain rfl := si h453
     exact ⟨rfl, ⟨IntKind.wrap .i64 (i413 + 1), rfl, ⟨rfl, rfl, rfl, rfl, trivial⟩, rfl, rfl⟩⟩
   refine CJ.exit ?_
   obtain rfl := si h453
   refine ⟨nofun, fun e => ?_⟩
   subst e
   exact .inl ⟨rfl, _, rfl, ⟨rfl, trivial, rfl, rfl⟩⟩
 rintro s ρ _ _ ho495 ⟨rfl, hf496, rfl, rfl⟩
 subst ho495
 obtain ⟨ρ, rfl⟩ := hf496.ex
 refine PJ.done <| CJ.seq <| CJ.region <| ja (.bool true) rfl <| J.nil <| CJ.ret ?_
 obtain rfl := si h
 exact ⟨_, _, Res.one rfl rfl, ⟨true, rfl, rfl, rfl⟩, (Hp.le_refl _), fun w hs => hs⟩

noncomputable def fn_row_Same (xa : (List (Int × Bool))) (xb : (List (Int × Bool))) : Option Bool :=
  (fn_slices_Equal_api_Slot_api_Slot xa xb).bind fun t14 => some (t14)
set_option maxRecDepth 100000 in
set_option maxHeartbeats 4000000 in
theorem row_Same_ok {K : Hp} {xa : (List (Int × Bool))} {xb : (List (Int × Bool))} {adxa_0 : Option Addr} {cpxa_0 : Nat} {adxb_0 : Option Addr} {cpxb_0 : Nat} (fxa_0 : Is K (.sl (.cons (.int .i64) (.one .bool))) [.slice adxa_0 xa.length cpxa_0] xa) (fxb_0 : Is K (.sl (.cons (.int .i64) (.one .bool))) [.slice adxb_0 xb.length cpxb_0] xb) {r : Bool} (h : fn_row_Same xa xb = some r) :
    Tr Tryz.prog 43 #[.agg #[.slice adxa_0 xa.length cpxa_0], .agg #[.slice adxb_0 xb.length cpxb_0]] K [] (fun v K' L' => (∃ (t9 : Bool), t9 = r ∧ .bool t9 = v ∧ L' = []) ∧ K = K') := by
 refine Tr.k <| Tr.of Tryz.func43 rfl Tryz.ntmps43 rfl fun E F => ?_
 unfold fn_row_Same at h
 refine CJ.seq <| CJ.region <| jbx [.slice adxa_0 xa.length cpxa_0] rfl rfl fun b10 => jbx [.slice adxb_0 xb.length cpxb_0] rfl rfl fun b11 => ja (.bool false) rfl <| J.nil <| CJ.seq ?_
 refine CJ.region <| jv _ (V.fad Tryz.underlying30 rfl nz28 rfl) <| jv (.slice adxa_0 xa.length cpxa_0) (V.ld rfl (Ld.sc sc28 (Rd.cl 1 rfl rfl))) <| jv _ (V.fad Tryz.underlying30 rfl nz28 rfl) <| jv (.slice adxb_0 xb.length cpxb_0) (V.ld rfl (Ld.sc sc28 (Rd.cl 0 rfl rfl))) ?_
 obtain ⟨r12, hr13, h⟩ := ob h
 refine J.op rfl (A.call (L1 := []) Tryz.call84 rfl (slices_Equal_api_Slot_api_Slot_ok fxa_0 fxb_0 hr13) rfl rfl) ?_
 rintro _ _ _ ⟨v15, _, rfl, ⟨⟨t14, rfl, rfl, rfl⟩, rfl⟩, _, rfl⟩
 refine ja (.bool t14) rfl <| J.nil <| CJ.ret ?_
 obtain rfl := si h
 exact ⟨_, _, Res.one rfl rfl, ⟨t14, rfl, rfl, rfl⟩, (Hp.le_refl _), fun w hs => (Sep.dropAt 0 rfl (Sep.dropAt 0 rfl hs))⟩
noncomputable def fn_slices_EqualFunc_api_Type_api_Type_api_Type_api_Type_kk_row_Same_l1 (xa : (List (List (Int × Bool)))) (xb : (List (List (Int × Bool)))) : Int → Option (Int ⊕ (Unit ⊕ Bool)) := fun (i393 : Int) => cond (decide (i393 < (((xa.length : Nat) : Int)))) ((getI xa i393).bind fun x436 => (getI xb i393).bind fun x450 => (fn_row_Same x436 x450).bind fun t466 => cond (!t466) (some (.inr ((.inr (false))))) (some (.inl (IntKind.wrap .i64 (i393 + 1))))) (some (.inr ((.inl ()))))
noncomputable def fn_slices_EqualFunc_api_Type_api_Type_api_Type_api_Type_kk_row_Same (xa : (List (List (Int × Bool)))) (xb : (List (List (Int × Bool)))) : Option Bool :=
  cond (!decide ((((xa.length : Nat) : Int)) = (((xb.length : Nat) : Int)))) (some (false)) ((loop (fn_slices_EqualFunc_api_Type_api_Type_api_Type_api_Type_kk_row_Same_l1 xa xb) 0 : Option (Unit ⊕ Bool)).bind fun o => match o with | .inr r => some r | .inl () => some (true))
set_option maxRecDepth 100000 in
set_option maxHeartbeats 4000000 in
theorem slices_EqualFunc_api_Type_api_Type_api_Type_api_Type_kk_row_Same_ok {K : Hp} {xa : (List (List (Int × Bool)))} {xb : (List (List (Int × Bool)))} {adxa_0 : Option Addr} {cpxa_0 : Nat} {adxb_0 : Option Addr} {cpxb_0 : Nat} (fxa_0 : Is K (.sl (.one (.sl (.cons (.int .i64) (.one .bool))))) [.slice adxa_0 xa.length cpxa_0] xa) (fxb_0 : Is K (.sl (.one (.sl (.cons (.int .i64) (.one .bool))))) [.slice adxb_0 xb.length cpxb_0] xb) {r : Bool} (h : fn_slices_EqualFunc_api_Type_api_Type_api_Type_api_Type_kk_row_Same xa xb = some r) :
    Tr Tryz.prog 42 #[.slice adxa_0 xa.length cpxa_0, .slice adxb_0 xb.length cpxb_0, .func (.func 43) #[] #[]] K [] (fun v K' L' => (∃ (t237 : Bool), t237 = r ∧ .bool t237 = v ∧ L' = []) ∧ K = K') := by
 refine Tr.k <| Tr.of Tryz.func42 rfl Tryz.ntmps42 rfl fun E F => ?_
 unfold fn_slices_EqualFunc_api_Type_api_Type_api_Type_api_Type_kk_row_Same at h
 refine CJ.seq <| CJ.region <| ja (.bool false) rfl <| J.nil <| CJ.seq <| CJ.seq <| CJ.region ?_
 refine jm (.slice adxa_0 xa.length cpxa_0) rfl <| jv (ii (((xa.length : Nat) : Int))) (V.len Tryz.underlying27 rfl) <| jm (.slice adxb_0 xb.length cpxb_0) rfl <| jv (ii (((xb.length : Nat) : Int))) (V.len Tryz.underlying27 rfl) <| jv (.bool (!decide ((((xa.length : Nat) : Int)) = (((xb.length : Nat) : Int))))) (V.neq rfl rfl) <| J.nil <| cc rfl h (fun hc238 h => ?_) fun hc238 h => ?_
 · refine CJ.seq <| CJ.region <| ja (.bool false) rfl <| J.nil <| CJ.ret ?_
   obtain rfl := si h
   exact ⟨_, _, Res.one rfl rfl, ⟨false, rfl, rfl, rfl⟩, (Hp.le_refl _), fun w hs => hs⟩
 refine CJ.skip <| CJ.seq <| CJ.seq <| CJ.region <| jm (.slice adxa_0 xa.length cpxa_0) rfl <| jv (ii (((xa.length : Nat) : Int))) (V.len Tryz.underlying27 rfl) <| jm (ii 0) rfl ?_
 refine J.nil ?_
 obtain ⟨o354, ho355, h⟩ := ob h
 refine CJ.joinN (o := o354) (fun s ρ K' L' => () = s ∧ Fits [] ρ ∧ K = K' ∧ F = L') ?_ ?_
 · refine CJ.block <| CJ.loop (fun s ρ K' L' => ∃ (i393 : Int), i393 = s ∧ Fits [(1, .slice adxb_0 xb.length cpxb_0), (2, .func (.func 43) #[] #[]), (15, .slice adxa_0 xa.length cpxa_0), (16, ii (((xa.length : Nat) : Int))), (17, ii i393)] ρ ∧ K = K' ∧ F = L') ho355 ⟨0, rfl, ⟨rfl, rfl, rfl, rfl, rfl, trivial⟩, rfl, rfl⟩ ?_
   rintro s ρ _ _ r434 ⟨i393, rfl, hf432, rfl, rfl⟩ h431
   obtain ⟨ρ, rfl⟩ := hf432.ex
   refine CJ.seq <| CJ.region <| jv (.bool (decide (i393 < (((xa.length : Nat) : Int))))) (V.lss rfl rfl) <| J.nil <| CJ.seq <| cc rfl h431 (fun hc435 h431 => ?_) fun hc435 h431 => ?_
   · refine CJ.skip <| CJ.seq <| CJ.block <| CJ.seq <| CJ.region <| jm (ii i393) rfl ?_
     obtain ⟨x436, hx437, h431⟩ := ob h431
     obtain ⟨p438, p439, p440⟩ := getI_some hx437
     obtain ⟨b441, o442, e443, a444⟩ := (fxa_0).at p439
     refine jv _ (V.iad Tryz.underlying27 sz30 rfl e443 rfl p438 p440) ?_
     obtain ⟨ad445, cp446, c447, f448⟩ := ((a444).one).sl
     refine jv (.agg #[.slice ad445 x436.length cp446]) (V.ld rfl (Ld.aggK (cs := [.slice ad445 x436.length cp446]) Tryz.underlying30 sz30 rfl ⟨c447, trivial⟩ (Hp.le_refl _))) <| jal inf30 [.slice none 0 0] rfl fun b449 => ja (ii i393) rfl <| js [.slice ad445 x436.length cp446] sz30 rfl rfl rfl rfl rfl rfl <| J.nil <| CJ.seq <| CJ.region ?_
     refine jm (.slice adxb_0 xb.length cpxb_0) rfl <| jm (ii i393) rfl ?_
     obtain ⟨x450, hx451, h431⟩ := ob h431
     obtain ⟨p452, p453, p454⟩ := getI_some hx451
     obtain ⟨b455, o456, e457, a458⟩ := (fxb_0).at p453
     refine jv _ (V.iad Tryz.underlying27 sz30 rfl e457 rfl p452 p454) ?_
     obtain ⟨ad459, cp460, c461, f462⟩ := ((a458).one).sl
     refine jv (.agg #[.slice ad459 x450.length cp460]) (V.ld rfl (Ld.aggK (cs := [.slice ad459 x450.length cp460]) Tryz.underlying30 sz30 rfl ⟨c461, trivial⟩ (Hp.le_refl _))) <| jal inf30 [.slice none 0 0] rfl fun b463 => js [.slice ad459 x450.length cp460] sz30 rfl rfl rfl rfl rfl rfl <| J.nil <| CJ.seq <| CJ.region <| jm (.func (.func 43) #[] #[]) rfl ?_
     refine jv (.agg #[.slice ad445 x436.length cp446]) (V.ld rfl (Ld.agg (cs := [.slice ad445 x436.length cp446]) Tryz.underlying30 sz30 rfl (Rd.cls 1 0 rfl rfl))) <| jv (.agg #[.slice ad459 x450.length cp460]) (V.ld rfl (Ld.agg (cs := [.slice ad459 x450.length cp460]) Tryz.underlying30 sz30 rfl (Rd.cls 0 0 rfl rfl))) ?_
     obtain ⟨r464, hr465, h431⟩ := ob h431
     refine J.op rfl (A.call (L1 := []) Tryz.call43 rfl (row_Same_ok f448 f462 hr465) rfl rfl) ?_
     rintro _ _ _ ⟨v467, _, rfl, ⟨⟨t466, rfl, rfl, rfl⟩, rfl⟩, _, rfl⟩
     refine jv (.bool (!t466)) (V.not rfl) <| J.nil <| cc rfl h431 (fun hc470 h431 => ?_) fun hc470 h431 => ?_
     · refine CJ.seq <| CJ.region <| ja (.bool false) rfl <| J.nil <| CJ.ret ?_
       obtain rfl := si h431
       refine ⟨nofun, fun e => ?_⟩
       subst e
       refine .inr ⟨nofun, ?_⟩
       obtain rfl := si h
       exact ⟨_, _, Res.one rfl rfl, ⟨false, rfl, rfl, rfl⟩, (Hp.le_refl _), fun w hs => (Sep.dropAt 0 rfl (Sep.dropAt 0 rfl hs))⟩
     refine CJ.skip <| CJ.region <| jv (ii (IntKind.wrap .i64 (i393 + 1))) (V.add rfl rfl) <| jm (ii (IntKind.wrap .i64 (i393 + 1))) rfl <| J.dropAt 0 rfl <| J.dropAt 0 rfl <| J.nil ?_
     obtain rfl := si h431
     exact ⟨rfl, ⟨IntKind.wrap .i64 (i393 + 1), rfl, ⟨rfl, rfl, rfl, rfl, rfl, trivial⟩, rfl, rfl⟩⟩
   refine CJ.exit ?_
   obtain rfl := si h431
   refine ⟨nofun, fun e => ?_⟩
   subst e
   exact .inl ⟨rfl, _, rfl, ⟨rfl, trivial, rfl, rfl⟩⟩
 rintro s ρ _ _ ho471 ⟨rfl, hf472, rfl, rfl⟩
 subst ho471
 obtain ⟨ρ, rfl⟩ := hf472.ex
 refine PJ.done <| CJ.seq <| CJ.region <| ja (.bool true) rfl <| J.nil <| CJ.ret ?_
 obtain rfl := si h
 exact ⟨_, _, Res.one rfl rfl, ⟨true, rfl, rfl, rfl⟩, (Hp.le_refl _), fun w hs => hs⟩

noncomputable def fn_body_sameSig (xa : (Int × (List (Int × Int)) × (List (List (Int × Bool))) × (List (Int × Bool)))) (xb : (Int × (List (Int × Int)) × (List (List (Int × Bool))) × (List (Int × Bool)))) : Option Bool :=
  (cond (decide (xa.1 = xb.1)) ((fn_slices_Equal_api_Bound_api_Bound xa.2.1 xb.2.1).bind fun t66 => some (t66)) (some (false))).bind fun t61 => (cond (t61) ((fn_slices_EqualFunc_api_Type_api_Type_api_Type_api_Type_kk_row_Same xa.2.2.1 xb.2.2.1).bind fun t82 => some (t82)) (some (false))).bind fun t77 => (cond (t77) ((fn_row_Same xa.2.2.2 xb.2.2.2).bind fun t98 => some (t98)) (some (false))).bind fun t93 => some (t93)
set_option maxRecDepth 100000 in
set_option maxHeartbeats 4000000 in
theorem body_sameSig_ok {K : Hp} {xa : (Int × (List (Int × Int)) × (List (List (Int × Bool))) × (List (Int × Bool)))} {xb : (Int × (List (Int × Int)) × (List (List (Int × Bool))) × (List (Int × Bool)))} {adxa_1 : Option Addr} {cpxa_1 : Nat} {adxa_2 : Option Addr} {cpxa_2 : Nat} {adxa_3 : Option Addr} {cpxa_3 : Nat} {adxb_1 : Option Addr} {cpxb_1 : Nat} {adxb_2 : Option Addr} {cpxb_2 : Nat} {adxb_3 : Option Addr} {cpxb_3 : Nat} (fxa_1 : Is K (.sl (.cons (.int .i64) (.one (.int .i64)))) [.slice adxa_1 xa.2.1.length cpxa_1] xa.2.1) (fxa_2 : Is K (.sl (.one (.sl (.cons (.int .i64) (.one .bool))))) [.slice adxa_2 xa.2.2.1.length cpxa_2] xa.2.2.1) (fxa_3 : Is K (.sl (.cons (.int .i64) (.one .bool))) [.slice adxa_3 xa.2.2.2.length cpxa_3] xa.2.2.2) (fxb_1 : Is K (.sl (.cons (.int .i64) (.one (.int .i64)))) [.slice adxb_1 xb.2.1.length cpxb_1] xb.2.1) (fxb_2 : Is K (.sl (.one (.sl (.cons (.int .i64) (.one .bool))))) [.slice adxb_2 xb.2.2.1.length cpxb_2] xb.2.2.1) (fxb_3 : Is K (.sl (.cons (.int .i64) (.one .bool))) [.slice adxb_3 xb.2.2.2.length cpxb_3] xb.2.2.2) {r : Bool} (h : fn_body_sameSig xa xb = some r) :
    Tr Tryz.prog 45 #[.agg #[ii xa.1, .slice adxa_1 xa.2.1.length cpxa_1, .slice adxa_2 xa.2.2.1.length cpxa_2, .slice adxa_3 xa.2.2.2.length cpxa_3], .agg #[ii xb.1, .slice adxb_1 xb.2.1.length cpxb_1, .slice adxb_2 xb.2.2.1.length cpxb_2, .slice adxb_3 xb.2.2.2.length cpxb_3]] K [] (fun v K' L' => (∃ (t51 : Bool), t51 = r ∧ .bool t51 = v ∧ L' = []) ∧ K = K') := by
 refine Tr.k <| Tr.of Tryz.func45 rfl Tryz.ntmps45 rfl fun E F => ?_
 unfold fn_body_sameSig at h
 refine CJ.seq <| CJ.region <| jbx [ii xa.1, .slice adxa_1 xa.2.1.length cpxa_1, .slice adxa_2 xa.2.2.1.length cpxa_2, .slice adxa_3 xa.2.2.2.length cpxa_3] rfl rfl fun b52 => jbx [ii xb.1, .slice adxb_1 xb.2.1.length cpxb_1, .slice adxb_2 xb.2.2.1.length cpxb_2, .slice adxb_3 xb.2.2.2.length cpxb_3] rfl rfl fun b53 => ja (.bool false) rfl <| J.nil <| CJ.seq ?_
 refine CJ.region <| jv _ (V.fad Tryz.underlying63 rfl nz3 rfl) <| jv (ii xa.1) (V.ld rfl (Ld.sc sc3 (Rd.cl 1 rfl rfl))) <| jv _ (V.fad Tryz.underlying63 rfl nz3 rfl) <| jv (ii xb.1) (V.ld rfl (Ld.sc sc3 (Rd.cl 0 rfl rfl))) <| jv (.bool (decide (xa.1 = xb.1))) (V.eql rfl rfl) <| jm (.bool (decide (xa.1 = xb.1))) rfl ?_
 refine J.cut 6 ?_
 obtain ⟨t61, ht62, h⟩ := ob h
 refine jmeet [(16, .bool t61), (2, .pointer (some ⟨b52, 0, none⟩)), (3, .pointer (some ⟨b53, 0, none⟩))] ?_ ?_
 · rcases bt (decide (xa.1 = xb.1)) with hc63 | hc63
   · have ht62 := ct hc63 ht62
     refine J.run rfl rfl rfl hc63 <| jv _ (V.fad Tryz.underlying63 rfl nz26 rfl) <| J.run rfl rfl rfl hc63 <| jv (.slice adxa_1 xa.2.1.length cpxa_1) (V.ld rfl (Ld.sc sc26 (Rd.cl 1 rfl rfl))) <| J.run rfl rfl rfl hc63 <| jv _ (V.fad Tryz.underlying63 rfl nz26 rfl) <| J.run rfl rfl rfl hc63 ?_
     refine jv (.slice adxb_1 xb.2.1.length cpxb_1) (V.ld rfl (Ld.sc sc26 (Rd.cl 0 rfl rfl))) <| J.run rfl rfl rfl hc63 ?_
     obtain ⟨r64, hr65, ht62⟩ := ob ht62
     refine J.op rfl (A.call (L1 := []) Tryz.call41 rfl (slices_Equal_api_Bound_api_Bound_ok fxa_1 fxb_1 hr65) rfl rfl) ?_
     rintro _ _ _ ⟨v67, _, rfl, ⟨⟨t66, rfl, rfl, rfl⟩, rfl⟩, _, rfl⟩
     refine jv (.bool t66) (V.pickT rfl hc63 rfl) <| J.nil ?_
     obtain rfl := si ht62
     exact ⟨rfl, ⟨rfl, rfl, rfl, trivial⟩, rfl, rfl⟩
   have ht62 := cf hc63 ht62
   refine J.skip rfl rfl rfl rfl hc63 <| J.skip rfl rfl rfl rfl hc63 <| J.skip rfl rfl rfl rfl hc63 <| J.skip rfl rfl rfl rfl hc63 <| J.skip rfl rfl rfl rfl hc63 <| jv (.bool false) (V.pickF rfl hc63 rfl) <| J.nil ?_
   obtain rfl := si ht62
   exact ⟨rfl, ⟨rfl, rfl, rfl, trivial⟩, rfl, rfl⟩
 intro ρ
 refine jm (.bool t61) rfl <| J.cut 6 ?_
 obtain ⟨t77, ht78, h⟩ := ob h
 refine jmeet [(23, .bool t77), (2, .pointer (some ⟨b52, 0, none⟩)), (3, .pointer (some ⟨b53, 0, none⟩))] ?_ ?_
 · rcases bt (t61) with hc79 | hc79
   · have ht78 := ct hc79 ht78
     refine J.run rfl rfl rfl hc79 <| jv _ (V.fad Tryz.underlying63 rfl nz27 rfl) <| J.run rfl rfl rfl hc79 <| jv (.slice adxa_2 xa.2.2.1.length cpxa_2) (V.ld rfl (Ld.sc sc27 (Rd.cl 1 rfl rfl))) <| J.run rfl rfl rfl hc79 <| jv _ (V.fad Tryz.underlying63 rfl nz27 rfl) <| J.run rfl rfl rfl hc79 ?_
     refine jv (.slice adxb_2 xb.2.2.1.length cpxb_2) (V.ld rfl (Ld.sc sc27 (Rd.cl 0 rfl rfl))) <| J.run rfl rfl rfl hc79 ?_
     obtain ⟨r80, hr81, ht78⟩ := ob ht78
     refine J.op rfl (A.call (L1 := []) Tryz.call42 rfl (slices_EqualFunc_api_Type_api_Type_api_Type_api_Type_kk_row_Same_ok fxa_2 fxb_2 hr81) rfl rfl) ?_
     rintro _ _ _ ⟨v83, _, rfl, ⟨⟨t82, rfl, rfl, rfl⟩, rfl⟩, _, rfl⟩
     refine jv (.bool t82) (V.pickT rfl hc79 rfl) <| J.nil ?_
     obtain rfl := si ht78
     exact ⟨rfl, ⟨rfl, rfl, rfl, trivial⟩, rfl, rfl⟩
   have ht78 := cf hc79 ht78
   refine J.skip rfl rfl rfl rfl hc79 <| J.skip rfl rfl rfl rfl hc79 <| J.skip rfl rfl rfl rfl hc79 <| J.skip rfl rfl rfl rfl hc79 <| J.skip rfl rfl rfl rfl hc79 <| jv (.bool false) (V.pickF rfl hc79 rfl) <| J.nil ?_
   obtain rfl := si ht78
   exact ⟨rfl, ⟨rfl, rfl, rfl, trivial⟩, rfl, rfl⟩
 intro ρ
 refine jm (.bool t77) rfl <| J.cut 6 ?_
 obtain ⟨t93, ht94, h⟩ := ob h
 refine jmeet [(30, .bool t93)] ?_ ?_
 · rcases bt (t77) with hc95 | hc95
   · have ht94 := ct hc95 ht94
     refine J.run rfl rfl rfl hc95 <| jv _ (V.fad Tryz.underlying63 rfl nz30 rfl) <| J.run rfl rfl rfl hc95 <| jv (.agg #[.slice adxa_3 xa.2.2.2.length cpxa_3]) (V.ld rfl (Ld.agg (cs := [.slice adxa_3 xa.2.2.2.length cpxa_3]) Tryz.underlying30 sz30 rfl (Rd.cls 1 3 rfl rfl))) <| J.run rfl rfl rfl hc95 <| jv _ (V.fad Tryz.underlying63 rfl nz30 rfl) <| J.run rfl rfl rfl hc95 ?_
     refine jv (.agg #[.slice adxb_3 xb.2.2.2.length cpxb_3]) (V.ld rfl (Ld.agg (cs := [.slice adxb_3 xb.2.2.2.length cpxb_3]) Tryz.underlying30 sz30 rfl (Rd.cls 0 3 rfl rfl))) <| J.run rfl rfl rfl hc95 ?_
     obtain ⟨r96, hr97, ht94⟩ := ob ht94
     refine J.op rfl (A.call (L1 := []) Tryz.call43 rfl (row_Same_ok fxa_3 fxb_3 hr97) rfl rfl) ?_
     rintro _ _ _ ⟨v99, _, rfl, ⟨⟨t98, rfl, rfl, rfl⟩, rfl⟩, _, rfl⟩
     refine jv (.bool t98) (V.pickT rfl hc95 rfl) <| J.nil ?_
     obtain rfl := si ht94
     exact ⟨rfl, ⟨rfl, trivial⟩, rfl, rfl⟩
   have ht94 := cf hc95 ht94
   refine J.skip rfl rfl rfl rfl hc95 <| J.skip rfl rfl rfl rfl hc95 <| J.skip rfl rfl rfl rfl hc95 <| J.skip rfl rfl rfl rfl hc95 <| J.skip rfl rfl rfl rfl hc95 <| jv (.bool false) (V.pickF rfl hc95 rfl) <| J.nil ?_
   obtain rfl := si ht94
   exact ⟨rfl, ⟨rfl, trivial⟩, rfl, rfl⟩
 intro ρ
 refine ja (.bool t93) rfl <| J.nil <| CJ.ret ?_
 obtain rfl := si h
 exact ⟨_, _, Res.one rfl rfl, ⟨t93, rfl, rfl, rfl⟩, (Hp.le_refl _), fun w hs => (Sep.dropAt 0 rfl (Sep.dropAt 0 rfl hs))⟩
end Go.Proofs.YtmdmdmaekjpfjaaGreat
